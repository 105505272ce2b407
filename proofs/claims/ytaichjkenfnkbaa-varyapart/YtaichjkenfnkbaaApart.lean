/- Texts, put one behind the other, are told from each other list of as many by their bytes: whatever comes in, the call VaryApart returns true and writes nothing that was there. -/
import Derived.Test.YtaichjkenfnkbaaTexts
namespace Go.Proofs.Ytaichjkenfnkbaa
open Go.RowKit Go.By
set_option linter.unusedVariables false
attribute [local go_sem ↓] Go.wp_at_zero Go.wp_at_succ

theorem cames_ats {B : Nat} {w : World} {a : Option Addr} {l : List (List Nat)} (h : CameS B w a l) {i : Nat} (hi : i < l.length) : ∃ b off, a = some ⟨b, off, none⟩ ∧ ∀ w', Below B w w' → w'.cell? ⟨b, off + i, none⟩ = some (.string (str (l.getD i []))) := by
  rcases h.2 with rfl | ⟨b, off, e, hlt, hc⟩
  · simp at hi
  · exact ⟨b, off, e, fun w' hb => (hb.cell (p := ⟨b, off + i, none⟩) hlt).trans (hc i hi)⟩

theorem ne_told {x y : ByteArray} (h : ¬ x = y) : (x.toList == y.toList) = false := by
  rw [ByteArray.toList_eq, ByteArray.toList_eq]
  have : ¬ x.data.toList = y.data.toList := fun e => h (ByteArray.ext (Array.toList_inj.1 e))
  simpa using this

theorem min_two (a b : Nat) : ∃ k : Nat, (if (b : Int) < (a : Int) then (b : Int) else (a : Int)) = (k : Int) ∧ k ≤ a ∧ k ≤ b ∧ (k = a ∨ k = b) := by
  by_cases h : (b : Int) < (a : Int)
  · exact ⟨b, by simp [h], by omega, by omega, by omega⟩
  · exact ⟨a, by simp [h], by omega, by omega, by omega⟩

set_option maxHeartbeats 1000000 in
set_option maxRecDepth 20000 in
theorem apart_walk (a : Option Addr) (ss : List (List Nat)) (cap : Nat) (b : Option Addr) (tt : List (List Nat)) (cap2 : Nat) (w : World) (hS : CameS w.heap.size w a ss) (hT : CameS w.heap.size w b tt) (hsm0 : ss.length ≤ maxLen) (htm0 : tt.length ≤ maxLen) :
    Calls Try.prog 7 #[.slice a ss.length cap, .slice b tt.length cap2] w fun e w' => e = .returned (.bool true) ∧ Below w.heap.size w w' := by
  have HS := hide hS
  have HT := hide hT
  have hsm : ss.length ≤ 9223372036854775807 := hsm0
  have htm : tt.length ≤ 9223372036854775807 := htm0
  clear hS hT hsm0 htm0
  go_enter Try.func7, Try.ntmps7
  go_wp2_with fail
  refine (texts_any a ss cap w HS.out hsm).mono ?_
  rintro e w1 ⟨A, ok1, rfl, hb1, ho1⟩
  have HB1 := hide hb1
  have HO1 := hide ho1
  clear hb1 ho1
  go_wp2_with fail
  refine (texts_any b tt cap2 w1 ?_ htm).mono ?_
  · have h := HT.out.below HB1.out
    exact ⟨h.1, h.2.elim .inl fun ⟨b, off, e, hlt, hc⟩ => .inr ⟨b, off, e, Nat.lt_of_lt_of_le hlt HB1.out.size, hc⟩⟩
  rintro e w2 ⟨C, ok2, rfl, hb2, ho2⟩
  have HB2 : Hid (Below w.heap.size w w2) := HB1.out.trans (hb2.mono HB1.out.size)
  have HO2 := hide ho2
  clear hb2 ho2 HB1
  cases ok1 with
  | false =>
    go_wp2_with (go_at_call 9; refine (lives_any _).mono ?_; rintro e w' ⟨rfl, hlv⟩)
    go_ret
    exact ⟨rfl, HB2.out.trans (hlv.mono HB2.out.size)⟩
  | true =>
  cases ok2 with
  | false =>
    go_wp2_with (go_at_call 9; refine (lives_any _).mono ?_; rintro e w' ⟨rfl, hlv⟩)
    go_ret
    exact ⟨rfl, HB2.out.trans (hlv.mono HB2.out.size)⟩
  | true =>
  by_cases hlen : ss.length = tt.length
  · obtain ⟨h1, hs200, hs100⟩ := HO1.out rfl
    obtain ⟨h2, ht200, ht100⟩ := HO2.out rfl
    have HA : Hid (A = Vary.all ss) := h1
    have HC : Hid (C = Vary.all tt) := h2
    have HS2 := hide hs200
    have HT2 := hide ht200
    have hszA := str_size A
    have hszC := str_size C
    have hAl : A.length ≤ 1000000000000000000 := by
      have := Vary.all_length HS2.out
      rw [HA.out]; omega
    have hCl : C.length ≤ 1000000000000000000 := by
      have := Vary.all_length HT2.out
      rw [HC.out]; omega
    clear HO1 HO2 h1 h2 hs200 ht200
    have HLEN := hide hlen
    have q0 : ((ss.length : Int) == (tt.length : Int)) = true := by simp [hlen]
    have q0' : ((ss.length : Int) != (tt.length : Int)) = false := by simp [hlen]
    generalize hn : tt.length = n at *
    clear hlen
    have HN := hide hn
    clear hn
    have hnn := HLEN.out
    generalize hn2 : ss.length = n2 at *
    subst hnn
    have HN2 := hide hn2
    clear hn2 HLEN
    go_wp2_with fail
    go_loopw [9, 38] (fun x y wr => ∃ (i : Nat) (same : Bool), i ≤ n2 ∧ x = .bool same ∧ y = .int .i64 i ∧ Below w.heap.size w wr ∧ Hid (same = true ↔ ss.take i = tt.take i)) (fun _ y _ => n2 - (intOf y).toNat)
    case atStart => exact ⟨0, true, by omega, rfl, rfl, HB2.out, by simp [Hid]⟩
    case round =>
      clear HB2
      obtain ⟨i, same, hi, rfl, rfl, hbel, HSA⟩ := hrel
      have HB := hide hbel
      clear hbel
      by_cases hlt : i < n2
      · obtain ⟨sb, soff, rfl, hcs⟩ := cames_ats HS.out (show i < ss.length by rw [HN2.out]; exact hlt)
        obtain ⟨tb, toff, rfl, hct⟩ := cames_ats HT.out (show i < tt.length by rw [HN.out]; exact hlt)
        have HCS := hide hcs
        have HCT := hide hct
        have HS1 := hide (takeS_snoc ss i (by rw [HN2.out]; exact hlt))
        have HT1 := hide (takeS_snoc tt i (by rw [HN.out]; exact hlt))
        have HX : Hid (∀ c ∈ ss.getD i [], c < 256) := HS.out.1 _ (getD_memS (by rw [HN2.out]; exact hlt))
        have HY : Hid (∀ c ∈ tt.getD i [], c < 256) := HT.out.1 _ (getD_memS (by rw [HN.out]; exact hlt))
        clear hcs hct
        generalize ss.getD i [] = x at *
        generalize tt.getD i [] = y at *
        have HTK : Hid (ss.take (i + 1) = tt.take (i + 1) ↔ ss.take i = tt.take i ∧ x = y) := by
          show _ ↔ _
          rw [HS1.out, HT1.out]
          constructor
          · intro h
            have hl : (ss.take i).length = (tt.take i).length := by simp [HN.out, HN2.out]
            have := List.append_inj h hl
            exact ⟨this.1, by simpa using this.2⟩
          · rintro ⟨h1, h2⟩; rw [h1, h2]
        cases same with
        | false =>
          go_wp2_with fail
          refine going_start (by kernel_rfl) ?_
          replace HB : Hid (Below w.heap.size w wr.drew) := HB.out.drew
          generalize wr.drew = wd at *
          refine going_take (i := 0) (oi := { dst := some 41, op := Op.move (Operand.tmp 9), type := 4, pos := _, after := _, guard := none }) (v := _) rfl (by kernel_rfl) (by kernel_rfl) (by kernel_rfl) (fun _ _ _ h => h) (by rfl) (by intro w' hSw; go_simp; try with_reducible rfl) ?_
          simp only [Act.put, List.setIfInBounds_toArray, List.set_cons_zero, List.set_cons_succ]
          refine going_take (i := 1) (oi := { dst := some 42, op := Op.move (Operand.tmp 41), type := 4, pos := _, after := _, guard := none }) (v := _) rfl (by kernel_rfl) (by kernel_rfl) (by kernel_rfl) (fun _ _ _ h => h) (by rfl) (by intro w' hSw; go_simp; try with_reducible rfl) ?_
          simp only [Act.put, List.setIfInBounds_toArray, List.set_cons_zero, List.set_cons_succ]
          refine going_skip (i := 2) (oi := { dst := some 43, op := Op.move (Operand.tmp 0), type := 38, pos := _, after := _, guard := some (1, true) }) rfl (by kernel_rfl) (by kernel_rfl) (by kernel_rfl) (fun _ _ _ h => h) (by rfl) ?_
          simp only [Act.put, List.setIfInBounds_toArray, List.set_cons_zero, List.set_cons_succ]
          refine going_skip (i := 3) (oi := { dst := some 44, op := Op.move (Operand.tmp 10), type := 3, pos := _, after := _, guard := some (1, true) }) rfl (by kernel_rfl) (by kernel_rfl) (by kernel_rfl) (fun _ _ _ h => h) (by rfl) ?_
          simp only [Act.put, List.setIfInBounds_toArray, List.set_cons_zero, List.set_cons_succ]
          refine going_skip (i := 4) (oi := { dst := some 45, op := Op.indexAddr 38 (Operand.tmp 43) (Operand.tmp 44), type := 0, pos := _, after := _, guard := some (1, true) }) rfl (by kernel_rfl) (by kernel_rfl) (by kernel_rfl) (fun _ _ _ h => h) (by rfl) ?_
          simp only [Act.put, List.setIfInBounds_toArray, List.set_cons_zero, List.set_cons_succ]
          refine going_skip (i := 5) (oi := { dst := some 46, op := Op.load 9 (Operand.tmp 45), type := 9, pos := _, after := _, guard := some (1, true) }) rfl (by kernel_rfl) (by kernel_rfl) (by kernel_rfl) (fun _ _ _ h => h) (by rfl) ?_
          simp only [Act.put, List.setIfInBounds_toArray, List.set_cons_zero, List.set_cons_succ]
          refine going_skip (i := 6) (oi := { dst := some 47, op := Op.move (Operand.tmp 1), type := 38, pos := _, after := _, guard := some (1, true) }) rfl (by kernel_rfl) (by kernel_rfl) (by kernel_rfl) (fun _ _ _ h => h) (by rfl) ?_
          simp only [Act.put, List.setIfInBounds_toArray, List.set_cons_zero, List.set_cons_succ]
          refine going_skip (i := 7) (oi := { dst := some 48, op := Op.move (Operand.tmp 10), type := 3, pos := _, after := _, guard := some (1, true) }) rfl (by kernel_rfl) (by kernel_rfl) (by kernel_rfl) (fun _ _ _ h => h) (by rfl) ?_
          simp only [Act.put, List.setIfInBounds_toArray, List.set_cons_zero, List.set_cons_succ]
          refine going_skip (i := 8) (oi := { dst := some 49, op := Op.indexAddr 38 (Operand.tmp 47) (Operand.tmp 48), type := 0, pos := _, after := _, guard := some (1, true) }) rfl (by kernel_rfl) (by kernel_rfl) (by kernel_rfl) (fun _ _ _ h => h) (by rfl) ?_
          simp only [Act.put, List.setIfInBounds_toArray, List.set_cons_zero, List.set_cons_succ]
          refine going_skip (i := 9) (oi := { dst := some 50, op := Op.load 9 (Operand.tmp 49), type := 9, pos := _, after := _, guard := some (1, true) }) rfl (by kernel_rfl) (by kernel_rfl) (by kernel_rfl) (fun _ _ _ h => h) (by rfl) ?_
          simp only [Act.put, List.setIfInBounds_toArray, List.set_cons_zero, List.set_cons_succ]
          refine going_skip (i := 10) (oi := { dst := some 51, op := Op.binOp BinOp.eql 9 (Operand.tmp 46) (Operand.tmp 50) 9, type := 4, pos := _, after := _, guard := some (1, true) }) rfl (by kernel_rfl) (by kernel_rfl) (by kernel_rfl) (fun _ _ _ h => h) (by rfl) ?_
          simp only [Act.put, List.setIfInBounds_toArray, List.set_cons_zero, List.set_cons_succ]
          refine going_take (i := 11) (oi := { dst := some 52, op := Op.pick (Operand.tmp 42) (Operand.tmp 51) (Operand.const (Value.bool false)), type := 4, pos := _, after := _, guard := none }) (v := _) rfl (by kernel_rfl) (by kernel_rfl) (by kernel_rfl) (fun _ _ _ h => h) (by rfl) (by intro w' hSw; go_simp; try with_reducible rfl) ?_
          simp only [Act.put, List.setIfInBounds_toArray, List.set_cons_zero, List.set_cons_succ]
          refine going_take (i := 12) (oi := { dst := some 9, op := Op.assign (Operand.tmp 52), type := 4, pos := _, after := _, guard := none }) (v := _) rfl (by kernel_rfl) (by kernel_rfl) (by kernel_rfl) (fun _ _ _ h => h) (by rfl) (by intro w' hSw; go_simp; try with_reducible rfl) ?_
          simp only [Act.put, List.setIfInBounds_toArray, List.set_cons_zero, List.set_cons_succ]
          refine going_done (by kernel_rfl) ?_
          go_wp2
          go_roundw
          case rel => exact ⟨i + 1, false, by omega, rfl, by go_num, HB.out, by show _ ↔ _; rw [HTK.out, ← HSA.out]; simp⟩
          case measure => simp [intOf]; omega
        | true =>
          by_cases hxy : x = y
          · subst hxy
            go_wp2_with fail
            refine going_start (by kernel_rfl) ?_
            replace HB : Hid (Below w.heap.size w wr.drew) := HB.out.drew
            generalize wr.drew = wd at *
            refine going_take (i := 0) (oi := { dst := some 41, op := Op.move (Operand.tmp 9), type := 4, pos := _, after := _, guard := none }) (v := _) rfl (by kernel_rfl) (by kernel_rfl) (by kernel_rfl) (fun _ _ _ h => h) (by rfl) (by intro w' hSw; go_simp; try with_reducible rfl) ?_
            simp only [Act.put, List.setIfInBounds_toArray, List.set_cons_zero, List.set_cons_succ]
            refine going_take (i := 1) (oi := { dst := some 42, op := Op.move (Operand.tmp 41), type := 4, pos := _, after := _, guard := none }) (v := _) rfl (by kernel_rfl) (by kernel_rfl) (by kernel_rfl) (fun _ _ _ h => h) (by rfl) (by intro w' hSw; go_simp; try with_reducible rfl) ?_
            simp only [Act.put, List.setIfInBounds_toArray, List.set_cons_zero, List.set_cons_succ]
            refine going_take (i := 2) (oi := { dst := some 43, op := Op.move (Operand.tmp 0), type := 38, pos := _, after := _, guard := some (1, true) }) (v := _) rfl (by kernel_rfl) (by kernel_rfl) (by kernel_rfl) (fun _ _ _ h => h) (by rfl) (by intro w' hSw; go_simp; try with_reducible rfl) ?_
            simp only [Act.put, List.setIfInBounds_toArray, List.set_cons_zero, List.set_cons_succ]
            refine going_take (i := 3) (oi := { dst := some 44, op := Op.move (Operand.tmp 10), type := 3, pos := _, after := _, guard := some (1, true) }) (v := _) rfl (by kernel_rfl) (by kernel_rfl) (by kernel_rfl) (fun _ _ _ h => h) (by rfl) (by intro w' hSw; go_simp; try with_reducible rfl) ?_
            simp only [Act.put, List.setIfInBounds_toArray, List.set_cons_zero, List.set_cons_succ]
            refine going_take (i := 4) (oi := { dst := some 45, op := Op.indexAddr 38 (Operand.tmp 43) (Operand.tmp 44), type := 0, pos := _, after := _, guard := some (1, true) }) (v := _) rfl (by kernel_rfl) (by kernel_rfl) (by kernel_rfl) (fun _ _ _ h => h) (by rfl) (by intro w' hSw; go_simp; try with_reducible rfl) ?_
            simp only [Act.put, List.setIfInBounds_toArray, List.set_cons_zero, List.set_cons_succ]
            refine going_take (i := 5) (oi := { dst := some 46, op := Op.load 9 (Operand.tmp 45), type := 9, pos := _, after := _, guard := some (1, true) }) (v := _) rfl (by kernel_rfl) (by kernel_rfl) (by kernel_rfl) (fun _ _ _ h => h) (by rfl) (by intro w' hSw; have hq := HCS.out w' (HB.out.trans (hSw.mono HB.out.size)); go_simp; try with_reducible rfl) ?_
            simp only [Act.put, List.setIfInBounds_toArray, List.set_cons_zero, List.set_cons_succ]
            refine going_take (i := 6) (oi := { dst := some 47, op := Op.move (Operand.tmp 1), type := 38, pos := _, after := _, guard := some (1, true) }) (v := _) rfl (by kernel_rfl) (by kernel_rfl) (by kernel_rfl) (fun _ _ _ h => h) (by rfl) (by intro w' hSw; go_simp; try with_reducible rfl) ?_
            simp only [Act.put, List.setIfInBounds_toArray, List.set_cons_zero, List.set_cons_succ]
            refine going_take (i := 7) (oi := { dst := some 48, op := Op.move (Operand.tmp 10), type := 3, pos := _, after := _, guard := some (1, true) }) (v := _) rfl (by kernel_rfl) (by kernel_rfl) (by kernel_rfl) (fun _ _ _ h => h) (by rfl) (by intro w' hSw; go_simp; try with_reducible rfl) ?_
            simp only [Act.put, List.setIfInBounds_toArray, List.set_cons_zero, List.set_cons_succ]
            refine going_take (i := 8) (oi := { dst := some 49, op := Op.indexAddr 38 (Operand.tmp 47) (Operand.tmp 48), type := 0, pos := _, after := _, guard := some (1, true) }) (v := _) rfl (by kernel_rfl) (by kernel_rfl) (by kernel_rfl) (fun _ _ _ h => h) (by rfl) (by intro w' hSw; go_simp; try with_reducible rfl) ?_
            simp only [Act.put, List.setIfInBounds_toArray, List.set_cons_zero, List.set_cons_succ]
            refine going_take (i := 9) (oi := { dst := some 50, op := Op.load 9 (Operand.tmp 49), type := 9, pos := _, after := _, guard := some (1, true) }) (v := _) rfl (by kernel_rfl) (by kernel_rfl) (by kernel_rfl) (fun _ _ _ h => h) (by rfl) (by intro w' hSw; have hq := HCT.out w' (HB.out.trans (hSw.mono HB.out.size)); go_simp; try with_reducible rfl) ?_
            simp only [Act.put, List.setIfInBounds_toArray, List.set_cons_zero, List.set_cons_succ]
            refine going_take (i := 10) (oi := { dst := some 51, op := Op.binOp BinOp.eql 9 (Operand.tmp 46) (Operand.tmp 50) 9, type := 4, pos := _, after := _, guard := some (1, true) }) (v := _) rfl (by kernel_rfl) (by kernel_rfl) (by kernel_rfl) (fun _ _ _ h => h) (by rfl) (by intro w' hSw; go_simp; try with_reducible rfl) ?_
            simp only [Act.put, List.setIfInBounds_toArray, List.set_cons_zero, List.set_cons_succ]
            refine going_take (i := 11) (oi := { dst := some 52, op := Op.pick (Operand.tmp 42) (Operand.tmp 51) (Operand.const (Value.bool false)), type := 4, pos := _, after := _, guard := none }) (v := _) rfl (by kernel_rfl) (by kernel_rfl) (by kernel_rfl) (fun _ _ _ h => h) (by rfl) (by intro w' hSw; go_simp; try with_reducible rfl) ?_
            simp only [Act.put, List.setIfInBounds_toArray, List.set_cons_zero, List.set_cons_succ]
            refine going_take (i := 12) (oi := { dst := some 9, op := Op.assign (Operand.tmp 52), type := 4, pos := _, after := _, guard := none }) (v := _) rfl (by kernel_rfl) (by kernel_rfl) (by kernel_rfl) (fun _ _ _ h => h) (by rfl) (by intro w' hSw; go_simp; try with_reducible rfl) ?_
            simp only [Act.put, List.setIfInBounds_toArray, List.set_cons_zero, List.set_cons_succ]
            refine going_done (by kernel_rfl) ?_
            go_wp2
            go_roundw
            case rel => exact ⟨i + 1, true, by omega, rfl, by go_num, HB.out, by show _ ↔ _; rw [HTK.out, ← HSA.out]; simp⟩
            case measure => simp [intOf]; omega
          · have hne : ¬ str x = str y := fun h => hxy (str_inj HX.out HY.out h)
            have q1 := ne_told hne
            clear hne
            have HXY := hide hxy
            clear hxy
            go_wp2_with fail
            refine going_start (by kernel_rfl) ?_
            replace HB : Hid (Below w.heap.size w wr.drew) := HB.out.drew
            generalize wr.drew = wd at *
            refine going_take (i := 0) (oi := { dst := some 41, op := Op.move (Operand.tmp 9), type := 4, pos := _, after := _, guard := none }) (v := _) rfl (by kernel_rfl) (by kernel_rfl) (by kernel_rfl) (fun _ _ _ h => h) (by rfl) (by intro w' hSw; go_simp; try with_reducible rfl) ?_
            simp only [Act.put, List.setIfInBounds_toArray, List.set_cons_zero, List.set_cons_succ]
            refine going_take (i := 1) (oi := { dst := some 42, op := Op.move (Operand.tmp 41), type := 4, pos := _, after := _, guard := none }) (v := _) rfl (by kernel_rfl) (by kernel_rfl) (by kernel_rfl) (fun _ _ _ h => h) (by rfl) (by intro w' hSw; go_simp; try with_reducible rfl) ?_
            simp only [Act.put, List.setIfInBounds_toArray, List.set_cons_zero, List.set_cons_succ]
            refine going_take (i := 2) (oi := { dst := some 43, op := Op.move (Operand.tmp 0), type := 38, pos := _, after := _, guard := some (1, true) }) (v := _) rfl (by kernel_rfl) (by kernel_rfl) (by kernel_rfl) (fun _ _ _ h => h) (by rfl) (by intro w' hSw; go_simp; try with_reducible rfl) ?_
            simp only [Act.put, List.setIfInBounds_toArray, List.set_cons_zero, List.set_cons_succ]
            refine going_take (i := 3) (oi := { dst := some 44, op := Op.move (Operand.tmp 10), type := 3, pos := _, after := _, guard := some (1, true) }) (v := _) rfl (by kernel_rfl) (by kernel_rfl) (by kernel_rfl) (fun _ _ _ h => h) (by rfl) (by intro w' hSw; go_simp; try with_reducible rfl) ?_
            simp only [Act.put, List.setIfInBounds_toArray, List.set_cons_zero, List.set_cons_succ]
            refine going_take (i := 4) (oi := { dst := some 45, op := Op.indexAddr 38 (Operand.tmp 43) (Operand.tmp 44), type := 0, pos := _, after := _, guard := some (1, true) }) (v := _) rfl (by kernel_rfl) (by kernel_rfl) (by kernel_rfl) (fun _ _ _ h => h) (by rfl) (by intro w' hSw; go_simp; try with_reducible rfl) ?_
            simp only [Act.put, List.setIfInBounds_toArray, List.set_cons_zero, List.set_cons_succ]
            refine going_take (i := 5) (oi := { dst := some 46, op := Op.load 9 (Operand.tmp 45), type := 9, pos := _, after := _, guard := some (1, true) }) (v := _) rfl (by kernel_rfl) (by kernel_rfl) (by kernel_rfl) (fun _ _ _ h => h) (by rfl) (by intro w' hSw; have hq := HCS.out w' (HB.out.trans (hSw.mono HB.out.size)); go_simp; try with_reducible rfl) ?_
            simp only [Act.put, List.setIfInBounds_toArray, List.set_cons_zero, List.set_cons_succ]
            refine going_take (i := 6) (oi := { dst := some 47, op := Op.move (Operand.tmp 1), type := 38, pos := _, after := _, guard := some (1, true) }) (v := _) rfl (by kernel_rfl) (by kernel_rfl) (by kernel_rfl) (fun _ _ _ h => h) (by rfl) (by intro w' hSw; go_simp; try with_reducible rfl) ?_
            simp only [Act.put, List.setIfInBounds_toArray, List.set_cons_zero, List.set_cons_succ]
            refine going_take (i := 7) (oi := { dst := some 48, op := Op.move (Operand.tmp 10), type := 3, pos := _, after := _, guard := some (1, true) }) (v := _) rfl (by kernel_rfl) (by kernel_rfl) (by kernel_rfl) (fun _ _ _ h => h) (by rfl) (by intro w' hSw; go_simp; try with_reducible rfl) ?_
            simp only [Act.put, List.setIfInBounds_toArray, List.set_cons_zero, List.set_cons_succ]
            refine going_take (i := 8) (oi := { dst := some 49, op := Op.indexAddr 38 (Operand.tmp 47) (Operand.tmp 48), type := 0, pos := _, after := _, guard := some (1, true) }) (v := _) rfl (by kernel_rfl) (by kernel_rfl) (by kernel_rfl) (fun _ _ _ h => h) (by rfl) (by intro w' hSw; go_simp; try with_reducible rfl) ?_
            simp only [Act.put, List.setIfInBounds_toArray, List.set_cons_zero, List.set_cons_succ]
            refine going_take (i := 9) (oi := { dst := some 50, op := Op.load 9 (Operand.tmp 49), type := 9, pos := _, after := _, guard := some (1, true) }) (v := _) rfl (by kernel_rfl) (by kernel_rfl) (by kernel_rfl) (fun _ _ _ h => h) (by rfl) (by intro w' hSw; have hq := HCT.out w' (HB.out.trans (hSw.mono HB.out.size)); go_simp; try with_reducible rfl) ?_
            simp only [Act.put, List.setIfInBounds_toArray, List.set_cons_zero, List.set_cons_succ]
            refine going_take (i := 10) (oi := { dst := some 51, op := Op.binOp BinOp.eql 9 (Operand.tmp 46) (Operand.tmp 50) 9, type := 4, pos := _, after := _, guard := some (1, true) }) (v := _) rfl (by kernel_rfl) (by kernel_rfl) (by kernel_rfl) (fun _ _ _ h => h) (by rfl) (by intro w' hSw; go_simp; try with_reducible rfl) ?_
            simp only [Act.put, List.setIfInBounds_toArray, List.set_cons_zero, List.set_cons_succ]
            refine going_take (i := 11) (oi := { dst := some 52, op := Op.pick (Operand.tmp 42) (Operand.tmp 51) (Operand.const (Value.bool false)), type := 4, pos := _, after := _, guard := none }) (v := _) rfl (by kernel_rfl) (by kernel_rfl) (by kernel_rfl) (fun _ _ _ h => h) (by rfl) (by intro w' hSw; go_simp; try with_reducible rfl) ?_
            simp only [Act.put, List.setIfInBounds_toArray, List.set_cons_zero, List.set_cons_succ]
            refine going_take (i := 12) (oi := { dst := some 9, op := Op.assign (Operand.tmp 52), type := 4, pos := _, after := _, guard := none }) (v := _) rfl (by kernel_rfl) (by kernel_rfl) (by kernel_rfl) (fun _ _ _ h => h) (by rfl) (by intro w' hSw; go_simp; try with_reducible rfl) ?_
            simp only [Act.put, List.setIfInBounds_toArray, List.set_cons_zero, List.set_cons_succ]
            refine going_done (by kernel_rfl) ?_
            go_wp2
            go_roundw
            case rel => exact ⟨i + 1, false, by omega, rfl, by go_num, HB.out, by show _ ↔ _; rw [HTK.out, ← HSA.out]; simp [HXY.out]⟩
            case measure => simp [intOf]; omega
      · have hin : i = n2 := by omega
        subst hin
        have HSM : Hid (same = true ↔ ss = tt) := by
          have := HSA.out
          rw [List.take_of_length_le (by rw [HN2.out]; exact Nat.le_refl _), List.take_of_length_le (by rw [HN.out]; exact Nat.le_refl _)] at this
          exact this
        have HA2 : Hid (∀ c ∈ A, c < 256) := by show ∀ c ∈ A, c < 256; rw [HA.out]; exact Vary.all_small HS2.out HS.out.1
        have HC2 : Hid (∀ c ∈ C, c < 256) := by show ∀ c ∈ C, c < 256; rw [HC.out]; exact Vary.all_small HT2.out HT.out.1
        have hsame : ∀ k, k ≤ A.length → k ≤ C.length → (k = A.length ∨ k = C.length) → (str (A.take k) = str (C.take k) ↔ same = true) := by
          intro k hk1 hk2 hk3
          rw [HSM.out]
          constructor
          · intro h
            have h3 := str_inj (fun c hc => HA2.out c (List.mem_of_mem_take hc)) (fun c hc => HC2.out c (List.mem_of_mem_take hc)) h
            have e1 := HA.out
            have e2 := HC.out
            subst e1 e2
            exact Vary.all_told HS2.out HT2.out (by rw [HN.out, HN2.out]) k hk1 hk2 hk3 h3
          · intro h
            rw [HA.out, HC.out, h]
        by_cases hcl : C.length < A.length
        · have hsl1 := slice_to A C.length C.length rfl (by omega)
          have hsl2 := slice_to C C.length C.length rfl (by omega)
          have hsm2 := hsame C.length (by omega) (by omega) (.inr rfl)
          clear hsame
          generalize str (A.take C.length) = x at *
          generalize str (C.take C.length) = y at *
          cases same with
          | true =>
            have hxy := hsm2.2 rfl
            subst hxy
            clear hsm2
            go_wp2_with fail
            refine going_start (by kernel_rfl) ?_
            replace HB : Hid (Below w.heap.size w wr.drew) := HB.out.drew
            generalize wr.drew = wd at *
            refine going_take (i := 0) (oi := { dst := some 59, op := Op.move (Operand.tmp 5), type := 9, pos := _, after := _, guard := none }) (v := _) rfl (by kernel_rfl) (by kernel_rfl) (by kernel_rfl) (fun _ _ _ h => h) (by rfl) (by intro w' hSw; go_simp; try with_reducible rfl) ?_
            simp only [Act.put, List.setIfInBounds_toArray, List.set_cons_zero, List.set_cons_succ]
            refine going_take (i := 1) (oi := { dst := some 60, op := Op.move (Operand.tmp 11), type := 3, pos := _, after := _, guard := none }) (v := _) rfl (by kernel_rfl) (by kernel_rfl) (by kernel_rfl) (fun _ _ _ h => h) (by rfl) (by intro w' hSw; go_simp; try with_reducible rfl) ?_
            simp only [Act.put, List.setIfInBounds_toArray, List.set_cons_zero, List.set_cons_succ]
            refine going_take (i := 2) (oi := { dst := some 61, op := Op.slice 9 (Operand.tmp 59) none (some (Operand.tmp 60)) none, type := 9, pos := _, after := _, guard := none }) (v := _) rfl (by kernel_rfl) (by kernel_rfl) (by kernel_rfl) (fun _ _ _ h => h) (by rfl) (by intro w' hSw; go_simp; try with_reducible rfl) ?_
            simp only [Act.put, List.setIfInBounds_toArray, List.set_cons_zero, List.set_cons_succ]
            refine going_take (i := 3) (oi := { dst := some 62, op := Op.move (Operand.tmp 7), type := 9, pos := _, after := _, guard := none }) (v := _) rfl (by kernel_rfl) (by kernel_rfl) (by kernel_rfl) (fun _ _ _ h => h) (by rfl) (by intro w' hSw; go_simp; try with_reducible rfl) ?_
            simp only [Act.put, List.setIfInBounds_toArray, List.set_cons_zero, List.set_cons_succ]
            refine going_take (i := 4) (oi := { dst := some 63, op := Op.move (Operand.tmp 11), type := 3, pos := _, after := _, guard := none }) (v := _) rfl (by kernel_rfl) (by kernel_rfl) (by kernel_rfl) (fun _ _ _ h => h) (by rfl) (by intro w' hSw; go_simp; try with_reducible rfl) ?_
            simp only [Act.put, List.setIfInBounds_toArray, List.set_cons_zero, List.set_cons_succ]
            refine going_take (i := 5) (oi := { dst := some 64, op := Op.slice 9 (Operand.tmp 62) none (some (Operand.tmp 63)) none, type := 9, pos := _, after := _, guard := none }) (v := _) rfl (by kernel_rfl) (by kernel_rfl) (by kernel_rfl) (fun _ _ _ h => h) (by rfl) (by intro w' hSw; go_simp; try with_reducible rfl) ?_
            simp only [Act.put, List.setIfInBounds_toArray, List.set_cons_zero, List.set_cons_succ]
            refine going_take (i := 6) (oi := { dst := some 65, op := Op.binOp BinOp.eql 9 (Operand.tmp 61) (Operand.tmp 64) 9, type := 4, pos := _, after := _, guard := none }) (v := _) rfl (by kernel_rfl) (by kernel_rfl) (by kernel_rfl) (fun _ _ _ h => h) (by rfl) (by intro w' hSw; go_simp; try with_reducible rfl) ?_
            simp only [Act.put, List.setIfInBounds_toArray, List.set_cons_zero, List.set_cons_succ]
            refine going_take (i := 7) (oi := { dst := some 66, op := Op.move (Operand.tmp 9), type := 4, pos := _, after := _, guard := none }) (v := _) rfl (by kernel_rfl) (by kernel_rfl) (by kernel_rfl) (fun _ _ _ h => h) (by rfl) (by intro w' hSw; go_simp; try with_reducible rfl) ?_
            simp only [Act.put, List.setIfInBounds_toArray, List.set_cons_zero, List.set_cons_succ]
            refine going_take (i := 8) (oi := { dst := some 67, op := Op.binOp BinOp.eql 4 (Operand.tmp 65) (Operand.tmp 66) 4, type := 4, pos := _, after := _, guard := none }) (v := _) rfl (by kernel_rfl) (by kernel_rfl) (by kernel_rfl) (fun _ _ _ h => h) (by rfl) (by intro w' hSw; go_simp; try with_reducible rfl) ?_
            simp only [Act.put, List.setIfInBounds_toArray, List.set_cons_zero, List.set_cons_succ]
            refine going_take (i := 9) (oi := { dst := some 68, op := Op.move (Operand.tmp 67), type := 4, pos := _, after := _, guard := none }) (v := _) rfl (by kernel_rfl) (by kernel_rfl) (by kernel_rfl) (fun _ _ _ h => h) (by rfl) (by intro w' hSw; go_simp; try with_reducible rfl) ?_
            simp only [Act.put, List.setIfInBounds_toArray, List.set_cons_zero, List.set_cons_succ]
            refine going_step (i := 10) (o := { dst := some 69, op := Op.call { callee := Callee.value (Operand.func 9), args := #[], argTypes := #[] }, type := 4, pos := _, after := _, guard := some (9, true) }) (by kernel_rfl) rfl (by rfl) (fun K hK => ?_)
            go_simp
            refine (lives_any _).mono ?_
            rintro e wd ⟨rfl, hb1⟩
            refine hK.out _ _ hb1 ?_
            replace HB := hide (HB.out.trans (hb1.mono HB.out.size))
            clear hb1
            clear hK K
            try simp only [Act.put, List.setIfInBounds_toArray, List.set_cons_zero, List.set_cons_succ]
            refine going_take (i := 11) (oi := { dst := some 70, op := Op.pick (Operand.tmp 68) (Operand.tmp 69) (Operand.const (Value.bool false)), type := 4, pos := _, after := _, guard := none }) (v := _) rfl (by kernel_rfl) (by kernel_rfl) (by kernel_rfl) (fun _ _ _ h => h) (by rfl) (by intro w' hSw; go_simp; try with_reducible rfl) ?_
            simp only [Act.put, List.setIfInBounds_toArray, List.set_cons_zero, List.set_cons_succ]
            refine going_take (i := 12) (oi := { dst := some 4, op := Op.assign (Operand.tmp 70), type := 4, pos := _, after := _, guard := none }) (v := _) rfl (by kernel_rfl) (by kernel_rfl) (by kernel_rfl) (fun _ _ _ h => h) (by rfl) (by intro w' hSw; go_simp; try with_reducible rfl) ?_
            simp only [Act.put, List.setIfInBounds_toArray, List.set_cons_zero, List.set_cons_succ]
            refine going_done (by kernel_rfl) ?_
            go_wp2
            go_ret
            exact ⟨rfl, HB.out⟩
          | false =>
            have hne : ¬ x = y := fun h => by have := hsm2.1 h; cases this
            have q1 := ne_told hne
            clear hsm2 hne
            go_wp2_with fail
            refine going_start (by kernel_rfl) ?_
            replace HB : Hid (Below w.heap.size w wr.drew) := HB.out.drew
            generalize wr.drew = wd at *
            refine going_take (i := 0) (oi := { dst := some 59, op := Op.move (Operand.tmp 5), type := 9, pos := _, after := _, guard := none }) (v := _) rfl (by kernel_rfl) (by kernel_rfl) (by kernel_rfl) (fun _ _ _ h => h) (by rfl) (by intro w' hSw; go_simp; try with_reducible rfl) ?_
            simp only [Act.put, List.setIfInBounds_toArray, List.set_cons_zero, List.set_cons_succ]
            refine going_take (i := 1) (oi := { dst := some 60, op := Op.move (Operand.tmp 11), type := 3, pos := _, after := _, guard := none }) (v := _) rfl (by kernel_rfl) (by kernel_rfl) (by kernel_rfl) (fun _ _ _ h => h) (by rfl) (by intro w' hSw; go_simp; try with_reducible rfl) ?_
            simp only [Act.put, List.setIfInBounds_toArray, List.set_cons_zero, List.set_cons_succ]
            refine going_take (i := 2) (oi := { dst := some 61, op := Op.slice 9 (Operand.tmp 59) none (some (Operand.tmp 60)) none, type := 9, pos := _, after := _, guard := none }) (v := _) rfl (by kernel_rfl) (by kernel_rfl) (by kernel_rfl) (fun _ _ _ h => h) (by rfl) (by intro w' hSw; go_simp; try with_reducible rfl) ?_
            simp only [Act.put, List.setIfInBounds_toArray, List.set_cons_zero, List.set_cons_succ]
            refine going_take (i := 3) (oi := { dst := some 62, op := Op.move (Operand.tmp 7), type := 9, pos := _, after := _, guard := none }) (v := _) rfl (by kernel_rfl) (by kernel_rfl) (by kernel_rfl) (fun _ _ _ h => h) (by rfl) (by intro w' hSw; go_simp; try with_reducible rfl) ?_
            simp only [Act.put, List.setIfInBounds_toArray, List.set_cons_zero, List.set_cons_succ]
            refine going_take (i := 4) (oi := { dst := some 63, op := Op.move (Operand.tmp 11), type := 3, pos := _, after := _, guard := none }) (v := _) rfl (by kernel_rfl) (by kernel_rfl) (by kernel_rfl) (fun _ _ _ h => h) (by rfl) (by intro w' hSw; go_simp; try with_reducible rfl) ?_
            simp only [Act.put, List.setIfInBounds_toArray, List.set_cons_zero, List.set_cons_succ]
            refine going_take (i := 5) (oi := { dst := some 64, op := Op.slice 9 (Operand.tmp 62) none (some (Operand.tmp 63)) none, type := 9, pos := _, after := _, guard := none }) (v := _) rfl (by kernel_rfl) (by kernel_rfl) (by kernel_rfl) (fun _ _ _ h => h) (by rfl) (by intro w' hSw; go_simp; try with_reducible rfl) ?_
            simp only [Act.put, List.setIfInBounds_toArray, List.set_cons_zero, List.set_cons_succ]
            refine going_take (i := 6) (oi := { dst := some 65, op := Op.binOp BinOp.eql 9 (Operand.tmp 61) (Operand.tmp 64) 9, type := 4, pos := _, after := _, guard := none }) (v := _) rfl (by kernel_rfl) (by kernel_rfl) (by kernel_rfl) (fun _ _ _ h => h) (by rfl) (by intro w' hSw; go_simp; try with_reducible rfl) ?_
            simp only [Act.put, List.setIfInBounds_toArray, List.set_cons_zero, List.set_cons_succ]
            refine going_take (i := 7) (oi := { dst := some 66, op := Op.move (Operand.tmp 9), type := 4, pos := _, after := _, guard := none }) (v := _) rfl (by kernel_rfl) (by kernel_rfl) (by kernel_rfl) (fun _ _ _ h => h) (by rfl) (by intro w' hSw; go_simp; try with_reducible rfl) ?_
            simp only [Act.put, List.setIfInBounds_toArray, List.set_cons_zero, List.set_cons_succ]
            refine going_take (i := 8) (oi := { dst := some 67, op := Op.binOp BinOp.eql 4 (Operand.tmp 65) (Operand.tmp 66) 4, type := 4, pos := _, after := _, guard := none }) (v := _) rfl (by kernel_rfl) (by kernel_rfl) (by kernel_rfl) (fun _ _ _ h => h) (by rfl) (by intro w' hSw; go_simp; try with_reducible rfl) ?_
            simp only [Act.put, List.setIfInBounds_toArray, List.set_cons_zero, List.set_cons_succ]
            refine going_take (i := 9) (oi := { dst := some 68, op := Op.move (Operand.tmp 67), type := 4, pos := _, after := _, guard := none }) (v := _) rfl (by kernel_rfl) (by kernel_rfl) (by kernel_rfl) (fun _ _ _ h => h) (by rfl) (by intro w' hSw; go_simp; try with_reducible rfl) ?_
            simp only [Act.put, List.setIfInBounds_toArray, List.set_cons_zero, List.set_cons_succ]
            refine going_step (i := 10) (o := { dst := some 69, op := Op.call { callee := Callee.value (Operand.func 9), args := #[], argTypes := #[] }, type := 4, pos := _, after := _, guard := some (9, true) }) (by kernel_rfl) rfl (by rfl) (fun K hK => ?_)
            go_simp
            refine (lives_any _).mono ?_
            rintro e wd ⟨rfl, hb1⟩
            refine hK.out _ _ hb1 ?_
            replace HB := hide (HB.out.trans (hb1.mono HB.out.size))
            clear hb1
            clear hK K
            try simp only [Act.put, List.setIfInBounds_toArray, List.set_cons_zero, List.set_cons_succ]
            refine going_take (i := 11) (oi := { dst := some 70, op := Op.pick (Operand.tmp 68) (Operand.tmp 69) (Operand.const (Value.bool false)), type := 4, pos := _, after := _, guard := none }) (v := _) rfl (by kernel_rfl) (by kernel_rfl) (by kernel_rfl) (fun _ _ _ h => h) (by rfl) (by intro w' hSw; go_simp; try with_reducible rfl) ?_
            simp only [Act.put, List.setIfInBounds_toArray, List.set_cons_zero, List.set_cons_succ]
            refine going_take (i := 12) (oi := { dst := some 4, op := Op.assign (Operand.tmp 70), type := 4, pos := _, after := _, guard := none }) (v := _) rfl (by kernel_rfl) (by kernel_rfl) (by kernel_rfl) (fun _ _ _ h => h) (by rfl) (by intro w' hSw; go_simp; try with_reducible rfl) ?_
            simp only [Act.put, List.setIfInBounds_toArray, List.set_cons_zero, List.set_cons_succ]
            refine going_done (by kernel_rfl) ?_
            go_wp2
            go_ret
            exact ⟨rfl, HB.out⟩
        · have hsl1 := slice_to A A.length A.length rfl (by omega)
          have hsl2 := slice_to C A.length A.length rfl (by omega)
          have hsm2 := hsame A.length (by omega) (by omega) (.inl rfl)
          clear hsame
          generalize str (A.take A.length) = x at *
          generalize str (C.take A.length) = y at *
          cases same with
          | true =>
            have hxy := hsm2.2 rfl
            subst hxy
            clear hsm2
            go_wp2_with fail
            refine going_start (by kernel_rfl) ?_
            replace HB : Hid (Below w.heap.size w wr.drew) := HB.out.drew
            generalize wr.drew = wd at *
            refine going_take (i := 0) (oi := { dst := some 59, op := Op.move (Operand.tmp 5), type := 9, pos := _, after := _, guard := none }) (v := _) rfl (by kernel_rfl) (by kernel_rfl) (by kernel_rfl) (fun _ _ _ h => h) (by rfl) (by intro w' hSw; go_simp; try with_reducible rfl) ?_
            simp only [Act.put, List.setIfInBounds_toArray, List.set_cons_zero, List.set_cons_succ]
            refine going_take (i := 1) (oi := { dst := some 60, op := Op.move (Operand.tmp 11), type := 3, pos := _, after := _, guard := none }) (v := _) rfl (by kernel_rfl) (by kernel_rfl) (by kernel_rfl) (fun _ _ _ h => h) (by rfl) (by intro w' hSw; go_simp; try with_reducible rfl) ?_
            simp only [Act.put, List.setIfInBounds_toArray, List.set_cons_zero, List.set_cons_succ]
            refine going_take (i := 2) (oi := { dst := some 61, op := Op.slice 9 (Operand.tmp 59) none (some (Operand.tmp 60)) none, type := 9, pos := _, after := _, guard := none }) (v := _) rfl (by kernel_rfl) (by kernel_rfl) (by kernel_rfl) (fun _ _ _ h => h) (by rfl) (by intro w' hSw; go_simp; try with_reducible rfl) ?_
            simp only [Act.put, List.setIfInBounds_toArray, List.set_cons_zero, List.set_cons_succ]
            refine going_take (i := 3) (oi := { dst := some 62, op := Op.move (Operand.tmp 7), type := 9, pos := _, after := _, guard := none }) (v := _) rfl (by kernel_rfl) (by kernel_rfl) (by kernel_rfl) (fun _ _ _ h => h) (by rfl) (by intro w' hSw; go_simp; try with_reducible rfl) ?_
            simp only [Act.put, List.setIfInBounds_toArray, List.set_cons_zero, List.set_cons_succ]
            refine going_take (i := 4) (oi := { dst := some 63, op := Op.move (Operand.tmp 11), type := 3, pos := _, after := _, guard := none }) (v := _) rfl (by kernel_rfl) (by kernel_rfl) (by kernel_rfl) (fun _ _ _ h => h) (by rfl) (by intro w' hSw; go_simp; try with_reducible rfl) ?_
            simp only [Act.put, List.setIfInBounds_toArray, List.set_cons_zero, List.set_cons_succ]
            refine going_take (i := 5) (oi := { dst := some 64, op := Op.slice 9 (Operand.tmp 62) none (some (Operand.tmp 63)) none, type := 9, pos := _, after := _, guard := none }) (v := _) rfl (by kernel_rfl) (by kernel_rfl) (by kernel_rfl) (fun _ _ _ h => h) (by rfl) (by intro w' hSw; go_simp; try with_reducible rfl) ?_
            simp only [Act.put, List.setIfInBounds_toArray, List.set_cons_zero, List.set_cons_succ]
            refine going_take (i := 6) (oi := { dst := some 65, op := Op.binOp BinOp.eql 9 (Operand.tmp 61) (Operand.tmp 64) 9, type := 4, pos := _, after := _, guard := none }) (v := _) rfl (by kernel_rfl) (by kernel_rfl) (by kernel_rfl) (fun _ _ _ h => h) (by rfl) (by intro w' hSw; go_simp; try with_reducible rfl) ?_
            simp only [Act.put, List.setIfInBounds_toArray, List.set_cons_zero, List.set_cons_succ]
            refine going_take (i := 7) (oi := { dst := some 66, op := Op.move (Operand.tmp 9), type := 4, pos := _, after := _, guard := none }) (v := _) rfl (by kernel_rfl) (by kernel_rfl) (by kernel_rfl) (fun _ _ _ h => h) (by rfl) (by intro w' hSw; go_simp; try with_reducible rfl) ?_
            simp only [Act.put, List.setIfInBounds_toArray, List.set_cons_zero, List.set_cons_succ]
            refine going_take (i := 8) (oi := { dst := some 67, op := Op.binOp BinOp.eql 4 (Operand.tmp 65) (Operand.tmp 66) 4, type := 4, pos := _, after := _, guard := none }) (v := _) rfl (by kernel_rfl) (by kernel_rfl) (by kernel_rfl) (fun _ _ _ h => h) (by rfl) (by intro w' hSw; go_simp; try with_reducible rfl) ?_
            simp only [Act.put, List.setIfInBounds_toArray, List.set_cons_zero, List.set_cons_succ]
            refine going_take (i := 9) (oi := { dst := some 68, op := Op.move (Operand.tmp 67), type := 4, pos := _, after := _, guard := none }) (v := _) rfl (by kernel_rfl) (by kernel_rfl) (by kernel_rfl) (fun _ _ _ h => h) (by rfl) (by intro w' hSw; go_simp; try with_reducible rfl) ?_
            simp only [Act.put, List.setIfInBounds_toArray, List.set_cons_zero, List.set_cons_succ]
            refine going_step (i := 10) (o := { dst := some 69, op := Op.call { callee := Callee.value (Operand.func 9), args := #[], argTypes := #[] }, type := 4, pos := _, after := _, guard := some (9, true) }) (by kernel_rfl) rfl (by rfl) (fun K hK => ?_)
            go_simp
            refine (lives_any _).mono ?_
            rintro e wd ⟨rfl, hb1⟩
            refine hK.out _ _ hb1 ?_
            replace HB := hide (HB.out.trans (hb1.mono HB.out.size))
            clear hb1
            clear hK K
            try simp only [Act.put, List.setIfInBounds_toArray, List.set_cons_zero, List.set_cons_succ]
            refine going_take (i := 11) (oi := { dst := some 70, op := Op.pick (Operand.tmp 68) (Operand.tmp 69) (Operand.const (Value.bool false)), type := 4, pos := _, after := _, guard := none }) (v := _) rfl (by kernel_rfl) (by kernel_rfl) (by kernel_rfl) (fun _ _ _ h => h) (by rfl) (by intro w' hSw; go_simp; try with_reducible rfl) ?_
            simp only [Act.put, List.setIfInBounds_toArray, List.set_cons_zero, List.set_cons_succ]
            refine going_take (i := 12) (oi := { dst := some 4, op := Op.assign (Operand.tmp 70), type := 4, pos := _, after := _, guard := none }) (v := _) rfl (by kernel_rfl) (by kernel_rfl) (by kernel_rfl) (fun _ _ _ h => h) (by rfl) (by intro w' hSw; go_simp; try with_reducible rfl) ?_
            simp only [Act.put, List.setIfInBounds_toArray, List.set_cons_zero, List.set_cons_succ]
            refine going_done (by kernel_rfl) ?_
            go_wp2
            go_ret
            exact ⟨rfl, HB.out⟩
          | false =>
            have hne : ¬ x = y := fun h => by have := hsm2.1 h; cases this
            have q1 := ne_told hne
            clear hsm2 hne
            go_wp2_with fail
            refine going_start (by kernel_rfl) ?_
            replace HB : Hid (Below w.heap.size w wr.drew) := HB.out.drew
            generalize wr.drew = wd at *
            refine going_take (i := 0) (oi := { dst := some 59, op := Op.move (Operand.tmp 5), type := 9, pos := _, after := _, guard := none }) (v := _) rfl (by kernel_rfl) (by kernel_rfl) (by kernel_rfl) (fun _ _ _ h => h) (by rfl) (by intro w' hSw; go_simp; try with_reducible rfl) ?_
            simp only [Act.put, List.setIfInBounds_toArray, List.set_cons_zero, List.set_cons_succ]
            refine going_take (i := 1) (oi := { dst := some 60, op := Op.move (Operand.tmp 11), type := 3, pos := _, after := _, guard := none }) (v := _) rfl (by kernel_rfl) (by kernel_rfl) (by kernel_rfl) (fun _ _ _ h => h) (by rfl) (by intro w' hSw; go_simp; try with_reducible rfl) ?_
            simp only [Act.put, List.setIfInBounds_toArray, List.set_cons_zero, List.set_cons_succ]
            refine going_take (i := 2) (oi := { dst := some 61, op := Op.slice 9 (Operand.tmp 59) none (some (Operand.tmp 60)) none, type := 9, pos := _, after := _, guard := none }) (v := _) rfl (by kernel_rfl) (by kernel_rfl) (by kernel_rfl) (fun _ _ _ h => h) (by rfl) (by intro w' hSw; go_simp; try with_reducible rfl) ?_
            simp only [Act.put, List.setIfInBounds_toArray, List.set_cons_zero, List.set_cons_succ]
            refine going_take (i := 3) (oi := { dst := some 62, op := Op.move (Operand.tmp 7), type := 9, pos := _, after := _, guard := none }) (v := _) rfl (by kernel_rfl) (by kernel_rfl) (by kernel_rfl) (fun _ _ _ h => h) (by rfl) (by intro w' hSw; go_simp; try with_reducible rfl) ?_
            simp only [Act.put, List.setIfInBounds_toArray, List.set_cons_zero, List.set_cons_succ]
            refine going_take (i := 4) (oi := { dst := some 63, op := Op.move (Operand.tmp 11), type := 3, pos := _, after := _, guard := none }) (v := _) rfl (by kernel_rfl) (by kernel_rfl) (by kernel_rfl) (fun _ _ _ h => h) (by rfl) (by intro w' hSw; go_simp; try with_reducible rfl) ?_
            simp only [Act.put, List.setIfInBounds_toArray, List.set_cons_zero, List.set_cons_succ]
            refine going_take (i := 5) (oi := { dst := some 64, op := Op.slice 9 (Operand.tmp 62) none (some (Operand.tmp 63)) none, type := 9, pos := _, after := _, guard := none }) (v := _) rfl (by kernel_rfl) (by kernel_rfl) (by kernel_rfl) (fun _ _ _ h => h) (by rfl) (by intro w' hSw; go_simp; try with_reducible rfl) ?_
            simp only [Act.put, List.setIfInBounds_toArray, List.set_cons_zero, List.set_cons_succ]
            refine going_take (i := 6) (oi := { dst := some 65, op := Op.binOp BinOp.eql 9 (Operand.tmp 61) (Operand.tmp 64) 9, type := 4, pos := _, after := _, guard := none }) (v := _) rfl (by kernel_rfl) (by kernel_rfl) (by kernel_rfl) (fun _ _ _ h => h) (by rfl) (by intro w' hSw; go_simp; try with_reducible rfl) ?_
            simp only [Act.put, List.setIfInBounds_toArray, List.set_cons_zero, List.set_cons_succ]
            refine going_take (i := 7) (oi := { dst := some 66, op := Op.move (Operand.tmp 9), type := 4, pos := _, after := _, guard := none }) (v := _) rfl (by kernel_rfl) (by kernel_rfl) (by kernel_rfl) (fun _ _ _ h => h) (by rfl) (by intro w' hSw; go_simp; try with_reducible rfl) ?_
            simp only [Act.put, List.setIfInBounds_toArray, List.set_cons_zero, List.set_cons_succ]
            refine going_take (i := 8) (oi := { dst := some 67, op := Op.binOp BinOp.eql 4 (Operand.tmp 65) (Operand.tmp 66) 4, type := 4, pos := _, after := _, guard := none }) (v := _) rfl (by kernel_rfl) (by kernel_rfl) (by kernel_rfl) (fun _ _ _ h => h) (by rfl) (by intro w' hSw; go_simp; try with_reducible rfl) ?_
            simp only [Act.put, List.setIfInBounds_toArray, List.set_cons_zero, List.set_cons_succ]
            refine going_take (i := 9) (oi := { dst := some 68, op := Op.move (Operand.tmp 67), type := 4, pos := _, after := _, guard := none }) (v := _) rfl (by kernel_rfl) (by kernel_rfl) (by kernel_rfl) (fun _ _ _ h => h) (by rfl) (by intro w' hSw; go_simp; try with_reducible rfl) ?_
            simp only [Act.put, List.setIfInBounds_toArray, List.set_cons_zero, List.set_cons_succ]
            refine going_step (i := 10) (o := { dst := some 69, op := Op.call { callee := Callee.value (Operand.func 9), args := #[], argTypes := #[] }, type := 4, pos := _, after := _, guard := some (9, true) }) (by kernel_rfl) rfl (by rfl) (fun K hK => ?_)
            go_simp
            refine (lives_any _).mono ?_
            rintro e wd ⟨rfl, hb1⟩
            refine hK.out _ _ hb1 ?_
            replace HB := hide (HB.out.trans (hb1.mono HB.out.size))
            clear hb1
            clear hK K
            try simp only [Act.put, List.setIfInBounds_toArray, List.set_cons_zero, List.set_cons_succ]
            refine going_take (i := 11) (oi := { dst := some 70, op := Op.pick (Operand.tmp 68) (Operand.tmp 69) (Operand.const (Value.bool false)), type := 4, pos := _, after := _, guard := none }) (v := _) rfl (by kernel_rfl) (by kernel_rfl) (by kernel_rfl) (fun _ _ _ h => h) (by rfl) (by intro w' hSw; go_simp; try with_reducible rfl) ?_
            simp only [Act.put, List.setIfInBounds_toArray, List.set_cons_zero, List.set_cons_succ]
            refine going_take (i := 12) (oi := { dst := some 4, op := Op.assign (Operand.tmp 70), type := 4, pos := _, after := _, guard := none }) (v := _) rfl (by kernel_rfl) (by kernel_rfl) (by kernel_rfl) (fun _ _ _ h => h) (by rfl) (by intro w' hSw; go_simp; try with_reducible rfl) ?_
            simp only [Act.put, List.setIfInBounds_toArray, List.set_cons_zero, List.set_cons_succ]
            refine going_done (by kernel_rfl) ?_
            go_wp2
            go_ret
            exact ⟨rfl, HB.out⟩
  · have q0 : ((ss.length : Int) == (tt.length : Int)) = false := by simp; omega
    have q0' : ((ss.length : Int) != (tt.length : Int)) = true := by simp; omega
    go_wp2_with (go_at_call 9; refine (lives_any _).mono ?_; rintro e w' ⟨rfl, hlv⟩)
    go_ret
    exact ⟨rfl, HB2.out.trans (hlv.mono HB2.out.size)⟩
end Go.Proofs.Ytaichjkenfnkbaa
