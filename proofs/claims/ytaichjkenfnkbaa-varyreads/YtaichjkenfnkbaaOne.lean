/- What was read has just the bytes that are put of it: whatever bytes come in, the call VaryOne returns true and writes nothing that was there. -/
import Derived.Test.YtaichjkenfnkbaaBack
namespace Vary
theorem putS_sgn {n : Nat} (h : n ≤ maxNum) : putS (sgn (n : Int)) = put n ∧ -9223372036854775808 ≤ sgn (n : Int) ∧ sgn (n : Int) ≤ 9223372036854775807 := by
  unfold maxNum at h
  unfold sgn
  by_cases ho : (n : Int) % 2 = 1
  · rw [if_pos ho]
    refine ⟨?_, by omega, by omega⟩
    unfold putS
    rw [if_pos (by omega), if_pos (by omega)]
    congr 1
    omega
  · rw [if_neg ho]
    refine ⟨?_, by omega, by omega⟩
    unfold putS
    rw [if_pos (by omega), if_neg (by omega)]
    congr 1
    omega
theorem putI_nat {n : Nat} (h : n ≤ maxNum) : putI (n : Int) = put n := by
  unfold maxNum at h
  unfold putI; rw [if_pos (by omega)]; rfl
end Vary
namespace Go.Proofs.Ytaichjkenfnkbaa
open Go.RowKit Go.By
set_option linter.unusedVariables false
attribute [local go_sem ↓] Go.wp_at_zero Go.wp_at_succ

theorem slice_h (a : Option Addr) (n cap k : Nat) (h : k ≤ cap) (w : World) :
    (Instr.slice 22 (.slice a n cap) none (some (.int .i64 (k : Int))) none).run Try.prog w = .ok (.slice a k cap) w := by
  rw [run_slice_h w 22 a n cap (by exact Try.underlying22) .i64 k (by omega) (by omega)]
  have hs : (sizeOf (Try.prog.elem 22)).run Try.prog w = .ok 1 w := by kernel_rfl
  rw [hs]
  simp [Result.andThen, sliced]
  cases a with
  | none => simp
  | some x => simp [Addr.add]

theorem puts_at2 {f : Nat} {x : Value} {more : List Nat} {w : World} (h : Puts f none [] 0 x more w) :
    Calls Try.prog f #[.slice none 0 0, x] w fun e w' => ∃ v, e = .returned v ∧ Owns w' w.heap.size v more ∧ Below w.heap.size w w' := h

theorem Left_at (g : Nat) (l : List Nat) (ok : Bool) (z : Int) (w : World) (hR : Rd w g l ok) (hz : (l.length : Int) = z) :
    Calls Try.prog 24 #[.pointer (some ⟨g, 0, none⟩)] w fun e w' => e = .returned (.int .i64 z) ∧ w' = w := by
  subst hz; exact Left_any g l ok w hR

theorem Rd.turn {g h : Nat} {w w' : World} {l : List Nat} {ok : Bool} (hr : Rd w h l ok) (ht : Turn g w w') (hne : g ≠ h) : Rd w' h l ok :=
  (ht.1.block h (rd_lt hr) (by simpa using Ne.symm hne)).trans hr

set_option maxHeartbeats 4000000 in
set_option maxRecDepth 20000 in
theorem one_some (a : Option Addr) (l : List Nat) (n k cap : Nat) (w : World) (hL : Came w.heap.size w a l) (hcap : l.length ≤ cap) (hm : l.length ≤ 4000) (hnum : Vary.num l = some (n, k)) :
    Calls Try.prog 6 #[.slice a l.length cap] w fun e w' => e = .returned (.bool true) ∧ Below w.heap.size w w' := by
  have hback := Vary.num_back hL.1 hnum
  have hput := Vary.putI_nat hback.2.1
  have hsgn := Vary.putS_sgn hback.2.1
  rw [hback.1] at hput hsgn
  have hkl : k ≤ l.length := hback.2.2.2.2
  have hk9 : k ≤ 9 := hback.2.2.2.1
  have HP := hide hput
  have HS := hide hsgn.1
  have SB := hide hsgn.2
  have HNUM := hide hnum
  have HK : Hid ((l.take k).length = k) := by
    have : (l.take k).length = k := by rw [List.length_take]; omega
    exact this
  clear hback hput hsgn hnum
  have hsl := slice_h a l.length cap k (by omega)
  have hsub : (l.length : Int) - ((l.length : Int) - (k : Int)) = (k : Int) := by omega
  have HLD : Hid (((l.drop k).length : Int) = (l.length : Int) - (k : Int)) := by
    have : ((l.drop k).length : Int) = (l.length : Int) - (k : Int) := by rw [List.length_drop]; omega
    exact this
  have HL := hide hL
  have HLs : Hid (∀ c ∈ l, c < 256) := hL.1
  clear hL
  have hd : decide ((4000 : Int) < (l.length : Int)) = false := by simp; omega
  go_enter Try.func6, Try.ntmps6
  go_wp2_with fail
  refine (read_any a l l.length cap w rfl HL.out).mono ?_
  rintro e wr ⟨gr, rfl, hgr, hrd, hb⟩
  have HGR := hide hgr
  have GR := hide hrd
  have HB := hide hb
  clear hgr hrd hb
  go_wp2_with fail
  refine (read_any a l l.length cap wr rfl ((HL.out.below HB.out).mono HB.out.size)).mono ?_
  rintro e wq ⟨gq, rfl, hgq, hrd, hb⟩
  have HGQ : Hid (w.heap.size ≤ gq) := Nat.le_trans HB.out.size hgq
  have HNE : Hid (gr ≠ gq) := by
    have := rd_lt GR.out
    intro e
    subst e
    exact Nat.lt_irrefl _ (Nat.lt_of_lt_of_le this hgq)
  replace GR := hide (rd_below GR.out hb)
  have GQ := hide hrd
  replace HB := hide (HB.out.trans (hb.mono HB.out.size))
  clear hgq hrd hb
  go_wp2_with fail
  refine (Num_any gr l true wq GR.out HLs.out (by omega)).mono ?_
  rintro e wn ⟨z, rfl, hn⟩
  obtain ⟨ht, ⟨n', k', h1, rfl, hr⟩ | ⟨h1, -⟩⟩ := hn
  · rw [HNUM.out] at h1
    simp only [Option.some.injEq, Prod.mk.injEq] at h1
    obtain ⟨rfl, rfl⟩ := h1
    replace GQ := hide (GQ.out.turn ht HNE.out)
    replace GR := hide hr
    replace HB := hide (HB.out.trans (ht.below HGR.out HB.out.size))
    clear ht hr
    go_wp2_with (go_at_call 24; refine (Left_at gr (l.drop k) true _ _ GR.out HLD.out).mono ?_; rintro e wn ⟨rfl, hw⟩; subst hw)
    refine going_start (by kernel_rfl) ?_
    replace GR : Hid (Rd wn.drew gr (l.drop k) true) := GR
    replace GQ : Hid (Rd wn.drew gq (l) true) := GQ
    replace HB : Hid (Below w.heap.size w wn.drew) := HB.out.drew
    generalize wn.drew = wd at *
    refine going_take (i := 0) (oi := { dst := some 30, op := Op.move (Operand.tmp 3), type := 27, pos := _, after := _, guard := none }) (v := _) rfl (by kernel_rfl) (by kernel_rfl) (by kernel_rfl) (fun _ _ _ h => h) (by rfl) (by intro w' hSw; go_simp; try with_reducible rfl) ?_
    simp only [Act.put, List.setIfInBounds_toArray, List.set_cons_zero, List.set_cons_succ]
    refine going_step (i := 1) (o := { dst := some 31, op := Op.call { callee := Callee.value (Operand.func 23), args := #[Operand.tmp 30], argTypes := #[27] }, type := 4, pos := _, after := _, guard := none }) (by kernel_rfl) rfl (by rfl) (fun K hK => ?_)
    go_simp
    refine (Bad_any gr (l.drop k) true _ GR.out).mono ?_
    rintro e wd ⟨rfl, hw⟩
    subst hw
    refine hK.out _ _ (Below.refl _ _) ?_
    clear hK K
    try simp only [Act.put, List.setIfInBounds_toArray, List.set_cons_zero, List.set_cons_succ]
    refine going_take (i := 2) (oi := { dst := some 32, op := Op.unOp UnOp.not 4 (Operand.tmp 31), type := 4, pos := _, after := _, guard := none }) (v := _) rfl (by kernel_rfl) (by kernel_rfl) (by kernel_rfl) (fun _ _ _ h => h) (by rfl) (by intro w' hSw; go_simp; try with_reducible rfl) ?_
    simp only [Act.put, List.setIfInBounds_toArray, List.set_cons_zero, List.set_cons_succ]
    refine going_take (i := 3) (oi := { dst := some 33, op := Op.move (Operand.tmp 32), type := 4, pos := _, after := _, guard := none }) (v := _) rfl (by kernel_rfl) (by kernel_rfl) (by kernel_rfl) (fun _ _ _ h => h) (by rfl) (by intro w' hSw; go_simp; try with_reducible rfl) ?_
    simp only [Act.put, List.setIfInBounds_toArray, List.set_cons_zero, List.set_cons_succ]
    refine going_take (i := 4) (oi := { dst := some 34, op := Op.move (Operand.tmp 5), type := 3, pos := _, after := _, guard := some (3, true) }) (v := _) rfl (by kernel_rfl) (by kernel_rfl) (by kernel_rfl) (fun _ _ _ h => h) (by rfl) (by intro w' hSw; go_simp; try with_reducible rfl) ?_
    simp only [Act.put, List.setIfInBounds_toArray, List.set_cons_zero, List.set_cons_succ]
    refine going_take (i := 7) (oi := { dst := some 37, op := Op.move (Operand.tmp 0), type := 22, pos := _, after := _, guard := some (3, true) }) (v := _) rfl (by kernel_rfl) (by kernel_rfl) (by kernel_rfl) (fun _ _ _ h => h) (by rfl) (by intro w' hSw; go_simp; try with_reducible rfl) ?_
    simp only [Act.put, List.setIfInBounds_toArray, List.set_cons_zero, List.set_cons_succ]
    refine going_take (i := 8) (oi := { dst := some 38, op := Op.move (Operand.tmp 6), type := 3, pos := _, after := _, guard := some (3, true) }) (v := _) rfl (by kernel_rfl) (by kernel_rfl) (by kernel_rfl) (fun _ _ _ h => h) (by rfl) (by intro w' hSw; go_simp; try with_reducible rfl) ?_
    simp only [Act.put, List.setIfInBounds_toArray, List.set_cons_zero, List.set_cons_succ]
    refine going_take (i := 9) (oi := { dst := some 39, op := Op.slice 22 (Operand.tmp 37) none (some (Operand.tmp 38)) none, type := 22, pos := _, after := _, guard := some (3, true) }) (v := _) rfl (by kernel_rfl) (by kernel_rfl) (by kernel_rfl) (fun _ _ _ h => h) (by rfl) (by intro w' hSw; go_simp; try with_reducible rfl) ?_
    simp only [Act.put, List.setIfInBounds_toArray, List.set_cons_zero, List.set_cons_succ]
    refine going_take (i := 10) (oi := { dst := some 40, op := Op.convert 22 9 (Operand.tmp 39), type := 9, pos := _, after := _, guard := some (3, true) }) (v := _) rfl (by kernel_rfl) (by kernel_rfl) (by kernel_rfl) (fun _ _ _ h => h) (by rfl) (by intro w' hSw; have hq := run_str (P := Try.prog) 22 5 9 Try.underlying22 Try.underlying5 Try.underlying9 (((HL.out.below HB.out).take k).below (hSw.mono HB.out.size)).lies k cap HK.out; go_simp; try with_reducible rfl) ?_
    simp only [Act.put, List.setIfInBounds_toArray, List.set_cons_zero, List.set_cons_succ]
    refine going_step (i := 5) (o := { dst := some 35, op := Op.call { callee := Callee.value (Operand.func 10), args := #[Operand.const (Value.slice none 0 0), Operand.tmp 34], argTypes := #[22, 3] }, type := 22, pos := _, after := _, guard := some (3, true) }) (by kernel_rfl) rfl (by rfl) (fun K hK => ?_)
    go_simp
    refine (puts_at2 (put_any (n : Int) none [] 0 _ ⟨by simp, .inl rfl⟩ (fun _ => ⟨rfl, rfl⟩) (by simp))).mono ?_
    rintro e wd ⟨v1, rfl, hown1, hb1⟩
    refine hK.out _ _ hb1 ?_
    rw [HP.out] at hown1
    have hq5 := hide (says_owns hown1)
    replace GR := hide (rd_below GR.out hb1)
    replace GQ := hide (rd_below GQ.out hb1)
    replace HB := hide (HB.out.trans (hb1.mono HB.out.size))
    clear hown1 hb1
    clear hK K
    try simp only [Act.put, List.setIfInBounds_toArray, List.set_cons_zero, List.set_cons_succ]
    refine going_take (i := 6) (oi := { dst := some 36, op := Op.convert 22 9 (Operand.tmp 35), type := 9, pos := _, after := _, guard := some (3, true) }) (v := _) rfl (by kernel_rfl) (by kernel_rfl) (by kernel_rfl) (fun _ _ _ h => h) (by rfl) (by intro w' hSw; have hq := hq5.out w' hSw; go_simp; try with_reducible rfl) ?_
    simp only [Act.put, List.setIfInBounds_toArray, List.set_cons_zero, List.set_cons_succ]
    refine going_take (i := 11) (oi := { dst := some 41, op := Op.binOp BinOp.neq 9 (Operand.tmp 36) (Operand.tmp 40) 9, type := 4, pos := _, after := _, guard := some (3, true) }) (v := _) rfl (by kernel_rfl) (by kernel_rfl) (by kernel_rfl) (fun _ _ _ h => h) (by rfl) (by intro w' hSw; go_simp; try with_reducible rfl) ?_
    simp only [Act.put, List.setIfInBounds_toArray, List.set_cons_zero, List.set_cons_succ]
    refine going_take (i := 12) (oi := { dst := some 42, op := Op.pick (Operand.tmp 33) (Operand.tmp 41) (Operand.const (Value.bool false)), type := 4, pos := _, after := _, guard := none }) (v := _) rfl (by kernel_rfl) (by kernel_rfl) (by kernel_rfl) (fun _ _ _ h => h) (by rfl) (by intro w' hSw; go_simp; try with_reducible rfl) ?_
    simp only [Act.put, List.setIfInBounds_toArray, List.set_cons_zero, List.set_cons_succ]
    refine going_done (by kernel_rfl) ?_
    go_wp2_with fail
    refine (Signed_any gq l true wd GQ.out HLs.out (by omega)).mono ?_
    rintro e wm ⟨z, rfl, hn⟩
    obtain ⟨ht, ⟨n2, k2, h1, rfl, hr⟩ | ⟨h1, -⟩⟩ := hn
    · rw [HNUM.out] at h1
      simp only [Option.some.injEq, Prod.mk.injEq] at h1
      obtain ⟨rfl, rfl⟩ := h1
      replace GR := hide (GR.out.turn ht (Ne.symm HNE.out))
      replace GQ := hide hr
      replace HB := hide (HB.out.trans (ht.below HGQ.out HB.out.size))
      clear ht hr
      go_wp2_with (go_at_call 24; refine (Left_at gq (l.drop k) true _ _ GQ.out HLD.out).mono ?_; rintro e wm ⟨rfl, hw⟩; subst hw)
      refine going_start (by kernel_rfl) ?_
      replace GR : Hid (Rd wm.drew gr (l.drop k) true) := GR
      replace GQ : Hid (Rd wm.drew gq (l.drop k) true) := GQ
      replace HB : Hid (Below w.heap.size w wm.drew) := HB.out.drew
      generalize wm.drew = wd at *
      refine going_take (i := 0) (oi := { dst := some 50, op := Op.move (Operand.tmp 4), type := 27, pos := _, after := _, guard := none }) (v := _) rfl (by kernel_rfl) (by kernel_rfl) (by kernel_rfl) (fun _ _ _ h => h) (by rfl) (by intro w' hSw; go_simp; try with_reducible rfl) ?_
      simp only [Act.put, List.setIfInBounds_toArray, List.set_cons_zero, List.set_cons_succ]
      refine going_step (i := 1) (o := { dst := some 51, op := Op.call { callee := Callee.value (Operand.func 23), args := #[Operand.tmp 50], argTypes := #[27] }, type := 4, pos := _, after := _, guard := none }) (by kernel_rfl) rfl (by rfl) (fun K hK => ?_)
      go_simp
      refine (Bad_any gq (l.drop k) true _ GQ.out).mono ?_
      rintro e wd ⟨rfl, hw⟩
      subst hw
      refine hK.out _ _ (Below.refl _ _) ?_
      clear hK K
      try simp only [Act.put, List.setIfInBounds_toArray, List.set_cons_zero, List.set_cons_succ]
      refine going_take (i := 2) (oi := { dst := some 52, op := Op.move (Operand.tmp 51), type := 4, pos := _, after := _, guard := none }) (v := _) rfl (by kernel_rfl) (by kernel_rfl) (by kernel_rfl) (fun _ _ _ h => h) (by rfl) (by intro w' hSw; go_simp; try with_reducible rfl) ?_
      simp only [Act.put, List.setIfInBounds_toArray, List.set_cons_zero, List.set_cons_succ]
      refine going_take (i := 3) (oi := { dst := some 53, op := Op.move (Operand.tmp 7), type := 3, pos := _, after := _, guard := some (2, false) }) (v := _) rfl (by kernel_rfl) (by kernel_rfl) (by kernel_rfl) (fun _ _ _ h => h) (by rfl) (by intro w' hSw; go_simp; try with_reducible rfl) ?_
      simp only [Act.put, List.setIfInBounds_toArray, List.set_cons_zero, List.set_cons_succ]
      refine going_take (i := 6) (oi := { dst := some 56, op := Op.move (Operand.tmp 0), type := 22, pos := _, after := _, guard := some (2, false) }) (v := _) rfl (by kernel_rfl) (by kernel_rfl) (by kernel_rfl) (fun _ _ _ h => h) (by rfl) (by intro w' hSw; go_simp; try with_reducible rfl) ?_
      simp only [Act.put, List.setIfInBounds_toArray, List.set_cons_zero, List.set_cons_succ]
      refine going_take (i := 7) (oi := { dst := some 57, op := Op.move (Operand.tmp 8), type := 3, pos := _, after := _, guard := some (2, false) }) (v := _) rfl (by kernel_rfl) (by kernel_rfl) (by kernel_rfl) (fun _ _ _ h => h) (by rfl) (by intro w' hSw; go_simp; try with_reducible rfl) ?_
      simp only [Act.put, List.setIfInBounds_toArray, List.set_cons_zero, List.set_cons_succ]
      refine going_take (i := 8) (oi := { dst := some 58, op := Op.slice 22 (Operand.tmp 56) none (some (Operand.tmp 57)) none, type := 22, pos := _, after := _, guard := some (2, false) }) (v := _) rfl (by kernel_rfl) (by kernel_rfl) (by kernel_rfl) (fun _ _ _ h => h) (by rfl) (by intro w' hSw; go_simp; try with_reducible rfl) ?_
      simp only [Act.put, List.setIfInBounds_toArray, List.set_cons_zero, List.set_cons_succ]
      refine going_take (i := 9) (oi := { dst := some 59, op := Op.convert 22 9 (Operand.tmp 58), type := 9, pos := _, after := _, guard := some (2, false) }) (v := _) rfl (by kernel_rfl) (by kernel_rfl) (by kernel_rfl) (fun _ _ _ h => h) (by rfl) (by intro w' hSw; have hq := run_str (P := Try.prog) 22 5 9 Try.underlying22 Try.underlying5 Try.underlying9 (((HL.out.below HB.out).take k).below (hSw.mono HB.out.size)).lies k cap HK.out; go_simp; try with_reducible rfl) ?_
      simp only [Act.put, List.setIfInBounds_toArray, List.set_cons_zero, List.set_cons_succ]
      refine going_step (i := 4) (o := { dst := some 54, op := Op.call { callee := Callee.value (Operand.func 12), args := #[Operand.const (Value.slice none 0 0), Operand.tmp 53], argTypes := #[22, 3] }, type := 22, pos := _, after := _, guard := some (2, false) }) (by kernel_rfl) rfl (by rfl) (fun K hK => ?_)
      go_simp
      refine (puts_at2 (putS_any (Vary.sgn (n : Int)) none [] 0 _ ⟨by simp, .inl rfl⟩ (fun _ => ⟨rfl, rfl⟩) (by simp) SB.out.1 SB.out.2)).mono ?_
      rintro e wd ⟨v1, rfl, hown1, hb1⟩
      refine hK.out _ _ hb1 ?_
      rw [HS.out] at hown1
      have hq4 := hide (says_owns hown1)
      replace GR := hide (rd_below GR.out hb1)
      replace GQ := hide (rd_below GQ.out hb1)
      replace HB := hide (HB.out.trans (hb1.mono HB.out.size))
      clear hown1 hb1
      clear hK K
      try simp only [Act.put, List.setIfInBounds_toArray, List.set_cons_zero, List.set_cons_succ]
      refine going_take (i := 5) (oi := { dst := some 55, op := Op.convert 22 9 (Operand.tmp 54), type := 9, pos := _, after := _, guard := some (2, false) }) (v := _) rfl (by kernel_rfl) (by kernel_rfl) (by kernel_rfl) (fun _ _ _ h => h) (by rfl) (by intro w' hSw; have hq := hq4.out w' hSw; go_simp; try with_reducible rfl) ?_
      simp only [Act.put, List.setIfInBounds_toArray, List.set_cons_zero, List.set_cons_succ]
      refine going_take (i := 10) (oi := { dst := some 60, op := Op.binOp BinOp.eql 9 (Operand.tmp 55) (Operand.tmp 59) 9, type := 4, pos := _, after := _, guard := some (2, false) }) (v := _) rfl (by kernel_rfl) (by kernel_rfl) (by kernel_rfl) (fun _ _ _ h => h) (by rfl) (by intro w' hSw; go_simp; try with_reducible rfl) ?_
      simp only [Act.put, List.setIfInBounds_toArray, List.set_cons_zero, List.set_cons_succ]
      refine going_take (i := 11) (oi := { dst := some 61, op := Op.pick (Operand.tmp 52) (Operand.const (Value.bool true)) (Operand.tmp 60), type := 4, pos := _, after := _, guard := none }) (v := _) rfl (by kernel_rfl) (by kernel_rfl) (by kernel_rfl) (fun _ _ _ h => h) (by rfl) (by intro w' hSw; go_simp; try with_reducible rfl) ?_
      simp only [Act.put, List.setIfInBounds_toArray, List.set_cons_zero, List.set_cons_succ]
      refine going_take (i := 12) (oi := { dst := some 62, op := Op.move (Operand.tmp 61), type := 4, pos := _, after := _, guard := none }) (v := _) rfl (by kernel_rfl) (by kernel_rfl) (by kernel_rfl) (fun _ _ _ h => h) (by rfl) (by intro w' hSw; go_simp; try with_reducible rfl) ?_
      simp only [Act.put, List.setIfInBounds_toArray, List.set_cons_zero, List.set_cons_succ]
      refine going_take (i := 13) (oi := { dst := some 63, op := Op.move (Operand.tmp 4), type := 27, pos := _, after := _, guard := some (12, true) }) (v := _) rfl (by kernel_rfl) (by kernel_rfl) (by kernel_rfl) (fun _ _ _ h => h) (by rfl) (by intro w' hSw; go_simp; try with_reducible rfl) ?_
      simp only [Act.put, List.setIfInBounds_toArray, List.set_cons_zero, List.set_cons_succ]
      refine going_take (i := 15) (oi := { dst := some 65, op := Op.move (Operand.tmp 3), type := 27, pos := _, after := _, guard := some (12, true) }) (v := _) rfl (by kernel_rfl) (by kernel_rfl) (by kernel_rfl) (fun _ _ _ h => h) (by rfl) (by intro w' hSw; go_simp; try with_reducible rfl) ?_
      simp only [Act.put, List.setIfInBounds_toArray, List.set_cons_zero, List.set_cons_succ]
      refine going_step (i := 14) (o := { dst := some 64, op := Op.call { callee := Callee.value (Operand.func 23), args := #[Operand.tmp 63], argTypes := #[27] }, type := 4, pos := _, after := _, guard := some (12, true) }) (by kernel_rfl) rfl (by rfl) (fun K hK => ?_)
      go_simp
      refine (Bad_any gq (l.drop k) true _ GQ.out).mono ?_
      rintro e wd ⟨rfl, hw⟩
      subst hw
      refine hK.out _ _ (Below.refl _ _) ?_
      clear hK K
      try simp only [Act.put, List.setIfInBounds_toArray, List.set_cons_zero, List.set_cons_succ]
      refine going_step (i := 16) (o := { dst := some 66, op := Op.call { callee := Callee.value (Operand.func 23), args := #[Operand.tmp 65], argTypes := #[27] }, type := 4, pos := _, after := _, guard := some (12, true) }) (by kernel_rfl) rfl (by rfl) (fun K hK => ?_)
      go_simp
      refine (Bad_any gr (l.drop k) true _ GR.out).mono ?_
      rintro e wd ⟨rfl, hw⟩
      subst hw
      refine hK.out _ _ (Below.refl _ _) ?_
      clear hK K
      try simp only [Act.put, List.setIfInBounds_toArray, List.set_cons_zero, List.set_cons_succ]
      refine going_take (i := 17) (oi := { dst := some 67, op := Op.binOp BinOp.eql 4 (Operand.tmp 64) (Operand.tmp 66) 4, type := 4, pos := _, after := _, guard := some (12, true) }) (v := _) rfl (by kernel_rfl) (by kernel_rfl) (by kernel_rfl) (fun _ _ _ h => h) (by rfl) (by intro w' hSw; go_simp; try with_reducible rfl) ?_
      simp only [Act.put, List.setIfInBounds_toArray, List.set_cons_zero, List.set_cons_succ]
      refine going_take (i := 18) (oi := { dst := some 68, op := Op.pick (Operand.tmp 62) (Operand.tmp 67) (Operand.const (Value.bool false)), type := 4, pos := _, after := _, guard := none }) (v := _) rfl (by kernel_rfl) (by kernel_rfl) (by kernel_rfl) (fun _ _ _ h => h) (by rfl) (by intro w' hSw; go_simp; try with_reducible rfl) ?_
      simp only [Act.put, List.setIfInBounds_toArray, List.set_cons_zero, List.set_cons_succ]
      refine going_take (i := 19) (oi := { dst := some 69, op := Op.move (Operand.tmp 68), type := 4, pos := _, after := _, guard := none }) (v := _) rfl (by kernel_rfl) (by kernel_rfl) (by kernel_rfl) (fun _ _ _ h => h) (by rfl) (by intro w' hSw; go_simp; try with_reducible rfl) ?_
      simp only [Act.put, List.setIfInBounds_toArray, List.set_cons_zero, List.set_cons_succ]
      refine going_step (i := 20) (o := { dst := some 70, op := Op.call { callee := Callee.value (Operand.func 9), args := #[], argTypes := #[] }, type := 4, pos := _, after := _, guard := some (19, true) }) (by kernel_rfl) rfl (by rfl) (fun K hK => ?_)
      go_simp
      refine (lives_any _).mono ?_
      rintro e wd ⟨rfl, hb1⟩
      refine hK.out _ _ hb1 ?_
      replace HB := hide (HB.out.trans (hb1.mono HB.out.size))
      clear hb1
      clear hK K
      try simp only [Act.put, List.setIfInBounds_toArray, List.set_cons_zero, List.set_cons_succ]
      refine going_take (i := 21) (oi := { dst := some 71, op := Op.pick (Operand.tmp 69) (Operand.tmp 70) (Operand.const (Value.bool false)), type := 4, pos := _, after := _, guard := none }) (v := _) rfl (by kernel_rfl) (by kernel_rfl) (by kernel_rfl) (fun _ _ _ h => h) (by rfl) (by intro w' hSw; go_simp; try with_reducible rfl) ?_
      simp only [Act.put, List.setIfInBounds_toArray, List.set_cons_zero, List.set_cons_succ]
      refine going_take (i := 22) (oi := { dst := some 2, op := Op.assign (Operand.tmp 71), type := 4, pos := _, after := _, guard := none }) (v := _) rfl (by kernel_rfl) (by kernel_rfl) (by kernel_rfl) (fun _ _ _ h => h) (by rfl) (by intro w' hSw; go_simp; try with_reducible rfl) ?_
      simp only [Act.put, List.setIfInBounds_toArray, List.set_cons_zero, List.set_cons_succ]
      refine going_done (by kernel_rfl) ?_
      go_wp2
      go_ret
      exact ⟨rfl, HB.out⟩
    · rw [HNUM.out] at h1; cases h1
  · rw [HNUM.out] at h1; cases h1
end Go.Proofs.Ytaichjkenfnkbaa
