/- What is added ahead of each byte: walked. -/
import Derived.Test.YtecmiphmefbpnaaPM
namespace Go.Proofs.Ytecmiphmefbpnaa.E
open Go.Proofs.Ytecmiphmefbpnaa Go.RowKit Go.By Go.Shelf
set_option linter.unusedVariables false
set_option linter.unusedSimpArgs false

theorem ownsRow_set {w : World} {B : Nat} {E : TypeId} {k n cap i : Nat} {l : List Value} (h : w.ownsRow B E 1 (.slice (some ⟨k, 0, none⟩) n cap) n l) (x : Value) (hi : i < n) :
    (w.setCell ⟨k, i, none⟩ x).ownsRow B E 1 (.slice (some ⟨k, 0, none⟩) n cap) n (l.set i x) := by
  refine ⟨by simpa using h.1, ?_⟩
  rcases h.2 with ⟨h0, _⟩ | ⟨g, c, cur, hv, hb, hh, hn, hm, hs, ht⟩
  · cases h0
  · cases hv
    refine .inr ⟨k, cap, _, rfl, hb, heap_setCell hh x, hn, hm, by simpa using hs, ?_⟩
    rw [← ht]
    simp [List.take_set]

theorem sum_small {y x : ByteArray} (h1 : (y.size : Int) ≤ 16777216) (h2 : (x.size : Int) ≤ 16777216) : ¬ 9223372036854775807 < y.size + x.size := by omega
theorem wrap64_nat {n : Nat} (h : n ≤ 16777216) : wrap64 (n : Int) = (n : Int) := by unfold wrap64; omega
theorem bnd_nat {n m : Nat} (h : n < m) : (0 : Int) ≤ (n : Int) ∧ (n : Int) < (m : Int) := by omega
theorem wrap_sum {a b : Nat} (h : a + b ≤ 16777216) : IntKind.i64.wrap ((a : Int) + (b : Int)) = (a : Int) + (b : Int) := by rw [IntKind.wrap_i64]; omega
theorem lt_sum {j a b : Nat} (h : j < a + b) : (j : Int) < (a : Int) + (b : Int) := by omega
theorem nlt_sum {j a b : Nat} (h : j = a + b) : ¬ (j : Int) < (a : Int) + (b : Int) := by omega
theorem wrap_pred {m : Nat} (h : m ≤ 16777216) : IntKind.i64.wrap (((m + 1 : Nat) : Int) - 1) = (m : Int) := by rw [IntKind.wrap_i64]; omega
def bz : ByteArray := ⟨#[]⟩
/-- Texts that a call owns. -/
def OwnS (W : World) (B : Nat) (v : Value) (A : List ByteArray) : Prop := W.ownsRow B 9 1 v A.length (A.map Value.string)
theorem OwnS.form {W : World} {B m : Nat} {v : Value} {A : List ByteArray} (h : OwnS W B v A) (hm : A.length = m + 1) :
    ∃ g c, v = .slice (some ⟨g, 0, none⟩) (m + 1) c ∧ B ≤ g ∧ g < W.heap.size ∧ (∀ i, i < A.length → W.cell? ⟨g, i, none⟩ = some (.string (A.getD i bz))) ∧ ∀ i, W.frozen? ⟨g, i, none⟩ = false := by
  rcases h.2 with ⟨_, h0⟩ | ⟨g, cap', cur, hv, hb, hg, h1, h2, h3, h4⟩
  · omega
  · refine ⟨g, cap', by rw [hv, hm], hb, lt_of_heap hg, fun i hi => ?_, fun i => unfroz hg⟩
    have e : (A.map Value.string)[i]? = some (.string (A.getD i bz)) := by simp [List.getD, hi]
    rw [← h4, List.getElem?_take] at e
    split at e
    · rw [Joins.cell_of_block hg]; simpa using e
    · cases e
/-- Texts that lie there. -/
def TextsAt (n₀ : Nat) (W : World) (a : Option Addr) (A : List ByteArray) : Prop := ∃ g, a = some ⟨g, 0, none⟩ ∧ g < n₀ ∧ ∀ i, i < A.length → W.cell? ⟨g, i, none⟩ = some (.string (A.getD i bz))
theorem TextsAt.up {W W' : World} {a : Option Addr} {A : List ByteArray} (h : TextsAt W.heap.size W a A) (hb : Below W.heap.size W W') : TextsAt W'.heap.size W' a A :=
  let ⟨g, e, hl, hc⟩ := h
  ⟨g, e, Nat.lt_of_lt_of_le hl hb.size, fun i hi => (hb.cell (p := ⟨g, i, none⟩) hl).trans (hc i hi)⟩
theorem ownS_more {wr WA W0 : World} {B gg c1 : Nat} {v : Value} {A : List ByteArray} {x : ByteArray} (h : OwnS wr B v A) (hB : B ≤ wr.heap.size) (hb : Below B W0 wr)
    (hr : WA.ownsRow B 9 1 (.slice (some ⟨gg, 0, none⟩) (A.length + 1) c1) (A.length + 1) (A.map Value.string ++ [.string x])) (hg : (wr.alloc (.cells #[.string x] 9)).grownBy WA v.ownBlock) :
    OwnS WA B (.slice (some ⟨gg, 0, none⟩) (A.length + 1) c1) (A ++ [x]) ∧ Below B W0 WA := by
  refine ⟨?_, ?_⟩
  · show WA.ownsRow _ _ _ _ _ _
    rw [List.length_append, List.map_append]; exact hr
  · refine hb.trans ?_
    have h1 : Only (fun k => v.ownBlock = some k) wr WA := (Only.alloc _ wr _).trans (Only.grown hg fun k hk => hk)
    exact h1.below hB fun k hk => (ownBlock_lt h hk).1
theorem OwnS.some {W : World} {B : Nat} {v : Value} {A : List ByteArray} (h : OwnS W B v A) : ∃ a cap, v = .slice a A.length cap := by
  rcases h.2 with ⟨rfl, h0⟩ | ⟨g, cap, cur, rfl, _⟩
  · exact ⟨_, _, by rw [h0]⟩
  · exact ⟨_, _, rfl⟩
theorem OwnS.drew {W : World} {B : Nat} {v : Value} {A : List ByteArray} (h : OwnS W B v A) : OwnS W.drew B v A := ownsRow_same5 h fun k _ => rfl
theorem OwnS.drewN {W : World} {B : Nat} {v : Value} {A : List ByteArray} (h : OwnS W B v A) (n : Nat) : OwnS (W.drewN n) B v A := ownsRow_same5 h fun k _ => rfl
theorem below_drwN {B : Nat} {w X : World} (h : Below B w X) (n : Nat) : Below B w (X.drewN n) := ⟨h.os, h.tape, h.output, h.size, h.block⟩
theorem sizes_set (A : List ByteArray) (m : Nat) (y : ByteArray) : (A.set m y).map (·.size) = (A.map (·.size)).set m y.size := by rw [List.map_set]

set_option maxRecDepth 20000 in
set_option maxHeartbeats 8000000 in
theorem adds_any (a : Option Addr) (cap : Nat) (rs : List Rn) (w : World) (hS : CameR w.heap.size w a rs) (hK : ∀ x ∈ rs, kind x ≠ 0) (hl : rs.length ≤ 1000000) (hI : sI rs ≤ 16777216) (hO : sO rs ≤ 16777216) :
    Calls Try.prog 19 #[.slice a rs.length cap] w fun e W' => ∃ da dc A, e = .returned (.slice da A.length dc) ∧ A.map (·.size) = aT (expand rs) ∧ TextsAt W'.heap.size W' da A ∧ Below w.heap.size w W' := by
  obtain ⟨i0, hi, hz0, hz1, hz2⟩ := info_parts (show (Try.prog.info? 9).map (fun i => (i.zero, i.size, i.bytes)) = some (some (.string ⟨#[]⟩), 1, 16) by kernel_rfl)
  have HS := hide hS
  have HK := hide hK
  have HSM : Hid (sI rs ≤ 16777216 ∧ sO rs ≤ 16777216) := hide ⟨hI, hO⟩
  have hn := World.alloc_heap_new w (.cells #[.string ⟨#[]⟩] 9)
  have h0 : OwnS (w.alloc (.cells #[.string ⟨#[]⟩] 9)) w.heap.size (.slice (some ⟨w.heap.size, 0, none⟩) 1 1) [bz] := ⟨rfl, .inr ⟨w.heap.size, 1, _, rfl, Nat.le_refl _, hn, Nat.le_refl _, by decide, rfl, rfl⟩⟩
  have H0 := hide (And.intro h0 ((Below.refl _ w).alloc (Nat.le_refl _) (.cells #[.string ⟨#[]⟩] 9)))
  clear hS hK hI hO hn h0
  go_enter Try.func19, Try.ntmps19
  go_wp2
  go_loopw [3, 4] (fun v i wr => ∃ k : Nat, i = .int .i64 (k : Int) ∧ k ≤ rs.length ∧ Hid (∃ A : List ByteArray, A.map (·.size) = aT (expand (rs.take k)) ∧ OwnS wr w.heap.size v A ∧ Below w.heap.size w wr)) (fun _ i _ => rs.length - (intOf i).toNat)
  case atStart => exact ⟨0, rfl, by omega, hide ⟨[bz], rfl, H0.out.1, H0.out.2⟩⟩
  case round =>
    obtain ⟨k, rfl, hk, HI⟩ := hrel
    obtain ⟨A, hA, hOw, hBw⟩ := HI.out
    have hAl : A.length = tIn (expand (rs.take k)) + 1 := by rw [← aT_len, ← hA, List.length_map]
    obtain ⟨m, hm⟩ : ∃ m, m = tIn (expand (rs.take k)) := ⟨_, rfl⟩
    rw [← hm] at hAl
    obtain ⟨g, c, rfl, hgB, hgl, hcell, hfz⟩ := hOw.form hAl
    clear HI
    by_cases hlt : k < rs.length
    · have hlt' : (k : Int) < (rs.length : Int) := by omega
      obtain ⟨b, off, rfl, s0, s1, s2⟩ := came_at (HS.out.below hBw) hlt
      have hkx := kind_getD HK.out hlt
      obtain ⟨f1, f2, -, -⟩ := kind_facts hkx
      have hst := sI_up HK.out (show k + 1 ≤ rs.length from hlt)
      rw [List.take_length] at hst
      have HN : Hid (aT (expand (rs.take (k + 1))) = (aT (expand (rs.take k))).set m ((aT (expand (rs.take k))).getD m 0 + (rs.getD k rn0).add.size) ++ List.replicate ((rs.getD k rn0).keep.toNat + (rs.getD k rn0).drop.toNat) 0) := hide (by rw [expand_take hlt, aT_toks hkx, hm])
      have hlen : (m : Int) + ((rs.getD k rn0).keep + (rs.getD k rn0).drop) ≤ 16777216 := by
        rw [hm, ← (sI_take HK.out k).1]
        have e : sI (rs.take (k + 1)) = sI (rs.take k) + ((rs.getD k rn0).keep + (rs.getD k rn0).drop) := by
          rw [List.take_succ_eq_append_getElem hlt, sI_snoc]; simp [List.getD, hlt]
        have := HSM.out.1
        omega
      have hysz : ((A.getD m bz).size : Int) ≤ 16777216 := by
        have e1 : (A.map (·.size)).getD m 0 = (A.getD m bz).size := by simp [List.getD, hAl]
        have e2 := aT_le (expand (rs.take k)) m
        rw [← hA, e1] at e2
        have e3 := (sums_take HK.out k).2.2
        rw [(sI_take HK.out k).2] at e3
        have := HSM.out.2
        omega
      have hxsz : ((rs.getD k rn0).add.size : Int) ≤ 16777216 := by
        have e3 := (sums_take HK.out (k + 1)).2.2
        have e4 := (sums_take HK.out k).2.1
        rw [List.take_succ_eq_append_getElem hlt, show rs[k] = rs.getD k rn0 by simp [List.getD, hlt], sO_snoc] at e3
        have := HSM.out.2
        omega
      have hszA : (A.map (·.size)).getD m 0 = (A.getD m bz).size := by simp [List.getD, hAl]
      have HC : Hid (∀ W, Below w.heap.size w W → W.cell? ⟨b, off + k * 3, none⟩ = some (.int .i64 (rs.getD k rn0).keep) ∧ W.cell? ⟨b, off + k * 3 + 2, none⟩ = some (.int .i64 (rs.getD k rn0).drop)) := hide fun W hW => by
        obtain ⟨b', off', e, q0, q1, q2⟩ := came_at (HS.out.below hW) hlt
        cases e
        exact ⟨q0, q2⟩
      generalize rs.getD k rn0 = x at *
      obtain ⟨xk, xa, xd⟩ := x
      dsimp only at s0 s1 s2 f1 f2 HN hlen HC hxsz
      obtain ⟨kN, rfl⟩ := Int.eq_ofNat_of_zero_le f1
      obtain ⟨dN, rfl⟩ := Int.eq_ofNat_of_zero_le f2
      rw [Int.toNat_natCast, Int.toNat_natCast] at HN
      obtain ⟨y, hy⟩ : ∃ y, y = A.getD m bz := ⟨_, rfl⟩
      have cy := hcell m (by omega)
      have fy := hfz m
      rw [← hy] at cy hysz hszA
      have HSZ : Hid (aT (expand (rs.take (k + 1))) = (A.map (·.size)).set m (y.size + xa.size) ++ List.replicate (kN + dN) 0) := hide (by rw [HN.out, ← hA, hszA])
      have HSW : Hid (wr.drew.cell? ⟨g, m, none⟩ = some (.string y) ∧ wr.drew.cell? ⟨b, off + k * 3 + 1, none⟩ = some (.string xa)) := hide ⟨cy, s1⟩
      have fyd : wr.drew.frozen? ⟨g, m, none⟩ = false := fy
      have cyd : wr.drew.cell? ⟨g, m, none⟩ = some (.string y) := cy
      have hsum := sum_small hysz hxsz
      have hm16 : m ≤ 16777216 := by omega
      have hk16 : k ≤ 16777216 := by omega
      have hkd16 : kN + dN ≤ 16777216 := by omega
      have hmkd : m + (kN + dN) ≤ 16777216 := by omega
      have w1 : IntKind.i64.wrap (((m + 1 : Nat) : Int) - 1) = (m : Int) := wrap_pred hm16
      have w2 : IntKind.i64.wrap ((kN : Int) + (dN : Int)) = (kN : Int) + (dN : Int) := wrap_sum hkd16
      have hmm : (m : Int) < ((m + 1 : Nat) : Int) := (bnd_nat (Nat.lt_succ_self m)).2
      have w3 := wrap64_nat hm16
      have w4 := wrap64_nat hk16
      have hm0 : (0 : Int) ≤ (m : Int) ∧ (m : Int) < (m : Int) + 1 := bnd_nat (m := m + 1) (Nat.lt_succ_self m)
      have hk0 : (0 : Int) ≤ (k : Int) ∧ (k : Int) < (rs.length : Int) := bnd_nat hlt
      have HL2 : Hid (A.length = m + 1 ∧ m + (kN + dN) ≤ 16777216) := hide ⟨hAl, hmkd⟩
      have HOW := hide (And.intro (ownsRow_set (hAl ▸ hOw : wr.ownsRow w.heap.size 9 1 (.slice (some ⟨g, 0, none⟩) (m + 1) c) (m + 1) (A.map Value.string)) (.string (y ++ xa)) (Nat.lt_succ_self m)) (hBw.setCell (p := ⟨g, m, none⟩) hgB (.string (y ++ xa))))
      clear hkx hst s0 s2 f1 f2 hA hOw hBw hAl hcell hfz hm HN hlen hysz hxsz hszA hy cy fy s1 hgB
      go_wp2_with fail
      refine heldC_startP 1 (S := fun w' => w'.cell? ⟨g, m, none⟩ = some (.string y) ∧ w'.cell? ⟨b, off + k * 3 + 1, none⟩ = some (.string xa)) (L := #[true, true, true, true, true, true, true, true, true, true, true, true, true, false]) (fuel := 13) (by kernel_rfl) (by kernel_rfl) ?_
      refine heldC_take (i := 0) (oi := { dst := some 17, op := Op.move (Operand.tmp 3), type := 43, pos := _, after := _, guard := none }) (v := _) rfl (by kernel_rfl) (by kernel_rfl) (by kernel_rfl) (fun _ _ _ h => h) (by rfl) (by intro w' hSw; go_simp; try with_reducible rfl) HSW.out (by kernel_rfl) ?_
      simp only [Act.put, List.setIfInBounds_toArray, List.set_cons_zero, List.set_cons_succ]
      refine heldC_take (i := 1) (oi := { dst := some 18, op := Op.move (Operand.tmp 5), type := 3, pos := _, after := _, guard := none }) (v := _) rfl (by kernel_rfl) (by kernel_rfl) (by kernel_rfl) (fun _ _ _ h => h) (by rfl) (by intro w' hSw; go_simp; try with_reducible rfl) HSW.out (by kernel_rfl) ?_
      simp only [Act.put, List.setIfInBounds_toArray, List.set_cons_zero, List.set_cons_succ]
      refine heldC_take (i := 2) (oi := { dst := some 19, op := Op.move (Operand.tmp 3), type := 43, pos := _, after := _, guard := none }) (v := _) rfl (by kernel_rfl) (by kernel_rfl) (by kernel_rfl) (fun _ _ _ h => h) (by rfl) (by intro w' hSw; go_simp; try with_reducible rfl) HSW.out (by kernel_rfl) ?_
      simp only [Act.put, List.setIfInBounds_toArray, List.set_cons_zero, List.set_cons_succ]
      refine heldC_take (i := 3) (oi := { dst := some 20, op := Op.move (Operand.tmp 5), type := 3, pos := _, after := _, guard := none }) (v := _) rfl (by kernel_rfl) (by kernel_rfl) (by kernel_rfl) (fun _ _ _ h => h) (by rfl) (by intro w' hSw; go_simp; try with_reducible rfl) HSW.out (by kernel_rfl) ?_
      simp only [Act.put, List.setIfInBounds_toArray, List.set_cons_zero, List.set_cons_succ]
      refine heldC_take (i := 4) (oi := { dst := some 21, op := Op.indexAddr 43 (Operand.tmp 19) (Operand.tmp 20), type := 0, pos := _, after := _, guard := none }) (v := _) rfl (by kernel_rfl) (by kernel_rfl) (by kernel_rfl) (fun _ _ _ h => h) (by rfl) (by intro w' hSw; go_simp; try with_reducible rfl) HSW.out (by kernel_rfl) ?_
      simp only [Act.put, List.setIfInBounds_toArray, List.set_cons_zero, List.set_cons_succ]
      refine heldC_take (i := 5) (oi := { dst := some 22, op := Op.load 9 (Operand.tmp 21), type := 9, pos := _, after := _, guard := none }) (v := _) rfl (by kernel_rfl) (by kernel_rfl) (by kernel_rfl) (fun _ _ _ h => h) (by rfl) (by intro w' hSw; obtain ⟨r0, r1⟩ := hSw; go_simp; try with_reducible rfl) HSW.out (by kernel_rfl) ?_
      simp only [Act.put, List.setIfInBounds_toArray, List.set_cons_zero, List.set_cons_succ]
      refine heldC_take (i := 6) (oi := { dst := some 23, op := Op.move (Operand.tmp 0), type := 22, pos := _, after := _, guard := none }) (v := _) rfl (by kernel_rfl) (by kernel_rfl) (by kernel_rfl) (fun _ _ _ h => h) (by rfl) (by intro w' hSw; go_simp; try with_reducible rfl) HSW.out (by kernel_rfl) ?_
      simp only [Act.put, List.setIfInBounds_toArray, List.set_cons_zero, List.set_cons_succ]
      refine heldC_take (i := 7) (oi := { dst := some 24, op := Op.move (Operand.tmp 4), type := 3, pos := _, after := _, guard := none }) (v := _) rfl (by kernel_rfl) (by kernel_rfl) (by kernel_rfl) (fun _ _ _ h => h) (by rfl) (by intro w' hSw; go_simp; try with_reducible rfl) HSW.out (by kernel_rfl) ?_
      simp only [Act.put, List.setIfInBounds_toArray, List.set_cons_zero, List.set_cons_succ]
      refine heldC_take (i := 8) (oi := { dst := some 25, op := Op.indexAddr 22 (Operand.tmp 23) (Operand.tmp 24), type := 0, pos := _, after := _, guard := none }) (v := _) rfl (by kernel_rfl) (by kernel_rfl) (by kernel_rfl) (fun _ _ _ h => h) (by rfl) (by intro w' hSw; go_simp; try with_reducible rfl) HSW.out (by kernel_rfl) ?_
      simp only [Act.put, List.setIfInBounds_toArray, List.set_cons_zero, List.set_cons_succ]
      refine heldC_take (i := 9) (oi := { dst := some 26, op := Op.fieldAddr 51 (Operand.tmp 25) 1, type := 0, pos := _, after := _, guard := none }) (v := _) rfl (by kernel_rfl) (by kernel_rfl) (by kernel_rfl) (fun _ _ _ h => h) (by rfl) (by intro w' hSw; go_simp; try with_reducible rfl) HSW.out (by kernel_rfl) ?_
      simp only [Act.put, List.setIfInBounds_toArray, List.set_cons_zero, List.set_cons_succ]
      refine heldC_take (i := 10) (oi := { dst := some 27, op := Op.load 9 (Operand.tmp 26), type := 9, pos := _, after := _, guard := none }) (v := _) rfl (by kernel_rfl) (by kernel_rfl) (by kernel_rfl) (fun _ _ _ h => h) (by rfl) (by intro w' hSw; obtain ⟨r0, r1⟩ := hSw; go_simp; try with_reducible rfl) HSW.out (by kernel_rfl) ?_
      simp only [Act.put, List.setIfInBounds_toArray, List.set_cons_zero, List.set_cons_succ]
      refine heldC_take (i := 11) (oi := { dst := some 28, op := Op.binOp BinOp.add 9 (Operand.tmp 22) (Operand.tmp 27) 9, type := 9, pos := _, after := _, guard := none }) (v := _) rfl (by kernel_rfl) (by kernel_rfl) (by kernel_rfl) (fun _ _ _ h => h) (by rfl) (by intro w' hSw; go_simp; try with_reducible rfl) HSW.out (by kernel_rfl) ?_
      simp only [Act.put, List.setIfInBounds_toArray, List.set_cons_zero, List.set_cons_succ]
      refine heldC_take (i := 12) (oi := { dst := some 29, op := Op.indexAddr 43 (Operand.tmp 17) (Operand.tmp 18), type := 0, pos := _, after := _, guard := none }) (v := _) rfl (by kernel_rfl) (by kernel_rfl) (by kernel_rfl) (fun _ _ _ h => h) (by rfl) (by intro w' hSw; go_simp; try with_reducible rfl) HSW.out (by kernel_rfl) ?_
      simp only [Act.put, List.setIfInBounds_toArray, List.set_cons_zero, List.set_cons_succ]
      refine heldC_cut (by kernel_rfl) HSW.out ?_
      refine any_next (i := 13) (o := { dst := none, op := Op.store 9 (Operand.tmp 29) (Operand.tmp 28), type := 0, pos := _, after := _, guard := none }) (by kernel_rfl) rfl (by rfl) ?_
      go_simp
      refine ⟨by kernel_rfl, ?_⟩
      clear HSW fyd cyd hsum w1 w3 w4 hm0 hk0 hmm
      obtain ⟨A2, hA2⟩ : ∃ A2, A2 = A.set m (y ++ xa) := ⟨_, rfl⟩
      obtain ⟨Z, hZ⟩ : ∃ Z, Z = (wr.setCell ⟨g, m, none⟩ (.string (y ++ xa))).drew := ⟨_, rfl⟩
      have hl2 : A2.length = m + 1 := by rw [hA2, List.length_set]; exact HL2.out.1
      have HOZ : Hid (OwnS Z w.heap.size (.slice (some ⟨g, 0, none⟩) (m + 1) c) A2 ∧ Below w.heap.size w Z) := hide (by
        rw [hZ]
        refine ⟨OwnS.drew ?_, below_drw HOW.out.2⟩
        have := HOW.out.1
        rw [← List.map_set, ← hA2] at this
        unfold OwnS; rw [hl2]; exact this)
      rw [← hZ]
      have HA2 := hide (And.intro hA2 hl2)
      clear hZ hA2 hl2 HOW
      go_wp2
      go_loopw [3, 6] (fun v j wr2 => ∃ j' : Nat, j = .int .i64 (j' : Int) ∧ j' ≤ kN + dN ∧ Hid (OwnS wr2 w.heap.size v (A2 ++ List.replicate j' bz) ∧ Below w.heap.size w wr2)) (fun _ j _ => kN + dN - (intOf j).toNat)
      case atStart => exact ⟨0, rfl, by omega, hide ⟨by simpa using HOZ.out.1, HOZ.out.2⟩⟩
      case round =>
        obtain ⟨j, rfl, hj, HJ⟩ := hrel
        obtain ⟨E, hE⟩ : ∃ E, E = A2 ++ List.replicate j bz := ⟨_, rfl⟩
        rw [← hE] at HJ
        have HE : Hid (E = A2 ++ List.replicate j bz ∧ E.length = m + 1 + j) := hide ⟨hE, by rw [hE, List.length_append, List.length_replicate, HA2.out.2]⟩
        clear hE
        obtain ⟨ua, uc, rfl⟩ := HJ.out.1.some
        obtain ⟨q0, q2⟩ := HC.out _ (below_drw HJ.out.2)
        obtain ⟨p0, p2⟩ := HC.out _ HJ.out.2
        by_cases hjl : j < kN + dN
        · have hjl' := lt_sum hjl
          have HLEN : Hid (E.length + 1 ≤ 16777300) := hide (by rw [HE.out.2]; have := HL2.out.2; omega)
          have HJL := hide hjl
          clear hjl hj
          go_wp2_with fail
          go_quiet (fail)
          obtain ⟨Y, hY⟩ : ∃ Y, Y = wr.drewN nq := ⟨_, rfl⟩
          have HJD : Hid (OwnS Y w.heap.size (.slice ua E.length uc) E ∧ Below w.heap.size w Y) := hide (by rw [hY]; exact ⟨HJ.out.1.drewN _, below_drwN HJ.out.2 _⟩)
          rw [← hY]
          clear hY HJ
          have hnews : ∀ (W : World) i u, [Value.string ⟨#[]⟩][i]? = some u → (W.alloc (.cells #[.string ⟨#[]⟩] 9)).cell? ((⟨W.heap.size, 0, none⟩ : Addr).add i) = some u := fun W i u hu => World.news_of_block (cs := #[.string ⟨#[]⟩]) (World.alloc_heap_new W _) i u hu
          have hown : (Y.alloc (.cells #[.string ⟨#[]⟩] 9)).ownsRow w.heap.size 9 1 (.slice ua E.length uc) E.length (E.map Value.string) := World.ownsRow.alloc HJD.out.1 _
          have HX := hide (And.intro hown (hnews Y))
          clear hown hnews
          go_wp2_with (at_builtin; refine wpList_append_lies _ rfl (.tmp 45) (.tmp 46) 43 rfl w.heap.size 9 i0 (.string ⟨#[]⟩) 1 16 Try.underlying43 hi hz0 hz1 hz2 rfl (by decide) (.slice ua E.length uc) E.length (E.map Value.string) rfl HX.out.1 ⟨Y.heap.size, 0, none⟩ 1 1 [.string ⟨#[]⟩] rfl rfl HX.out.2 (by simp [Value.oneCell']) (by decide) (by have := HLEN.out; unfold maxLen; omega) (by have := HLEN.out; omega) (by have := HJD.out.2.size; simp; omega) (Y.heap.size + 1) (by simp) ?_; intro gg c1 WA hr hgr hat hltA; have HQ := hide (ownS_more HJD.out.1 HJD.out.2.size HJD.out.2 hr hgr); clear hr hgr hat hltA)
          go_roundw
          case rel => exact ⟨j + 1, by go_num, HJL.out, hide ⟨by have h := HQ.out.1; rw [show A2 ++ List.replicate (j + 1) bz = E ++ [bz] by rw [HE.out.1, List.append_assoc, ← List.replicate_succ']]; exact h, HQ.out.2⟩⟩
          case measure => simp [intOf]; have := HJL.out; omega
        · have hje : j = kN + dN := by omega
          have hjl' := nlt_sum hje
          have HJE := hide hje
          clear hjl hje hj
          go_wp2_with fail
          go_quiet (fail)
          go_wp2
          go_roundw
          case rel => exact ⟨k + 1, by go_num, hlt, hide ⟨E, by rw [HSZ.out, HE.out.1, HA2.out.1, List.map_append, List.map_set, List.map_replicate, HJE.out, ByteArray.size_append]; rfl, HJ.out.1.drewN _, below_drwN HJ.out.2 _⟩⟩
          case measure => simp [intOf]; omega
    · obtain rfl : k = rs.length := by omega
      have HEQ : Hid (rs.take rs.length = rs) := hide List.take_length
      have HR : Hid (A.map (·.size) = aT (expand (rs.take rs.length)) ∧ TextsAt wr.heap.size wr (some ⟨g, 0, none⟩) A ∧ Below w.heap.size w wr ∧ A.length = m + 1) := hide ⟨hA, ⟨g, rfl, hgl, hcell⟩, hBw, hAl⟩
      clear hA hOw hBw hAl hcell hfz hm
      go_wp2
      go_ret
      refine ⟨_, c, A, ?_, ?_, HR.out.2.1, HR.out.2.2.1⟩
      · rw [HR.out.2.2.2]; rfl
      · rw [HR.out.1, HEQ.out]

end Go.Proofs.Ytecmiphmefbpnaa.E
