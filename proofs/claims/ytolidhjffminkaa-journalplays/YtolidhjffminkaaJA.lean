/- journal: its own numbers. -/
import Derived.Test.YtolidhjffminkaaStrA
import Derived.Test.YtolidhjffminkaaDraw
import Derived.Test.YtolidhjffminkaaX6
import Derived.RangeFuncRecord
namespace Go.Proofs.Ytolidhjffminkaa.J
open Go.Proofs.Ytolidhjffminkaa Go.RowKit Go.By
set_option linter.unusedVariables false
set_option linter.unusedSimpArgs false
attribute [local go_sem ↓] Go.wp_at_zero Go.wp_at_succ

/-- A journal at block j: its ring at g keeps at most 'most' texts, and these are xs; 'base' are kept no more. -/
def JIs (w : World) (B j g most : Nat) (r : Option Nat) (base : Nat) (xs : List Value) : Prop :=
  B ≤ j ∧ w.heap[j]? = some (.cells #[.pointer (some ⟨g, 0, none⟩), .int .i64 (base : Int)] 51 (0, 0)) ∧ RingIs 60 9 w B g most r xs
theorem JIs.cells {w : World} {B j g most : Nat} {r : Option Nat} {base : Nat} {xs : List Value} (h : JIs w B j g most r base xs) : w.cell? ⟨j, 0, none⟩ = some (.pointer (some ⟨g, 0, none⟩)) ∧ w.cell? ⟨j, 1, none⟩ = some (.int .i64 (base : Int)) :=
  ⟨by rw [Joins.cell_of_block h.2.1]; rfl, by rw [Joins.cell_of_block h.2.1]; rfl⟩
theorem JIs.apart {w : World} {B j g most : Nat} {r : Option Nat} {base : Nat} {xs : List Value} (h : JIs w B j g most r base xs) : j ≠ g ∧ some j ≠ r := by
  obtain ⟨_, h1, h2, v, f, junk, h3, h4, _, _, h5, _⟩ := h
  refine ⟨fun e => ?_, ?_⟩
  · subst e; rw [h1] at h3; simp at h3
  · rw [← h5]; exact ownBlock_ne h4 h1 (by decide)
theorem JIs.lt {w : World} {B j g most : Nat} {r : Option Nat} {base : Nat} {xs : List Value} (h : JIs w B j g most r base xs) : j < w.heap.size := lt_of_heap h.2.1
/-- What a call turned of a journal. -/
def TurnJ (j g : Nat) (r r' : Option Nat) (w w' : World) : Prop := Only (fun k => k = j ∨ k = g ∨ some k = r) w w' ∧ (r' = r ∨ ∃ k, r' = some k ∧ w.heap.size ≤ k)
theorem TurnJ.refl (j g : Nat) (r : Option Nat) (w : World) : TurnJ j g r r w w := ⟨Only.refl _ w, .inl rfl⟩
theorem TurnJ.drewN (j g : Nat) (r : Option Nat) (w : World) (q : Nat) : TurnJ j g r r w (w.drewN q) := ⟨Only.drewN _ w q, .inl rfl⟩
theorem TurnJ.of {j g : Nat} {r r' : Option Nat} {w w' : World} (h : Turned g r r' w w') : TurnJ j g r r' w w' := ⟨h.1.mono fun i _ hi => .inr hi, h.2⟩
theorem TurnJ.trans {j g : Nat} {r r1 r2 : Option Nat} {w w1 w2 : World} (h : TurnJ j g r r1 w w1) (k : TurnJ j g r1 r2 w1 w2) : TurnJ j g r r2 w w2 := by
  refine ⟨h.1.then k.1 fun i hi hs => ?_, ?_⟩
  · rcases hs with e | e | e
    · exact .inl e
    · exact .inr (.inl e)
    · rcases h.2 with h2 | ⟨k1, h2, h3⟩
      · exact .inr (.inr (by rw [e, h2]))
      · rw [h2] at e; cases e; omega
  · rcases k.2 with k2 | ⟨k1, k2, k3⟩
    · rw [k2]; exact h.2
    · exact .inr ⟨k1, k2, Nat.le_trans h.1.size k3⟩
theorem TurnJ.below {B j g : Nat} {r r' : Option Nat} {w w' : World} (h : TurnJ j g r r' w w') (hB : B ≤ w.heap.size) (hj : B ≤ j) (hg : B ≤ g) (hr : ∀ k, r = some k → B ≤ k) : Below B w w' :=
  h.1.below hB fun i hi => by
    rcases hi with rfl | rfl | e
    · exact hj
    · exact hg
    · exact hr i e.symm
theorem JIs.turned {w w' : World} {B j g most : Nat} {r r' : Option Nat} {base : Nat} {xs ys : List Value} (h : JIs w B j g most r base xs) (hr : RingIs 60 9 w' B g most r' ys) (ht : Turned g r r' w w') : JIs w' B j g most r' base ys := by
  refine ⟨h.1, (ht.1.block j h.lt fun hs => ?_).trans h.2.1, hr⟩
  rcases hs with e | e
  · exact h.apart.1 e
  · exact h.apart.2 e
theorem JIs.drewN {w : World} {B j g most : Nat} {r : Option Nat} {base : Nat} {xs : List Value} (h : JIs w B j g most r base xs) (q : Nat) : JIs (w.drewN q) B j g most r base xs := h
theorem below_drewN {B : Nat} {w X : World} (h : Below B w X) (q : Nat) : Below B w (X.drewN q) := ⟨h.os, h.tape, h.output, h.size, h.block⟩

theorem none_j {w : World} {B j g most : Nat} {r : Option Nat} {base : Nat} {xs : List Value} (h : JIs w B j g most r base xs) : Calls Try.prog 19 #[.pointer (some ⟨j, 0, none⟩)] w fun e W' => e = .returned (.bool false) ∧ W' = w := by
  obtain ⟨c0, c1⟩ := h.cells
  clear h
  go_enter Try.func19, Try.ntmps19
  go_wp2
  go_ret
  exact ⟨rfl, rfl⟩
theorem none_nil (w : World) : Calls Try.prog 19 #[.pointer none] w fun e W' => e = .returned (.bool true) ∧ W' = w := by
  go_enter Try.func19, Try.ntmps19
  go_wp2
  go_ret
  exact ⟨rfl, rfl⟩
theorem none_zero (j : Nat) (w : World) (h : w.heap[j]? = some (.cells #[.pointer none, .int .i64 0] 51 (0, 0))) : Calls Try.prog 19 #[.pointer (some ⟨j, 0, none⟩)] w fun e W' => e = .returned (.bool true) ∧ W' = w := by
  have c0 : w.cell? ⟨j, 0, none⟩ = some (.pointer none) := by rw [Joins.cell_of_block h]; rfl
  clear h
  go_enter Try.func19, Try.ntmps19
  go_wp2
  go_ret
  exact ⟨rfl, rfl⟩
theorem base_j {w : World} {B j g most : Nat} {r : Option Nat} {base : Nat} {xs : List Value} (h : JIs w B j g most r base xs) : Calls Try.prog 12 #[.pointer (some ⟨j, 0, none⟩)] w fun e W' => e = .returned (.int .i64 (base : Int)) ∧ W' = w := by
  obtain ⟨c0, c1⟩ := h.cells
  have HN := hide (none_j h)
  clear h
  go_enter Try.func12, Try.ntmps12
  go_wp2_with (go_at_call 19; refine HN.out.mono ?_; rintro e W1 ⟨rfl, hw⟩; subst hw)
  go_ret
  exact ⟨rfl, rfl⟩

set_option maxHeartbeats 1000000 in
theorem head_j {w : World} {B j g most : Nat} {r : Option Nat} {base : Nat} {xs : List Value} (h : JIs w B j g most r base xs) (hb : base ≤ 1000000) : Calls Try.prog 13 #[.pointer (some ⟨j, 0, none⟩)] w fun e W' => e = .returned (.int .i64 ((base + xs.length : Nat) : Int)) ∧ ∃ q, W' = w.drewN q := by
  obtain ⟨c0, c1⟩ := h.cells
  have HN := hide (none_j h)
  have HL := hide (len_str B g most r xs w.drew h.2.2)
  have hlm : xs.length ≤ 65536 := by obtain ⟨_, _, _, _, _, _, _, _, _, _, _, h2, h3⟩ := h.2.2; omega
  have HCP : Hid (∀ w', Below w.drew.heap.size w.drew w' → w'.cell? ⟨j, 0, none⟩ = some (.pointer (some ⟨g, 0, none⟩))) := hide fun w' hs => by
    have := (hs.block j h.lt).trans h.2.1
    rw [Joins.cell_of_block this]; rfl
  have HCB : Hid (∀ w', Below w.drew.heap.size w.drew w' → w'.cell? ⟨j, 1, none⟩ = some (.int .i64 (base : Int))) := hide fun w' hs => by
    have := (hs.block j h.lt).trans h.2.1
    rw [Joins.cell_of_block this]; rfl
  clear h
  generalize xs.length = n at *
  have hwr : IntKind.i64.wrap ((base : Int) + (n : Int)) = ((base + n : Nat) : Int) := by rw [IntKind.wrap_i64]; omega
  have HWR := hide hwr
  clear hwr
  go_enter Try.func13, Try.ntmps13
  go_wp2_with (go_at_call 19; refine HN.out.mono ?_; rintro e W1 ⟨rfl, hw⟩; subst hw; clear HN)
  refine going_start (by kernel_rfl) ?_
  refine going_take (i := 0) (oi := { dst := some 5, op := Op.move (Operand.tmp 0), type := 24, pos := _, after := _, guard := none }) (v := _) rfl (by kernel_rfl) (by kernel_rfl) (by kernel_rfl) (fun _ _ _ h => h) (by rfl) (by intro w' hSw; go_simp; try with_reducible rfl) ?_
  simp only [Act.put, List.setIfInBounds_toArray, List.set_cons_zero, List.set_cons_succ]
  refine going_take (i := 1) (oi := { dst := some 6, op := Op.nilCheck (Operand.tmp 5), type := 0, pos := _, after := _, guard := none }) (v := _) rfl (by kernel_rfl) (by kernel_rfl) (by kernel_rfl) (fun _ _ _ h => h) (by rfl) (by intro w' hSw; go_simp; try with_reducible rfl) ?_
  simp only [Act.put, List.setIfInBounds_toArray, List.set_cons_zero, List.set_cons_succ]
  refine going_take (i := 2) (oi := { dst := some 7, op := Op.fieldAddr 51 (Operand.tmp 6) 1, type := 0, pos := _, after := _, guard := none }) (v := _) rfl (by kernel_rfl) (by kernel_rfl) (by kernel_rfl) (fun _ _ _ h => h) (by rfl) (by intro w' hSw; go_simp; try with_reducible rfl) ?_
  simp only [Act.put, List.setIfInBounds_toArray, List.set_cons_zero, List.set_cons_succ]
  refine going_take (i := 3) (oi := { dst := some 8, op := Op.load 3 (Operand.tmp 7), type := 3, pos := _, after := _, guard := none }) (v := _) rfl (by kernel_rfl) (by kernel_rfl) (by kernel_rfl) (fun _ _ _ h => h) (by rfl) (by intro w' hSw; have hb := HCB.out w' hSw; go_simp; try with_reducible rfl) ?_
  simp only [Act.put, List.setIfInBounds_toArray, List.set_cons_zero, List.set_cons_succ]
  refine going_take (i := 4) (oi := { dst := some 9, op := Op.move (Operand.tmp 0), type := 24, pos := _, after := _, guard := none }) (v := _) rfl (by kernel_rfl) (by kernel_rfl) (by kernel_rfl) (fun _ _ _ h => h) (by rfl) (by intro w' hSw; go_simp; try with_reducible rfl) ?_
  simp only [Act.put, List.setIfInBounds_toArray, List.set_cons_zero, List.set_cons_succ]
  refine going_take (i := 5) (oi := { dst := some 10, op := Op.nilCheck (Operand.tmp 9), type := 0, pos := _, after := _, guard := none }) (v := _) rfl (by kernel_rfl) (by kernel_rfl) (by kernel_rfl) (fun _ _ _ h => h) (by rfl) (by intro w' hSw; go_simp; try with_reducible rfl) ?_
  simp only [Act.put, List.setIfInBounds_toArray, List.set_cons_zero, List.set_cons_succ]
  refine going_take (i := 6) (oi := { dst := some 11, op := Op.fieldAddr 51 (Operand.tmp 10) 0, type := 0, pos := _, after := _, guard := none }) (v := _) rfl (by kernel_rfl) (by kernel_rfl) (by kernel_rfl) (fun _ _ _ h => h) (by rfl) (by intro w' hSw; go_simp; try with_reducible rfl) ?_
  simp only [Act.put, List.setIfInBounds_toArray, List.set_cons_zero, List.set_cons_succ]
  refine going_take (i := 7) (oi := { dst := some 12, op := Op.load 49 (Operand.tmp 11), type := 49, pos := _, after := _, guard := none }) (v := _) rfl (by kernel_rfl) (by kernel_rfl) (by kernel_rfl) (fun _ _ _ h => h) (by rfl) (by intro w' hSw; have hp := HCP.out w' hSw; go_simp; try with_reducible rfl) ?_
  simp only [Act.put, List.setIfInBounds_toArray, List.set_cons_zero, List.set_cons_succ]
  refine going_step (i := 8) (o := { dst := some 13, op := Op.call { callee := Callee.value (Operand.func 21), args := #[Operand.tmp 12], argTypes := #[49] }, type := 3, pos := _, after := _, guard := none }) (by kernel_rfl) rfl (by rfl) (fun K hK => ?_)
  go_simp
  refine HL.out.mono ?_
  rintro e wd ⟨rfl, q, rfl⟩
  refine hK.out _ _ (below_drewN (Below.refl _ _) _) ?_
  clear hK K
  try simp only [Act.put, List.setIfInBounds_toArray, List.set_cons_zero, List.set_cons_succ]
  refine going_take (i := 9) (oi := { dst := some 14, op := Op.binOp BinOp.add 3 (Operand.tmp 8) (Operand.tmp 13) 3, type := 3, pos := _, after := _, guard := none }) (v := _) rfl (by kernel_rfl) (by kernel_rfl) (by kernel_rfl) (fun _ _ _ h => h) (by rfl) (by intro w' hSw; go_simp; try with_reducible rfl) ?_
  simp only [Act.put, List.setIfInBounds_toArray, List.set_cons_zero, List.set_cons_succ]
  refine going_take (i := 10) (oi := { dst := some 2, op := Op.assign (Operand.tmp 14), type := 3, pos := _, after := _, guard := none }) (v := _) rfl (by kernel_rfl) (by kernel_rfl) (by kernel_rfl) (fun _ _ _ h => h) (by rfl) (by intro w' hSw; go_simp; try with_reducible rfl) ?_
  simp only [Act.put, List.setIfInBounds_toArray, List.set_cons_zero, List.set_cons_succ]
  refine going_done (by kernel_rfl) ?_
  go_wp2
  go_ret
  exact ⟨ret_int HWR.out, 1 + q, by rw [← World.drewN_drewN]; rfl⟩
end Go.Proofs.Ytolidhjffminkaa.J
