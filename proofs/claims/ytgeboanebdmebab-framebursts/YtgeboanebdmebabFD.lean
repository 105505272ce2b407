/- frame: the chapter's example; FramePuts, walked. -/
import Derived.Test.YtgeboanebdmebabFB
import Derived.Test.YtgeboanebdmebabX6
import Derived.Lib.SlBytesConst
namespace Go.Proofs.Ytgeboanebdmebab.F
open Go.Proofs.Ytgeboanebdmebab Go.RowKit Go.By
set_option linter.unusedVariables false
set_option linter.unusedSimpArgs false
attribute [local go_sem ↓] Go.wp_at_zero Go.wp_at_succ

theorem below_drw {B : Nat} {w X : World} (h : Below B w X) : Below B w X.drew := ⟨h.os, h.tape, h.output, h.size, h.block⟩
theorem says_lies {w : World} {a : Option Addr} {l : List Nat} {n : Nat} (h : Lies w a l) (hn : l.length = n) (c : Nat) : ∀ w', Below w.heap.size w w' → (convert 27 9 (.slice a n c)).run Try.prog w' = .ok (.string (str l)) w' := by
  intro w' hb
  subst hn
  exact run_str 27 5 9 Try.underlying27 Try.underlying5 Try.underlying9 (h.came.below hb).lies _ c rfl
theorem says_owns {w : World} {base : Nat} {v : Value} {l : List Nat} (h : Owns w base v l) : ∀ w', Below w.heap.size w w' → (convert 27 9 v).run Try.prog w' = .ok (.string (str l)) w' := by
  intro w' hb
  obtain ⟨a, cap, rfl, _, _, hL, _⟩ := (h.below hb).form
  exact run_str 27 5 9 Try.underlying27 Try.underlying5 Try.underlying9 hL _ cap rfl
theorem body_ex : bodyL 1 2 3 ⟨#[97, 98]⟩ = [1, 2, 3, 2, 97, 98] := by decide +kernel
theorem frame_ex : ∃ r, frameL 1 2 3 ⟨#[97, 98]⟩ = [6, 1, 2, 3, 2, 97, 98] ++ r ∧ r.length = 4 := by
  refine ⟨Crc.tail4 (Crc.sum [1, 2, 3, 2, 97, 98]), ?_, rfl⟩
  rw [frameL, body_ex, show Vary.putI (([1, 2, 3, 2, 97, 98] : List Nat).length : Nat) = [6] by decide +kernel, Crc.sealed]
  simp only [List.cons_append, List.nil_append]
theorem good_ex : goodP 1 2 3 ⟨#[97, 98]⟩ = true := by decide +kernel
set_option maxRecDepth 20000 in
theorem row7 (W : World) : ∀ w', Below (W.alloc (.cells #[.int .u8 6, .int .u8 1, .int .u8 2, .int .u8 3, .int .u8 2, .int .u8 97, .int .u8 98] 5)).heap.size (W.alloc (.cells #[.int .u8 6, .int .u8 1, .int .u8 2, .int .u8 3, .int .u8 2, .int .u8 97, .int .u8 98] 5)) w' → (convert 27 9 (.slice (some ⟨W.heap.size, 0, none⟩) 7 7)).run Try.prog w' = .ok (.string (str [6, 1, 2, 3, 2, 97, 98])) w' :=
  says_lies (l := [6, 1, 2, 3, 2, 97, 98]) ⟨by decide, .inr ⟨_, _, rfl, fun i hi => by
    rw [World.cell?_alloc_mark]
    have : i = 0 ∨ i = 1 ∨ i = 2 ∨ i = 3 ∨ i = 4 ∨ i = 5 ∨ i = 6 := by simp at hi; omega
    rcases this with rfl | rfl | rfl | rfl | rfl | rfl | rfl <;> simp⟩⟩ rfl 7

set_option maxRecDepth 20000 in
set_option maxHeartbeats 2000000 in
theorem lives_any (w : World) : Calls Try.prog 5 #[] w fun e W' => e = .returned (.bool true) ∧ Below w.heap.size w W' := by
  obtain ⟨r, hr, hr4⟩ := frame_ex
  have hp := put_good 1 2 3 ⟨#[97, 98]⟩ w good_ex (by decide)
  have HR4 : Hid (frameL 1 2 3 ⟨#[97, 98]⟩ = [6, 1, 2, 3, 2, 97, 98] ++ r ∧ (frameL 1 2 3 ⟨#[97, 98]⟩).length = 11) := hide ⟨hr, by rw [hr, List.length_append, hr4]; rfl⟩
  clear hr hr4
  generalize frameL 1 2 3 ⟨#[97, 98]⟩ = L at *
  go_enter Try.func5, Try.ntmps5
  go_wp2_with (go_at_call 6; refine hp.mono ?_; rintro e W1 ⟨v1, rfl, ho, hb⟩; obtain ⟨u, q, rfl, hq1, hq2, hL, hn, _⟩ := ho.form; obtain ⟨b, off, rfl, hc⟩ : ∃ b off, u = some ⟨b, off, none⟩ ∧ True := (by rcases hL.2 with h | ⟨b, off, h, _⟩; (have := HR4.out.2; rw [h] at this; cases this); exact ⟨b, off, h, trivial⟩); have HO1 := hide (And.intro hL (And.intro hq1 hq2)); have HB1 := hide hb; clear ho hb hL hn hc hp hq1 hq2)
  have hq7 : (7 : Int) ≤ (q : Int) := by have := HO1.out.2.1; have := HR4.out.2; omega
  have HQ0 : Hid (∀ w', Below W1.heap.size W1 w' → (convert 27 9 (.slice (some ⟨b, off, none⟩) 7 q)).run Try.prog w' = .ok (.string (str [6, 1, 2, 3, 2, 97, 98])) w') := hide (says_lies (by
    have h := (HO1.out.1.came.take 7).lies
    rw [HR4.out.1] at h; simpa using h) rfl q)
  rw [HR4.out.2]
  have HB : Hid (Below w.heap.size w W1.drew) := hide (below_drw HB1.out)
  have HQ : Hid (∀ w', Below W1.drew.heap.size W1.drew w' → (convert 27 9 (.slice (some ⟨b, off, none⟩) 7 q)).run Try.prog w' = .ok (.string (str [6, 1, 2, 3, 2, 97, 98])) w') := hide fun w' h => HQ0.out w' ⟨h.os, h.tape, h.output, h.size, h.block⟩
  clear HQ0
  refine going_start (by kernel_rfl) ?_
  generalize W1.drew = wd at *
  refine going_take (i := 0) (oi := { dst := some 8, op := Op.move (Operand.tmp 2), type := 28, pos := _, after := _, guard := none }) (v := _) rfl (by kernel_rfl) (by kernel_rfl) (by kernel_rfl) (fun _ _ _ h => h) (by rfl) (by intro w' hSw; go_simp; try with_reducible rfl) ?_
  simp only [Act.put, List.setIfInBounds_toArray, List.set_cons_zero, List.set_cons_succ]
  refine going_take (i := 1) (oi := { dst := some 9, op := Op.binOp BinOp.eql 28 (Operand.tmp 8) (Operand.const (Value.int IntKind.i64 0)) 28, type := 4, pos := _, after := _, guard := none }) (v := _) rfl (by kernel_rfl) (by kernel_rfl) (by kernel_rfl) (fun _ _ _ h => h) (by rfl) (by intro w' hSw; go_simp; try with_reducible rfl) ?_
  simp only [Act.put, List.setIfInBounds_toArray, List.set_cons_zero, List.set_cons_succ]
  refine going_take (i := 2) (oi := { dst := some 10, op := Op.move (Operand.tmp 9), type := 4, pos := _, after := _, guard := none }) (v := _) rfl (by kernel_rfl) (by kernel_rfl) (by kernel_rfl) (fun _ _ _ h => h) (by rfl) (by intro w' hSw; go_simp; try with_reducible rfl) ?_
  simp only [Act.put, List.setIfInBounds_toArray, List.set_cons_zero, List.set_cons_succ]
  refine going_take (i := 3) (oi := { dst := some 11, op := Op.move (Operand.tmp 1), type := 27, pos := _, after := _, guard := some (2, true) }) (v := _) rfl (by kernel_rfl) (by kernel_rfl) (by kernel_rfl) (fun _ _ _ h => h) (by rfl) (by intro w' hSw; go_simp; try with_reducible rfl) ?_
  simp only [Act.put, List.setIfInBounds_toArray, List.set_cons_zero, List.set_cons_succ]
  refine going_take (i := 4) (oi := { dst := some 12, op := Op.call { callee := Callee.builtin Builtin.len, args := #[Operand.tmp 11], argTypes := #[27] }, type := 3, pos := _, after := _, guard := some (2, true) }) (v := _) rfl (by kernel_rfl) (by kernel_rfl) (by kernel_rfl) (fun _ _ _ h => h) (by rfl) (by intro w' hSw; go_simp; try with_reducible rfl) ?_
  simp only [Act.put, List.setIfInBounds_toArray, List.set_cons_zero, List.set_cons_succ]
  refine going_take (i := 5) (oi := { dst := some 13, op := Op.binOp BinOp.eql 3 (Operand.tmp 12) (Operand.const (Value.int IntKind.i64 11)) 3, type := 4, pos := _, after := _, guard := some (2, true) }) (v := _) rfl (by kernel_rfl) (by kernel_rfl) (by kernel_rfl) (fun _ _ _ h => h) (by rfl) (by intro w' hSw; go_simp; try with_reducible rfl) ?_
  simp only [Act.put, List.setIfInBounds_toArray, List.set_cons_zero, List.set_cons_succ]
  refine going_take (i := 6) (oi := { dst := some 14, op := Op.pick (Operand.tmp 10) (Operand.tmp 13) (Operand.const (Value.bool false)), type := 4, pos := _, after := _, guard := none }) (v := _) rfl (by kernel_rfl) (by kernel_rfl) (by kernel_rfl) (fun _ _ _ h => h) (by rfl) (by intro w' hSw; go_simp; try with_reducible rfl) ?_
  simp only [Act.put, List.setIfInBounds_toArray, List.set_cons_zero, List.set_cons_succ]
  refine going_take (i := 7) (oi := { dst := some 15, op := Op.move (Operand.tmp 14), type := 4, pos := _, after := _, guard := none }) (v := _) rfl (by kernel_rfl) (by kernel_rfl) (by kernel_rfl) (fun _ _ _ h => h) (by rfl) (by intro w' hSw; go_simp; try with_reducible rfl) ?_
  simp only [Act.put, List.setIfInBounds_toArray, List.set_cons_zero, List.set_cons_succ]
  refine going_take (i := 8) (oi := { dst := some 16, op := Op.move (Operand.tmp 1), type := 27, pos := _, after := _, guard := some (7, true) }) (v := _) rfl (by kernel_rfl) (by kernel_rfl) (by kernel_rfl) (fun _ _ _ h => h) (by rfl) (by intro w' hSw; go_simp; try with_reducible rfl) ?_
  simp only [Act.put, List.setIfInBounds_toArray, List.set_cons_zero, List.set_cons_succ]
  refine going_take (i := 9) (oi := { dst := some 17, op := Op.slice 27 (Operand.tmp 16) none (some (Operand.const (Value.int IntKind.i64 7))) none, type := 27, pos := _, after := _, guard := some (7, true) }) (v := _) rfl (by kernel_rfl) (by kernel_rfl) (by kernel_rfl) (fun _ _ _ h => h) (by rfl) (by intro w' hSw; go_simp; try with_reducible rfl) ?_
  simp only [Act.put, List.setIfInBounds_toArray, List.set_cons_zero, List.set_cons_succ]
  refine going_take (i := 10) (oi := { dst := some 18, op := Op.convert 27 9 (Operand.tmp 17), type := 9, pos := _, after := _, guard := some (7, true) }) (v := _) rfl (by kernel_rfl) (by kernel_rfl) (by kernel_rfl) (fun _ _ _ h => h) (by rfl) (by intro w' hSw; have hq := HQ.out w' hSw; go_simp; try with_reducible rfl) ?_
  simp only [Act.put, List.setIfInBounds_toArray, List.set_cons_zero, List.set_cons_succ]
  refine going_step (i := 11) (o := { dst := some 19, op := Op.buildSlice 27 7 #[(0, Operand.const (Value.int IntKind.u8 6)), (1, Operand.const (Value.int IntKind.u8 1)), (2, Operand.const (Value.int IntKind.u8 2)), (3, Operand.const (Value.int IntKind.u8 3)), (4, Operand.const (Value.int IntKind.u8 2)), (5, Operand.const (Value.int IntKind.u8 97)), (6, Operand.const (Value.int IntKind.u8 98))], type := 27, pos := _, after := _, guard := some (7, true) }) (by kernel_rfl) rfl (by rfl) (fun K hK => ?_)
  go_simp
  refine hK.out _ _ ((Below.refl _ _).alloc (Nat.le_refl _) _) ?_
  have HR := hide (row7 wd)
  replace HB := hide (HB.out.alloc HB.out.size (.cells #[.int .u8 6, .int .u8 1, .int .u8 2, .int .u8 3, .int .u8 2, .int .u8 97, .int .u8 98] 5))
  clear hK K
  try simp only [Act.put, List.setIfInBounds_toArray, List.set_cons_zero, List.set_cons_succ]
  refine going_take (i := 12) (oi := { dst := some 20, op := Op.convert 27 9 (Operand.tmp 19), type := 9, pos := _, after := _, guard := some (7, true) }) (v := _) rfl (by kernel_rfl) (by kernel_rfl) (by kernel_rfl) (fun _ _ _ h => h) (by rfl) (by intro w' hSw; have hq := HR.out w' hSw; go_simp; try with_reducible rfl) ?_
  simp only [Act.put, List.setIfInBounds_toArray, List.set_cons_zero, List.set_cons_succ]
  refine going_take (i := 13) (oi := { dst := some 21, op := Op.binOp BinOp.eql 9 (Operand.tmp 18) (Operand.tmp 20) 9, type := 4, pos := _, after := _, guard := some (7, true) }) (v := _) rfl (by kernel_rfl) (by kernel_rfl) (by kernel_rfl) (fun _ _ _ h => h) (by rfl) (by intro w' hSw; go_simp; try with_reducible rfl) ?_
  simp only [Act.put, List.setIfInBounds_toArray, List.set_cons_zero, List.set_cons_succ]
  refine going_take (i := 14) (oi := { dst := some 22, op := Op.pick (Operand.tmp 15) (Operand.tmp 21) (Operand.const (Value.bool false)), type := 4, pos := _, after := _, guard := none }) (v := _) rfl (by kernel_rfl) (by kernel_rfl) (by kernel_rfl) (fun _ _ _ h => h) (by rfl) (by intro w' hSw; go_simp; try with_reducible rfl) ?_
  simp only [Act.put, List.setIfInBounds_toArray, List.set_cons_zero, List.set_cons_succ]
  refine going_take (i := 15) (oi := { dst := some 0, op := Op.assign (Operand.tmp 22), type := 4, pos := _, after := _, guard := none }) (v := _) rfl (by kernel_rfl) (by kernel_rfl) (by kernel_rfl) (fun _ _ _ h => h) (by rfl) (by intro w' hSw; go_simp; try with_reducible rfl) ?_
  simp only [Act.put, List.setIfInBounds_toArray, List.set_cons_zero]
  refine going_done (by kernel_rfl) ?_
  go_wp2
  go_ret
  exact ⟨rfl, HB.out⟩

end Go.Proofs.Ytgeboanebdmebab.F
