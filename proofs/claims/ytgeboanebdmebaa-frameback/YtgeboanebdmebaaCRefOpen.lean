/- What the document opens: just the bytes that are sealed. -/
import Derived.Test.YtgeboanebdmebaaCOpen
import Derived.Test.YtgeboanebdmebaaDraw
namespace Crc
theorem good_iff (l : List Nat) (m : Nat) (h : l.length = m + 4) : Good l m ↔ sealed (l.take m) = l := by
  have e : l = l.take m ++ l.drop m := (List.take_append_drop m l).symm
  have hd : (l.drop m).length = 4 := by simp; omega
  have hg : ∀ j, (l.drop m).getD j 0 = l.getD (m + j) 0 := fun j => Go.By.getD_drop l m j
  unfold sealed
  constructor
  · intro g
    have : l.drop m = tail4 (sum (l.take m)) := by
      generalize l.drop m = d at hd hg
      match d, hd with
      | [a, b, c, d], _ =>
        have h0 := (hg 0).trans (g 0 (by omega))
        have h1 := (hg 1).trans (g 1 (by omega))
        have h2 := (hg 2).trans (g 2 (by omega))
        have h3 := (hg 3).trans (g 3 (by omega))
        simp at h0 h1 h2 h3
        simp [tail4, h0, h1, h2, h3]
    rw [← this]; exact e.symm
  · intro g j hj
    have : l.drop m = tail4 (sum (l.take m)) := by
      have h1 : l.take m ++ tail4 (sum (l.take m)) = l.take m ++ l.drop m := by rw [← e]; exact g
      exact (List.append_cancel_left h1).symm
    rw [← hg j, this]
    have : j = 0 ∨ j = 1 ∨ j = 2 ∨ j = 3 := by omega
    rcases this with rfl | rfl | rfl | rfl <;> simp [tail4]
end Crc
namespace Go.Proofs.Ytgeboanebdmebaa.C
open Go.RowKit Go.By
set_option linter.unusedVariables false
set_option maxRecDepth 20000
attribute [local go_sem ↓] Go.wp_at_zero Go.wp_at_succ

theorem refSeal_at (a : Option Addr) (l : List Nat) (n cap : Nat) (w : World) (hn : l.length = n) (hL : Came w.heap.size w a l) (hnil : a = none → l = [] ∧ cap = 0) (hm : n ≤ 100000) :
    Calls Try.prog 68 #[.slice a n cap] w fun e w' => ∃ v, e = .returned v ∧ Owns w' w.heap.size v (Crc.sealed l) ∧ Below w.heap.size w w' := by
  subst hn; exact refSeal_any a l cap w hL hnil hm

theorem run_str_owns {w : World} {base : Nat} {v : Value} {l : List Nat} (h : Owns w base v l) : (convert 28 9 v).run Try.prog w = .ok (.string (str l)) w := by
  obtain ⟨a, cap, rfl, _, _, hL, _⟩ := h.form
  exact run_str 28 5 9 Try.underlying28 Try.underlying5 Try.underlying9 hL _ cap rfl

set_option maxHeartbeats 400000 in
theorem refOpen_short (a : Option Addr) (l : List Nat) (cap : Nat) (w : World) (hs : l.length < 4) :
    Calls Try.prog 78 #[.slice a l.length cap] w fun e w' => e = .returned (.tuple #[.slice none 0 0, .bool false]) ∧ Below w.heap.size w w' := by
  have h1 : decide ((l.length : Int) - 4 < 0) = true := by simp; omega
  go_enter Try.func78, Try.ntmps78
  go_wp2
  go_quiet (fail)
  go_wp2
  go_ret2
  exact ⟨rfl, below_drewN (Below.refl _ _) _⟩

set_option maxHeartbeats 1000000 in
theorem refOpen_long (a : Option Addr) (l : List Nat) (m cap : Nat) (w : World) (hL : Came w.heap.size w a l) (hs : l.length = m + 4) (hcap : m + 4 ≤ cap) (hmx : cap ≤ maxLen) (hm : l.length ≤ 100000) (g : Crc.Good l m) :
    Calls Try.prog 78 #[.slice a (m + 4) cap] w fun e w' => e = .returned (.tuple #[.slice a m cap, .bool true]) ∧ Below w.heap.size w w' := by
  unfold maxLen at hmx
  have HL := hide hL
  have HS := hide hs
  have HG := hide ((Crc.good_iff l m hs).1 g)
  have HN : Hid (a = none → l.take m = [] ∧ cap = 0) := by
    intro ha
    rcases hL.2 with rfl | ⟨b, off, e, _, _⟩
    · simp at hs
    · rw [ha] at e; cases e
  clear hL hs
  have hm' : m ≤ 100000 := by have := HS.out; omega
  have s1 := slice_h a (m + 4) cap m (by omega)
  have h1 : decide ((m : Int) < 0) = false := by simp
  have hw1 : IntKind.i64.wrap (m : Int) = m := wrapI _ (by omega)
  have hcv : ∀ w', Below w.heap.size w w' → (convert 28 9 (.slice a (m + 4) cap)).run Try.prog w' = .ok (.string (str l)) w' := fun w' hb =>
    run_str 28 5 9 Try.underlying28 Try.underlying5 Try.underlying9 (HL.out.below hb).lies _ cap HS.out
  go_enter Try.func78, Try.ntmps78
  go_wp2
  refine going_start (by kernel_rfl) ?_
  refine going_take (i := 0) (oi := { dst := some 8, op := Op.move (Operand.tmp 4), type := 3, pos := _, after := _, guard := none }) (v := _) rfl (by kernel_rfl) (by kernel_rfl) (by kernel_rfl) (fun _ _ _ h => h) (by rfl) (by intro w' hSw; go_simp; try with_reducible rfl) ?_
  simp only [Act.put, List.setIfInBounds_toArray, List.set_cons_zero, List.set_cons_succ]
  refine going_take (i := 1) (oi := { dst := some 9, op := Op.binOp BinOp.lss 3 (Operand.tmp 8) (Operand.const (Value.int IntKind.i64 0)) 3, type := 4, pos := _, after := _, guard := none }) (v := _) rfl (by kernel_rfl) (by kernel_rfl) (by kernel_rfl) (fun _ _ _ h => h) (by rfl) (by intro w' hSw; go_simp; try with_reducible rfl) ?_
  simp only [Act.put, List.setIfInBounds_toArray, List.set_cons_zero, List.set_cons_succ]
  refine going_take (i := 2) (oi := { dst := some 10, op := Op.move (Operand.tmp 9), type := 4, pos := _, after := _, guard := none }) (v := _) rfl (by kernel_rfl) (by kernel_rfl) (by kernel_rfl) (fun _ _ _ h => h) (by rfl) (by intro w' hSw; go_simp; try with_reducible rfl) ?_
  simp only [Act.put, List.setIfInBounds_toArray, List.set_cons_zero, List.set_cons_succ]
  refine going_take (i := 3) (oi := { dst := some 11, op := Op.move (Operand.tmp 0), type := 28, pos := _, after := _, guard := some (2, false) }) (v := _) rfl (by kernel_rfl) (by kernel_rfl) (by kernel_rfl) (fun _ _ _ h => h) (by rfl) (by intro w' hSw; go_simp; try with_reducible rfl) ?_
  simp only [Act.put, List.setIfInBounds_toArray, List.set_cons_zero, List.set_cons_succ]
  refine going_take (i := 4) (oi := { dst := some 12, op := Op.move (Operand.tmp 4), type := 3, pos := _, after := _, guard := some (2, false) }) (v := _) rfl (by kernel_rfl) (by kernel_rfl) (by kernel_rfl) (fun _ _ _ h => h) (by rfl) (by intro w' hSw; go_simp; try with_reducible rfl) ?_
  simp only [Act.put, List.setIfInBounds_toArray, List.set_cons_zero, List.set_cons_succ]
  refine going_take (i := 5) (oi := { dst := some 13, op := Op.slice 28 (Operand.tmp 11) none (some (Operand.tmp 12)) none, type := 28, pos := _, after := _, guard := some (2, false) }) (v := _) rfl (by kernel_rfl) (by kernel_rfl) (by kernel_rfl) (fun _ _ _ h => h) (by rfl) (by intro w' hSw; go_simp; try with_reducible rfl) ?_
  simp only [Act.put, List.setIfInBounds_toArray, List.set_cons_zero, List.set_cons_succ]
  refine going_take (i := 8) (oi := { dst := some 16, op := Op.move (Operand.tmp 0), type := 28, pos := _, after := _, guard := some (2, false) }) (v := _) rfl (by kernel_rfl) (by kernel_rfl) (by kernel_rfl) (fun _ _ _ h => h) (by rfl) (by intro w' hSw; go_simp; try with_reducible rfl) ?_
  simp only [Act.put, List.setIfInBounds_toArray, List.set_cons_zero, List.set_cons_succ]
  refine going_take (i := 9) (oi := { dst := some 17, op := Op.convert 28 9 (Operand.tmp 16), type := 9, pos := _, after := _, guard := some (2, false) }) (v := _) rfl (by kernel_rfl) (by kernel_rfl) (by kernel_rfl) (fun _ _ _ h => h) (by rfl) (by intro w' hSw; have hcx := hcv w' ((Below.refl _ _).drew.trans hSw); go_simp; try with_reducible rfl) ?_
  simp only [Act.put, List.setIfInBounds_toArray, List.set_cons_zero, List.set_cons_succ]
  refine going_step (i := 6) (o := { dst := some 14, op := Op.call { callee := Callee.value (Operand.func 68), args := #[Operand.tmp 13], argTypes := #[28] }, type := 28, pos := _, after := _, guard := some (2, false) }) (by kernel_rfl) rfl (by rfl) (fun K hK => ?_)
  go_simp
  refine (refSeal_at a (l.take m) m cap _ (by have := HS.out; simp; omega) (by exact HL.out.take m) HN.out (by omega)).mono ?_
  rintro e w1 ⟨v, rfl, hown, hb1⟩
  refine hK.out _ _ hb1 ?_
  have hb2 : Below w.heap.size w w1 := (Below.refl _ _).drew.trans hb1
  have hcw : ∀ w', Below w1.heap.size w1 w' → (convert 28 9 v).run Try.prog w' = .ok (.string (str l)) w' := fun w' hb => by have := run_str_owns (hown.below hb); rw [HG.out] at this; exact this
  clear hK K
  try simp only [Act.put, List.setIfInBounds_toArray, List.set_cons_zero, List.set_cons_succ]
  refine going_take (i := 7) (oi := { dst := some 15, op := Op.convert 28 9 (Operand.tmp 14), type := 9, pos := _, after := _, guard := some (2, false) }) (v := _) rfl (by kernel_rfl) (by kernel_rfl) (by kernel_rfl) (fun _ _ _ h => h) (by rfl) (by intro w' hSw; go_simp; try with_reducible rfl) ?_
  simp only [Act.put, List.setIfInBounds_toArray, List.set_cons_zero, List.set_cons_succ]
  refine going_take (i := 10) (oi := { dst := some 18, op := Op.binOp BinOp.neq 9 (Operand.tmp 15) (Operand.tmp 17) 9, type := 4, pos := _, after := _, guard := some (2, false) }) (v := _) rfl (by kernel_rfl) (by kernel_rfl) (by kernel_rfl) (fun _ _ _ h => h) (by rfl) (by intro w' hSw; go_simp; try with_reducible rfl) ?_
  simp only [Act.put, List.setIfInBounds_toArray, List.set_cons_zero, List.set_cons_succ]
  refine going_take (i := 11) (oi := { dst := some 19, op := Op.pick (Operand.tmp 10) (Operand.const (Value.bool true)) (Operand.tmp 18), type := 4, pos := _, after := _, guard := none }) (v := _) rfl (by kernel_rfl) (by kernel_rfl) (by kernel_rfl) (fun _ _ _ h => h) (by rfl) (by intro w' hSw; go_simp; try with_reducible rfl) ?_
  simp only [Act.put, List.setIfInBounds_toArray, List.set_cons_zero, List.set_cons_succ]
  refine going_done (by kernel_rfl) ?_
  go_wp2
  go_ret2
  exact ⟨rfl, hb2⟩

theorem str_ne {l m : List Nat} (hl : ∀ c ∈ l, c < 256) (hm : ∀ c ∈ m, c < 256) (h : ¬ l = m) : ((str l).toList == (str m).toList) = false := by
  rw [beq_eq_false_iff_ne]
  intro e
  rw [ByteArray.toList_eq, ByteArray.toList_eq] at e
  exact h (str_inj hl hm (ByteArray.ext (Array.toList_inj.1 e)))

set_option maxHeartbeats 1000000 in
theorem refOpen_bad (a : Option Addr) (l : List Nat) (m cap : Nat) (w : World) (hL : Came w.heap.size w a l) (hs : l.length = m + 4) (hcap : m + 4 ≤ cap) (hmx : cap ≤ maxLen) (hm : l.length ≤ 100000) (g : ¬ Crc.Good l m) :
    Calls Try.prog 78 #[.slice a (m + 4) cap] w fun e w' => e = .returned (.tuple #[.slice none 0 0, .bool false]) ∧ Below w.heap.size w w' := by
  unfold maxLen at hmx
  have HL := hide hL
  have HS := hide hs
  have hne : ((str (Crc.sealed (l.take m))).toList == (str l).toList) = false := by
    refine str_ne ?_ hL.1 (fun e => g ((Crc.good_iff l m hs).2 e))
    intro c hc
    rcases List.mem_append.1 hc with h | h
    · exact hL.1 c (List.mem_of_mem_take h)
    · exact Crc.tail4_small _ c h
  have HN : Hid (a = none → l.take m = [] ∧ cap = 0) := by
    intro ha
    rcases hL.2 with rfl | ⟨b, off, e, _, _⟩
    · simp at hs
    · rw [ha] at e; cases e
  clear hL hs
  have hm' : m ≤ 100000 := by have := HS.out; omega
  have s1 := slice_h a (m + 4) cap m (by omega)
  have h1 : decide ((m : Int) < 0) = false := by simp
  have hw1 : IntKind.i64.wrap (m : Int) = m := wrapI _ (by omega)
  have hcv : ∀ w', Below w.heap.size w w' → (convert 28 9 (.slice a (m + 4) cap)).run Try.prog w' = .ok (.string (str l)) w' := fun w' hb =>
    run_str 28 5 9 Try.underlying28 Try.underlying5 Try.underlying9 (HL.out.below hb).lies _ cap HS.out
  go_enter Try.func78, Try.ntmps78
  go_wp2
  refine going_start (by kernel_rfl) ?_
  refine going_take (i := 0) (oi := { dst := some 8, op := Op.move (Operand.tmp 4), type := 3, pos := _, after := _, guard := none }) (v := _) rfl (by kernel_rfl) (by kernel_rfl) (by kernel_rfl) (fun _ _ _ h => h) (by rfl) (by intro w' hSw; go_simp; try with_reducible rfl) ?_
  simp only [Act.put, List.setIfInBounds_toArray, List.set_cons_zero, List.set_cons_succ]
  refine going_take (i := 1) (oi := { dst := some 9, op := Op.binOp BinOp.lss 3 (Operand.tmp 8) (Operand.const (Value.int IntKind.i64 0)) 3, type := 4, pos := _, after := _, guard := none }) (v := _) rfl (by kernel_rfl) (by kernel_rfl) (by kernel_rfl) (fun _ _ _ h => h) (by rfl) (by intro w' hSw; go_simp; try with_reducible rfl) ?_
  simp only [Act.put, List.setIfInBounds_toArray, List.set_cons_zero, List.set_cons_succ]
  refine going_take (i := 2) (oi := { dst := some 10, op := Op.move (Operand.tmp 9), type := 4, pos := _, after := _, guard := none }) (v := _) rfl (by kernel_rfl) (by kernel_rfl) (by kernel_rfl) (fun _ _ _ h => h) (by rfl) (by intro w' hSw; go_simp; try with_reducible rfl) ?_
  simp only [Act.put, List.setIfInBounds_toArray, List.set_cons_zero, List.set_cons_succ]
  refine going_take (i := 3) (oi := { dst := some 11, op := Op.move (Operand.tmp 0), type := 28, pos := _, after := _, guard := some (2, false) }) (v := _) rfl (by kernel_rfl) (by kernel_rfl) (by kernel_rfl) (fun _ _ _ h => h) (by rfl) (by intro w' hSw; go_simp; try with_reducible rfl) ?_
  simp only [Act.put, List.setIfInBounds_toArray, List.set_cons_zero, List.set_cons_succ]
  refine going_take (i := 4) (oi := { dst := some 12, op := Op.move (Operand.tmp 4), type := 3, pos := _, after := _, guard := some (2, false) }) (v := _) rfl (by kernel_rfl) (by kernel_rfl) (by kernel_rfl) (fun _ _ _ h => h) (by rfl) (by intro w' hSw; go_simp; try with_reducible rfl) ?_
  simp only [Act.put, List.setIfInBounds_toArray, List.set_cons_zero, List.set_cons_succ]
  refine going_take (i := 5) (oi := { dst := some 13, op := Op.slice 28 (Operand.tmp 11) none (some (Operand.tmp 12)) none, type := 28, pos := _, after := _, guard := some (2, false) }) (v := _) rfl (by kernel_rfl) (by kernel_rfl) (by kernel_rfl) (fun _ _ _ h => h) (by rfl) (by intro w' hSw; go_simp; try with_reducible rfl) ?_
  simp only [Act.put, List.setIfInBounds_toArray, List.set_cons_zero, List.set_cons_succ]
  refine going_take (i := 8) (oi := { dst := some 16, op := Op.move (Operand.tmp 0), type := 28, pos := _, after := _, guard := some (2, false) }) (v := _) rfl (by kernel_rfl) (by kernel_rfl) (by kernel_rfl) (fun _ _ _ h => h) (by rfl) (by intro w' hSw; go_simp; try with_reducible rfl) ?_
  simp only [Act.put, List.setIfInBounds_toArray, List.set_cons_zero, List.set_cons_succ]
  refine going_take (i := 9) (oi := { dst := some 17, op := Op.convert 28 9 (Operand.tmp 16), type := 9, pos := _, after := _, guard := some (2, false) }) (v := _) rfl (by kernel_rfl) (by kernel_rfl) (by kernel_rfl) (fun _ _ _ h => h) (by rfl) (by intro w' hSw; have hcx := hcv w' ((Below.refl _ _).drew.trans hSw); go_simp; try with_reducible rfl) ?_
  simp only [Act.put, List.setIfInBounds_toArray, List.set_cons_zero, List.set_cons_succ]
  refine going_step (i := 6) (o := { dst := some 14, op := Op.call { callee := Callee.value (Operand.func 68), args := #[Operand.tmp 13], argTypes := #[28] }, type := 28, pos := _, after := _, guard := some (2, false) }) (by kernel_rfl) rfl (by rfl) (fun K hK => ?_)
  go_simp
  refine (refSeal_at a (l.take m) m cap _ (by have := HS.out; simp; omega) (by exact HL.out.take m) HN.out (by omega)).mono ?_
  rintro e w1 ⟨v, rfl, hown, hb1⟩
  refine hK.out _ _ hb1 ?_
  have hb2 : Below w.heap.size w w1 := (Below.refl _ _).drew.trans hb1
  have hcw : ∀ w', Below w1.heap.size w1 w' → (convert 28 9 v).run Try.prog w' = .ok (.string (str (Crc.sealed (l.take m)))) w' := fun w' hb => run_str_owns (hown.below hb)
  clear hK K
  try simp only [Act.put, List.setIfInBounds_toArray, List.set_cons_zero, List.set_cons_succ]
  refine going_take (i := 7) (oi := { dst := some 15, op := Op.convert 28 9 (Operand.tmp 14), type := 9, pos := _, after := _, guard := some (2, false) }) (v := _) rfl (by kernel_rfl) (by kernel_rfl) (by kernel_rfl) (fun _ _ _ h => h) (by rfl) (by intro w' hSw; go_simp; try with_reducible rfl) ?_
  simp only [Act.put, List.setIfInBounds_toArray, List.set_cons_zero, List.set_cons_succ]
  refine going_take (i := 10) (oi := { dst := some 18, op := Op.binOp BinOp.neq 9 (Operand.tmp 15) (Operand.tmp 17) 9, type := 4, pos := _, after := _, guard := some (2, false) }) (v := _) rfl (by kernel_rfl) (by kernel_rfl) (by kernel_rfl) (fun _ _ _ h => h) (by rfl) (by intro w' hSw; go_simp; try with_reducible rfl) ?_
  simp only [Act.put, List.setIfInBounds_toArray, List.set_cons_zero, List.set_cons_succ]
  refine going_take (i := 11) (oi := { dst := some 19, op := Op.pick (Operand.tmp 10) (Operand.const (Value.bool true)) (Operand.tmp 18), type := 4, pos := _, after := _, guard := none }) (v := _) rfl (by kernel_rfl) (by kernel_rfl) (by kernel_rfl) (fun _ _ _ h => h) (by rfl) (by intro w' hSw; go_simp; try with_reducible rfl) ?_
  simp only [Act.put, List.setIfInBounds_toArray, List.set_cons_zero, List.set_cons_succ]
  refine going_done (by kernel_rfl) ?_
  go_wp2
  go_ret2
  exact ⟨rfl, hb2⟩
end Go.Proofs.Ytgeboanebdmebaa.C
