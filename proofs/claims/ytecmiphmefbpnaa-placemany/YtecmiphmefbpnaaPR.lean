/- The document's Span: walked. -/
import Derived.Test.YtecmiphmefbpnaaPQ
namespace Go.Proofs.Ytecmiphmefbpnaa.E
open Go.Proofs.Ytecmiphmefbpnaa Go.RowKit Go.By Go.Shelf
set_option linter.unusedVariables false
set_option linter.unusedSimpArgs false

/-- The span's box, and the result's. -/
def SpX (w : World) (f t : Int) (W : World) : Prop := Below w.heap.size w W ∧ W.heap[w.heap.size]? = some (.cells #[.int .i64 f, .int .i64 t] 24 (0, 0)) ∧ W.heap[w.heap.size + 1]? = some (.cells #[.int .i64 0, .int .i64 0] 24 (0, 0))
theorem SpX.up {w : World} {f t : Int} {W Y : World} (h : SpX w f t W) (hb : Below W.heap.size W Y) : SpX w f t Y := ⟨h.1.trans (hb.mono h.1.size), (hb.block _ (lt_of_heap h.2.1)).trans h.2.1, (hb.block _ (lt_of_heap h.2.2)).trans h.2.2⟩
theorem SpX.lo {w : World} {f t : Int} {W : World} (h : SpX w f t W) : Below w.heap.size w W := h.1
theorem SpX.drew {w : World} {f t : Int} {W : World} (h : SpX w f t W) : SpX w f t W.drew := ⟨below_drw h.1, h.2⟩
theorem SpX.cells {w : World} {f t : Int} {W : World} (h : SpX w f t W) : W.cell? ⟨w.heap.size, 0, none⟩ = some (.int .i64 f) ∧ W.cell? ⟨w.heap.size, 1, none⟩ = some (.int .i64 t) ∧ W.cell? ⟨w.heap.size + 1, 0, none⟩ = some (.int .i64 0) ∧ W.cell? ⟨w.heap.size + 1, 1, none⟩ = some (.int .i64 0) ∧
    W.frozen? ⟨w.heap.size + 1, 0, none⟩ = false ∧ W.frozen? ⟨w.heap.size + 1, 1, none⟩ = false :=
  ⟨by rw [Joins.cell_of_block h.2.1]; rfl, by rw [Joins.cell_of_block h.2.1]; rfl, by rw [Joins.cell_of_block h.2.2]; rfl, by rw [Joins.cell_of_block h.2.2]; rfl, unfroz h.2.2, unfroz h.2.2⟩
theorem spx_new (w : World) (f t : Int) : SpX w f t ((w.alloc (.cells #[.int .i64 f, .int .i64 t] 24)).alloc (.cells #[.int .i64 0, .int .i64 0] 24)) := by
  refine ⟨((Below.refl _ w).alloc (Nat.le_refl _) _).alloc (by simp) _, (Below.heap_alloc _ _ _ (by simp)).trans (World.alloc_heap_new w _), ?_⟩
  have := World.alloc_heap_new (w.alloc (.cells #[.int .i64 f, .int .i64 t] 24)) (.cells #[.int .i64 0, .int .i64 0] 24)
  rw [World.size_alloc] at this; exact this
theorem SpX.res {w : World} {f t : Int} {W : World} (h : SpX w f t W) (x y : Int) (tmps : Array Value) (ok : Bool) (h4 : tmps.getD 4 undef = .pointer (some ⟨w.heap.size + 1, 0, none⟩)) (h5 : tmps.getD 5 undef = .bool ok) (v : Value) (hv : v = .tuple #[.agg #[.int .i64 x, .int .i64 y], .bool ok]) :
    bodyPost Try.prog Try.f12 (fun e W' => e = .returned v ∧ Below w.heap.size w W') .ret { tmps := tmps, defers := [] } ((W.setCell ⟨w.heap.size + 1, 0, none⟩ (.int .i64 x)).setCell ⟨w.heap.size + 1, 1, none⟩ (.int .i64 y)) := by
  have a0 := heap_setCell (i := 0) h.2.2 (.int .i64 x)
  have a1 := heap_setCell (i := 1) a0 (.int .i64 y)
  refine bodyPost_ret (results_ct rfl _ _ (w.heap.size + 1) 24 #[.int .i64 x, .int .i64 y] (0, 0) _ h4 (by simpa using a1) Try.underlying24 rfl (by kernel_rfl)) rfl ⟨by rw [hv, h5], ?_⟩
  exact (h.1.setCell (p := ⟨w.heap.size + 1, 0, none⟩) (by show w.heap.size ≤ w.heap.size + 1; omega) _).setCell (p := ⟨w.heap.size + 1, 1, none⟩) (by show w.heap.size ≤ w.heap.size + 1; omega) _

set_option maxRecDepth 20000 in
set_option maxHeartbeats 8000000 in
theorem rspan_no (a : Option Addr) (cap : Nat) (rs : List Rn) (f t : Int) (w : World) (hS : CameR w.heap.size w a rs) (hl : rs.length ≤ 1000000) (hB : spanB rs f t = false) :
    Calls Try.prog 12 #[.slice a rs.length cap, .agg #[.int .i64 f, .int .i64 t]] w fun e W' => e = .returned (spanV rs f t) ∧ Below w.heap.size w W' := by
  have hV : spanV rs f t = .tuple #[.agg #[.int .i64 0, .int .i64 0], .bool false] := by rw [spanV, spanP, if_neg (by rw [hB]; simp), hB]
  have HV := hide hV
  have hX := spx_new w f t
  have HSW := hide hX.drew
  have HG : Hid (∀ W, SpX w f t W → Calls Try.prog 21 #[.slice a rs.length cap] W fun e W' => e = .returned (.bool (isG rs)) ∧ Below W.heap.size W W') := hide fun W h => rgood_any a cap rs W ((hS.below h.lo).mono h.lo.size) hl
  have HI : Hid (∀ W, SpX w f t W → Calls Try.prog 22 #[.slice a rs.length cap] W fun e W' => e = .returned (.int .i64 (mIn (meas rs))) ∧ Below W.heap.size W W') := hide fun W h => rin_any a cap rs W ((hS.below h.lo).mono h.lo.size) hl
  clear hS hV hX
  cases hg : isG rs with
  | false =>
    rw [hg] at HG
    clear hg hB
    go_enter Try.func12, Try.ntmps12
    go_wp2_with fail
    refine heldS_startP (S := SpX w f t) (by kernel_rfl) ?_
    refine heldS_take (i := 0) (oi := { dst := some 12, op := Op.move (Operand.tmp 0), type := 22, pos := _, after := _, guard := none }) (v := _) rfl (by kernel_rfl) (by kernel_rfl) (by kernel_rfl) (fun _ _ _ h => h) (by rfl) (by intro w' hSw; go_simp; try with_reducible rfl) HSW.out ?_
    simp only [Act.put, List.setIfInBounds_toArray, List.set_cons_zero, List.set_cons_succ]
    refine heldS_step (i := 1) (o := { dst := some 13, op := Op.call { callee := Callee.value (Operand.func 21), args := #[Operand.tmp 12], argTypes := #[22] }, type := 4, pos := _, after := _, guard := none }) (by kernel_rfl) rfl (by rfl) HSW.out (fun K hK => ?_)
    go_simp
    refine (HG.out _ HSW.out).mono ?_
    rintro e W1 ⟨rfl, hb⟩
    replace HSW := hide (HSW.out.up hb)
    clear hb
    refine hK.out _ _ ?_
    clear hK K
    try simp only [Act.put, List.setIfInBounds_toArray, List.set_cons_zero, List.set_cons_succ]
    refine heldS_take (i := 2) (oi := { dst := some 14, op := Op.unOp UnOp.not 4 (Operand.tmp 13), type := 4, pos := _, after := _, guard := none }) (v := _) rfl (by kernel_rfl) (by kernel_rfl) (by kernel_rfl) (fun _ _ _ h => h) (by rfl) (by intro w' hSw; go_simp; try with_reducible rfl) HSW.out ?_
    simp only [Act.put, List.setIfInBounds_toArray, List.set_cons_zero, List.set_cons_succ]
    refine heldS_take (i := 3) (oi := { dst := some 15, op := Op.move (Operand.tmp 14), type := 4, pos := _, after := _, guard := none }) (v := _) rfl (by kernel_rfl) (by kernel_rfl) (by kernel_rfl) (fun _ _ _ h => h) (by rfl) (by intro w' hSw; go_simp; try with_reducible rfl) HSW.out ?_
    simp only [Act.put, List.setIfInBounds_toArray, List.set_cons_zero, List.set_cons_succ]
    refine heldS_skip (i := 4) (oi := { dst := some 16, op := Op.fieldAddr 24 (Operand.tmp 3) 0, type := 0, pos := _, after := _, guard := some (3, false) }) rfl (by kernel_rfl) (by kernel_rfl) (by kernel_rfl) (fun _ _ _ h => h) (by rfl) HSW.out ?_
    simp only [Act.put, List.setIfInBounds_toArray, List.set_cons_zero, List.set_cons_succ]
    refine heldS_skip (i := 5) (oi := { dst := some 17, op := Op.load 3 (Operand.tmp 16), type := 3, pos := _, after := _, guard := some (3, false) }) rfl (by kernel_rfl) (by kernel_rfl) (by kernel_rfl) (fun _ _ _ h => h) (by rfl) HSW.out ?_
    simp only [Act.put, List.setIfInBounds_toArray, List.set_cons_zero, List.set_cons_succ]
    refine heldS_skip (i := 6) (oi := { dst := some 18, op := Op.binOp BinOp.lss 3 (Operand.tmp 17) (Operand.const (Value.int IntKind.i64 0)) 3, type := 4, pos := _, after := _, guard := some (3, false) }) rfl (by kernel_rfl) (by kernel_rfl) (by kernel_rfl) (fun _ _ _ h => h) (by rfl) HSW.out ?_
    simp only [Act.put, List.setIfInBounds_toArray, List.set_cons_zero, List.set_cons_succ]
    refine heldS_take (i := 7) (oi := { dst := some 19, op := Op.pick (Operand.tmp 15) (Operand.const (Value.bool true)) (Operand.tmp 18), type := 4, pos := _, after := _, guard := none }) (v := _) rfl (by kernel_rfl) (by kernel_rfl) (by kernel_rfl) (fun _ _ _ h => h) (by rfl) (by intro w' hSw; go_simp; try with_reducible rfl) HSW.out ?_
    simp only [Act.put, List.setIfInBounds_toArray, List.set_cons_zero, List.set_cons_succ]
    refine heldS_take (i := 8) (oi := { dst := some 20, op := Op.move (Operand.tmp 19), type := 4, pos := _, after := _, guard := none }) (v := _) rfl (by kernel_rfl) (by kernel_rfl) (by kernel_rfl) (fun _ _ _ h => h) (by rfl) (by intro w' hSw; go_simp; try with_reducible rfl) HSW.out ?_
    simp only [Act.put, List.setIfInBounds_toArray, List.set_cons_zero, List.set_cons_succ]
    refine heldS_skip (i := 9) (oi := { dst := some 21, op := Op.fieldAddr 24 (Operand.tmp 3) 0, type := 0, pos := _, after := _, guard := some (8, false) }) rfl (by kernel_rfl) (by kernel_rfl) (by kernel_rfl) (fun _ _ _ h => h) (by rfl) HSW.out ?_
    simp only [Act.put, List.setIfInBounds_toArray, List.set_cons_zero, List.set_cons_succ]
    refine heldS_skip (i := 10) (oi := { dst := some 22, op := Op.load 3 (Operand.tmp 21), type := 3, pos := _, after := _, guard := some (8, false) }) rfl (by kernel_rfl) (by kernel_rfl) (by kernel_rfl) (fun _ _ _ h => h) (by rfl) HSW.out ?_
    simp only [Act.put, List.setIfInBounds_toArray, List.set_cons_zero, List.set_cons_succ]
    refine heldS_skip (i := 11) (oi := { dst := some 23, op := Op.fieldAddr 24 (Operand.tmp 3) 1, type := 0, pos := _, after := _, guard := some (8, false) }) rfl (by kernel_rfl) (by kernel_rfl) (by kernel_rfl) (fun _ _ _ h => h) (by rfl) HSW.out ?_
    simp only [Act.put, List.setIfInBounds_toArray, List.set_cons_zero, List.set_cons_succ]
    refine heldS_skip (i := 12) (oi := { dst := some 24, op := Op.load 3 (Operand.tmp 23), type := 3, pos := _, after := _, guard := some (8, false) }) rfl (by kernel_rfl) (by kernel_rfl) (by kernel_rfl) (fun _ _ _ h => h) (by rfl) HSW.out ?_
    simp only [Act.put, List.setIfInBounds_toArray, List.set_cons_zero, List.set_cons_succ]
    refine heldS_skip (i := 13) (oi := { dst := some 25, op := Op.binOp BinOp.gtr 3 (Operand.tmp 22) (Operand.tmp 24) 3, type := 4, pos := _, after := _, guard := some (8, false) }) rfl (by kernel_rfl) (by kernel_rfl) (by kernel_rfl) (fun _ _ _ h => h) (by rfl) HSW.out ?_
    simp only [Act.put, List.setIfInBounds_toArray, List.set_cons_zero, List.set_cons_succ]
    refine heldS_take (i := 14) (oi := { dst := some 26, op := Op.pick (Operand.tmp 20) (Operand.const (Value.bool true)) (Operand.tmp 25), type := 4, pos := _, after := _, guard := none }) (v := _) rfl (by kernel_rfl) (by kernel_rfl) (by kernel_rfl) (fun _ _ _ h => h) (by rfl) (by intro w' hSw; go_simp; try with_reducible rfl) HSW.out ?_
    simp only [Act.put, List.setIfInBounds_toArray, List.set_cons_zero, List.set_cons_succ]
    refine heldS_take (i := 15) (oi := { dst := some 27, op := Op.move (Operand.tmp 26), type := 4, pos := _, after := _, guard := none }) (v := _) rfl (by kernel_rfl) (by kernel_rfl) (by kernel_rfl) (fun _ _ _ h => h) (by rfl) (by intro w' hSw; go_simp; try with_reducible rfl) HSW.out ?_
    simp only [Act.put, List.setIfInBounds_toArray, List.set_cons_zero, List.set_cons_succ]
    refine heldS_skip (i := 16) (oi := { dst := some 28, op := Op.fieldAddr 24 (Operand.tmp 3) 1, type := 0, pos := _, after := _, guard := some (15, false) }) rfl (by kernel_rfl) (by kernel_rfl) (by kernel_rfl) (fun _ _ _ h => h) (by rfl) HSW.out ?_
    simp only [Act.put, List.setIfInBounds_toArray, List.set_cons_zero, List.set_cons_succ]
    refine heldS_skip (i := 17) (oi := { dst := some 29, op := Op.load 3 (Operand.tmp 28), type := 3, pos := _, after := _, guard := some (15, false) }) rfl (by kernel_rfl) (by kernel_rfl) (by kernel_rfl) (fun _ _ _ h => h) (by rfl) HSW.out ?_
    simp only [Act.put, List.setIfInBounds_toArray, List.set_cons_zero, List.set_cons_succ]
    refine heldS_skip (i := 18) (oi := { dst := some 30, op := Op.move (Operand.tmp 0), type := 22, pos := _, after := _, guard := some (15, false) }) rfl (by kernel_rfl) (by kernel_rfl) (by kernel_rfl) (fun _ _ _ h => h) (by rfl) HSW.out ?_
    simp only [Act.put, List.setIfInBounds_toArray, List.set_cons_zero, List.set_cons_succ]
    refine heldS_skip (i := 19) (oi := { dst := some 31, op := Op.call { callee := Callee.value (Operand.func 22), args := #[Operand.tmp 30], argTypes := #[22] }, type := 3, pos := _, after := _, guard := some (15, false) }) rfl (by kernel_rfl) (by kernel_rfl) (by kernel_rfl) (fun _ _ _ h => h) (by rfl) HSW.out ?_
    simp only [Act.put, List.setIfInBounds_toArray, List.set_cons_zero, List.set_cons_succ]
    refine heldS_skip (i := 20) (oi := { dst := some 32, op := Op.binOp BinOp.gtr 3 (Operand.tmp 29) (Operand.tmp 31) 3, type := 4, pos := _, after := _, guard := some (15, false) }) rfl (by kernel_rfl) (by kernel_rfl) (by kernel_rfl) (fun _ _ _ h => h) (by rfl) HSW.out ?_
    simp only [Act.put, List.setIfInBounds_toArray, List.set_cons_zero, List.set_cons_succ]
    refine heldS_take (i := 21) (oi := { dst := some 33, op := Op.pick (Operand.tmp 27) (Operand.const (Value.bool true)) (Operand.tmp 32), type := 4, pos := _, after := _, guard := none }) (v := _) rfl (by kernel_rfl) (by kernel_rfl) (by kernel_rfl) (fun _ _ _ h => h) (by rfl) (by intro w' hSw; go_simp; try with_reducible rfl) HSW.out ?_
    simp only [Act.put, List.setIfInBounds_toArray, List.set_cons_zero, List.set_cons_succ]
    refine heldS_done (by kernel_rfl) HSW.out ?_
    obtain ⟨k0, k1, k2, k3, k4, k5⟩ := HSW.out.cells
    go_wp2
    refine HSW.out.res 0 0 _ false ?_ ?_ _ HV.out <;> rfl
  | true =>
    rw [hg] at HG
    obtain ⟨e1, -, -, -, -, hk⟩ := good_sums hg
    rw [e1] at HI
    have h0 : ¬ (0 ≤ f ∧ f ≤ t ∧ t ≤ sI rs) := by unfold spanB at hB; rw [hg] at hB; simpa using hB
    clear hg hB e1 hk
    by_cases h1 : f < 0
    · clear h0
      go_enter Try.func12, Try.ntmps12
      go_wp2_with fail
      refine heldS_startP (S := SpX w f t) (by kernel_rfl) ?_
      refine heldS_take (i := 0) (oi := { dst := some 12, op := Op.move (Operand.tmp 0), type := 22, pos := _, after := _, guard := none }) (v := _) rfl (by kernel_rfl) (by kernel_rfl) (by kernel_rfl) (fun _ _ _ h => h) (by rfl) (by intro w' hSw; go_simp; try with_reducible rfl) HSW.out ?_
      simp only [Act.put, List.setIfInBounds_toArray, List.set_cons_zero, List.set_cons_succ]
      refine heldS_step (i := 1) (o := { dst := some 13, op := Op.call { callee := Callee.value (Operand.func 21), args := #[Operand.tmp 12], argTypes := #[22] }, type := 4, pos := _, after := _, guard := none }) (by kernel_rfl) rfl (by rfl) HSW.out (fun K hK => ?_)
      go_simp
      refine (HG.out _ HSW.out).mono ?_
      rintro e W1 ⟨rfl, hb⟩
      replace HSW := hide (HSW.out.up hb)
      clear hb
      refine hK.out _ _ ?_
      clear hK K
      try simp only [Act.put, List.setIfInBounds_toArray, List.set_cons_zero, List.set_cons_succ]
      refine heldS_take (i := 2) (oi := { dst := some 14, op := Op.unOp UnOp.not 4 (Operand.tmp 13), type := 4, pos := _, after := _, guard := none }) (v := _) rfl (by kernel_rfl) (by kernel_rfl) (by kernel_rfl) (fun _ _ _ h => h) (by rfl) (by intro w' hSw; go_simp; try with_reducible rfl) HSW.out ?_
      simp only [Act.put, List.setIfInBounds_toArray, List.set_cons_zero, List.set_cons_succ]
      refine heldS_take (i := 3) (oi := { dst := some 15, op := Op.move (Operand.tmp 14), type := 4, pos := _, after := _, guard := none }) (v := _) rfl (by kernel_rfl) (by kernel_rfl) (by kernel_rfl) (fun _ _ _ h => h) (by rfl) (by intro w' hSw; go_simp; try with_reducible rfl) HSW.out ?_
      simp only [Act.put, List.setIfInBounds_toArray, List.set_cons_zero, List.set_cons_succ]
      refine heldS_take (i := 4) (oi := { dst := some 16, op := Op.fieldAddr 24 (Operand.tmp 3) 0, type := 0, pos := _, after := _, guard := some (3, false) }) (v := _) rfl (by kernel_rfl) (by kernel_rfl) (by kernel_rfl) (fun _ _ _ h => h) (by rfl) (by intro w' hSw; go_simp; try with_reducible rfl) HSW.out ?_
      simp only [Act.put, List.setIfInBounds_toArray, List.set_cons_zero, List.set_cons_succ]
      refine heldS_take (i := 5) (oi := { dst := some 17, op := Op.load 3 (Operand.tmp 16), type := 3, pos := _, after := _, guard := some (3, false) }) (v := _) rfl (by kernel_rfl) (by kernel_rfl) (by kernel_rfl) (fun _ _ _ h => h) (by rfl) (by intro w' hSw; obtain ⟨c0, c1, c2, c3, c4, c5⟩ := hSw.cells; go_simp; try with_reducible rfl) HSW.out ?_
      simp only [Act.put, List.setIfInBounds_toArray, List.set_cons_zero, List.set_cons_succ]
      refine heldS_take (i := 6) (oi := { dst := some 18, op := Op.binOp BinOp.lss 3 (Operand.tmp 17) (Operand.const (Value.int IntKind.i64 0)) 3, type := 4, pos := _, after := _, guard := some (3, false) }) (v := .bool true) rfl (by kernel_rfl) (by kernel_rfl) (by kernel_rfl) (fun _ _ _ h => h) (by rfl) (by intro w' hSw; go_simp; try with_reducible rfl) HSW.out ?_
      simp only [Act.put, List.setIfInBounds_toArray, List.set_cons_zero, List.set_cons_succ]
      refine heldS_take (i := 7) (oi := { dst := some 19, op := Op.pick (Operand.tmp 15) (Operand.const (Value.bool true)) (Operand.tmp 18), type := 4, pos := _, after := _, guard := none }) (v := _) rfl (by kernel_rfl) (by kernel_rfl) (by kernel_rfl) (fun _ _ _ h => h) (by rfl) (by intro w' hSw; go_simp; try with_reducible rfl) HSW.out ?_
      simp only [Act.put, List.setIfInBounds_toArray, List.set_cons_zero, List.set_cons_succ]
      refine heldS_take (i := 8) (oi := { dst := some 20, op := Op.move (Operand.tmp 19), type := 4, pos := _, after := _, guard := none }) (v := _) rfl (by kernel_rfl) (by kernel_rfl) (by kernel_rfl) (fun _ _ _ h => h) (by rfl) (by intro w' hSw; go_simp; try with_reducible rfl) HSW.out ?_
      simp only [Act.put, List.setIfInBounds_toArray, List.set_cons_zero, List.set_cons_succ]
      refine heldS_skip (i := 9) (oi := { dst := some 21, op := Op.fieldAddr 24 (Operand.tmp 3) 0, type := 0, pos := _, after := _, guard := some (8, false) }) rfl (by kernel_rfl) (by kernel_rfl) (by kernel_rfl) (fun _ _ _ h => h) (by rfl) HSW.out ?_
      simp only [Act.put, List.setIfInBounds_toArray, List.set_cons_zero, List.set_cons_succ]
      refine heldS_skip (i := 10) (oi := { dst := some 22, op := Op.load 3 (Operand.tmp 21), type := 3, pos := _, after := _, guard := some (8, false) }) rfl (by kernel_rfl) (by kernel_rfl) (by kernel_rfl) (fun _ _ _ h => h) (by rfl) HSW.out ?_
      simp only [Act.put, List.setIfInBounds_toArray, List.set_cons_zero, List.set_cons_succ]
      refine heldS_skip (i := 11) (oi := { dst := some 23, op := Op.fieldAddr 24 (Operand.tmp 3) 1, type := 0, pos := _, after := _, guard := some (8, false) }) rfl (by kernel_rfl) (by kernel_rfl) (by kernel_rfl) (fun _ _ _ h => h) (by rfl) HSW.out ?_
      simp only [Act.put, List.setIfInBounds_toArray, List.set_cons_zero, List.set_cons_succ]
      refine heldS_skip (i := 12) (oi := { dst := some 24, op := Op.load 3 (Operand.tmp 23), type := 3, pos := _, after := _, guard := some (8, false) }) rfl (by kernel_rfl) (by kernel_rfl) (by kernel_rfl) (fun _ _ _ h => h) (by rfl) HSW.out ?_
      simp only [Act.put, List.setIfInBounds_toArray, List.set_cons_zero, List.set_cons_succ]
      refine heldS_skip (i := 13) (oi := { dst := some 25, op := Op.binOp BinOp.gtr 3 (Operand.tmp 22) (Operand.tmp 24) 3, type := 4, pos := _, after := _, guard := some (8, false) }) rfl (by kernel_rfl) (by kernel_rfl) (by kernel_rfl) (fun _ _ _ h => h) (by rfl) HSW.out ?_
      simp only [Act.put, List.setIfInBounds_toArray, List.set_cons_zero, List.set_cons_succ]
      refine heldS_take (i := 14) (oi := { dst := some 26, op := Op.pick (Operand.tmp 20) (Operand.const (Value.bool true)) (Operand.tmp 25), type := 4, pos := _, after := _, guard := none }) (v := _) rfl (by kernel_rfl) (by kernel_rfl) (by kernel_rfl) (fun _ _ _ h => h) (by rfl) (by intro w' hSw; go_simp; try with_reducible rfl) HSW.out ?_
      simp only [Act.put, List.setIfInBounds_toArray, List.set_cons_zero, List.set_cons_succ]
      refine heldS_take (i := 15) (oi := { dst := some 27, op := Op.move (Operand.tmp 26), type := 4, pos := _, after := _, guard := none }) (v := _) rfl (by kernel_rfl) (by kernel_rfl) (by kernel_rfl) (fun _ _ _ h => h) (by rfl) (by intro w' hSw; go_simp; try with_reducible rfl) HSW.out ?_
      simp only [Act.put, List.setIfInBounds_toArray, List.set_cons_zero, List.set_cons_succ]
      refine heldS_skip (i := 16) (oi := { dst := some 28, op := Op.fieldAddr 24 (Operand.tmp 3) 1, type := 0, pos := _, after := _, guard := some (15, false) }) rfl (by kernel_rfl) (by kernel_rfl) (by kernel_rfl) (fun _ _ _ h => h) (by rfl) HSW.out ?_
      simp only [Act.put, List.setIfInBounds_toArray, List.set_cons_zero, List.set_cons_succ]
      refine heldS_skip (i := 17) (oi := { dst := some 29, op := Op.load 3 (Operand.tmp 28), type := 3, pos := _, after := _, guard := some (15, false) }) rfl (by kernel_rfl) (by kernel_rfl) (by kernel_rfl) (fun _ _ _ h => h) (by rfl) HSW.out ?_
      simp only [Act.put, List.setIfInBounds_toArray, List.set_cons_zero, List.set_cons_succ]
      refine heldS_skip (i := 18) (oi := { dst := some 30, op := Op.move (Operand.tmp 0), type := 22, pos := _, after := _, guard := some (15, false) }) rfl (by kernel_rfl) (by kernel_rfl) (by kernel_rfl) (fun _ _ _ h => h) (by rfl) HSW.out ?_
      simp only [Act.put, List.setIfInBounds_toArray, List.set_cons_zero, List.set_cons_succ]
      refine heldS_skip (i := 19) (oi := { dst := some 31, op := Op.call { callee := Callee.value (Operand.func 22), args := #[Operand.tmp 30], argTypes := #[22] }, type := 3, pos := _, after := _, guard := some (15, false) }) rfl (by kernel_rfl) (by kernel_rfl) (by kernel_rfl) (fun _ _ _ h => h) (by rfl) HSW.out ?_
      simp only [Act.put, List.setIfInBounds_toArray, List.set_cons_zero, List.set_cons_succ]
      refine heldS_skip (i := 20) (oi := { dst := some 32, op := Op.binOp BinOp.gtr 3 (Operand.tmp 29) (Operand.tmp 31) 3, type := 4, pos := _, after := _, guard := some (15, false) }) rfl (by kernel_rfl) (by kernel_rfl) (by kernel_rfl) (fun _ _ _ h => h) (by rfl) HSW.out ?_
      simp only [Act.put, List.setIfInBounds_toArray, List.set_cons_zero, List.set_cons_succ]
      refine heldS_take (i := 21) (oi := { dst := some 33, op := Op.pick (Operand.tmp 27) (Operand.const (Value.bool true)) (Operand.tmp 32), type := 4, pos := _, after := _, guard := none }) (v := _) rfl (by kernel_rfl) (by kernel_rfl) (by kernel_rfl) (fun _ _ _ h => h) (by rfl) (by intro w' hSw; go_simp; try with_reducible rfl) HSW.out ?_
      simp only [Act.put, List.setIfInBounds_toArray, List.set_cons_zero, List.set_cons_succ]
      refine heldS_done (by kernel_rfl) HSW.out ?_
      obtain ⟨k0, k1, k2, k3, k4, k5⟩ := HSW.out.cells
      go_wp2
      refine HSW.out.res 0 0 _ false ?_ ?_ _ HV.out <;> rfl
    · by_cases h2 : t < f
      · clear h0
        go_enter Try.func12, Try.ntmps12
        go_wp2_with fail
        refine heldS_startP (S := SpX w f t) (by kernel_rfl) ?_
        refine heldS_take (i := 0) (oi := { dst := some 12, op := Op.move (Operand.tmp 0), type := 22, pos := _, after := _, guard := none }) (v := _) rfl (by kernel_rfl) (by kernel_rfl) (by kernel_rfl) (fun _ _ _ h => h) (by rfl) (by intro w' hSw; go_simp; try with_reducible rfl) HSW.out ?_
        simp only [Act.put, List.setIfInBounds_toArray, List.set_cons_zero, List.set_cons_succ]
        refine heldS_step (i := 1) (o := { dst := some 13, op := Op.call { callee := Callee.value (Operand.func 21), args := #[Operand.tmp 12], argTypes := #[22] }, type := 4, pos := _, after := _, guard := none }) (by kernel_rfl) rfl (by rfl) HSW.out (fun K hK => ?_)
        go_simp
        refine (HG.out _ HSW.out).mono ?_
        rintro e W1 ⟨rfl, hb⟩
        replace HSW := hide (HSW.out.up hb)
        clear hb
        refine hK.out _ _ ?_
        clear hK K
        try simp only [Act.put, List.setIfInBounds_toArray, List.set_cons_zero, List.set_cons_succ]
        refine heldS_take (i := 2) (oi := { dst := some 14, op := Op.unOp UnOp.not 4 (Operand.tmp 13), type := 4, pos := _, after := _, guard := none }) (v := _) rfl (by kernel_rfl) (by kernel_rfl) (by kernel_rfl) (fun _ _ _ h => h) (by rfl) (by intro w' hSw; go_simp; try with_reducible rfl) HSW.out ?_
        simp only [Act.put, List.setIfInBounds_toArray, List.set_cons_zero, List.set_cons_succ]
        refine heldS_take (i := 3) (oi := { dst := some 15, op := Op.move (Operand.tmp 14), type := 4, pos := _, after := _, guard := none }) (v := _) rfl (by kernel_rfl) (by kernel_rfl) (by kernel_rfl) (fun _ _ _ h => h) (by rfl) (by intro w' hSw; go_simp; try with_reducible rfl) HSW.out ?_
        simp only [Act.put, List.setIfInBounds_toArray, List.set_cons_zero, List.set_cons_succ]
        refine heldS_take (i := 4) (oi := { dst := some 16, op := Op.fieldAddr 24 (Operand.tmp 3) 0, type := 0, pos := _, after := _, guard := some (3, false) }) (v := _) rfl (by kernel_rfl) (by kernel_rfl) (by kernel_rfl) (fun _ _ _ h => h) (by rfl) (by intro w' hSw; go_simp; try with_reducible rfl) HSW.out ?_
        simp only [Act.put, List.setIfInBounds_toArray, List.set_cons_zero, List.set_cons_succ]
        refine heldS_take (i := 5) (oi := { dst := some 17, op := Op.load 3 (Operand.tmp 16), type := 3, pos := _, after := _, guard := some (3, false) }) (v := _) rfl (by kernel_rfl) (by kernel_rfl) (by kernel_rfl) (fun _ _ _ h => h) (by rfl) (by intro w' hSw; obtain ⟨c0, c1, c2, c3, c4, c5⟩ := hSw.cells; go_simp; try with_reducible rfl) HSW.out ?_
        simp only [Act.put, List.setIfInBounds_toArray, List.set_cons_zero, List.set_cons_succ]
        refine heldS_take (i := 6) (oi := { dst := some 18, op := Op.binOp BinOp.lss 3 (Operand.tmp 17) (Operand.const (Value.int IntKind.i64 0)) 3, type := 4, pos := _, after := _, guard := some (3, false) }) (v := .bool false) rfl (by kernel_rfl) (by kernel_rfl) (by kernel_rfl) (fun _ _ _ h => h) (by rfl) (by intro w' hSw; go_simp; try with_reducible rfl) HSW.out ?_
        simp only [Act.put, List.setIfInBounds_toArray, List.set_cons_zero, List.set_cons_succ]
        refine heldS_take (i := 7) (oi := { dst := some 19, op := Op.pick (Operand.tmp 15) (Operand.const (Value.bool true)) (Operand.tmp 18), type := 4, pos := _, after := _, guard := none }) (v := _) rfl (by kernel_rfl) (by kernel_rfl) (by kernel_rfl) (fun _ _ _ h => h) (by rfl) (by intro w' hSw; go_simp; try with_reducible rfl) HSW.out ?_
        simp only [Act.put, List.setIfInBounds_toArray, List.set_cons_zero, List.set_cons_succ]
        refine heldS_take (i := 8) (oi := { dst := some 20, op := Op.move (Operand.tmp 19), type := 4, pos := _, after := _, guard := none }) (v := _) rfl (by kernel_rfl) (by kernel_rfl) (by kernel_rfl) (fun _ _ _ h => h) (by rfl) (by intro w' hSw; go_simp; try with_reducible rfl) HSW.out ?_
        simp only [Act.put, List.setIfInBounds_toArray, List.set_cons_zero, List.set_cons_succ]
        refine heldS_take (i := 9) (oi := { dst := some 21, op := Op.fieldAddr 24 (Operand.tmp 3) 0, type := 0, pos := _, after := _, guard := some (8, false) }) (v := _) rfl (by kernel_rfl) (by kernel_rfl) (by kernel_rfl) (fun _ _ _ h => h) (by rfl) (by intro w' hSw; go_simp; try with_reducible rfl) HSW.out ?_
        simp only [Act.put, List.setIfInBounds_toArray, List.set_cons_zero, List.set_cons_succ]
        refine heldS_take (i := 10) (oi := { dst := some 22, op := Op.load 3 (Operand.tmp 21), type := 3, pos := _, after := _, guard := some (8, false) }) (v := _) rfl (by kernel_rfl) (by kernel_rfl) (by kernel_rfl) (fun _ _ _ h => h) (by rfl) (by intro w' hSw; obtain ⟨c0, c1, c2, c3, c4, c5⟩ := hSw.cells; go_simp; try with_reducible rfl) HSW.out ?_
        simp only [Act.put, List.setIfInBounds_toArray, List.set_cons_zero, List.set_cons_succ]
        refine heldS_take (i := 11) (oi := { dst := some 23, op := Op.fieldAddr 24 (Operand.tmp 3) 1, type := 0, pos := _, after := _, guard := some (8, false) }) (v := _) rfl (by kernel_rfl) (by kernel_rfl) (by kernel_rfl) (fun _ _ _ h => h) (by rfl) (by intro w' hSw; go_simp; try with_reducible rfl) HSW.out ?_
        simp only [Act.put, List.setIfInBounds_toArray, List.set_cons_zero, List.set_cons_succ]
        refine heldS_take (i := 12) (oi := { dst := some 24, op := Op.load 3 (Operand.tmp 23), type := 3, pos := _, after := _, guard := some (8, false) }) (v := _) rfl (by kernel_rfl) (by kernel_rfl) (by kernel_rfl) (fun _ _ _ h => h) (by rfl) (by intro w' hSw; obtain ⟨c0, c1, c2, c3, c4, c5⟩ := hSw.cells; go_simp; try with_reducible rfl) HSW.out ?_
        simp only [Act.put, List.setIfInBounds_toArray, List.set_cons_zero, List.set_cons_succ]
        refine heldS_take (i := 13) (oi := { dst := some 25, op := Op.binOp BinOp.gtr 3 (Operand.tmp 22) (Operand.tmp 24) 3, type := 4, pos := _, after := _, guard := some (8, false) }) (v := .bool true) rfl (by kernel_rfl) (by kernel_rfl) (by kernel_rfl) (fun _ _ _ h => h) (by rfl) (by intro w' hSw; go_simp; try with_reducible rfl) HSW.out ?_
        simp only [Act.put, List.setIfInBounds_toArray, List.set_cons_zero, List.set_cons_succ]
        refine heldS_take (i := 14) (oi := { dst := some 26, op := Op.pick (Operand.tmp 20) (Operand.const (Value.bool true)) (Operand.tmp 25), type := 4, pos := _, after := _, guard := none }) (v := _) rfl (by kernel_rfl) (by kernel_rfl) (by kernel_rfl) (fun _ _ _ h => h) (by rfl) (by intro w' hSw; go_simp; try with_reducible rfl) HSW.out ?_
        simp only [Act.put, List.setIfInBounds_toArray, List.set_cons_zero, List.set_cons_succ]
        refine heldS_take (i := 15) (oi := { dst := some 27, op := Op.move (Operand.tmp 26), type := 4, pos := _, after := _, guard := none }) (v := _) rfl (by kernel_rfl) (by kernel_rfl) (by kernel_rfl) (fun _ _ _ h => h) (by rfl) (by intro w' hSw; go_simp; try with_reducible rfl) HSW.out ?_
        simp only [Act.put, List.setIfInBounds_toArray, List.set_cons_zero, List.set_cons_succ]
        refine heldS_skip (i := 16) (oi := { dst := some 28, op := Op.fieldAddr 24 (Operand.tmp 3) 1, type := 0, pos := _, after := _, guard := some (15, false) }) rfl (by kernel_rfl) (by kernel_rfl) (by kernel_rfl) (fun _ _ _ h => h) (by rfl) HSW.out ?_
        simp only [Act.put, List.setIfInBounds_toArray, List.set_cons_zero, List.set_cons_succ]
        refine heldS_skip (i := 17) (oi := { dst := some 29, op := Op.load 3 (Operand.tmp 28), type := 3, pos := _, after := _, guard := some (15, false) }) rfl (by kernel_rfl) (by kernel_rfl) (by kernel_rfl) (fun _ _ _ h => h) (by rfl) HSW.out ?_
        simp only [Act.put, List.setIfInBounds_toArray, List.set_cons_zero, List.set_cons_succ]
        refine heldS_skip (i := 18) (oi := { dst := some 30, op := Op.move (Operand.tmp 0), type := 22, pos := _, after := _, guard := some (15, false) }) rfl (by kernel_rfl) (by kernel_rfl) (by kernel_rfl) (fun _ _ _ h => h) (by rfl) HSW.out ?_
        simp only [Act.put, List.setIfInBounds_toArray, List.set_cons_zero, List.set_cons_succ]
        refine heldS_skip (i := 19) (oi := { dst := some 31, op := Op.call { callee := Callee.value (Operand.func 22), args := #[Operand.tmp 30], argTypes := #[22] }, type := 3, pos := _, after := _, guard := some (15, false) }) rfl (by kernel_rfl) (by kernel_rfl) (by kernel_rfl) (fun _ _ _ h => h) (by rfl) HSW.out ?_
        simp only [Act.put, List.setIfInBounds_toArray, List.set_cons_zero, List.set_cons_succ]
        refine heldS_skip (i := 20) (oi := { dst := some 32, op := Op.binOp BinOp.gtr 3 (Operand.tmp 29) (Operand.tmp 31) 3, type := 4, pos := _, after := _, guard := some (15, false) }) rfl (by kernel_rfl) (by kernel_rfl) (by kernel_rfl) (fun _ _ _ h => h) (by rfl) HSW.out ?_
        simp only [Act.put, List.setIfInBounds_toArray, List.set_cons_zero, List.set_cons_succ]
        refine heldS_take (i := 21) (oi := { dst := some 33, op := Op.pick (Operand.tmp 27) (Operand.const (Value.bool true)) (Operand.tmp 32), type := 4, pos := _, after := _, guard := none }) (v := _) rfl (by kernel_rfl) (by kernel_rfl) (by kernel_rfl) (fun _ _ _ h => h) (by rfl) (by intro w' hSw; go_simp; try with_reducible rfl) HSW.out ?_
        simp only [Act.put, List.setIfInBounds_toArray, List.set_cons_zero, List.set_cons_succ]
        refine heldS_done (by kernel_rfl) HSW.out ?_
        obtain ⟨k0, k1, k2, k3, k4, k5⟩ := HSW.out.cells
        go_wp2
        refine HSW.out.res 0 0 _ false ?_ ?_ _ HV.out <;> rfl
      · have h3 : sI rs < t := by omega
        clear h0
        go_enter Try.func12, Try.ntmps12
        go_wp2_with fail
        refine heldS_startP (S := SpX w f t) (by kernel_rfl) ?_
        refine heldS_take (i := 0) (oi := { dst := some 12, op := Op.move (Operand.tmp 0), type := 22, pos := _, after := _, guard := none }) (v := _) rfl (by kernel_rfl) (by kernel_rfl) (by kernel_rfl) (fun _ _ _ h => h) (by rfl) (by intro w' hSw; go_simp; try with_reducible rfl) HSW.out ?_
        simp only [Act.put, List.setIfInBounds_toArray, List.set_cons_zero, List.set_cons_succ]
        refine heldS_step (i := 1) (o := { dst := some 13, op := Op.call { callee := Callee.value (Operand.func 21), args := #[Operand.tmp 12], argTypes := #[22] }, type := 4, pos := _, after := _, guard := none }) (by kernel_rfl) rfl (by rfl) HSW.out (fun K hK => ?_)
        go_simp
        refine (HG.out _ HSW.out).mono ?_
        rintro e W1 ⟨rfl, hb⟩
        replace HSW := hide (HSW.out.up hb)
        clear hb
        refine hK.out _ _ ?_
        clear hK K
        try simp only [Act.put, List.setIfInBounds_toArray, List.set_cons_zero, List.set_cons_succ]
        refine heldS_take (i := 2) (oi := { dst := some 14, op := Op.unOp UnOp.not 4 (Operand.tmp 13), type := 4, pos := _, after := _, guard := none }) (v := _) rfl (by kernel_rfl) (by kernel_rfl) (by kernel_rfl) (fun _ _ _ h => h) (by rfl) (by intro w' hSw; go_simp; try with_reducible rfl) HSW.out ?_
        simp only [Act.put, List.setIfInBounds_toArray, List.set_cons_zero, List.set_cons_succ]
        refine heldS_take (i := 3) (oi := { dst := some 15, op := Op.move (Operand.tmp 14), type := 4, pos := _, after := _, guard := none }) (v := _) rfl (by kernel_rfl) (by kernel_rfl) (by kernel_rfl) (fun _ _ _ h => h) (by rfl) (by intro w' hSw; go_simp; try with_reducible rfl) HSW.out ?_
        simp only [Act.put, List.setIfInBounds_toArray, List.set_cons_zero, List.set_cons_succ]
        refine heldS_take (i := 4) (oi := { dst := some 16, op := Op.fieldAddr 24 (Operand.tmp 3) 0, type := 0, pos := _, after := _, guard := some (3, false) }) (v := _) rfl (by kernel_rfl) (by kernel_rfl) (by kernel_rfl) (fun _ _ _ h => h) (by rfl) (by intro w' hSw; go_simp; try with_reducible rfl) HSW.out ?_
        simp only [Act.put, List.setIfInBounds_toArray, List.set_cons_zero, List.set_cons_succ]
        refine heldS_take (i := 5) (oi := { dst := some 17, op := Op.load 3 (Operand.tmp 16), type := 3, pos := _, after := _, guard := some (3, false) }) (v := _) rfl (by kernel_rfl) (by kernel_rfl) (by kernel_rfl) (fun _ _ _ h => h) (by rfl) (by intro w' hSw; obtain ⟨c0, c1, c2, c3, c4, c5⟩ := hSw.cells; go_simp; try with_reducible rfl) HSW.out ?_
        simp only [Act.put, List.setIfInBounds_toArray, List.set_cons_zero, List.set_cons_succ]
        refine heldS_take (i := 6) (oi := { dst := some 18, op := Op.binOp BinOp.lss 3 (Operand.tmp 17) (Operand.const (Value.int IntKind.i64 0)) 3, type := 4, pos := _, after := _, guard := some (3, false) }) (v := .bool false) rfl (by kernel_rfl) (by kernel_rfl) (by kernel_rfl) (fun _ _ _ h => h) (by rfl) (by intro w' hSw; go_simp; try with_reducible rfl) HSW.out ?_
        simp only [Act.put, List.setIfInBounds_toArray, List.set_cons_zero, List.set_cons_succ]
        refine heldS_take (i := 7) (oi := { dst := some 19, op := Op.pick (Operand.tmp 15) (Operand.const (Value.bool true)) (Operand.tmp 18), type := 4, pos := _, after := _, guard := none }) (v := _) rfl (by kernel_rfl) (by kernel_rfl) (by kernel_rfl) (fun _ _ _ h => h) (by rfl) (by intro w' hSw; go_simp; try with_reducible rfl) HSW.out ?_
        simp only [Act.put, List.setIfInBounds_toArray, List.set_cons_zero, List.set_cons_succ]
        refine heldS_take (i := 8) (oi := { dst := some 20, op := Op.move (Operand.tmp 19), type := 4, pos := _, after := _, guard := none }) (v := _) rfl (by kernel_rfl) (by kernel_rfl) (by kernel_rfl) (fun _ _ _ h => h) (by rfl) (by intro w' hSw; go_simp; try with_reducible rfl) HSW.out ?_
        simp only [Act.put, List.setIfInBounds_toArray, List.set_cons_zero, List.set_cons_succ]
        refine heldS_take (i := 9) (oi := { dst := some 21, op := Op.fieldAddr 24 (Operand.tmp 3) 0, type := 0, pos := _, after := _, guard := some (8, false) }) (v := _) rfl (by kernel_rfl) (by kernel_rfl) (by kernel_rfl) (fun _ _ _ h => h) (by rfl) (by intro w' hSw; go_simp; try with_reducible rfl) HSW.out ?_
        simp only [Act.put, List.setIfInBounds_toArray, List.set_cons_zero, List.set_cons_succ]
        refine heldS_take (i := 10) (oi := { dst := some 22, op := Op.load 3 (Operand.tmp 21), type := 3, pos := _, after := _, guard := some (8, false) }) (v := _) rfl (by kernel_rfl) (by kernel_rfl) (by kernel_rfl) (fun _ _ _ h => h) (by rfl) (by intro w' hSw; obtain ⟨c0, c1, c2, c3, c4, c5⟩ := hSw.cells; go_simp; try with_reducible rfl) HSW.out ?_
        simp only [Act.put, List.setIfInBounds_toArray, List.set_cons_zero, List.set_cons_succ]
        refine heldS_take (i := 11) (oi := { dst := some 23, op := Op.fieldAddr 24 (Operand.tmp 3) 1, type := 0, pos := _, after := _, guard := some (8, false) }) (v := _) rfl (by kernel_rfl) (by kernel_rfl) (by kernel_rfl) (fun _ _ _ h => h) (by rfl) (by intro w' hSw; go_simp; try with_reducible rfl) HSW.out ?_
        simp only [Act.put, List.setIfInBounds_toArray, List.set_cons_zero, List.set_cons_succ]
        refine heldS_take (i := 12) (oi := { dst := some 24, op := Op.load 3 (Operand.tmp 23), type := 3, pos := _, after := _, guard := some (8, false) }) (v := _) rfl (by kernel_rfl) (by kernel_rfl) (by kernel_rfl) (fun _ _ _ h => h) (by rfl) (by intro w' hSw; obtain ⟨c0, c1, c2, c3, c4, c5⟩ := hSw.cells; go_simp; try with_reducible rfl) HSW.out ?_
        simp only [Act.put, List.setIfInBounds_toArray, List.set_cons_zero, List.set_cons_succ]
        refine heldS_take (i := 13) (oi := { dst := some 25, op := Op.binOp BinOp.gtr 3 (Operand.tmp 22) (Operand.tmp 24) 3, type := 4, pos := _, after := _, guard := some (8, false) }) (v := .bool false) rfl (by kernel_rfl) (by kernel_rfl) (by kernel_rfl) (fun _ _ _ h => h) (by rfl) (by intro w' hSw; go_simp; try with_reducible rfl) HSW.out ?_
        simp only [Act.put, List.setIfInBounds_toArray, List.set_cons_zero, List.set_cons_succ]
        refine heldS_take (i := 14) (oi := { dst := some 26, op := Op.pick (Operand.tmp 20) (Operand.const (Value.bool true)) (Operand.tmp 25), type := 4, pos := _, after := _, guard := none }) (v := _) rfl (by kernel_rfl) (by kernel_rfl) (by kernel_rfl) (fun _ _ _ h => h) (by rfl) (by intro w' hSw; go_simp; try with_reducible rfl) HSW.out ?_
        simp only [Act.put, List.setIfInBounds_toArray, List.set_cons_zero, List.set_cons_succ]
        refine heldS_take (i := 15) (oi := { dst := some 27, op := Op.move (Operand.tmp 26), type := 4, pos := _, after := _, guard := none }) (v := _) rfl (by kernel_rfl) (by kernel_rfl) (by kernel_rfl) (fun _ _ _ h => h) (by rfl) (by intro w' hSw; go_simp; try with_reducible rfl) HSW.out ?_
        simp only [Act.put, List.setIfInBounds_toArray, List.set_cons_zero, List.set_cons_succ]
        refine heldS_take (i := 16) (oi := { dst := some 28, op := Op.fieldAddr 24 (Operand.tmp 3) 1, type := 0, pos := _, after := _, guard := some (15, false) }) (v := _) rfl (by kernel_rfl) (by kernel_rfl) (by kernel_rfl) (fun _ _ _ h => h) (by rfl) (by intro w' hSw; go_simp; try with_reducible rfl) HSW.out ?_
        simp only [Act.put, List.setIfInBounds_toArray, List.set_cons_zero, List.set_cons_succ]
        refine heldS_take (i := 17) (oi := { dst := some 29, op := Op.load 3 (Operand.tmp 28), type := 3, pos := _, after := _, guard := some (15, false) }) (v := _) rfl (by kernel_rfl) (by kernel_rfl) (by kernel_rfl) (fun _ _ _ h => h) (by rfl) (by intro w' hSw; obtain ⟨c0, c1, c2, c3, c4, c5⟩ := hSw.cells; go_simp; try with_reducible rfl) HSW.out ?_
        simp only [Act.put, List.setIfInBounds_toArray, List.set_cons_zero, List.set_cons_succ]
        refine heldS_take (i := 18) (oi := { dst := some 30, op := Op.move (Operand.tmp 0), type := 22, pos := _, after := _, guard := some (15, false) }) (v := _) rfl (by kernel_rfl) (by kernel_rfl) (by kernel_rfl) (fun _ _ _ h => h) (by rfl) (by intro w' hSw; go_simp; try with_reducible rfl) HSW.out ?_
        simp only [Act.put, List.setIfInBounds_toArray, List.set_cons_zero, List.set_cons_succ]
        refine heldS_step (i := 19) (o := { dst := some 31, op := Op.call { callee := Callee.value (Operand.func 22), args := #[Operand.tmp 30], argTypes := #[22] }, type := 3, pos := _, after := _, guard := some (15, false) }) (by kernel_rfl) rfl (by rfl) HSW.out (fun K hK => ?_)
        go_simp
        refine (HI.out _ HSW.out).mono ?_
        rintro e W2 ⟨rfl, hb⟩
        replace HSW := hide (HSW.out.up hb)
        clear hb
        refine hK.out _ _ ?_
        clear hK K
        try simp only [Act.put, List.setIfInBounds_toArray, List.set_cons_zero, List.set_cons_succ]
        refine heldS_take (i := 20) (oi := { dst := some 32, op := Op.binOp BinOp.gtr 3 (Operand.tmp 29) (Operand.tmp 31) 3, type := 4, pos := _, after := _, guard := some (15, false) }) (v := .bool true) rfl (by kernel_rfl) (by kernel_rfl) (by kernel_rfl) (fun _ _ _ h => h) (by rfl) (by intro w' hSw; go_simp; try with_reducible rfl) HSW.out ?_
        simp only [Act.put, List.setIfInBounds_toArray, List.set_cons_zero, List.set_cons_succ]
        refine heldS_take (i := 21) (oi := { dst := some 33, op := Op.pick (Operand.tmp 27) (Operand.const (Value.bool true)) (Operand.tmp 32), type := 4, pos := _, after := _, guard := none }) (v := _) rfl (by kernel_rfl) (by kernel_rfl) (by kernel_rfl) (fun _ _ _ h => h) (by rfl) (by intro w' hSw; go_simp; try with_reducible rfl) HSW.out ?_
        simp only [Act.put, List.setIfInBounds_toArray, List.set_cons_zero, List.set_cons_succ]
        refine heldS_done (by kernel_rfl) HSW.out ?_
        obtain ⟨k0, k1, k2, k3, k4, k5⟩ := HSW.out.cells
        go_wp2
        refine HSW.out.res 0 0 _ false ?_ ?_ _ HV.out <;> rfl

theorem mI_le (ts : List Tok) (i : Nat) : 0 ≤ mI ts i ∧ mI ts i ≤ (tOut ts : Int) := by
  unfold mI
  have := mv_le ts i true
  omega

set_option maxRecDepth 20000 in
set_option maxHeartbeats 8000000 in
theorem rspan_ok (a : Option Addr) (cap : Nat) (rs : List Rn) (fN tN : Nat) (w : World) (hS : CameR w.heap.size w a rs) (hl : rs.length ≤ 1000000) (hg : isG rs = true) (hft : fN ≤ tN) (ht : (tN : Int) ≤ sI rs) :
    Calls Try.prog 12 #[.slice a rs.length cap, .agg #[.int .i64 (fN : Int), .int .i64 (tN : Int)]] w fun e W' => e = .returned (.tuple #[.agg #[.int .i64 (refP rs fN tN).1, .int .i64 (refP rs fN tN).2], .bool true]) ∧ Below w.heap.size w W' := by
  obtain ⟨f, hf⟩ : ∃ f : Int, f = (fN : Int) := ⟨_, rfl⟩
  obtain ⟨t, htt⟩ : ∃ t : Int, t = (tN : Int) := ⟨_, rfl⟩
  rw [← hf, ← htt]
  have hX := spx_new w f t
  have HSW := hide hX.drew
  obtain ⟨e1, e2, e3, e4, -, hk⟩ := good_sums hg
  have hsum := sums_tok hk
  have HG : Hid (∀ W, SpX w f t W → Calls Try.prog 21 #[.slice a rs.length cap] W fun e W' => e = .returned (.bool true) ∧ Below W.heap.size W W') := hide fun W h => by rw [← hg]; exact rgood_any a cap rs W ((hS.below h.lo).mono h.lo.size) hl
  have HI : Hid (∀ W, SpX w f t W → Calls Try.prog 22 #[.slice a rs.length cap] W fun e W' => e = .returned (.int .i64 (sI rs)) ∧ Below W.heap.size W W') := hide fun W h => by rw [← e1]; exact rin_any a cap rs W ((hS.below h.lo).mono h.lo.size) hl
  have HD : Hid (∀ W, SpX w f t W → Calls Try.prog 20 #[.slice a rs.length cap] W fun e W' => ∃ da dc, e = .returned (.slice da (dT (expand rs)).length dc) ∧ BoolsAt W'.heap.size W' da (dT (expand rs)) ∧ Below W.heap.size W W') := hide fun W h => drops_any a cap rs W ((hS.below h.lo).mono h.lo.size) hk hl e3
  have HM : Hid (∀ W (i : Nat), i ≤ tN → SpX w f t W → Calls Try.prog 10 #[.slice a rs.length cap, .int .i64 (i : Int), .bool true] W fun e W' => e = .returned (.tuple #[.int .i64 (mI (expand rs) i), .bool true]) ∧ Below W.heap.size W W') := hide fun W i hi h => by
    have := rmove_any a cap rs i true W ((hS.below h.lo).mono h.lo.size) hl
    rw [moveB_true hg (by omega), moveN_is true hg (by omega), Int.toNat_natCast] at this
    exact this
  have HM0 : Hid (∀ W, SpX w f t W → Calls Try.prog 10 #[.slice a rs.length cap, .int .i64 f, .bool false] W fun e W' => e = .returned (.tuple #[.int .i64 ((tMv (expand rs) fN false : Nat) : Int), .bool true]) ∧ Below W.heap.size W W') := hide fun W h => by
    have := rmove_any a cap rs f false W ((hS.below h.lo).mono h.lo.size) hl
    rw [moveB_true hg (by omega), moveN_is false hg (by omega), hf, Int.toNat_natCast] at this
    rw [hf]; exact this
  have HMI : Hid (∀ i, 0 ≤ mI (expand rs) i ∧ mI (expand rs) i ≤ 16777216) := hide fun i => by have := mI_le (expand rs) i; omega
  have HDL : Hid ((dT (expand rs)).length = tIn (expand rs) ∧ tN ≤ tIn (expand rs) ∧ tIn (expand rs) ≤ 16777216) := hide ⟨dT_len _, by omega, by omega⟩
  have HR : Hid (∀ x y, rs2 (dT (expand rs)) (mI (expand rs)) fN (tN - fN) = (x, y) → refP rs fN tN = if x < 0 then (((tMv (expand rs) fN false : Nat) : Int), ((tMv (expand rs) fN false : Nat) : Int)) else (x, y)) := hide fun x y h => by unfold refP; rw [h]
  have h1 : ¬ f < 0 := by omega
  have h2 : ¬ t < f := by omega
  have h3 : ¬ sI rs < t := by omega
  have HFT := hide hft
  clear hS hg hX e1 e2 e3 e4 hk hsum ht hft
  generalize refP rs fN tN = RP at *
  generalize dT (expand rs) = D at *
  generalize mI (expand rs) = M at *
  generalize tIn (expand rs) = T at *
  generalize ((tMv (expand rs) fN false : Nat) : Int) = q at *
  have HEQ := hide (And.intro hf htt)
  clear hf htt
  go_enter Try.func12, Try.ntmps12
  go_wp2_with fail
  refine heldS_startP (S := SpX w f t) (by kernel_rfl) ?_
  refine heldS_take (i := 0) (oi := { dst := some 12, op := Op.move (Operand.tmp 0), type := 22, pos := _, after := _, guard := none }) (v := _) rfl (by kernel_rfl) (by kernel_rfl) (by kernel_rfl) (fun _ _ _ h => h) (by rfl) (by intro w' hSw; go_simp; try with_reducible rfl) HSW.out ?_
  simp only [Act.put, List.setIfInBounds_toArray, List.set_cons_zero, List.set_cons_succ]
  refine heldS_step (i := 1) (o := { dst := some 13, op := Op.call { callee := Callee.value (Operand.func 21), args := #[Operand.tmp 12], argTypes := #[22] }, type := 4, pos := _, after := _, guard := none }) (by kernel_rfl) rfl (by rfl) HSW.out (fun K hK => ?_)
  go_simp
  refine (HG.out _ HSW.out).mono ?_
  rintro e W1 ⟨rfl, hb⟩
  replace HSW := hide (HSW.out.up hb)
  clear hb
  refine hK.out _ _ ?_
  clear hK K
  try simp only [Act.put, List.setIfInBounds_toArray, List.set_cons_zero, List.set_cons_succ]
  refine heldS_take (i := 2) (oi := { dst := some 14, op := Op.unOp UnOp.not 4 (Operand.tmp 13), type := 4, pos := _, after := _, guard := none }) (v := _) rfl (by kernel_rfl) (by kernel_rfl) (by kernel_rfl) (fun _ _ _ h => h) (by rfl) (by intro w' hSw; go_simp; try with_reducible rfl) HSW.out ?_
  simp only [Act.put, List.setIfInBounds_toArray, List.set_cons_zero, List.set_cons_succ]
  refine heldS_take (i := 3) (oi := { dst := some 15, op := Op.move (Operand.tmp 14), type := 4, pos := _, after := _, guard := none }) (v := _) rfl (by kernel_rfl) (by kernel_rfl) (by kernel_rfl) (fun _ _ _ h => h) (by rfl) (by intro w' hSw; go_simp; try with_reducible rfl) HSW.out ?_
  simp only [Act.put, List.setIfInBounds_toArray, List.set_cons_zero, List.set_cons_succ]
  refine heldS_take (i := 4) (oi := { dst := some 16, op := Op.fieldAddr 24 (Operand.tmp 3) 0, type := 0, pos := _, after := _, guard := some (3, false) }) (v := _) rfl (by kernel_rfl) (by kernel_rfl) (by kernel_rfl) (fun _ _ _ h => h) (by rfl) (by intro w' hSw; go_simp; try with_reducible rfl) HSW.out ?_
  simp only [Act.put, List.setIfInBounds_toArray, List.set_cons_zero, List.set_cons_succ]
  refine heldS_take (i := 5) (oi := { dst := some 17, op := Op.load 3 (Operand.tmp 16), type := 3, pos := _, after := _, guard := some (3, false) }) (v := _) rfl (by kernel_rfl) (by kernel_rfl) (by kernel_rfl) (fun _ _ _ h => h) (by rfl) (by intro w' hSw; obtain ⟨c0, c1, c2, c3, c4, c5⟩ := hSw.cells; go_simp; try with_reducible rfl) HSW.out ?_
  simp only [Act.put, List.setIfInBounds_toArray, List.set_cons_zero, List.set_cons_succ]
  refine heldS_take (i := 6) (oi := { dst := some 18, op := Op.binOp BinOp.lss 3 (Operand.tmp 17) (Operand.const (Value.int IntKind.i64 0)) 3, type := 4, pos := _, after := _, guard := some (3, false) }) (v := .bool false) rfl (by kernel_rfl) (by kernel_rfl) (by kernel_rfl) (fun _ _ _ h => h) (by rfl) (by intro w' hSw; go_simp; try with_reducible rfl) HSW.out ?_
  simp only [Act.put, List.setIfInBounds_toArray, List.set_cons_zero, List.set_cons_succ]
  refine heldS_take (i := 7) (oi := { dst := some 19, op := Op.pick (Operand.tmp 15) (Operand.const (Value.bool true)) (Operand.tmp 18), type := 4, pos := _, after := _, guard := none }) (v := _) rfl (by kernel_rfl) (by kernel_rfl) (by kernel_rfl) (fun _ _ _ h => h) (by rfl) (by intro w' hSw; go_simp; try with_reducible rfl) HSW.out ?_
  simp only [Act.put, List.setIfInBounds_toArray, List.set_cons_zero, List.set_cons_succ]
  refine heldS_take (i := 8) (oi := { dst := some 20, op := Op.move (Operand.tmp 19), type := 4, pos := _, after := _, guard := none }) (v := _) rfl (by kernel_rfl) (by kernel_rfl) (by kernel_rfl) (fun _ _ _ h => h) (by rfl) (by intro w' hSw; go_simp; try with_reducible rfl) HSW.out ?_
  simp only [Act.put, List.setIfInBounds_toArray, List.set_cons_zero, List.set_cons_succ]
  refine heldS_take (i := 9) (oi := { dst := some 21, op := Op.fieldAddr 24 (Operand.tmp 3) 0, type := 0, pos := _, after := _, guard := some (8, false) }) (v := _) rfl (by kernel_rfl) (by kernel_rfl) (by kernel_rfl) (fun _ _ _ h => h) (by rfl) (by intro w' hSw; go_simp; try with_reducible rfl) HSW.out ?_
  simp only [Act.put, List.setIfInBounds_toArray, List.set_cons_zero, List.set_cons_succ]
  refine heldS_take (i := 10) (oi := { dst := some 22, op := Op.load 3 (Operand.tmp 21), type := 3, pos := _, after := _, guard := some (8, false) }) (v := _) rfl (by kernel_rfl) (by kernel_rfl) (by kernel_rfl) (fun _ _ _ h => h) (by rfl) (by intro w' hSw; obtain ⟨c0, c1, c2, c3, c4, c5⟩ := hSw.cells; go_simp; try with_reducible rfl) HSW.out ?_
  simp only [Act.put, List.setIfInBounds_toArray, List.set_cons_zero, List.set_cons_succ]
  refine heldS_take (i := 11) (oi := { dst := some 23, op := Op.fieldAddr 24 (Operand.tmp 3) 1, type := 0, pos := _, after := _, guard := some (8, false) }) (v := _) rfl (by kernel_rfl) (by kernel_rfl) (by kernel_rfl) (fun _ _ _ h => h) (by rfl) (by intro w' hSw; go_simp; try with_reducible rfl) HSW.out ?_
  simp only [Act.put, List.setIfInBounds_toArray, List.set_cons_zero, List.set_cons_succ]
  refine heldS_take (i := 12) (oi := { dst := some 24, op := Op.load 3 (Operand.tmp 23), type := 3, pos := _, after := _, guard := some (8, false) }) (v := _) rfl (by kernel_rfl) (by kernel_rfl) (by kernel_rfl) (fun _ _ _ h => h) (by rfl) (by intro w' hSw; obtain ⟨c0, c1, c2, c3, c4, c5⟩ := hSw.cells; go_simp; try with_reducible rfl) HSW.out ?_
  simp only [Act.put, List.setIfInBounds_toArray, List.set_cons_zero, List.set_cons_succ]
  refine heldS_take (i := 13) (oi := { dst := some 25, op := Op.binOp BinOp.gtr 3 (Operand.tmp 22) (Operand.tmp 24) 3, type := 4, pos := _, after := _, guard := some (8, false) }) (v := .bool false) rfl (by kernel_rfl) (by kernel_rfl) (by kernel_rfl) (fun _ _ _ h => h) (by rfl) (by intro w' hSw; go_simp; try with_reducible rfl) HSW.out ?_
  simp only [Act.put, List.setIfInBounds_toArray, List.set_cons_zero, List.set_cons_succ]
  refine heldS_take (i := 14) (oi := { dst := some 26, op := Op.pick (Operand.tmp 20) (Operand.const (Value.bool true)) (Operand.tmp 25), type := 4, pos := _, after := _, guard := none }) (v := _) rfl (by kernel_rfl) (by kernel_rfl) (by kernel_rfl) (fun _ _ _ h => h) (by rfl) (by intro w' hSw; go_simp; try with_reducible rfl) HSW.out ?_
  simp only [Act.put, List.setIfInBounds_toArray, List.set_cons_zero, List.set_cons_succ]
  refine heldS_take (i := 15) (oi := { dst := some 27, op := Op.move (Operand.tmp 26), type := 4, pos := _, after := _, guard := none }) (v := _) rfl (by kernel_rfl) (by kernel_rfl) (by kernel_rfl) (fun _ _ _ h => h) (by rfl) (by intro w' hSw; go_simp; try with_reducible rfl) HSW.out ?_
  simp only [Act.put, List.setIfInBounds_toArray, List.set_cons_zero, List.set_cons_succ]
  refine heldS_take (i := 16) (oi := { dst := some 28, op := Op.fieldAddr 24 (Operand.tmp 3) 1, type := 0, pos := _, after := _, guard := some (15, false) }) (v := _) rfl (by kernel_rfl) (by kernel_rfl) (by kernel_rfl) (fun _ _ _ h => h) (by rfl) (by intro w' hSw; go_simp; try with_reducible rfl) HSW.out ?_
  simp only [Act.put, List.setIfInBounds_toArray, List.set_cons_zero, List.set_cons_succ]
  refine heldS_take (i := 17) (oi := { dst := some 29, op := Op.load 3 (Operand.tmp 28), type := 3, pos := _, after := _, guard := some (15, false) }) (v := _) rfl (by kernel_rfl) (by kernel_rfl) (by kernel_rfl) (fun _ _ _ h => h) (by rfl) (by intro w' hSw; obtain ⟨c0, c1, c2, c3, c4, c5⟩ := hSw.cells; go_simp; try with_reducible rfl) HSW.out ?_
  simp only [Act.put, List.setIfInBounds_toArray, List.set_cons_zero, List.set_cons_succ]
  refine heldS_take (i := 18) (oi := { dst := some 30, op := Op.move (Operand.tmp 0), type := 22, pos := _, after := _, guard := some (15, false) }) (v := _) rfl (by kernel_rfl) (by kernel_rfl) (by kernel_rfl) (fun _ _ _ h => h) (by rfl) (by intro w' hSw; go_simp; try with_reducible rfl) HSW.out ?_
  simp only [Act.put, List.setIfInBounds_toArray, List.set_cons_zero, List.set_cons_succ]
  refine heldS_step (i := 19) (o := { dst := some 31, op := Op.call { callee := Callee.value (Operand.func 22), args := #[Operand.tmp 30], argTypes := #[22] }, type := 3, pos := _, after := _, guard := some (15, false) }) (by kernel_rfl) rfl (by rfl) HSW.out (fun K hK => ?_)
  go_simp
  refine (HI.out _ HSW.out).mono ?_
  rintro e W2 ⟨rfl, hb⟩
  replace HSW := hide (HSW.out.up hb)
  clear hb
  refine hK.out _ _ ?_
  clear hK K
  try simp only [Act.put, List.setIfInBounds_toArray, List.set_cons_zero, List.set_cons_succ]
  refine heldS_take (i := 20) (oi := { dst := some 32, op := Op.binOp BinOp.gtr 3 (Operand.tmp 29) (Operand.tmp 31) 3, type := 4, pos := _, after := _, guard := some (15, false) }) (v := .bool false) rfl (by kernel_rfl) (by kernel_rfl) (by kernel_rfl) (fun _ _ _ h => h) (by rfl) (by intro w' hSw; go_simp; try with_reducible rfl) HSW.out ?_
  simp only [Act.put, List.setIfInBounds_toArray, List.set_cons_zero, List.set_cons_succ]
  refine heldS_take (i := 21) (oi := { dst := some 33, op := Op.pick (Operand.tmp 27) (Operand.const (Value.bool true)) (Operand.tmp 32), type := 4, pos := _, after := _, guard := none }) (v := _) rfl (by kernel_rfl) (by kernel_rfl) (by kernel_rfl) (fun _ _ _ h => h) (by rfl) (by intro w' hSw; go_simp; try with_reducible rfl) HSW.out ?_
  simp only [Act.put, List.setIfInBounds_toArray, List.set_cons_zero, List.set_cons_succ]
  refine heldS_done (by kernel_rfl) HSW.out ?_
  obtain ⟨k0, k1, k2, k3, k4, k5⟩ := HSW.out.cells
  go_wp2_with (go_at_call 20; refine (HD.out _ HSW.out).mono ?_; rintro e W3 ⟨da, dc, rfl, hD, hb⟩; have hx := HSW.out.up hb; obtain ⟨l0, l1, -, -, -, -⟩ := hx.cells; have HD3 := hide hD; have HX3 := hide hx; clear hD hb hx)
  have hfi : f = (fN : Int) := HEQ.out.1
  have hti : t = (tN : Int) := HEQ.out.2
  go_loopw [7, 8, 9, 10, 11] (fun s7 s8 s9 s10 s11 wr => ∃ i : Nat, s9 = .int .i64 (i : Int) ∧ fN ≤ i ∧ i ≤ tN ∧ s7 = .int .i64 (rs2 D M fN (i - fN)).1 ∧ s8 = .int .i64 (rs2 D M fN (i - fN)).2 ∧ Hid (SpX w f t wr ∧ BoolsAt wr.heap.size wr da D)) (fun _ _ s9 _ _ _ => tN - (intOf s9).toNat)
  case atStart => exact ⟨fN, by rw [hfi], Nat.le_refl _, HFT.out, by rw [Nat.sub_self]; rfl, by rw [Nat.sub_self]; rfl, hide ⟨HX3.out, HD3.out⟩⟩
  case round =>
    obtain ⟨i, rfl, hfi2, hit, rfl, rfl, HI2⟩ := hrel
    obtain ⟨m0, m1, m2, m3, m4, m5⟩ := HI2.out.1.cells
    obtain ⟨x, hx⟩ : ∃ x, x = (rs2 D M fN (i - fN)).1 := ⟨_, rfl⟩
    obtain ⟨y, hy⟩ : ∃ y, y = (rs2 D M fN (i - fN)).2 := ⟨_, rfl⟩
    have hxy : rs2 D M fN (i - fN) = (x, y) := by rw [hx, hy]
    rw [← hx, ← hy]
    clear hx hy
    by_cases hlt : i < tN
    · have hlt' : (i : Int) < t := by omega
      have hDn : ¬ D = [] := fun h => by have := HDL.out; rw [h] at this; simp at this; omega
      obtain ⟨g, rfl, hgl, hgc⟩ := HI2.out.2.resolve_left hDn
      have hcd := hgc i (by have := HDL.out; omega)
      have hbi : (i : Int) < (D.length : Int) := by have := HDL.out; omega
      have hi8 : i ≤ 100000000 := by have := HDL.out; omega
      have w1 := wrap_one hi8
      have hnx : rs2 D M fN (i + 1 - fN) = if D.getD i false = true then (x, y) else ((if x < 0 then M i else x), M i + 1) := by
        rw [show i + 1 - fN = (i - fN) + 1 by omega, rs2, hxy, show fN + (i - fN) = i by omega]
      have hmi := HMI.out i
      have w2 : IntKind.i64.wrap (M i + 1) = M i + 1 := by rw [IntKind.wrap_i64]; omega
      have HLT := hide (And.intro hlt hfi2)
      clear hlt hfi2 hit hxy hgl hgc hDn hi8 hfi hti
      cases hd : D.getD i false with
      | true =>
        rw [hd] at hcd hnx
        have HNX : Hid (rs2 D M fN (i + 1 - fN) = (x, y)) := hide (by rw [hnx, if_pos rfl])
        clear hnx hd
        go_wp2
        go_roundw
        case rel => exact ⟨i + 1, by go_num, by have := HLT.out; omega, by have := HLT.out; omega, by rw [HNX.out], by rw [HNX.out], HI2⟩
        case measure => simp [intOf]; have := HLT.out; omega
      | false =>
        rw [hd] at hcd hnx
        have hle : i ≤ tN := Nat.le_of_lt HLT.out.1
        have hcall := HM.out wr i hle HI2.out.1
        by_cases hx0 : x < 0
        · have HNX : Hid (rs2 D M fN (i + 1 - fN) = (M i, M i + 1)) := hide (by rw [hnx, if_neg (by simp), if_pos hx0])
          clear hnx hd hle
          generalize M i = mi at *
          go_wp2_with (go_at_call 10; refine hcall.mono ?_; rintro e W5 ⟨rfl, hb⟩; have HI5 : Hid (SpX w f t W5 ∧ BoolsAt W5.heap.size W5 (some ⟨g, 0, none⟩) D) := hide ⟨HI2.out.1.up hb, HI2.out.2.up hb⟩; clear hb)
          go_roundw
          case rel => exact ⟨i + 1, by go_num, by have := HLT.out; omega, by have := HLT.out; omega, by rw [HNX.out], by rw [HNX.out], HI5⟩
          case measure => simp [intOf]; have := HLT.out; omega
        · have HNX : Hid (rs2 D M fN (i + 1 - fN) = (x, M i + 1)) := hide (by rw [hnx, if_neg (by simp), if_neg hx0])
          clear hnx hd hle
          generalize M i = mi at *
          go_wp2_with (go_at_call 10; refine hcall.mono ?_; rintro e W5 ⟨rfl, hb⟩; have HI5 : Hid (SpX w f t W5 ∧ BoolsAt W5.heap.size W5 (some ⟨g, 0, none⟩) D) := hide ⟨HI2.out.1.up hb, HI2.out.2.up hb⟩; clear hb)
          go_roundw
          case rel => exact ⟨i + 1, by go_num, by have := HLT.out; omega, by have := HLT.out; omega, by rw [HNX.out], by rw [HNX.out], HI5⟩
          case measure => simp [intOf]; have := HLT.out; omega
    · obtain rfl : i = tN := by omega
      have hlt' : ¬ (i : Int) < t := by omega
      have hrp := HR.out x y hxy
      by_cases hx0 : x < 0
      · rw [if_pos hx0] at hrp
        have HRP := hide hrp
        have hcall := HM0.out wr HI2.out.1
        clear hrp hxy hlt hit hfi2 hfi hti
        go_wp2_with (go_at_call 10; refine hcall.mono ?_; rintro e W5 ⟨rfl, hb⟩; have hx5 := HI2.out.1.up hb; obtain ⟨n0, n1, n2, n3, n4, n5⟩ := hx5.cells; have HX5 := hide hx5; clear hb hx5)
        refine HX5.out.res q q _ true ?_ ?_ _ (by rw [HRP.out]) <;> rfl
      · rw [if_neg hx0] at hrp
        have HRP := hide hrp
        clear hrp hxy hlt hit hfi2 hfi hti
        go_wp2
        refine HI2.out.1.res x y _ true ?_ ?_ _ (by rw [HRP.out]) <;> rfl

/-- The document's span is the program's. -/
theorem rspan_any (a : Option Addr) (cap : Nat) (rs : List Rn) (f t : Int) (w : World) (hS : CameR w.heap.size w a rs) (hl : rs.length ≤ 1000000) :
    Calls Try.prog 12 #[.slice a rs.length cap, .agg #[.int .i64 f, .int .i64 t]] w fun e W' => e = .returned (spanV rs f t) ∧ Below w.heap.size w W' := by
  cases hB : spanB rs f t with
  | false => exact rspan_no a cap rs f t w hS hl hB
  | true =>
    have hB2 := hB
    unfold spanB at hB2
    obtain ⟨hg, h0⟩ := Bool.and_eq_true_iff.1 hB2
    have h0 := of_decide_eq_true h0
    obtain ⟨fN, rfl⟩ := Int.eq_ofNat_of_zero_le h0.1
    obtain ⟨tN, rfl⟩ := Int.eq_ofNat_of_zero_le (Int.le_trans h0.1 h0.2.1)
    have hk := (sums_tok (good_kinds hg)).1
    have := rspan_ok a cap rs fN tN w hS hl hg (by have := h0.2.1; omega) h0.2.2
    rw [refP_eq hg (by have := h0.2.1; omega) (by have := h0.2.2; omega)] at this
    have hV : spanV rs fN tN = .tuple #[.agg #[.int .i64 (spV rs fN tN).1, .int .i64 (spV rs fN tN).2], .bool true] := by rw [spanV, spanP, if_pos hB, hB]; rfl
    rw [hV]; exact this

end Go.Proofs.Ytecmiphmefbpnaa.E
