/- frame: Get. -/
import Derived.Test.YtgeboanebdmebabFJ
import Derived.Test.YtgeboanebdmebabX6
namespace Go.Proofs.Ytgeboanebdmebab.F
open Go.Proofs.Ytgeboanebdmebab Go.RowKit Go.By
set_option linter.unusedVariables false
set_option linter.unusedSimpArgs false
set_option maxRecDepth 20000
attribute [local go_sem ↓] Go.wp_at_zero Go.wp_at_succ

theorem results_cct {P : Program} {fn : Func} {p q u : Tmp} {ty tz : TypeId} (h : fn.results = #[.cell p ty, .cell q tz, .tmp u]) (tmps : Array Value) (w : World) (g s : Nat) (t t2 : TypeId) (cs : Array Value) (v : Value) (fr fr2 : Nat × Nat) (d : TypeDesc)
    (hp : tmps.getD p undef = .pointer (some ⟨g, 0, none⟩)) (hq : tmps.getD q undef = .pointer (some ⟨s, 0, none⟩)) (hg : w.heap[g]? = some (.cells cs t fr)) (hs : w.heap[s]? = some (.cells #[v] t2 fr2))
    (hu : P.underlying ty = some d) (hd : (match d with | .struct _ | .array _ _ => true | _ => false) = true) (hi : (P.info? ty).map (·.size) = some cs.size) (ha : ∀ w, (isAgg tz).run P w = .ok false w) :
    (results fn tmps).run P w = .ok (.tuple #[.agg cs, v, tmps.getD u undef]) w := by
  have hc : w.cell? ⟨s, 0, none⟩ = some v := by rw [Joins.cell_of_block hs]; rfl
  have hl : (loadVar tz ⟨s, 0, none⟩).run P w = .ok v w := by
    unfold loadVar
    simp [Sem.run_bind, ha, Result.andThen, go_sem, hc]
  have hp' : tmps[p]?.getD undef = .pointer (some ⟨g, 0, none⟩) := by simpa using hp
  have hq' : tmps[q]?.getD undef = .pointer (some ⟨s, 0, none⟩) := by simpa using hq
  simp [results, h, hp', hq', asAddr, run_loadVar_row w g t ty cs fr d hg hu hd hi, hl, Sem.run_bind, Result.andThen]

theorem agg3 : ∀ w, (isAgg 3).run Try.prog w = .ok false w := by intro w; kernel_rfl
def GS (w : World) (x1 x2 x3 : Int) (x4 : ByteArray) (z : Int) (W : World) : Prop :=
  W.heap[w.heap.size + 1]? = some (.cells #[.int .i64 x1, .int .i64 x2, .int .i64 x3, .string x4] 23 (0, 0)) ∧ W.heap[w.heap.size + 1 + 1]? = some (.cells #[.int .i64 z] 3 (0, 0)) ∧ Below w.heap.size w W
def GW (w : World) (a : Option Addr) (n cap : Nat) (z : Int) (W : World) : Prop := BX W w.heap.size (w.heap.size + 1 + 1) a n cap z ∧ W.heap[w.heap.size + 1]? = some (.cells #[.int .i64 0, .int .i64 0, .int .i64 0, .string ⟨#[]⟩] 23 (0, 0)) ∧ Below w.heap.size w W
theorem GW.below {w : World} {a : Option Addr} {n cap : Nat} {z : Int} {W W' : World} (h : GW w a n cap z W) (hb : Below W.heap.size W W') : GW w a n cap z W' :=
  ⟨h.1.below hb, (hb.block _ (lt_of_heap h.2.1)).trans h.2.1, h.2.2.trans (hb.mono h.2.2.size)⟩
theorem GW.alloc {w : World} {a : Option Addr} {n cap : Nat} {z : Int} {W : World} (h : GW w a n cap z W) (o : Obj) : GW w a n cap z (W.alloc o) := h.below ((Below.refl _ _).alloc (Nat.le_refl _) _)
theorem GW.new (w : World) (a : Option Addr) (n cap : Nat) : GW w a n cap 0 (((w.alloc (.cells #[.slice a n cap] 27)).alloc (.cells #[.int .i64 0, .int .i64 0, .int .i64 0, .string ⟨#[]⟩] 23)).alloc (.cells #[.int .i64 0] 3)) := by
  have h1 := World.alloc_heap_new w (.cells #[.slice a n cap] 27)
  have b1 : Below w.heap.size w (w.alloc (.cells #[.slice a n cap] 27)) := (Below.refl _ _).alloc (Nat.le_refl _) _
  have s1 : (w.alloc (.cells #[.slice a n cap] 27)).heap.size = w.heap.size + 1 := World.size_alloc ..
  generalize w.alloc (.cells #[.slice a n cap] 27) = W1 at *
  have h2 := World.alloc_heap_new W1 (.cells #[.int .i64 0, .int .i64 0, .int .i64 0, .string ⟨#[]⟩] 23)
  have b2 : Below W1.heap.size W1 (W1.alloc (.cells #[.int .i64 0, .int .i64 0, .int .i64 0, .string ⟨#[]⟩] 23)) := (Below.refl _ _).alloc (Nat.le_refl _) _
  have s2 : (W1.alloc (.cells #[.int .i64 0, .int .i64 0, .int .i64 0, .string ⟨#[]⟩] 23)).heap.size = W1.heap.size + 1 := World.size_alloc ..
  generalize W1.alloc (.cells #[.int .i64 0, .int .i64 0, .int .i64 0, .string ⟨#[]⟩] 23) = W2 at *
  have h3 := World.alloc_heap_new W2 (.cells #[.int .i64 0] 3)
  have b3 : Below W2.heap.size W2 (W2.alloc (.cells #[.int .i64 0] 3)) := (Below.refl _ _).alloc (Nat.le_refl _) _
  rw [s2, s1] at h3
  rw [s1] at h2
  refine ⟨⟨(b3.block _ (by omega)).trans ((b2.block _ (by omega)).trans h1), h3, by omega⟩, (b3.block _ (by omega)).trans h2, b1.trans ((b2.mono b1.size).trans (b3.mono (by omega)))⟩
theorem GW.up {w : World} {a : Option Addr} {n cap : Nat} {z z' : Int} {W W' : World} (h : GW w a n cap z W) (hx : BX W' w.heap.size (w.heap.size + 1 + 1) a n cap z') (hg : W.grownBy W' (some (w.heap.size + 1 + 1))) : GW w a n cap z' W' :=
  ⟨hx, (hg.block _ (lt_of_heap h.2.1) (by simp)).trans h.2.1, h.2.2.grown hg h.2.2.size fun k hk => by cases hk; omega⟩
theorem gs_of {w : World} {a : Option Addr} {n cap : Nat} {z : Int} {W : World} (h : GW w a n cap z W) (x1 x2 x3 : Int) (x4 : ByteArray) : GS w x1 x2 x3 x4 z ((((W.setCell ⟨w.heap.size + 1, 0, none⟩ (.int .i64 x1)).setCell ⟨w.heap.size + 1, 1, none⟩ (.int .i64 x2)).setCell ⟨w.heap.size + 1, 2, none⟩ (.int .i64 x3)).setCell ⟨w.heap.size + 1, 3, none⟩ (.string x4)) := by
  refine ⟨pk_set h.2.1, ?_, (((h.2.2.setCell (by simp) _).setCell (by simp) _).setCell (by simp) _).setCell (by simp) _⟩
  rw [Below.heap_setCell _ _ _ _ (by simp), Below.heap_setCell _ _ _ _ (by simp), Below.heap_setCell _ _ _ _ (by simp), Below.heap_setCell _ _ _ _ (by simp)]
  exact h.1.2.1
theorem gs_again {w : World} {x1 x2 x3 : Int} {x4 : ByteArray} {z : Int} {W : World} (h : GS w x1 x2 x3 x4 z W) : GS w x1 x2 x3 x4 z ((((W.setCell ⟨w.heap.size + 1, 0, none⟩ (.int .i64 x1)).setCell ⟨w.heap.size + 1, 1, none⟩ (.int .i64 x2)).setCell ⟨w.heap.size + 1, 2, none⟩ (.int .i64 x3)).setCell ⟨w.heap.size + 1, 3, none⟩ (.string x4)) := by
  refine ⟨pk_set h.1, ?_, (((h.2.2.setCell (by simp) _).setCell (by simp) _).setCell (by simp) _).setCell (by simp) _⟩
  rw [Below.heap_setCell _ _ _ _ (by simp), Below.heap_setCell _ _ _ _ (by simp), Below.heap_setCell _ _ _ _ (by simp), Below.heap_setCell _ _ _ _ (by simp)]
  exact h.2.1
theorem gs_size {w : World} {x1 x2 x3 : Int} {x4 : ByteArray} {z : Int} {W : World} (h : GS w x1 x2 x3 x4 z W) : GS w x1 x2 x3 x4 z (W.setCell ⟨w.heap.size + 1 + 1, 0, none⟩ (.int .i64 z)) := by
  refine ⟨?_, Joins.block_setCell (i := 0) h.2.1 (.int .i64 z), h.2.2.setCell (by show w.heap.size ≤ w.heap.size + 1 + 1; omega) _⟩
  rw [Below.heap_setCell _ _ _ _ (by simp)]
  exact h.1
theorem gs_drew {w : World} {x1 x2 x3 : Int} {x4 : ByteArray} {z : Int} {W : World} (h : GS w x1 x2 x3 x4 z W) : GS w x1 x2 x3 x4 z W.drew := ⟨h.1, h.2.1, h.2.2.drew⟩
theorem int_cell {W : World} {g : Nat} {v : Value} (h : W.heap[g]? = some (.cells #[v] 3 (0, 0))) : W.cell? ⟨g, 0, none⟩ = some v := by rw [Joins.cell_of_block h]; rfl

def GetOut (w : World) (R : (Int × Int × Int × ByteArray) × Nat × Int) (e : Ending) (W' : World) : Prop :=
  e = .returned (.tuple #[.agg #[.int .i64 R.1.1, .int .i64 R.1.2.1, .int .i64 R.1.2.2.1, .string R.1.2.2.2], .int .i64 (R.2.1 : Int), .int .i64 R.2.2]) ∧ Below w.heap.size w W'

set_option maxHeartbeats 4000000 in
theorem get_head (a : Option Addr) (n cap : Nat) (w : World) (R : (Int × Int × Int × ByteArray) × Nat × Int) (z : Int) (hz : z ≠ 0) (hR : R = ((0, 0, 0, ⟨#[]⟩), 0, z))
    (h70 : ∀ W, Below w.heap.size w W → Calls Try.prog 14 #[.slice a n cap] W fun e W' => e = .returned (.tuple #[.agg #[.int .i64 ((0 : Nat) : Int), .int .i64 ((0 : Nat) : Int)], .int .i64 z]) ∧ Below W.heap.size W W') :
    Calls Try.prog 7 #[.slice a n cap] w fun e W' => GetOut w R e W' := by
  have HV := hide hR
  have H70 := hide h70
  have HZ := hide hz
  have HG0 := hide (GW.new w a n cap)
  have hc0 := (by rw [Joins.cell_of_block HG0.out.1.1]; rfl : (((w.alloc (.cells #[.slice a n cap] 27)).alloc (.cells #[.int .i64 0, .int .i64 0, .int .i64 0, .string ⟨#[]⟩] 23)).alloc (.cells #[.int .i64 0] 3)).cell? ⟨w.heap.size, 0, none⟩ = some (.slice a n cap))
  clear hR h70 hz
  go_enter Try.func7, Try.ntmps7
  go_wp2_with (first
    | (go_at_call 14; refine (H70.out _ HG0.out.2.2).mono ?_; rintro e W1 ⟨rfl, hb⟩; have HG1 := hide (HG0.out.below hb); have HG1a := hide (HG1.out.alloc (.cells #[.int .i64 ((0 : Nat) : Int), .int .i64 ((0 : Nat) : Int)] 42)); clear hb)
    | (go_at_call 15; refine (then71_bad _ _ 0 0 z HZ.out _).mono ?_; rintro e W2 ⟨rfl, hb⟩; have HG2 := hide (HG1a.out.below hb); clear hb)
    | (go_at_call 17; refine (then73_bad z HZ.out _).mono ?_; rintro e W3 ⟨rfl, hb⟩; have HG3 := hide (HG2.out.below hb); clear hb)
    | (go_at_call 19; refine (then75_bad z HZ.out _).mono ?_; rintro e W4 ⟨rfl, hb⟩; have HG4 := hide (HG3.out.below hb); obtain ⟨c0, c1, c2, c3⟩ := pk_cells HG4.out.2.1; obtain ⟨f0, f1, f2, f3⟩ := pk_free HG4.out.2.1; clear hb))
  refine heldS_startP (S := GS w 0 0 0 ⟨#[]⟩ 0) (by kernel_rfl) ?_
  have HSW := hide (gs_drew (gs_of HG4.out 0 0 0 ⟨#[]⟩))
  clear c0 c1 c2 c3 f0 f1 f2 f3
  generalize hwq : World.drew _ = wd at HSW ⊢
  clear hwq
  obtain ⟨c0, c1, c2, c3⟩ := pk_cells HSW.out.1
  obtain ⟨f0, f1, f2, f3⟩ := pk_free HSW.out.1
  have e0 := int_cell HSW.out.2.1
  have g0 := Joins.unfrozen_of_block HSW.out.2.1 0
  refine heldS_take (i := 0) (oi := { dst := some 32, op := Op.load 23 (Operand.tmp 2), type := 23, pos := _, after := _, guard := none }) (v := _) rfl (by kernel_rfl) (by kernel_rfl) (by kernel_rfl) (fun _ _ _ h => h) (by rfl) (by intro w' hSw; obtain ⟨c0, c1, c2, c3⟩ := pk_cells hSw.1; go_simp; try with_reducible rfl) HSW.out ?_
  simp only [Act.put, List.setIfInBounds_toArray, List.set_cons_zero, List.set_cons_succ]
  refine heldS_take (i := 1) (oi := { dst := some 33, op := Op.load 3 (Operand.tmp 3), type := 3, pos := _, after := _, guard := none }) (v := _) rfl (by kernel_rfl) (by kernel_rfl) (by kernel_rfl) (fun _ _ _ h => h) (by rfl) (by intro w' hSw; have e0 := int_cell hSw.2.1; go_simp; try with_reducible rfl) HSW.out ?_
  simp only [Act.put, List.setIfInBounds_toArray, List.set_cons_zero, List.set_cons_succ]
  refine heldS_take (i := 2) (oi := { dst := some 34, op := Op.move (Operand.tmp 4), type := 28, pos := _, after := _, guard := none }) (v := _) rfl (by kernel_rfl) (by kernel_rfl) (by kernel_rfl) (fun _ _ _ h => h) (by rfl) (by intro w' hSw; go_simp; try with_reducible rfl) HSW.out ?_
  simp only [Act.put, List.setIfInBounds_toArray, List.set_cons_zero, List.set_cons_succ]
  refine heldS_step (i := 3) (o := { dst := none, op := Op.store 23 (Operand.tmp 2) (Operand.tmp 32), type := 0, pos := _, after := _, guard := none }) (by kernel_rfl) rfl (by rfl) HSW.out (fun K hK => ?_)
  go_simp
  refine hK.out _ _ ?_
  have HSN := hide (gs_again HSW.out)
  clear c0 c1 c2 c3 f0 f1 f2 f3 e0 g0
  replace HSW := HSN
  clear HSN
  generalize hwq : World.setCell _ _ _ = wd at HSW ⊢
  clear hwq
  obtain ⟨c0, c1, c2, c3⟩ := pk_cells HSW.out.1
  obtain ⟨f0, f1, f2, f3⟩ := pk_free HSW.out.1
  have e0 := int_cell HSW.out.2.1
  have g0 := Joins.unfrozen_of_block HSW.out.2.1 0
  clear hK K
  try simp only [Act.put, List.setIfInBounds_toArray, List.set_cons_zero, List.set_cons_succ]
  refine heldS_step (i := 4) (o := { dst := none, op := Op.store 3 (Operand.tmp 3) (Operand.tmp 33), type := 0, pos := _, after := _, guard := none }) (by kernel_rfl) rfl (by rfl) HSW.out (fun K hK => ?_)
  go_simp
  refine hK.out _ _ ?_
  have HSN := hide (gs_size HSW.out)
  clear c0 c1 c2 c3 f0 f1 f2 f3 e0 g0
  replace HSW := HSN
  clear HSN
  generalize hwq : World.setCell _ _ _ = wd at HSW ⊢
  clear hwq
  clear hK K
  try simp only [Act.put, List.setIfInBounds_toArray, List.set_cons_zero, List.set_cons_succ]
  refine heldS_take (i := 5) (oi := { dst := some 4, op := Op.assign (Operand.tmp 34), type := 28, pos := _, after := _, guard := none }) (v := _) rfl (by kernel_rfl) (by kernel_rfl) (by kernel_rfl) (fun _ _ _ h => h) (by rfl) (by intro w' hSw; go_simp; try with_reducible rfl) HSW.out ?_
  simp only [Act.put, List.setIfInBounds_toArray, List.set_cons_zero, List.set_cons_succ]
  refine heldS_done (by kernel_rfl) HSW.out ?_
  go_wp2
  exact bodyPost_ret (results_cct rfl _ _ (w.heap.size + 1) (w.heap.size + 1 + 1) 23 3 _ _ (0, 0) (0, 0) _ rfl rfl HSW.out.1 HSW.out.2.1 Try.underlying23 rfl (by kernel_rfl) agg3) rfl ⟨by rw [HV.out]; rfl, HSW.out.2.2⟩
end Go.Proofs.Ytgeboanebdmebab.F
