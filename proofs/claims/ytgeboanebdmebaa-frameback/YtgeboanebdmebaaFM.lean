/- frame: the document's parse. -/
import Derived.Test.YtgeboanebdmebaaFL
import Derived.Test.YtgeboanebdmebaaFE
namespace Go.Proofs.Ytgeboanebdmebaa.F
open Go.Proofs.Ytgeboanebdmebaa Go.RowKit Go.By
set_option linter.unusedVariables false
set_option linter.unusedSimpArgs false
set_option maxRecDepth 20000
attribute [local go_sem ↓] Go.wp_at_zero Go.wp_at_succ

theorem small5 {n : Nat} (h : n ≤ 5000) : n ≤ 10000 := by omega
set_option maxRecDepth 20000 in
set_option maxHeartbeats 1000000 in
theorem body_big (a b c : Int) (s : ByteArray) (w : World) (hs : s.size ≤ 5000) :
    Calls Try.prog 67 #[.agg #[.int .i64 a, .int .i64 b, .int .i64 c, .string s]] w fun e W' => ∃ v, e = .returned v ∧ Owns W' w.heap.size v (bodyL a b c s) ∧ Below w.heap.size w W' := by
  have hx := pk_new w a b c s
  have HSW := hide hx.drew
  have HS := hide hs
  clear hx hs
  go_enter Try.func67, Try.ntmps67
  go_wp2_with fail
  refine heldS_startP (S := PK w a b c s) (by kernel_rfl) ?_
  refine heldS_take (i := 0) (oi := { dst := some 3, op := Op.fieldAddr 42 (Operand.tmp 1) 0, type := 0, pos := _, after := _, guard := none }) (v := _) rfl (by kernel_rfl) (by kernel_rfl) (by kernel_rfl) (fun _ _ _ h => h) (by rfl) (by intro w' hSw; go_simp; try with_reducible rfl) HSW.out ?_
  simp only [Act.put, List.setIfInBounds_toArray, List.set_cons_zero, List.set_cons_succ]
  refine heldS_take (i := 1) (oi := { dst := some 4, op := Op.load 3 (Operand.tmp 3), type := 3, pos := _, after := _, guard := none }) (v := _) rfl (by kernel_rfl) (by kernel_rfl) (by kernel_rfl) (fun _ _ _ h => h) (by rfl) (by intro w' hSw; obtain ⟨c0, c1, c2, c3⟩ := hSw.cells; go_simp; try with_reducible rfl) HSW.out ?_
  simp only [Act.put, List.setIfInBounds_toArray, List.set_cons_zero, List.set_cons_succ]
  refine heldS_take (i := 3) (oi := { dst := some 6, op := Op.fieldAddr 42 (Operand.tmp 1) 1, type := 0, pos := _, after := _, guard := none }) (v := _) rfl (by kernel_rfl) (by kernel_rfl) (by kernel_rfl) (fun _ _ _ h => h) (by rfl) (by intro w' hSw; go_simp; try with_reducible rfl) HSW.out ?_
  simp only [Act.put, List.setIfInBounds_toArray, List.set_cons_zero, List.set_cons_succ]
  refine heldS_take (i := 4) (oi := { dst := some 7, op := Op.load 3 (Operand.tmp 6), type := 3, pos := _, after := _, guard := none }) (v := _) rfl (by kernel_rfl) (by kernel_rfl) (by kernel_rfl) (fun _ _ _ h => h) (by rfl) (by intro w' hSw; obtain ⟨c0, c1, c2, c3⟩ := hSw.cells; go_simp; try with_reducible rfl) HSW.out ?_
  simp only [Act.put, List.setIfInBounds_toArray, List.set_cons_zero, List.set_cons_succ]
  refine heldS_take (i := 6) (oi := { dst := some 9, op := Op.fieldAddr 42 (Operand.tmp 1) 2, type := 0, pos := _, after := _, guard := none }) (v := _) rfl (by kernel_rfl) (by kernel_rfl) (by kernel_rfl) (fun _ _ _ h => h) (by rfl) (by intro w' hSw; go_simp; try with_reducible rfl) HSW.out ?_
  simp only [Act.put, List.setIfInBounds_toArray, List.set_cons_zero, List.set_cons_succ]
  refine heldS_take (i := 7) (oi := { dst := some 10, op := Op.load 3 (Operand.tmp 9), type := 3, pos := _, after := _, guard := none }) (v := _) rfl (by kernel_rfl) (by kernel_rfl) (by kernel_rfl) (fun _ _ _ h => h) (by rfl) (by intro w' hSw; obtain ⟨c0, c1, c2, c3⟩ := hSw.cells; go_simp; try with_reducible rfl) HSW.out ?_
  simp only [Act.put, List.setIfInBounds_toArray, List.set_cons_zero, List.set_cons_succ]
  refine heldS_take (i := 9) (oi := { dst := some 12, op := Op.fieldAddr 42 (Operand.tmp 1) 3, type := 0, pos := _, after := _, guard := none }) (v := _) rfl (by kernel_rfl) (by kernel_rfl) (by kernel_rfl) (fun _ _ _ h => h) (by rfl) (by intro w' hSw; go_simp; try with_reducible rfl) HSW.out ?_
  simp only [Act.put, List.setIfInBounds_toArray, List.set_cons_zero, List.set_cons_succ]
  refine heldS_take (i := 10) (oi := { dst := some 13, op := Op.load 9 (Operand.tmp 12), type := 9, pos := _, after := _, guard := none }) (v := _) rfl (by kernel_rfl) (by kernel_rfl) (by kernel_rfl) (fun _ _ _ h => h) (by rfl) (by intro w' hSw; obtain ⟨c0, c1, c2, c3⟩ := hSw.cells; go_simp; try with_reducible rfl) HSW.out ?_
  simp only [Act.put, List.setIfInBounds_toArray, List.set_cons_zero, List.set_cons_succ]
  refine heldS_step (i := 2) (o := { dst := some 5, op := Op.call { callee := Callee.value (Operand.func 35), args := #[Operand.const (Value.slice none 0 0), Operand.tmp 4], argTypes := #[28, 3] }, type := 28, pos := _, after := _, guard := none }) (by kernel_rfl) rfl (by rfl) HSW.out (fun K hK => ?_)
  go_simp
  refine (rput_nil2 w.heap.size a b c _ HSW.out.lo.size).mono ?_
  rintro e W1 ⟨v1, rfl, ho, hb⟩
  replace HSW := hide (HSW.out.up hb)
  have HO1 := hide ho
  obtain ⟨u1, q1, rfl, hc1⟩ := rput_pre ho HSW.out.lo.size (by decide) b rfl
  clear hb ho
  refine hK.out _ _ ?_
  clear hK K
  try simp only [Act.put, List.setIfInBounds_toArray, List.set_cons_zero, List.set_cons_succ]
  refine heldS_step (i := 5) (o := { dst := some 8, op := Op.call { callee := Callee.value (Operand.func 35), args := #[Operand.tmp 5, Operand.tmp 7], argTypes := #[28, 3] }, type := 28, pos := _, after := _, guard := none }) (by kernel_rfl) rfl (by rfl) HSW.out (fun K hK => ?_)
  go_simp
  refine (hc1).mono ?_
  rintro e W2 ⟨v2, rfl, ho, hb⟩
  replace HSW := hide (HSW.out.up hb)
  have HO2 := hide ho
  obtain ⟨u2, q2, rfl, hc2⟩ := rput_pre ho HSW.out.lo.size (by decide) c rfl
  clear hb ho
  refine hK.out _ _ ?_
  clear hK K
  try simp only [Act.put, List.setIfInBounds_toArray, List.set_cons_zero, List.set_cons_succ]
  refine heldS_step (i := 8) (o := { dst := some 11, op := Op.call { callee := Callee.value (Operand.func 35), args := #[Operand.tmp 8, Operand.tmp 10], argTypes := #[28, 3] }, type := 28, pos := _, after := _, guard := none }) (by kernel_rfl) rfl (by rfl) HSW.out (fun K hK => ?_)
  go_simp
  refine (hc2).mono ?_
  rintro e W3 ⟨v3, rfl, ho, hb⟩
  replace HSW := hide (HSW.out.up hb)
  have HO3 := hide ho
  obtain ⟨u3, q3, rfl, hc3⟩ := rtext_pre ho HSW.out.lo.size s (small5 HS.out)
  clear hb ho
  refine hK.out _ _ ?_
  clear hK K
  try simp only [Act.put, List.setIfInBounds_toArray, List.set_cons_zero, List.set_cons_succ]
  refine heldS_step (i := 11) (o := { dst := some 14, op := Op.call { callee := Callee.value (Operand.func 38), args := #[Operand.tmp 11, Operand.tmp 13], argTypes := #[28, 9] }, type := 28, pos := _, after := _, guard := none }) (by kernel_rfl) rfl (by rfl) HSW.out (fun K hK => ?_)
  go_simp
  refine (hc3).mono ?_
  rintro e W4 ⟨v4, rfl, ho, hb⟩
  replace HSW := hide (HSW.out.up hb)
  have HO4 := hide ho
  clear hb ho
  refine hK.out _ _ ?_
  clear hK K
  try simp only [Act.put, List.setIfInBounds_toArray, List.set_cons_zero, List.set_cons_succ]
  refine heldS_take (i := 12) (oi := { dst := some 2, op := Op.assign (Operand.tmp 14), type := 28, pos := _, after := _, guard := none }) (v := _) rfl (by kernel_rfl) (by kernel_rfl) (by kernel_rfl) (fun _ _ _ h => h) (by rfl) (by intro w' hSw; go_simp; try with_reducible rfl) HSW.out ?_
  simp only [Act.put, List.setIfInBounds_toArray, List.set_cons_zero, List.set_cons_succ]
  refine heldS_done (by kernel_rfl) HSW.out ?_
  go_wp2
  go_ret
  exact ⟨_, rfl, HO4.out, HSW.out.lo⟩

/-- What is known of some bytes: their numbers, one behind the other. -/
structure ParseH (a : Option Addr) (l : List Nat) (n cap : Nat) (w : World) (e i s j c k q : Nat) (sd : ByteArray) : Prop where
  c1 : ∀ W, Below w.heap.size w W → Calls Try.prog 77 #[.slice a n cap] W fun x W' => x = .returned (.tuple #[.int .i64 (e : Int), .int .i64 (i : Int)]) ∧ W' = W
  c2 : ∀ W, Below w.heap.size w W → Calls Try.prog 77 #[.slice (V.from_ a cap i) (n - i) (cap - i)] W fun x W' => x = .returned (.tuple #[.int .i64 (s : Int), .int .i64 (j : Int)]) ∧ W' = W
  c3 : ∀ W, Below w.heap.size w W → Calls Try.prog 77 #[.slice (V.from_ a cap (i + j)) (n - (i + j)) (cap - (i + j))] W fun x W' => x = .returned (.tuple #[.int .i64 (c : Int), .int .i64 (k : Int)]) ∧ W' = W
  c4 : ∀ W, Below w.heap.size w W → Calls Try.prog 95 #[.slice (V.from_ a cap (i + j + k)) (n - (i + j + k)) (cap - (i + j + k))] W fun x W' => x = .returned (.tuple #[.string sd, .int .i64 (q : Int)]) ∧ W' = W
  s1 : ∀ W, (Instr.slice 28 (.slice a n cap) (some (.int .i64 (i : Int))) none none).run Try.prog W = .ok (.slice (V.from_ a cap i) (n - i) (cap - i)) W
  s2 : ∀ W, (Instr.slice 28 (.slice a n cap) (some (.int .i64 ((i : Int) + (j : Int)))) none none).run Try.prog W = .ok (.slice (V.from_ a cap (i + j)) (n - (i + j)) (cap - (i + j))) W
  s3 : ∀ W, (Instr.slice 28 (.slice a n cap) (some (.int .i64 ((i : Int) + (j : Int) + (k : Int)))) none none).run Try.prog W = .ok (.slice (V.from_ a cap (i + j + k)) (n - (i + j + k)) (cap - (i + j + k))) W
  says : ∀ W, Below w.heap.size w W → (convert 28 9 (.slice a n cap)).run Try.prog W = .ok (.string (str l)) W
  bi : i ≤ n
  bj : i + j ≤ n
  bk : i + j + k ≤ n
  bn : n ≤ 20000

theorem parseH_of (a : Option Addr) (l : List Nat) (n cap : Nat) (w : World) (hn : l.length = n) (hL : Came w.heap.size w a l) (hm : n ≤ 20000) (hcap : n ≤ cap) :
    ParseH a l n cap w (Vary.refN l).1 (Vary.refN l).2 (Vary.refN (l.drop (Vary.refN l).2)).1 (Vary.refN (l.drop (Vary.refN l).2)).2 (Vary.refN (l.drop ((Vary.refN l).2 + (Vary.refN (l.drop (Vary.refN l).2)).2))).1 (Vary.refN (l.drop ((Vary.refN l).2 + (Vary.refN (l.drop (Vary.refN l).2)).2))).2
      (Vary.refT (l.drop ((Vary.refN l).2 + (Vary.refN (l.drop (Vary.refN l).2)).2 + (Vary.refN (l.drop ((Vary.refN l).2 + (Vary.refN (l.drop (Vary.refN l).2)).2))).2))).2 (str (Vary.refT (l.drop ((Vary.refN l).2 + (Vary.refN (l.drop (Vary.refN l).2)).2 + (Vary.refN (l.drop ((Vary.refN l).2 + (Vary.refN (l.drop (Vary.refN l).2)).2))).2))).1) := by
  have hd : ∀ q, ∀ c ∈ l.drop q, c < 256 := fun q c hc => hL.1 c (List.mem_of_mem_drop hc)
  obtain ⟨_, b1, _⟩ := Vary.refN_bounds hL.1
  have hb2 := fun q => (Vary.refN_bounds (hd q)).2.1
  generalize hN1 : Vary.refN l = N1 at *
  obtain ⟨e, i⟩ := N1
  simp only [] at b1 ⊢
  have b2 := hb2 i
  generalize hN2 : Vary.refN (l.drop i) = N2 at *
  obtain ⟨s, j⟩ := N2
  simp only [List.length_drop] at b2 ⊢
  have b3 := hb2 (i + j)
  generalize hN3 : Vary.refN (l.drop (i + j)) = N3 at *
  obtain ⟨c, k⟩ := N3
  simp only [List.length_drop] at b3 ⊢
  generalize hT : Vary.refT (l.drop (i + j + k)) = T at *
  obtain ⟨d, q⟩ := T
  simp only []
  have lies : ∀ W, Below w.heap.size w W → ∀ z, Lies W (V.from_ a cap z) (l.drop z) := fun W hb z => V.lies_drop (hL.below hb).lies cap z (by omega)
  refine ⟨?_, ?_, ?_, ?_, ?_, ?_, ?_, ?_, by omega, by omega, by omega, hm⟩
  · intro W hb
    have := V.refNum_any a l n cap W hn (hL.below hb).lies hm
    rw [hN1] at this; exact this
  · intro W hb
    have := V.refNum_any (V.from_ a cap i) (l.drop i) (n - i) (cap - i) W (by rw [List.length_drop]; omega) (lies W hb i) (by omega)
    rw [hN2] at this; exact this
  · intro W hb
    have := V.refNum_any (V.from_ a cap (i + j)) (l.drop (i + j)) (n - (i + j)) (cap - (i + j)) W (by rw [List.length_drop]; omega) (lies W hb _) (by omega)
    rw [hN3] at this; exact this
  · intro W hb
    have := V.refText_any (V.from_ a cap (i + j + k)) (l.drop (i + j + k)) (n - (i + j + k)) (cap - (i + j + k)) W (by rw [List.length_drop]; omega) (lies W hb _) (by omega) (by omega)
    rw [hT] at this; exact this
  · exact fun W => V.slice_lo a n cap i (by omega) W
  · intro W
    have := V.slice_lo a n cap (i + j) (by omega) W
    rw [Int.natCast_add] at this; exact this
  · intro W
    have := V.slice_lo a n cap (i + j + k) (by omega) W
    rw [Int.natCast_add, Int.natCast_add] at this; exact this
  · exact fun W hb => run_str 28 5 9 Try.underlying28 Try.underlying5 Try.underlying9 (hL.below hb).lies n cap hn

/-- The result's box and the packet's own. -/
def PB (w : World) (e s c : Nat) (sd : ByteArray) (W : World) : Prop := Below w.heap.size w W ∧ W.heap[w.heap.size + 1]? = some (.cells #[.int .i64 (e : Int), .int .i64 (s : Int), .int .i64 (c : Int), .string sd] 42 (0, 0)) ∧ W.heap[w.heap.size]? = some (.cells #[.int .i64 0, .int .i64 0, .int .i64 0, .string ⟨#[]⟩] 42 (0, 0))
theorem pb_up {w : World} {e s c : Nat} {sd : ByteArray} {W W' : World} (h : PB w e s c sd W) (hb : Below W.heap.size W W') : PB w e s c sd W' :=
  ⟨h.1.trans (hb.mono h.1.size), (hb.block _ (lt_of_heap h.2.1)).trans h.2.1, (hb.block _ (lt_of_heap h.2.2)).trans h.2.2⟩
theorem pb_drew {w : World} {e s c : Nat} {sd : ByteArray} {W : World} (h : PB w e s c sd W) : PB w e s c sd W.drew := ⟨h.1.drew, h.2.1, h.2.2⟩
theorem pb_cells {w : World} {e s c : Nat} {sd : ByteArray} {W W' : World} (h : PB w e s c sd W) (hb : Below W.heap.size W W') : W'.cell? ⟨w.heap.size + 1, 0, none⟩ = some (.int .i64 (e : Int)) ∧ W'.cell? ⟨w.heap.size + 1, 1, none⟩ = some (.int .i64 (s : Int)) ∧ W'.cell? ⟨w.heap.size + 1, 2, none⟩ = some (.int .i64 (c : Int)) ∧ W'.cell? ⟨w.heap.size + 1, 3, none⟩ = some (.string sd) := pk_cells (pb_up h hb).2.1
theorem pb_new (w : World) (e s c : Nat) (sd : ByteArray) : PB w e s c sd ((w.alloc (.cells #[.int .i64 0, .int .i64 0, .int .i64 0, .string ⟨#[]⟩] 42)).alloc (.cells #[.int .i64 (e : Int), .int .i64 (s : Int), .int .i64 (c : Int), .string sd] 42)) := by
  obtain ⟨b1, h1⟩ := z42_new w
  have s1 : (w.alloc (.cells #[.int .i64 0, .int .i64 0, .int .i64 0, .string ⟨#[]⟩] 42)).heap.size = w.heap.size + 1 := World.size_alloc ..
  generalize w.alloc (.cells #[.int .i64 0, .int .i64 0, .int .i64 0, .string ⟨#[]⟩] 42) = W1 at *
  have h2 := World.alloc_heap_new W1 (.cells #[.int .i64 (e : Int), .int .i64 (s : Int), .int .i64 (c : Int), .string sd] 42)
  have b2 : Below W1.heap.size W1 (W1.alloc (.cells #[.int .i64 (e : Int), .int .i64 (s : Int), .int .i64 (c : Int), .string sd] 42)) := (Below.refl _ _).alloc (Nat.le_refl _) _
  rw [s1] at h2
  exact ⟨b1.trans (b2.mono b1.size), h2, (b2.block _ (by omega)).trans h1⟩

set_option maxHeartbeats 400000 in
theorem parse_v1 (a : Option Addr) (l : List Nat) (n cap : Nat) (w : World) (e i s j c k q : Nat) (sd : ByteArray) (R : (Int × Int × Int × ByteArray) × Bool) (hi : i = 0) (H : ParseH a l n cap w e i s j c k q sd)
    (hR : R = ((0, 0, 0, ⟨#[]⟩), false)) :
    Calls Try.prog 79 #[.slice a n cap] w fun e W' => e = .returned (.tuple #[.agg #[.int .i64 R.1.1, .int .i64 R.1.2.1, .int .i64 R.1.2.2.1, .string R.1.2.2.2], .bool R.2]) ∧ Below w.heap.size w W' := by
  have HV := hide hR
  have H1 := hide H.c1
  have H2 := hide H.c2
  have H3 := hide H.c3
  have H4 := hide H.c4
  have s1 := H.s1
  have s2 := H.s2
  have s3 := H.s3
  have HL := hide H.says
  have hbi := H.bi
  have hbj := H.bj
  have hbk := H.bk
  have hbn := H.bn
  have HB0 := hide (z42_new w)
  have q1 : ((i : Int) == 0) = true := by simp; omega
  clear hR H hi
  generalize V.from_ a cap i = fa1 at *
  generalize V.from_ a cap (i + j) = fa2 at *
  generalize V.from_ a cap (i + j + k) = fa3 at *
  generalize n - i = n1 at *
  generalize n - (i + j) = n2 at *
  generalize n - (i + j + k) = n3 at *
  generalize cap - i = m1 at *
  generalize cap - (i + j) = m2 at *
  generalize cap - (i + j + k) = m3 at *
  go_enter Try.func79, Try.ntmps79
  go_wp2_with (first
    | (go_at_call 77; refine (H1.out _ HB0.out.1).mono ?_; rintro e W1 ⟨rfl, hw⟩; subst hw; clear H1)
    | (go_at_call 77; refine (H2.out _ HB0.out.1).mono ?_; rintro e W1 ⟨rfl, hw⟩; subst hw; clear H2)
    | (go_at_call 77; refine (H3.out _ HB0.out.1).mono ?_; rintro e W1 ⟨rfl, hw⟩; subst hw; clear H3)
    | (go_at_call 95; refine (H4.out _ HB0.out.1).mono ?_; rintro e W1 ⟨rfl, hw⟩; subst hw; clear H4))
  have HB := hide (pb_new w e s c sd)
  refine going_start (by kernel_rfl) ?_
  replace HB := hide (pb_drew HB.out)
  generalize hwq : World.drew _ = wd at HB ⊢
  clear hwq
  refine going_take (i := 0) (oi := { dst := some 50, op := Op.move (Operand.tmp 5), type := 3, pos := _, after := _, guard := none }) (v := _) rfl (by kernel_rfl) (by kernel_rfl) (by kernel_rfl) (fun _ _ _ h => h) (by rfl) (by intro w' hSw; go_simp; try with_reducible rfl) ?_
  simp only [Act.put, List.setIfInBounds_toArray, List.set_cons_zero, List.set_cons_succ]
  refine going_take (i := 1) (oi := { dst := some 51, op := Op.binOp BinOp.eql 3 (Operand.tmp 50) (Operand.const (Value.int IntKind.i64 0)) 3, type := 4, pos := _, after := _, guard := none }) (v := _) rfl (by kernel_rfl) (by kernel_rfl) (by kernel_rfl) (fun _ _ _ h => h) (by rfl) (by intro w' hSw; go_simp; try with_reducible rfl) ?_
  simp only [Act.put, List.setIfInBounds_toArray, List.set_cons_zero, List.set_cons_succ]
  refine going_take (i := 2) (oi := { dst := some 52, op := Op.move (Operand.tmp 51), type := 4, pos := _, after := _, guard := none }) (v := _) rfl (by kernel_rfl) (by kernel_rfl) (by kernel_rfl) (fun _ _ _ h => h) (by rfl) (by intro w' hSw; go_simp; try with_reducible rfl) ?_
  simp only [Act.put, List.setIfInBounds_toArray, List.set_cons_zero, List.set_cons_succ]
  refine going_skip (i := 3) (oi := { dst := some 53, op := Op.move (Operand.tmp 7), type := 3, pos := _, after := _, guard := some (2, false) }) rfl (by kernel_rfl) (by kernel_rfl) (by kernel_rfl) (fun _ _ _ h => h) (by rfl) ?_
  simp only [Act.put, List.setIfInBounds_toArray, List.set_cons_zero, List.set_cons_succ]
  refine going_skip (i := 4) (oi := { dst := some 54, op := Op.binOp BinOp.eql 3 (Operand.tmp 53) (Operand.const (Value.int IntKind.i64 0)) 3, type := 4, pos := _, after := _, guard := some (2, false) }) rfl (by kernel_rfl) (by kernel_rfl) (by kernel_rfl) (fun _ _ _ h => h) (by rfl) ?_
  simp only [Act.put, List.setIfInBounds_toArray, List.set_cons_zero, List.set_cons_succ]
  refine going_take (i := 5) (oi := { dst := some 55, op := Op.pick (Operand.tmp 52) (Operand.const (Value.bool true)) (Operand.tmp 54), type := 4, pos := _, after := _, guard := none }) (v := _) rfl (by kernel_rfl) (by kernel_rfl) (by kernel_rfl) (fun _ _ _ h => h) (by rfl) (by intro w' hSw; go_simp; try with_reducible rfl) ?_
  simp only [Act.put, List.setIfInBounds_toArray, List.set_cons_zero, List.set_cons_succ]
  refine going_take (i := 6) (oi := { dst := some 56, op := Op.move (Operand.tmp 55), type := 4, pos := _, after := _, guard := none }) (v := _) rfl (by kernel_rfl) (by kernel_rfl) (by kernel_rfl) (fun _ _ _ h => h) (by rfl) (by intro w' hSw; go_simp; try with_reducible rfl) ?_
  simp only [Act.put, List.setIfInBounds_toArray, List.set_cons_zero, List.set_cons_succ]
  refine going_skip (i := 7) (oi := { dst := some 57, op := Op.move (Operand.tmp 9), type := 3, pos := _, after := _, guard := some (6, false) }) rfl (by kernel_rfl) (by kernel_rfl) (by kernel_rfl) (fun _ _ _ h => h) (by rfl) ?_
  simp only [Act.put, List.setIfInBounds_toArray, List.set_cons_zero, List.set_cons_succ]
  refine going_skip (i := 8) (oi := { dst := some 58, op := Op.binOp BinOp.eql 3 (Operand.tmp 57) (Operand.const (Value.int IntKind.i64 0)) 3, type := 4, pos := _, after := _, guard := some (6, false) }) rfl (by kernel_rfl) (by kernel_rfl) (by kernel_rfl) (fun _ _ _ h => h) (by rfl) ?_
  simp only [Act.put, List.setIfInBounds_toArray, List.set_cons_zero, List.set_cons_succ]
  refine going_take (i := 9) (oi := { dst := some 59, op := Op.pick (Operand.tmp 56) (Operand.const (Value.bool true)) (Operand.tmp 58), type := 4, pos := _, after := _, guard := none }) (v := _) rfl (by kernel_rfl) (by kernel_rfl) (by kernel_rfl) (fun _ _ _ h => h) (by rfl) (by intro w' hSw; go_simp; try with_reducible rfl) ?_
  simp only [Act.put, List.setIfInBounds_toArray, List.set_cons_zero, List.set_cons_succ]
  refine going_take (i := 10) (oi := { dst := some 60, op := Op.move (Operand.tmp 59), type := 4, pos := _, after := _, guard := none }) (v := _) rfl (by kernel_rfl) (by kernel_rfl) (by kernel_rfl) (fun _ _ _ h => h) (by rfl) (by intro w' hSw; go_simp; try with_reducible rfl) ?_
  simp only [Act.put, List.setIfInBounds_toArray, List.set_cons_zero, List.set_cons_succ]
  refine going_skip (i := 11) (oi := { dst := some 61, op := Op.move (Operand.tmp 11), type := 3, pos := _, after := _, guard := some (10, false) }) rfl (by kernel_rfl) (by kernel_rfl) (by kernel_rfl) (fun _ _ _ h => h) (by rfl) ?_
  simp only [Act.put, List.setIfInBounds_toArray, List.set_cons_zero, List.set_cons_succ]
  refine going_skip (i := 12) (oi := { dst := some 62, op := Op.binOp BinOp.eql 3 (Operand.tmp 61) (Operand.const (Value.int IntKind.i64 0)) 3, type := 4, pos := _, after := _, guard := some (10, false) }) rfl (by kernel_rfl) (by kernel_rfl) (by kernel_rfl) (fun _ _ _ h => h) (by rfl) ?_
  simp only [Act.put, List.setIfInBounds_toArray, List.set_cons_zero, List.set_cons_succ]
  refine going_take (i := 13) (oi := { dst := some 63, op := Op.pick (Operand.tmp 60) (Operand.const (Value.bool true)) (Operand.tmp 62), type := 4, pos := _, after := _, guard := none }) (v := _) rfl (by kernel_rfl) (by kernel_rfl) (by kernel_rfl) (fun _ _ _ h => h) (by rfl) (by intro w' hSw; go_simp; try with_reducible rfl) ?_
  simp only [Act.put, List.setIfInBounds_toArray, List.set_cons_zero, List.set_cons_succ]
  refine going_take (i := 14) (oi := { dst := some 64, op := Op.move (Operand.tmp 63), type := 4, pos := _, after := _, guard := none }) (v := _) rfl (by kernel_rfl) (by kernel_rfl) (by kernel_rfl) (fun _ _ _ h => h) (by rfl) (by intro w' hSw; go_simp; try with_reducible rfl) ?_
  simp only [Act.put, List.setIfInBounds_toArray, List.set_cons_zero, List.set_cons_succ]
  refine going_skip (i := 15) (oi := { dst := some 65, op := Op.load 42 (Operand.tmp 12), type := 42, pos := _, after := _, guard := some (14, false) }) rfl (by kernel_rfl) (by kernel_rfl) (by kernel_rfl) (fun _ _ _ h => h) (by rfl) ?_
  simp only [Act.put, List.setIfInBounds_toArray, List.set_cons_zero, List.set_cons_succ]
  refine going_skip (i := 16) (oi := { dst := some 66, op := Op.call { callee := Callee.value (Operand.func 23), args := #[Operand.tmp 65], argTypes := #[42] }, type := 4, pos := _, after := _, guard := some (14, false) }) rfl (by kernel_rfl) (by kernel_rfl) (by kernel_rfl) (fun _ _ _ h => h) (by rfl) ?_
  simp only [Act.put, List.setIfInBounds_toArray, List.set_cons_zero, List.set_cons_succ]
  refine going_skip (i := 17) (oi := { dst := some 67, op := Op.unOp UnOp.not 4 (Operand.tmp 66), type := 4, pos := _, after := _, guard := some (14, false) }) rfl (by kernel_rfl) (by kernel_rfl) (by kernel_rfl) (fun _ _ _ h => h) (by rfl) ?_
  simp only [Act.put, List.setIfInBounds_toArray, List.set_cons_zero, List.set_cons_succ]
  refine going_take (i := 18) (oi := { dst := some 68, op := Op.pick (Operand.tmp 64) (Operand.const (Value.bool true)) (Operand.tmp 67), type := 4, pos := _, after := _, guard := none }) (v := _) rfl (by kernel_rfl) (by kernel_rfl) (by kernel_rfl) (fun _ _ _ h => h) (by rfl) (by intro w' hSw; go_simp; try with_reducible rfl) ?_
  simp only [Act.put, List.setIfInBounds_toArray, List.set_cons_zero, List.set_cons_succ]
  refine going_take (i := 19) (oi := { dst := some 69, op := Op.move (Operand.tmp 68), type := 4, pos := _, after := _, guard := none }) (v := _) rfl (by kernel_rfl) (by kernel_rfl) (by kernel_rfl) (fun _ _ _ h => h) (by rfl) (by intro w' hSw; go_simp; try with_reducible rfl) ?_
  simp only [Act.put, List.setIfInBounds_toArray, List.set_cons_zero, List.set_cons_succ]
  refine going_skip (i := 20) (oi := { dst := some 70, op := Op.load 42 (Operand.tmp 12), type := 42, pos := _, after := _, guard := some (19, false) }) rfl (by kernel_rfl) (by kernel_rfl) (by kernel_rfl) (fun _ _ _ h => h) (by rfl) ?_
  simp only [Act.put, List.setIfInBounds_toArray, List.set_cons_zero, List.set_cons_succ]
  refine going_skip (i := 23) (oi := { dst := some 73, op := Op.move (Operand.tmp 0), type := 28, pos := _, after := _, guard := some (19, false) }) rfl (by kernel_rfl) (by kernel_rfl) (by kernel_rfl) (fun _ _ _ h => h) (by rfl) ?_
  simp only [Act.put, List.setIfInBounds_toArray, List.set_cons_zero, List.set_cons_succ]
  refine going_skip (i := 24) (oi := { dst := some 74, op := Op.convert 28 9 (Operand.tmp 73), type := 9, pos := _, after := _, guard := some (19, false) }) rfl (by kernel_rfl) (by kernel_rfl) (by kernel_rfl) (fun _ _ _ h => h) (by rfl) ?_
  simp only [Act.put, List.setIfInBounds_toArray, List.set_cons_zero, List.set_cons_succ]
  refine going_skip (i := 21) (oi := { dst := some 71, op := Op.call { callee := Callee.value (Operand.func 67), args := #[Operand.tmp 70], argTypes := #[42] }, type := 28, pos := _, after := _, guard := some (19, false) }) rfl (by kernel_rfl) (by kernel_rfl) (by kernel_rfl) (fun _ _ _ h => h) (by rfl) ?_
  simp only [Act.put, List.setIfInBounds_toArray, List.set_cons_zero, List.set_cons_succ]
  refine going_skip (i := 22) (oi := { dst := some 72, op := Op.convert 28 9 (Operand.tmp 71), type := 9, pos := _, after := _, guard := some (19, false) }) rfl (by kernel_rfl) (by kernel_rfl) (by kernel_rfl) (fun _ _ _ h => h) (by rfl) ?_
  simp only [Act.put, List.setIfInBounds_toArray, List.set_cons_zero, List.set_cons_succ]
  refine going_skip (i := 25) (oi := { dst := some 75, op := Op.binOp BinOp.neq 9 (Operand.tmp 72) (Operand.tmp 74) 9, type := 4, pos := _, after := _, guard := some (19, false) }) rfl (by kernel_rfl) (by kernel_rfl) (by kernel_rfl) (fun _ _ _ h => h) (by rfl) ?_
  simp only [Act.put, List.setIfInBounds_toArray, List.set_cons_zero, List.set_cons_succ]
  refine going_take (i := 26) (oi := { dst := some 76, op := Op.pick (Operand.tmp 69) (Operand.const (Value.bool true)) (Operand.tmp 75), type := 4, pos := _, after := _, guard := none }) (v := _) rfl (by kernel_rfl) (by kernel_rfl) (by kernel_rfl) (fun _ _ _ h => h) (by rfl) (by intro w' hSw; go_simp; try with_reducible rfl) ?_
  simp only [Act.put, List.setIfInBounds_toArray, List.set_cons_zero, List.set_cons_succ]
  refine going_done (by kernel_rfl) ?_
  obtain ⟨c0, c1, c2, c3⟩ := pk_cells HB.out.2.2
  obtain ⟨f0, f1, f2, f3⟩ := pk_free HB.out.2.2
  obtain ⟨d0, d1, d2, d3⟩ := pk_cells HB.out.2.1
  go_wp2
  exact bodyPost_ret (results_ct rfl _ _ w.heap.size 42 _ (0, 0) _ rfl (pk_set HB.out.2.2) Try.underlying42 rfl (by kernel_rfl)) rfl ⟨by rw [HV.out]; rfl, (((HB.out.1.setCell (Nat.le_refl _) _).setCell (Nat.le_refl _) _).setCell (Nat.le_refl _) _).setCell (Nat.le_refl _) _⟩

set_option maxHeartbeats 400000 in
theorem parse_v2 (a : Option Addr) (l : List Nat) (n cap : Nat) (w : World) (e i s j c k q : Nat) (sd : ByteArray) (R : (Int × Int × Int × ByteArray) × Bool) (hi : i ≠ 0) (hj : j = 0) (H : ParseH a l n cap w e i s j c k q sd)
    (hR : R = ((0, 0, 0, ⟨#[]⟩), false)) :
    Calls Try.prog 79 #[.slice a n cap] w fun e W' => e = .returned (.tuple #[.agg #[.int .i64 R.1.1, .int .i64 R.1.2.1, .int .i64 R.1.2.2.1, .string R.1.2.2.2], .bool R.2]) ∧ Below w.heap.size w W' := by
  have HV := hide hR
  have H1 := hide H.c1
  have H2 := hide H.c2
  have H3 := hide H.c3
  have H4 := hide H.c4
  have s1 := H.s1
  have s2 := H.s2
  have s3 := H.s3
  have HL := hide H.says
  have hbi := H.bi
  have hbj := H.bj
  have hbk := H.bk
  have hbn := H.bn
  have HB0 := hide (z42_new w)
  have q1 : ((i : Int) == 0) = false := by simp; omega
  have q2 : ((j : Int) == 0) = true := by simp; omega
  clear hR H hi hj
  generalize V.from_ a cap i = fa1 at *
  generalize V.from_ a cap (i + j) = fa2 at *
  generalize V.from_ a cap (i + j + k) = fa3 at *
  generalize n - i = n1 at *
  generalize n - (i + j) = n2 at *
  generalize n - (i + j + k) = n3 at *
  generalize cap - i = m1 at *
  generalize cap - (i + j) = m2 at *
  generalize cap - (i + j + k) = m3 at *
  go_enter Try.func79, Try.ntmps79
  go_wp2_with (first
    | (go_at_call 77; refine (H1.out _ HB0.out.1).mono ?_; rintro e W1 ⟨rfl, hw⟩; subst hw; clear H1)
    | (go_at_call 77; refine (H2.out _ HB0.out.1).mono ?_; rintro e W1 ⟨rfl, hw⟩; subst hw; clear H2)
    | (go_at_call 77; refine (H3.out _ HB0.out.1).mono ?_; rintro e W1 ⟨rfl, hw⟩; subst hw; clear H3)
    | (go_at_call 95; refine (H4.out _ HB0.out.1).mono ?_; rintro e W1 ⟨rfl, hw⟩; subst hw; clear H4))
  have HB := hide (pb_new w e s c sd)
  refine going_start (by kernel_rfl) ?_
  replace HB := hide (pb_drew HB.out)
  generalize hwq : World.drew _ = wd at HB ⊢
  clear hwq
  refine going_take (i := 0) (oi := { dst := some 50, op := Op.move (Operand.tmp 5), type := 3, pos := _, after := _, guard := none }) (v := _) rfl (by kernel_rfl) (by kernel_rfl) (by kernel_rfl) (fun _ _ _ h => h) (by rfl) (by intro w' hSw; go_simp; try with_reducible rfl) ?_
  simp only [Act.put, List.setIfInBounds_toArray, List.set_cons_zero, List.set_cons_succ]
  refine going_take (i := 1) (oi := { dst := some 51, op := Op.binOp BinOp.eql 3 (Operand.tmp 50) (Operand.const (Value.int IntKind.i64 0)) 3, type := 4, pos := _, after := _, guard := none }) (v := _) rfl (by kernel_rfl) (by kernel_rfl) (by kernel_rfl) (fun _ _ _ h => h) (by rfl) (by intro w' hSw; go_simp; try with_reducible rfl) ?_
  simp only [Act.put, List.setIfInBounds_toArray, List.set_cons_zero, List.set_cons_succ]
  refine going_take (i := 2) (oi := { dst := some 52, op := Op.move (Operand.tmp 51), type := 4, pos := _, after := _, guard := none }) (v := _) rfl (by kernel_rfl) (by kernel_rfl) (by kernel_rfl) (fun _ _ _ h => h) (by rfl) (by intro w' hSw; go_simp; try with_reducible rfl) ?_
  simp only [Act.put, List.setIfInBounds_toArray, List.set_cons_zero, List.set_cons_succ]
  refine going_take (i := 3) (oi := { dst := some 53, op := Op.move (Operand.tmp 7), type := 3, pos := _, after := _, guard := some (2, false) }) (v := _) rfl (by kernel_rfl) (by kernel_rfl) (by kernel_rfl) (fun _ _ _ h => h) (by rfl) (by intro w' hSw; go_simp; try with_reducible rfl) ?_
  simp only [Act.put, List.setIfInBounds_toArray, List.set_cons_zero, List.set_cons_succ]
  refine going_take (i := 4) (oi := { dst := some 54, op := Op.binOp BinOp.eql 3 (Operand.tmp 53) (Operand.const (Value.int IntKind.i64 0)) 3, type := 4, pos := _, after := _, guard := some (2, false) }) (v := _) rfl (by kernel_rfl) (by kernel_rfl) (by kernel_rfl) (fun _ _ _ h => h) (by rfl) (by intro w' hSw; go_simp; try with_reducible rfl) ?_
  simp only [Act.put, List.setIfInBounds_toArray, List.set_cons_zero, List.set_cons_succ]
  refine going_take (i := 5) (oi := { dst := some 55, op := Op.pick (Operand.tmp 52) (Operand.const (Value.bool true)) (Operand.tmp 54), type := 4, pos := _, after := _, guard := none }) (v := _) rfl (by kernel_rfl) (by kernel_rfl) (by kernel_rfl) (fun _ _ _ h => h) (by rfl) (by intro w' hSw; go_simp; try with_reducible rfl) ?_
  simp only [Act.put, List.setIfInBounds_toArray, List.set_cons_zero, List.set_cons_succ]
  refine going_take (i := 6) (oi := { dst := some 56, op := Op.move (Operand.tmp 55), type := 4, pos := _, after := _, guard := none }) (v := _) rfl (by kernel_rfl) (by kernel_rfl) (by kernel_rfl) (fun _ _ _ h => h) (by rfl) (by intro w' hSw; go_simp; try with_reducible rfl) ?_
  simp only [Act.put, List.setIfInBounds_toArray, List.set_cons_zero, List.set_cons_succ]
  refine going_skip (i := 7) (oi := { dst := some 57, op := Op.move (Operand.tmp 9), type := 3, pos := _, after := _, guard := some (6, false) }) rfl (by kernel_rfl) (by kernel_rfl) (by kernel_rfl) (fun _ _ _ h => h) (by rfl) ?_
  simp only [Act.put, List.setIfInBounds_toArray, List.set_cons_zero, List.set_cons_succ]
  refine going_skip (i := 8) (oi := { dst := some 58, op := Op.binOp BinOp.eql 3 (Operand.tmp 57) (Operand.const (Value.int IntKind.i64 0)) 3, type := 4, pos := _, after := _, guard := some (6, false) }) rfl (by kernel_rfl) (by kernel_rfl) (by kernel_rfl) (fun _ _ _ h => h) (by rfl) ?_
  simp only [Act.put, List.setIfInBounds_toArray, List.set_cons_zero, List.set_cons_succ]
  refine going_take (i := 9) (oi := { dst := some 59, op := Op.pick (Operand.tmp 56) (Operand.const (Value.bool true)) (Operand.tmp 58), type := 4, pos := _, after := _, guard := none }) (v := _) rfl (by kernel_rfl) (by kernel_rfl) (by kernel_rfl) (fun _ _ _ h => h) (by rfl) (by intro w' hSw; go_simp; try with_reducible rfl) ?_
  simp only [Act.put, List.setIfInBounds_toArray, List.set_cons_zero, List.set_cons_succ]
  refine going_take (i := 10) (oi := { dst := some 60, op := Op.move (Operand.tmp 59), type := 4, pos := _, after := _, guard := none }) (v := _) rfl (by kernel_rfl) (by kernel_rfl) (by kernel_rfl) (fun _ _ _ h => h) (by rfl) (by intro w' hSw; go_simp; try with_reducible rfl) ?_
  simp only [Act.put, List.setIfInBounds_toArray, List.set_cons_zero, List.set_cons_succ]
  refine going_skip (i := 11) (oi := { dst := some 61, op := Op.move (Operand.tmp 11), type := 3, pos := _, after := _, guard := some (10, false) }) rfl (by kernel_rfl) (by kernel_rfl) (by kernel_rfl) (fun _ _ _ h => h) (by rfl) ?_
  simp only [Act.put, List.setIfInBounds_toArray, List.set_cons_zero, List.set_cons_succ]
  refine going_skip (i := 12) (oi := { dst := some 62, op := Op.binOp BinOp.eql 3 (Operand.tmp 61) (Operand.const (Value.int IntKind.i64 0)) 3, type := 4, pos := _, after := _, guard := some (10, false) }) rfl (by kernel_rfl) (by kernel_rfl) (by kernel_rfl) (fun _ _ _ h => h) (by rfl) ?_
  simp only [Act.put, List.setIfInBounds_toArray, List.set_cons_zero, List.set_cons_succ]
  refine going_take (i := 13) (oi := { dst := some 63, op := Op.pick (Operand.tmp 60) (Operand.const (Value.bool true)) (Operand.tmp 62), type := 4, pos := _, after := _, guard := none }) (v := _) rfl (by kernel_rfl) (by kernel_rfl) (by kernel_rfl) (fun _ _ _ h => h) (by rfl) (by intro w' hSw; go_simp; try with_reducible rfl) ?_
  simp only [Act.put, List.setIfInBounds_toArray, List.set_cons_zero, List.set_cons_succ]
  refine going_take (i := 14) (oi := { dst := some 64, op := Op.move (Operand.tmp 63), type := 4, pos := _, after := _, guard := none }) (v := _) rfl (by kernel_rfl) (by kernel_rfl) (by kernel_rfl) (fun _ _ _ h => h) (by rfl) (by intro w' hSw; go_simp; try with_reducible rfl) ?_
  simp only [Act.put, List.setIfInBounds_toArray, List.set_cons_zero, List.set_cons_succ]
  refine going_skip (i := 15) (oi := { dst := some 65, op := Op.load 42 (Operand.tmp 12), type := 42, pos := _, after := _, guard := some (14, false) }) rfl (by kernel_rfl) (by kernel_rfl) (by kernel_rfl) (fun _ _ _ h => h) (by rfl) ?_
  simp only [Act.put, List.setIfInBounds_toArray, List.set_cons_zero, List.set_cons_succ]
  refine going_skip (i := 16) (oi := { dst := some 66, op := Op.call { callee := Callee.value (Operand.func 23), args := #[Operand.tmp 65], argTypes := #[42] }, type := 4, pos := _, after := _, guard := some (14, false) }) rfl (by kernel_rfl) (by kernel_rfl) (by kernel_rfl) (fun _ _ _ h => h) (by rfl) ?_
  simp only [Act.put, List.setIfInBounds_toArray, List.set_cons_zero, List.set_cons_succ]
  refine going_skip (i := 17) (oi := { dst := some 67, op := Op.unOp UnOp.not 4 (Operand.tmp 66), type := 4, pos := _, after := _, guard := some (14, false) }) rfl (by kernel_rfl) (by kernel_rfl) (by kernel_rfl) (fun _ _ _ h => h) (by rfl) ?_
  simp only [Act.put, List.setIfInBounds_toArray, List.set_cons_zero, List.set_cons_succ]
  refine going_take (i := 18) (oi := { dst := some 68, op := Op.pick (Operand.tmp 64) (Operand.const (Value.bool true)) (Operand.tmp 67), type := 4, pos := _, after := _, guard := none }) (v := _) rfl (by kernel_rfl) (by kernel_rfl) (by kernel_rfl) (fun _ _ _ h => h) (by rfl) (by intro w' hSw; go_simp; try with_reducible rfl) ?_
  simp only [Act.put, List.setIfInBounds_toArray, List.set_cons_zero, List.set_cons_succ]
  refine going_take (i := 19) (oi := { dst := some 69, op := Op.move (Operand.tmp 68), type := 4, pos := _, after := _, guard := none }) (v := _) rfl (by kernel_rfl) (by kernel_rfl) (by kernel_rfl) (fun _ _ _ h => h) (by rfl) (by intro w' hSw; go_simp; try with_reducible rfl) ?_
  simp only [Act.put, List.setIfInBounds_toArray, List.set_cons_zero, List.set_cons_succ]
  refine going_skip (i := 20) (oi := { dst := some 70, op := Op.load 42 (Operand.tmp 12), type := 42, pos := _, after := _, guard := some (19, false) }) rfl (by kernel_rfl) (by kernel_rfl) (by kernel_rfl) (fun _ _ _ h => h) (by rfl) ?_
  simp only [Act.put, List.setIfInBounds_toArray, List.set_cons_zero, List.set_cons_succ]
  refine going_skip (i := 23) (oi := { dst := some 73, op := Op.move (Operand.tmp 0), type := 28, pos := _, after := _, guard := some (19, false) }) rfl (by kernel_rfl) (by kernel_rfl) (by kernel_rfl) (fun _ _ _ h => h) (by rfl) ?_
  simp only [Act.put, List.setIfInBounds_toArray, List.set_cons_zero, List.set_cons_succ]
  refine going_skip (i := 24) (oi := { dst := some 74, op := Op.convert 28 9 (Operand.tmp 73), type := 9, pos := _, after := _, guard := some (19, false) }) rfl (by kernel_rfl) (by kernel_rfl) (by kernel_rfl) (fun _ _ _ h => h) (by rfl) ?_
  simp only [Act.put, List.setIfInBounds_toArray, List.set_cons_zero, List.set_cons_succ]
  refine going_skip (i := 21) (oi := { dst := some 71, op := Op.call { callee := Callee.value (Operand.func 67), args := #[Operand.tmp 70], argTypes := #[42] }, type := 28, pos := _, after := _, guard := some (19, false) }) rfl (by kernel_rfl) (by kernel_rfl) (by kernel_rfl) (fun _ _ _ h => h) (by rfl) ?_
  simp only [Act.put, List.setIfInBounds_toArray, List.set_cons_zero, List.set_cons_succ]
  refine going_skip (i := 22) (oi := { dst := some 72, op := Op.convert 28 9 (Operand.tmp 71), type := 9, pos := _, after := _, guard := some (19, false) }) rfl (by kernel_rfl) (by kernel_rfl) (by kernel_rfl) (fun _ _ _ h => h) (by rfl) ?_
  simp only [Act.put, List.setIfInBounds_toArray, List.set_cons_zero, List.set_cons_succ]
  refine going_skip (i := 25) (oi := { dst := some 75, op := Op.binOp BinOp.neq 9 (Operand.tmp 72) (Operand.tmp 74) 9, type := 4, pos := _, after := _, guard := some (19, false) }) rfl (by kernel_rfl) (by kernel_rfl) (by kernel_rfl) (fun _ _ _ h => h) (by rfl) ?_
  simp only [Act.put, List.setIfInBounds_toArray, List.set_cons_zero, List.set_cons_succ]
  refine going_take (i := 26) (oi := { dst := some 76, op := Op.pick (Operand.tmp 69) (Operand.const (Value.bool true)) (Operand.tmp 75), type := 4, pos := _, after := _, guard := none }) (v := _) rfl (by kernel_rfl) (by kernel_rfl) (by kernel_rfl) (fun _ _ _ h => h) (by rfl) (by intro w' hSw; go_simp; try with_reducible rfl) ?_
  simp only [Act.put, List.setIfInBounds_toArray, List.set_cons_zero, List.set_cons_succ]
  refine going_done (by kernel_rfl) ?_
  obtain ⟨c0, c1, c2, c3⟩ := pk_cells HB.out.2.2
  obtain ⟨f0, f1, f2, f3⟩ := pk_free HB.out.2.2
  obtain ⟨d0, d1, d2, d3⟩ := pk_cells HB.out.2.1
  go_wp2
  exact bodyPost_ret (results_ct rfl _ _ w.heap.size 42 _ (0, 0) _ rfl (pk_set HB.out.2.2) Try.underlying42 rfl (by kernel_rfl)) rfl ⟨by rw [HV.out]; rfl, (((HB.out.1.setCell (Nat.le_refl _) _).setCell (Nat.le_refl _) _).setCell (Nat.le_refl _) _).setCell (Nat.le_refl _) _⟩

set_option maxHeartbeats 400000 in
theorem parse_v3 (a : Option Addr) (l : List Nat) (n cap : Nat) (w : World) (e i s j c k q : Nat) (sd : ByteArray) (R : (Int × Int × Int × ByteArray) × Bool) (hi : i ≠ 0) (hj : j ≠ 0) (hk : k = 0) (H : ParseH a l n cap w e i s j c k q sd)
    (hR : R = ((0, 0, 0, ⟨#[]⟩), false)) :
    Calls Try.prog 79 #[.slice a n cap] w fun e W' => e = .returned (.tuple #[.agg #[.int .i64 R.1.1, .int .i64 R.1.2.1, .int .i64 R.1.2.2.1, .string R.1.2.2.2], .bool R.2]) ∧ Below w.heap.size w W' := by
  have HV := hide hR
  have H1 := hide H.c1
  have H2 := hide H.c2
  have H3 := hide H.c3
  have H4 := hide H.c4
  have s1 := H.s1
  have s2 := H.s2
  have s3 := H.s3
  have HL := hide H.says
  have hbi := H.bi
  have hbj := H.bj
  have hbk := H.bk
  have hbn := H.bn
  have HB0 := hide (z42_new w)
  have q1 : ((i : Int) == 0) = false := by simp; omega
  have q2 : ((j : Int) == 0) = false := by simp; omega
  have q3 : ((k : Int) == 0) = true := by simp; omega
  clear hR H hi hj hk
  generalize V.from_ a cap i = fa1 at *
  generalize V.from_ a cap (i + j) = fa2 at *
  generalize V.from_ a cap (i + j + k) = fa3 at *
  generalize n - i = n1 at *
  generalize n - (i + j) = n2 at *
  generalize n - (i + j + k) = n3 at *
  generalize cap - i = m1 at *
  generalize cap - (i + j) = m2 at *
  generalize cap - (i + j + k) = m3 at *
  go_enter Try.func79, Try.ntmps79
  go_wp2_with (first
    | (go_at_call 77; refine (H1.out _ HB0.out.1).mono ?_; rintro e W1 ⟨rfl, hw⟩; subst hw; clear H1)
    | (go_at_call 77; refine (H2.out _ HB0.out.1).mono ?_; rintro e W1 ⟨rfl, hw⟩; subst hw; clear H2)
    | (go_at_call 77; refine (H3.out _ HB0.out.1).mono ?_; rintro e W1 ⟨rfl, hw⟩; subst hw; clear H3)
    | (go_at_call 95; refine (H4.out _ HB0.out.1).mono ?_; rintro e W1 ⟨rfl, hw⟩; subst hw; clear H4))
  have HB := hide (pb_new w e s c sd)
  refine going_start (by kernel_rfl) ?_
  replace HB := hide (pb_drew HB.out)
  generalize hwq : World.drew _ = wd at HB ⊢
  clear hwq
  refine going_take (i := 0) (oi := { dst := some 50, op := Op.move (Operand.tmp 5), type := 3, pos := _, after := _, guard := none }) (v := _) rfl (by kernel_rfl) (by kernel_rfl) (by kernel_rfl) (fun _ _ _ h => h) (by rfl) (by intro w' hSw; go_simp; try with_reducible rfl) ?_
  simp only [Act.put, List.setIfInBounds_toArray, List.set_cons_zero, List.set_cons_succ]
  refine going_take (i := 1) (oi := { dst := some 51, op := Op.binOp BinOp.eql 3 (Operand.tmp 50) (Operand.const (Value.int IntKind.i64 0)) 3, type := 4, pos := _, after := _, guard := none }) (v := _) rfl (by kernel_rfl) (by kernel_rfl) (by kernel_rfl) (fun _ _ _ h => h) (by rfl) (by intro w' hSw; go_simp; try with_reducible rfl) ?_
  simp only [Act.put, List.setIfInBounds_toArray, List.set_cons_zero, List.set_cons_succ]
  refine going_take (i := 2) (oi := { dst := some 52, op := Op.move (Operand.tmp 51), type := 4, pos := _, after := _, guard := none }) (v := _) rfl (by kernel_rfl) (by kernel_rfl) (by kernel_rfl) (fun _ _ _ h => h) (by rfl) (by intro w' hSw; go_simp; try with_reducible rfl) ?_
  simp only [Act.put, List.setIfInBounds_toArray, List.set_cons_zero, List.set_cons_succ]
  refine going_take (i := 3) (oi := { dst := some 53, op := Op.move (Operand.tmp 7), type := 3, pos := _, after := _, guard := some (2, false) }) (v := _) rfl (by kernel_rfl) (by kernel_rfl) (by kernel_rfl) (fun _ _ _ h => h) (by rfl) (by intro w' hSw; go_simp; try with_reducible rfl) ?_
  simp only [Act.put, List.setIfInBounds_toArray, List.set_cons_zero, List.set_cons_succ]
  refine going_take (i := 4) (oi := { dst := some 54, op := Op.binOp BinOp.eql 3 (Operand.tmp 53) (Operand.const (Value.int IntKind.i64 0)) 3, type := 4, pos := _, after := _, guard := some (2, false) }) (v := _) rfl (by kernel_rfl) (by kernel_rfl) (by kernel_rfl) (fun _ _ _ h => h) (by rfl) (by intro w' hSw; go_simp; try with_reducible rfl) ?_
  simp only [Act.put, List.setIfInBounds_toArray, List.set_cons_zero, List.set_cons_succ]
  refine going_take (i := 5) (oi := { dst := some 55, op := Op.pick (Operand.tmp 52) (Operand.const (Value.bool true)) (Operand.tmp 54), type := 4, pos := _, after := _, guard := none }) (v := _) rfl (by kernel_rfl) (by kernel_rfl) (by kernel_rfl) (fun _ _ _ h => h) (by rfl) (by intro w' hSw; go_simp; try with_reducible rfl) ?_
  simp only [Act.put, List.setIfInBounds_toArray, List.set_cons_zero, List.set_cons_succ]
  refine going_take (i := 6) (oi := { dst := some 56, op := Op.move (Operand.tmp 55), type := 4, pos := _, after := _, guard := none }) (v := _) rfl (by kernel_rfl) (by kernel_rfl) (by kernel_rfl) (fun _ _ _ h => h) (by rfl) (by intro w' hSw; go_simp; try with_reducible rfl) ?_
  simp only [Act.put, List.setIfInBounds_toArray, List.set_cons_zero, List.set_cons_succ]
  refine going_take (i := 7) (oi := { dst := some 57, op := Op.move (Operand.tmp 9), type := 3, pos := _, after := _, guard := some (6, false) }) (v := _) rfl (by kernel_rfl) (by kernel_rfl) (by kernel_rfl) (fun _ _ _ h => h) (by rfl) (by intro w' hSw; go_simp; try with_reducible rfl) ?_
  simp only [Act.put, List.setIfInBounds_toArray, List.set_cons_zero, List.set_cons_succ]
  refine going_take (i := 8) (oi := { dst := some 58, op := Op.binOp BinOp.eql 3 (Operand.tmp 57) (Operand.const (Value.int IntKind.i64 0)) 3, type := 4, pos := _, after := _, guard := some (6, false) }) (v := _) rfl (by kernel_rfl) (by kernel_rfl) (by kernel_rfl) (fun _ _ _ h => h) (by rfl) (by intro w' hSw; go_simp; try with_reducible rfl) ?_
  simp only [Act.put, List.setIfInBounds_toArray, List.set_cons_zero, List.set_cons_succ]
  refine going_take (i := 9) (oi := { dst := some 59, op := Op.pick (Operand.tmp 56) (Operand.const (Value.bool true)) (Operand.tmp 58), type := 4, pos := _, after := _, guard := none }) (v := _) rfl (by kernel_rfl) (by kernel_rfl) (by kernel_rfl) (fun _ _ _ h => h) (by rfl) (by intro w' hSw; go_simp; try with_reducible rfl) ?_
  simp only [Act.put, List.setIfInBounds_toArray, List.set_cons_zero, List.set_cons_succ]
  refine going_take (i := 10) (oi := { dst := some 60, op := Op.move (Operand.tmp 59), type := 4, pos := _, after := _, guard := none }) (v := _) rfl (by kernel_rfl) (by kernel_rfl) (by kernel_rfl) (fun _ _ _ h => h) (by rfl) (by intro w' hSw; go_simp; try with_reducible rfl) ?_
  simp only [Act.put, List.setIfInBounds_toArray, List.set_cons_zero, List.set_cons_succ]
  refine going_skip (i := 11) (oi := { dst := some 61, op := Op.move (Operand.tmp 11), type := 3, pos := _, after := _, guard := some (10, false) }) rfl (by kernel_rfl) (by kernel_rfl) (by kernel_rfl) (fun _ _ _ h => h) (by rfl) ?_
  simp only [Act.put, List.setIfInBounds_toArray, List.set_cons_zero, List.set_cons_succ]
  refine going_skip (i := 12) (oi := { dst := some 62, op := Op.binOp BinOp.eql 3 (Operand.tmp 61) (Operand.const (Value.int IntKind.i64 0)) 3, type := 4, pos := _, after := _, guard := some (10, false) }) rfl (by kernel_rfl) (by kernel_rfl) (by kernel_rfl) (fun _ _ _ h => h) (by rfl) ?_
  simp only [Act.put, List.setIfInBounds_toArray, List.set_cons_zero, List.set_cons_succ]
  refine going_take (i := 13) (oi := { dst := some 63, op := Op.pick (Operand.tmp 60) (Operand.const (Value.bool true)) (Operand.tmp 62), type := 4, pos := _, after := _, guard := none }) (v := _) rfl (by kernel_rfl) (by kernel_rfl) (by kernel_rfl) (fun _ _ _ h => h) (by rfl) (by intro w' hSw; go_simp; try with_reducible rfl) ?_
  simp only [Act.put, List.setIfInBounds_toArray, List.set_cons_zero, List.set_cons_succ]
  refine going_take (i := 14) (oi := { dst := some 64, op := Op.move (Operand.tmp 63), type := 4, pos := _, after := _, guard := none }) (v := _) rfl (by kernel_rfl) (by kernel_rfl) (by kernel_rfl) (fun _ _ _ h => h) (by rfl) (by intro w' hSw; go_simp; try with_reducible rfl) ?_
  simp only [Act.put, List.setIfInBounds_toArray, List.set_cons_zero, List.set_cons_succ]
  refine going_skip (i := 15) (oi := { dst := some 65, op := Op.load 42 (Operand.tmp 12), type := 42, pos := _, after := _, guard := some (14, false) }) rfl (by kernel_rfl) (by kernel_rfl) (by kernel_rfl) (fun _ _ _ h => h) (by rfl) ?_
  simp only [Act.put, List.setIfInBounds_toArray, List.set_cons_zero, List.set_cons_succ]
  refine going_skip (i := 16) (oi := { dst := some 66, op := Op.call { callee := Callee.value (Operand.func 23), args := #[Operand.tmp 65], argTypes := #[42] }, type := 4, pos := _, after := _, guard := some (14, false) }) rfl (by kernel_rfl) (by kernel_rfl) (by kernel_rfl) (fun _ _ _ h => h) (by rfl) ?_
  simp only [Act.put, List.setIfInBounds_toArray, List.set_cons_zero, List.set_cons_succ]
  refine going_skip (i := 17) (oi := { dst := some 67, op := Op.unOp UnOp.not 4 (Operand.tmp 66), type := 4, pos := _, after := _, guard := some (14, false) }) rfl (by kernel_rfl) (by kernel_rfl) (by kernel_rfl) (fun _ _ _ h => h) (by rfl) ?_
  simp only [Act.put, List.setIfInBounds_toArray, List.set_cons_zero, List.set_cons_succ]
  refine going_take (i := 18) (oi := { dst := some 68, op := Op.pick (Operand.tmp 64) (Operand.const (Value.bool true)) (Operand.tmp 67), type := 4, pos := _, after := _, guard := none }) (v := _) rfl (by kernel_rfl) (by kernel_rfl) (by kernel_rfl) (fun _ _ _ h => h) (by rfl) (by intro w' hSw; go_simp; try with_reducible rfl) ?_
  simp only [Act.put, List.setIfInBounds_toArray, List.set_cons_zero, List.set_cons_succ]
  refine going_take (i := 19) (oi := { dst := some 69, op := Op.move (Operand.tmp 68), type := 4, pos := _, after := _, guard := none }) (v := _) rfl (by kernel_rfl) (by kernel_rfl) (by kernel_rfl) (fun _ _ _ h => h) (by rfl) (by intro w' hSw; go_simp; try with_reducible rfl) ?_
  simp only [Act.put, List.setIfInBounds_toArray, List.set_cons_zero, List.set_cons_succ]
  refine going_skip (i := 20) (oi := { dst := some 70, op := Op.load 42 (Operand.tmp 12), type := 42, pos := _, after := _, guard := some (19, false) }) rfl (by kernel_rfl) (by kernel_rfl) (by kernel_rfl) (fun _ _ _ h => h) (by rfl) ?_
  simp only [Act.put, List.setIfInBounds_toArray, List.set_cons_zero, List.set_cons_succ]
  refine going_skip (i := 23) (oi := { dst := some 73, op := Op.move (Operand.tmp 0), type := 28, pos := _, after := _, guard := some (19, false) }) rfl (by kernel_rfl) (by kernel_rfl) (by kernel_rfl) (fun _ _ _ h => h) (by rfl) ?_
  simp only [Act.put, List.setIfInBounds_toArray, List.set_cons_zero, List.set_cons_succ]
  refine going_skip (i := 24) (oi := { dst := some 74, op := Op.convert 28 9 (Operand.tmp 73), type := 9, pos := _, after := _, guard := some (19, false) }) rfl (by kernel_rfl) (by kernel_rfl) (by kernel_rfl) (fun _ _ _ h => h) (by rfl) ?_
  simp only [Act.put, List.setIfInBounds_toArray, List.set_cons_zero, List.set_cons_succ]
  refine going_skip (i := 21) (oi := { dst := some 71, op := Op.call { callee := Callee.value (Operand.func 67), args := #[Operand.tmp 70], argTypes := #[42] }, type := 28, pos := _, after := _, guard := some (19, false) }) rfl (by kernel_rfl) (by kernel_rfl) (by kernel_rfl) (fun _ _ _ h => h) (by rfl) ?_
  simp only [Act.put, List.setIfInBounds_toArray, List.set_cons_zero, List.set_cons_succ]
  refine going_skip (i := 22) (oi := { dst := some 72, op := Op.convert 28 9 (Operand.tmp 71), type := 9, pos := _, after := _, guard := some (19, false) }) rfl (by kernel_rfl) (by kernel_rfl) (by kernel_rfl) (fun _ _ _ h => h) (by rfl) ?_
  simp only [Act.put, List.setIfInBounds_toArray, List.set_cons_zero, List.set_cons_succ]
  refine going_skip (i := 25) (oi := { dst := some 75, op := Op.binOp BinOp.neq 9 (Operand.tmp 72) (Operand.tmp 74) 9, type := 4, pos := _, after := _, guard := some (19, false) }) rfl (by kernel_rfl) (by kernel_rfl) (by kernel_rfl) (fun _ _ _ h => h) (by rfl) ?_
  simp only [Act.put, List.setIfInBounds_toArray, List.set_cons_zero, List.set_cons_succ]
  refine going_take (i := 26) (oi := { dst := some 76, op := Op.pick (Operand.tmp 69) (Operand.const (Value.bool true)) (Operand.tmp 75), type := 4, pos := _, after := _, guard := none }) (v := _) rfl (by kernel_rfl) (by kernel_rfl) (by kernel_rfl) (fun _ _ _ h => h) (by rfl) (by intro w' hSw; go_simp; try with_reducible rfl) ?_
  simp only [Act.put, List.setIfInBounds_toArray, List.set_cons_zero, List.set_cons_succ]
  refine going_done (by kernel_rfl) ?_
  obtain ⟨c0, c1, c2, c3⟩ := pk_cells HB.out.2.2
  obtain ⟨f0, f1, f2, f3⟩ := pk_free HB.out.2.2
  obtain ⟨d0, d1, d2, d3⟩ := pk_cells HB.out.2.1
  go_wp2
  exact bodyPost_ret (results_ct rfl _ _ w.heap.size 42 _ (0, 0) _ rfl (pk_set HB.out.2.2) Try.underlying42 rfl (by kernel_rfl)) rfl ⟨by rw [HV.out]; rfl, (((HB.out.1.setCell (Nat.le_refl _) _).setCell (Nat.le_refl _) _).setCell (Nat.le_refl _) _).setCell (Nat.le_refl _) _⟩

set_option maxHeartbeats 400000 in
theorem parse_v4 (a : Option Addr) (l : List Nat) (n cap : Nat) (w : World) (e i s j c k q : Nat) (sd : ByteArray) (R : (Int × Int × Int × ByteArray) × Bool) (hi : i ≠ 0) (hj : j ≠ 0) (hk : k ≠ 0) (hq : q = 0) (H : ParseH a l n cap w e i s j c k q sd)
    (hR : R = ((0, 0, 0, ⟨#[]⟩), false)) :
    Calls Try.prog 79 #[.slice a n cap] w fun e W' => e = .returned (.tuple #[.agg #[.int .i64 R.1.1, .int .i64 R.1.2.1, .int .i64 R.1.2.2.1, .string R.1.2.2.2], .bool R.2]) ∧ Below w.heap.size w W' := by
  have HV := hide hR
  have H1 := hide H.c1
  have H2 := hide H.c2
  have H3 := hide H.c3
  have H4 := hide H.c4
  have s1 := H.s1
  have s2 := H.s2
  have s3 := H.s3
  have HL := hide H.says
  have hbi := H.bi
  have hbj := H.bj
  have hbk := H.bk
  have hbn := H.bn
  have HB0 := hide (z42_new w)
  have q1 : ((i : Int) == 0) = false := by simp; omega
  have q2 : ((j : Int) == 0) = false := by simp; omega
  have q3 : ((k : Int) == 0) = false := by simp; omega
  have q4 : ((q : Int) == 0) = true := by simp; omega
  clear hR H hi hj hk hq
  generalize V.from_ a cap i = fa1 at *
  generalize V.from_ a cap (i + j) = fa2 at *
  generalize V.from_ a cap (i + j + k) = fa3 at *
  generalize n - i = n1 at *
  generalize n - (i + j) = n2 at *
  generalize n - (i + j + k) = n3 at *
  generalize cap - i = m1 at *
  generalize cap - (i + j) = m2 at *
  generalize cap - (i + j + k) = m3 at *
  go_enter Try.func79, Try.ntmps79
  go_wp2_with (first
    | (go_at_call 77; refine (H1.out _ HB0.out.1).mono ?_; rintro e W1 ⟨rfl, hw⟩; subst hw; clear H1)
    | (go_at_call 77; refine (H2.out _ HB0.out.1).mono ?_; rintro e W1 ⟨rfl, hw⟩; subst hw; clear H2)
    | (go_at_call 77; refine (H3.out _ HB0.out.1).mono ?_; rintro e W1 ⟨rfl, hw⟩; subst hw; clear H3)
    | (go_at_call 95; refine (H4.out _ HB0.out.1).mono ?_; rintro e W1 ⟨rfl, hw⟩; subst hw; clear H4))
  have HB := hide (pb_new w e s c sd)
  refine going_start (by kernel_rfl) ?_
  replace HB := hide (pb_drew HB.out)
  generalize hwq : World.drew _ = wd at HB ⊢
  clear hwq
  refine going_take (i := 0) (oi := { dst := some 50, op := Op.move (Operand.tmp 5), type := 3, pos := _, after := _, guard := none }) (v := _) rfl (by kernel_rfl) (by kernel_rfl) (by kernel_rfl) (fun _ _ _ h => h) (by rfl) (by intro w' hSw; go_simp; try with_reducible rfl) ?_
  simp only [Act.put, List.setIfInBounds_toArray, List.set_cons_zero, List.set_cons_succ]
  refine going_take (i := 1) (oi := { dst := some 51, op := Op.binOp BinOp.eql 3 (Operand.tmp 50) (Operand.const (Value.int IntKind.i64 0)) 3, type := 4, pos := _, after := _, guard := none }) (v := _) rfl (by kernel_rfl) (by kernel_rfl) (by kernel_rfl) (fun _ _ _ h => h) (by rfl) (by intro w' hSw; go_simp; try with_reducible rfl) ?_
  simp only [Act.put, List.setIfInBounds_toArray, List.set_cons_zero, List.set_cons_succ]
  refine going_take (i := 2) (oi := { dst := some 52, op := Op.move (Operand.tmp 51), type := 4, pos := _, after := _, guard := none }) (v := _) rfl (by kernel_rfl) (by kernel_rfl) (by kernel_rfl) (fun _ _ _ h => h) (by rfl) (by intro w' hSw; go_simp; try with_reducible rfl) ?_
  simp only [Act.put, List.setIfInBounds_toArray, List.set_cons_zero, List.set_cons_succ]
  refine going_take (i := 3) (oi := { dst := some 53, op := Op.move (Operand.tmp 7), type := 3, pos := _, after := _, guard := some (2, false) }) (v := _) rfl (by kernel_rfl) (by kernel_rfl) (by kernel_rfl) (fun _ _ _ h => h) (by rfl) (by intro w' hSw; go_simp; try with_reducible rfl) ?_
  simp only [Act.put, List.setIfInBounds_toArray, List.set_cons_zero, List.set_cons_succ]
  refine going_take (i := 4) (oi := { dst := some 54, op := Op.binOp BinOp.eql 3 (Operand.tmp 53) (Operand.const (Value.int IntKind.i64 0)) 3, type := 4, pos := _, after := _, guard := some (2, false) }) (v := _) rfl (by kernel_rfl) (by kernel_rfl) (by kernel_rfl) (fun _ _ _ h => h) (by rfl) (by intro w' hSw; go_simp; try with_reducible rfl) ?_
  simp only [Act.put, List.setIfInBounds_toArray, List.set_cons_zero, List.set_cons_succ]
  refine going_take (i := 5) (oi := { dst := some 55, op := Op.pick (Operand.tmp 52) (Operand.const (Value.bool true)) (Operand.tmp 54), type := 4, pos := _, after := _, guard := none }) (v := _) rfl (by kernel_rfl) (by kernel_rfl) (by kernel_rfl) (fun _ _ _ h => h) (by rfl) (by intro w' hSw; go_simp; try with_reducible rfl) ?_
  simp only [Act.put, List.setIfInBounds_toArray, List.set_cons_zero, List.set_cons_succ]
  refine going_take (i := 6) (oi := { dst := some 56, op := Op.move (Operand.tmp 55), type := 4, pos := _, after := _, guard := none }) (v := _) rfl (by kernel_rfl) (by kernel_rfl) (by kernel_rfl) (fun _ _ _ h => h) (by rfl) (by intro w' hSw; go_simp; try with_reducible rfl) ?_
  simp only [Act.put, List.setIfInBounds_toArray, List.set_cons_zero, List.set_cons_succ]
  refine going_take (i := 7) (oi := { dst := some 57, op := Op.move (Operand.tmp 9), type := 3, pos := _, after := _, guard := some (6, false) }) (v := _) rfl (by kernel_rfl) (by kernel_rfl) (by kernel_rfl) (fun _ _ _ h => h) (by rfl) (by intro w' hSw; go_simp; try with_reducible rfl) ?_
  simp only [Act.put, List.setIfInBounds_toArray, List.set_cons_zero, List.set_cons_succ]
  refine going_take (i := 8) (oi := { dst := some 58, op := Op.binOp BinOp.eql 3 (Operand.tmp 57) (Operand.const (Value.int IntKind.i64 0)) 3, type := 4, pos := _, after := _, guard := some (6, false) }) (v := _) rfl (by kernel_rfl) (by kernel_rfl) (by kernel_rfl) (fun _ _ _ h => h) (by rfl) (by intro w' hSw; go_simp; try with_reducible rfl) ?_
  simp only [Act.put, List.setIfInBounds_toArray, List.set_cons_zero, List.set_cons_succ]
  refine going_take (i := 9) (oi := { dst := some 59, op := Op.pick (Operand.tmp 56) (Operand.const (Value.bool true)) (Operand.tmp 58), type := 4, pos := _, after := _, guard := none }) (v := _) rfl (by kernel_rfl) (by kernel_rfl) (by kernel_rfl) (fun _ _ _ h => h) (by rfl) (by intro w' hSw; go_simp; try with_reducible rfl) ?_
  simp only [Act.put, List.setIfInBounds_toArray, List.set_cons_zero, List.set_cons_succ]
  refine going_take (i := 10) (oi := { dst := some 60, op := Op.move (Operand.tmp 59), type := 4, pos := _, after := _, guard := none }) (v := _) rfl (by kernel_rfl) (by kernel_rfl) (by kernel_rfl) (fun _ _ _ h => h) (by rfl) (by intro w' hSw; go_simp; try with_reducible rfl) ?_
  simp only [Act.put, List.setIfInBounds_toArray, List.set_cons_zero, List.set_cons_succ]
  refine going_take (i := 11) (oi := { dst := some 61, op := Op.move (Operand.tmp 11), type := 3, pos := _, after := _, guard := some (10, false) }) (v := _) rfl (by kernel_rfl) (by kernel_rfl) (by kernel_rfl) (fun _ _ _ h => h) (by rfl) (by intro w' hSw; go_simp; try with_reducible rfl) ?_
  simp only [Act.put, List.setIfInBounds_toArray, List.set_cons_zero, List.set_cons_succ]
  refine going_take (i := 12) (oi := { dst := some 62, op := Op.binOp BinOp.eql 3 (Operand.tmp 61) (Operand.const (Value.int IntKind.i64 0)) 3, type := 4, pos := _, after := _, guard := some (10, false) }) (v := _) rfl (by kernel_rfl) (by kernel_rfl) (by kernel_rfl) (fun _ _ _ h => h) (by rfl) (by intro w' hSw; go_simp; try with_reducible rfl) ?_
  simp only [Act.put, List.setIfInBounds_toArray, List.set_cons_zero, List.set_cons_succ]
  refine going_take (i := 13) (oi := { dst := some 63, op := Op.pick (Operand.tmp 60) (Operand.const (Value.bool true)) (Operand.tmp 62), type := 4, pos := _, after := _, guard := none }) (v := _) rfl (by kernel_rfl) (by kernel_rfl) (by kernel_rfl) (fun _ _ _ h => h) (by rfl) (by intro w' hSw; go_simp; try with_reducible rfl) ?_
  simp only [Act.put, List.setIfInBounds_toArray, List.set_cons_zero, List.set_cons_succ]
  refine going_take (i := 14) (oi := { dst := some 64, op := Op.move (Operand.tmp 63), type := 4, pos := _, after := _, guard := none }) (v := _) rfl (by kernel_rfl) (by kernel_rfl) (by kernel_rfl) (fun _ _ _ h => h) (by rfl) (by intro w' hSw; go_simp; try with_reducible rfl) ?_
  simp only [Act.put, List.setIfInBounds_toArray, List.set_cons_zero, List.set_cons_succ]
  refine going_skip (i := 15) (oi := { dst := some 65, op := Op.load 42 (Operand.tmp 12), type := 42, pos := _, after := _, guard := some (14, false) }) rfl (by kernel_rfl) (by kernel_rfl) (by kernel_rfl) (fun _ _ _ h => h) (by rfl) ?_
  simp only [Act.put, List.setIfInBounds_toArray, List.set_cons_zero, List.set_cons_succ]
  refine going_skip (i := 16) (oi := { dst := some 66, op := Op.call { callee := Callee.value (Operand.func 23), args := #[Operand.tmp 65], argTypes := #[42] }, type := 4, pos := _, after := _, guard := some (14, false) }) rfl (by kernel_rfl) (by kernel_rfl) (by kernel_rfl) (fun _ _ _ h => h) (by rfl) ?_
  simp only [Act.put, List.setIfInBounds_toArray, List.set_cons_zero, List.set_cons_succ]
  refine going_skip (i := 17) (oi := { dst := some 67, op := Op.unOp UnOp.not 4 (Operand.tmp 66), type := 4, pos := _, after := _, guard := some (14, false) }) rfl (by kernel_rfl) (by kernel_rfl) (by kernel_rfl) (fun _ _ _ h => h) (by rfl) ?_
  simp only [Act.put, List.setIfInBounds_toArray, List.set_cons_zero, List.set_cons_succ]
  refine going_take (i := 18) (oi := { dst := some 68, op := Op.pick (Operand.tmp 64) (Operand.const (Value.bool true)) (Operand.tmp 67), type := 4, pos := _, after := _, guard := none }) (v := _) rfl (by kernel_rfl) (by kernel_rfl) (by kernel_rfl) (fun _ _ _ h => h) (by rfl) (by intro w' hSw; go_simp; try with_reducible rfl) ?_
  simp only [Act.put, List.setIfInBounds_toArray, List.set_cons_zero, List.set_cons_succ]
  refine going_take (i := 19) (oi := { dst := some 69, op := Op.move (Operand.tmp 68), type := 4, pos := _, after := _, guard := none }) (v := _) rfl (by kernel_rfl) (by kernel_rfl) (by kernel_rfl) (fun _ _ _ h => h) (by rfl) (by intro w' hSw; go_simp; try with_reducible rfl) ?_
  simp only [Act.put, List.setIfInBounds_toArray, List.set_cons_zero, List.set_cons_succ]
  refine going_skip (i := 20) (oi := { dst := some 70, op := Op.load 42 (Operand.tmp 12), type := 42, pos := _, after := _, guard := some (19, false) }) rfl (by kernel_rfl) (by kernel_rfl) (by kernel_rfl) (fun _ _ _ h => h) (by rfl) ?_
  simp only [Act.put, List.setIfInBounds_toArray, List.set_cons_zero, List.set_cons_succ]
  refine going_skip (i := 23) (oi := { dst := some 73, op := Op.move (Operand.tmp 0), type := 28, pos := _, after := _, guard := some (19, false) }) rfl (by kernel_rfl) (by kernel_rfl) (by kernel_rfl) (fun _ _ _ h => h) (by rfl) ?_
  simp only [Act.put, List.setIfInBounds_toArray, List.set_cons_zero, List.set_cons_succ]
  refine going_skip (i := 24) (oi := { dst := some 74, op := Op.convert 28 9 (Operand.tmp 73), type := 9, pos := _, after := _, guard := some (19, false) }) rfl (by kernel_rfl) (by kernel_rfl) (by kernel_rfl) (fun _ _ _ h => h) (by rfl) ?_
  simp only [Act.put, List.setIfInBounds_toArray, List.set_cons_zero, List.set_cons_succ]
  refine going_skip (i := 21) (oi := { dst := some 71, op := Op.call { callee := Callee.value (Operand.func 67), args := #[Operand.tmp 70], argTypes := #[42] }, type := 28, pos := _, after := _, guard := some (19, false) }) rfl (by kernel_rfl) (by kernel_rfl) (by kernel_rfl) (fun _ _ _ h => h) (by rfl) ?_
  simp only [Act.put, List.setIfInBounds_toArray, List.set_cons_zero, List.set_cons_succ]
  refine going_skip (i := 22) (oi := { dst := some 72, op := Op.convert 28 9 (Operand.tmp 71), type := 9, pos := _, after := _, guard := some (19, false) }) rfl (by kernel_rfl) (by kernel_rfl) (by kernel_rfl) (fun _ _ _ h => h) (by rfl) ?_
  simp only [Act.put, List.setIfInBounds_toArray, List.set_cons_zero, List.set_cons_succ]
  refine going_skip (i := 25) (oi := { dst := some 75, op := Op.binOp BinOp.neq 9 (Operand.tmp 72) (Operand.tmp 74) 9, type := 4, pos := _, after := _, guard := some (19, false) }) rfl (by kernel_rfl) (by kernel_rfl) (by kernel_rfl) (fun _ _ _ h => h) (by rfl) ?_
  simp only [Act.put, List.setIfInBounds_toArray, List.set_cons_zero, List.set_cons_succ]
  refine going_take (i := 26) (oi := { dst := some 76, op := Op.pick (Operand.tmp 69) (Operand.const (Value.bool true)) (Operand.tmp 75), type := 4, pos := _, after := _, guard := none }) (v := _) rfl (by kernel_rfl) (by kernel_rfl) (by kernel_rfl) (fun _ _ _ h => h) (by rfl) (by intro w' hSw; go_simp; try with_reducible rfl) ?_
  simp only [Act.put, List.setIfInBounds_toArray, List.set_cons_zero, List.set_cons_succ]
  refine going_done (by kernel_rfl) ?_
  obtain ⟨c0, c1, c2, c3⟩ := pk_cells HB.out.2.2
  obtain ⟨f0, f1, f2, f3⟩ := pk_free HB.out.2.2
  obtain ⟨d0, d1, d2, d3⟩ := pk_cells HB.out.2.1
  go_wp2
  exact bodyPost_ret (results_ct rfl _ _ w.heap.size 42 _ (0, 0) _ rfl (pk_set HB.out.2.2) Try.underlying42 rfl (by kernel_rfl)) rfl ⟨by rw [HV.out]; rfl, (((HB.out.1.setCell (Nat.le_refl _) _).setCell (Nat.le_refl _) _).setCell (Nat.le_refl _) _).setCell (Nat.le_refl _) _⟩

set_option maxHeartbeats 400000 in
theorem parse_v5 (a : Option Addr) (l : List Nat) (n cap : Nat) (w : World) (e i s j c k q : Nat) (sd : ByteArray) (R : (Int × Int × Int × ByteArray) × Bool) (hi : i ≠ 0) (hj : j ≠ 0) (hk : k ≠ 0) (hq : q ≠ 0) (hg : goodP e s c sd = false) (H : ParseH a l n cap w e i s j c k q sd)
    (hR : R = ((0, 0, 0, ⟨#[]⟩), false)) :
    Calls Try.prog 79 #[.slice a n cap] w fun e W' => e = .returned (.tuple #[.agg #[.int .i64 R.1.1, .int .i64 R.1.2.1, .int .i64 R.1.2.2.1, .string R.1.2.2.2], .bool R.2]) ∧ Below w.heap.size w W' := by
  have HV := hide hR
  have H1 := hide H.c1
  have H2 := hide H.c2
  have H3 := hide H.c3
  have H4 := hide H.c4
  have s1 := H.s1
  have s2 := H.s2
  have s3 := H.s3
  have HL := hide H.says
  have hbi := H.bi
  have hbj := H.bj
  have hbk := H.bk
  have hbn := H.bn
  have HB0 := hide (z42_new w)
  have q1 : ((i : Int) == 0) = false := by simp; omega
  have q2 : ((j : Int) == 0) = false := by simp; omega
  have q3 : ((k : Int) == 0) = false := by simp; omega
  have q4 : ((q : Int) == 0) = false := by simp; omega
  have HG := hide (fun W => rgood_any e s c sd W)
  rw [hg] at HG
  clear hR H hi hj hk hq hg
  generalize V.from_ a cap i = fa1 at *
  generalize V.from_ a cap (i + j) = fa2 at *
  generalize V.from_ a cap (i + j + k) = fa3 at *
  generalize n - i = n1 at *
  generalize n - (i + j) = n2 at *
  generalize n - (i + j + k) = n3 at *
  generalize cap - i = m1 at *
  generalize cap - (i + j) = m2 at *
  generalize cap - (i + j + k) = m3 at *
  go_enter Try.func79, Try.ntmps79
  go_wp2_with (first
    | (go_at_call 77; refine (H1.out _ HB0.out.1).mono ?_; rintro e W1 ⟨rfl, hw⟩; subst hw; clear H1)
    | (go_at_call 77; refine (H2.out _ HB0.out.1).mono ?_; rintro e W1 ⟨rfl, hw⟩; subst hw; clear H2)
    | (go_at_call 77; refine (H3.out _ HB0.out.1).mono ?_; rintro e W1 ⟨rfl, hw⟩; subst hw; clear H3)
    | (go_at_call 95; refine (H4.out _ HB0.out.1).mono ?_; rintro e W1 ⟨rfl, hw⟩; subst hw; clear H4))
  have HB := hide (pb_new w e s c sd)
  refine going_start (by kernel_rfl) ?_
  replace HB := hide (pb_drew HB.out)
  generalize hwq : World.drew _ = wd at HB ⊢
  clear hwq
  refine going_take (i := 0) (oi := { dst := some 50, op := Op.move (Operand.tmp 5), type := 3, pos := _, after := _, guard := none }) (v := _) rfl (by kernel_rfl) (by kernel_rfl) (by kernel_rfl) (fun _ _ _ h => h) (by rfl) (by intro w' hSw; go_simp; try with_reducible rfl) ?_
  simp only [Act.put, List.setIfInBounds_toArray, List.set_cons_zero, List.set_cons_succ]
  refine going_take (i := 1) (oi := { dst := some 51, op := Op.binOp BinOp.eql 3 (Operand.tmp 50) (Operand.const (Value.int IntKind.i64 0)) 3, type := 4, pos := _, after := _, guard := none }) (v := _) rfl (by kernel_rfl) (by kernel_rfl) (by kernel_rfl) (fun _ _ _ h => h) (by rfl) (by intro w' hSw; go_simp; try with_reducible rfl) ?_
  simp only [Act.put, List.setIfInBounds_toArray, List.set_cons_zero, List.set_cons_succ]
  refine going_take (i := 2) (oi := { dst := some 52, op := Op.move (Operand.tmp 51), type := 4, pos := _, after := _, guard := none }) (v := _) rfl (by kernel_rfl) (by kernel_rfl) (by kernel_rfl) (fun _ _ _ h => h) (by rfl) (by intro w' hSw; go_simp; try with_reducible rfl) ?_
  simp only [Act.put, List.setIfInBounds_toArray, List.set_cons_zero, List.set_cons_succ]
  refine going_take (i := 3) (oi := { dst := some 53, op := Op.move (Operand.tmp 7), type := 3, pos := _, after := _, guard := some (2, false) }) (v := _) rfl (by kernel_rfl) (by kernel_rfl) (by kernel_rfl) (fun _ _ _ h => h) (by rfl) (by intro w' hSw; go_simp; try with_reducible rfl) ?_
  simp only [Act.put, List.setIfInBounds_toArray, List.set_cons_zero, List.set_cons_succ]
  refine going_take (i := 4) (oi := { dst := some 54, op := Op.binOp BinOp.eql 3 (Operand.tmp 53) (Operand.const (Value.int IntKind.i64 0)) 3, type := 4, pos := _, after := _, guard := some (2, false) }) (v := _) rfl (by kernel_rfl) (by kernel_rfl) (by kernel_rfl) (fun _ _ _ h => h) (by rfl) (by intro w' hSw; go_simp; try with_reducible rfl) ?_
  simp only [Act.put, List.setIfInBounds_toArray, List.set_cons_zero, List.set_cons_succ]
  refine going_take (i := 5) (oi := { dst := some 55, op := Op.pick (Operand.tmp 52) (Operand.const (Value.bool true)) (Operand.tmp 54), type := 4, pos := _, after := _, guard := none }) (v := _) rfl (by kernel_rfl) (by kernel_rfl) (by kernel_rfl) (fun _ _ _ h => h) (by rfl) (by intro w' hSw; go_simp; try with_reducible rfl) ?_
  simp only [Act.put, List.setIfInBounds_toArray, List.set_cons_zero, List.set_cons_succ]
  refine going_take (i := 6) (oi := { dst := some 56, op := Op.move (Operand.tmp 55), type := 4, pos := _, after := _, guard := none }) (v := _) rfl (by kernel_rfl) (by kernel_rfl) (by kernel_rfl) (fun _ _ _ h => h) (by rfl) (by intro w' hSw; go_simp; try with_reducible rfl) ?_
  simp only [Act.put, List.setIfInBounds_toArray, List.set_cons_zero, List.set_cons_succ]
  refine going_take (i := 7) (oi := { dst := some 57, op := Op.move (Operand.tmp 9), type := 3, pos := _, after := _, guard := some (6, false) }) (v := _) rfl (by kernel_rfl) (by kernel_rfl) (by kernel_rfl) (fun _ _ _ h => h) (by rfl) (by intro w' hSw; go_simp; try with_reducible rfl) ?_
  simp only [Act.put, List.setIfInBounds_toArray, List.set_cons_zero, List.set_cons_succ]
  refine going_take (i := 8) (oi := { dst := some 58, op := Op.binOp BinOp.eql 3 (Operand.tmp 57) (Operand.const (Value.int IntKind.i64 0)) 3, type := 4, pos := _, after := _, guard := some (6, false) }) (v := _) rfl (by kernel_rfl) (by kernel_rfl) (by kernel_rfl) (fun _ _ _ h => h) (by rfl) (by intro w' hSw; go_simp; try with_reducible rfl) ?_
  simp only [Act.put, List.setIfInBounds_toArray, List.set_cons_zero, List.set_cons_succ]
  refine going_take (i := 9) (oi := { dst := some 59, op := Op.pick (Operand.tmp 56) (Operand.const (Value.bool true)) (Operand.tmp 58), type := 4, pos := _, after := _, guard := none }) (v := _) rfl (by kernel_rfl) (by kernel_rfl) (by kernel_rfl) (fun _ _ _ h => h) (by rfl) (by intro w' hSw; go_simp; try with_reducible rfl) ?_
  simp only [Act.put, List.setIfInBounds_toArray, List.set_cons_zero, List.set_cons_succ]
  refine going_take (i := 10) (oi := { dst := some 60, op := Op.move (Operand.tmp 59), type := 4, pos := _, after := _, guard := none }) (v := _) rfl (by kernel_rfl) (by kernel_rfl) (by kernel_rfl) (fun _ _ _ h => h) (by rfl) (by intro w' hSw; go_simp; try with_reducible rfl) ?_
  simp only [Act.put, List.setIfInBounds_toArray, List.set_cons_zero, List.set_cons_succ]
  refine going_take (i := 11) (oi := { dst := some 61, op := Op.move (Operand.tmp 11), type := 3, pos := _, after := _, guard := some (10, false) }) (v := _) rfl (by kernel_rfl) (by kernel_rfl) (by kernel_rfl) (fun _ _ _ h => h) (by rfl) (by intro w' hSw; go_simp; try with_reducible rfl) ?_
  simp only [Act.put, List.setIfInBounds_toArray, List.set_cons_zero, List.set_cons_succ]
  refine going_take (i := 12) (oi := { dst := some 62, op := Op.binOp BinOp.eql 3 (Operand.tmp 61) (Operand.const (Value.int IntKind.i64 0)) 3, type := 4, pos := _, after := _, guard := some (10, false) }) (v := _) rfl (by kernel_rfl) (by kernel_rfl) (by kernel_rfl) (fun _ _ _ h => h) (by rfl) (by intro w' hSw; go_simp; try with_reducible rfl) ?_
  simp only [Act.put, List.setIfInBounds_toArray, List.set_cons_zero, List.set_cons_succ]
  refine going_take (i := 13) (oi := { dst := some 63, op := Op.pick (Operand.tmp 60) (Operand.const (Value.bool true)) (Operand.tmp 62), type := 4, pos := _, after := _, guard := none }) (v := _) rfl (by kernel_rfl) (by kernel_rfl) (by kernel_rfl) (fun _ _ _ h => h) (by rfl) (by intro w' hSw; go_simp; try with_reducible rfl) ?_
  simp only [Act.put, List.setIfInBounds_toArray, List.set_cons_zero, List.set_cons_succ]
  refine going_take (i := 14) (oi := { dst := some 64, op := Op.move (Operand.tmp 63), type := 4, pos := _, after := _, guard := none }) (v := _) rfl (by kernel_rfl) (by kernel_rfl) (by kernel_rfl) (fun _ _ _ h => h) (by rfl) (by intro w' hSw; go_simp; try with_reducible rfl) ?_
  simp only [Act.put, List.setIfInBounds_toArray, List.set_cons_zero, List.set_cons_succ]
  refine going_take (i := 15) (oi := { dst := some 65, op := Op.load 42 (Operand.tmp 12), type := 42, pos := _, after := _, guard := some (14, false) }) (v := _) rfl (by kernel_rfl) (by kernel_rfl) (by kernel_rfl) (fun _ _ _ h => h) (by rfl) (by intro w' hSw; obtain ⟨c0, c1, c2, c3⟩ := pb_cells HB.out hSw; go_simp; try with_reducible rfl) ?_
  simp only [Act.put, List.setIfInBounds_toArray, List.set_cons_zero, List.set_cons_succ]
  refine going_step (i := 16) (o := { dst := some 66, op := Op.call { callee := Callee.value (Operand.func 23), args := #[Operand.tmp 65], argTypes := #[42] }, type := 4, pos := _, after := _, guard := some (14, false) }) (by kernel_rfl) rfl (by rfl) (fun K hK => ?_)
  go_simp
  refine (HG.out _).mono ?_
  rintro e wd ⟨rfl, hb1⟩
  refine hK.out _ _ hb1 ?_
  replace HB := hide (pb_up HB.out hb1)
  clear hb1
  clear hK K
  try simp only [Act.put, List.setIfInBounds_toArray, List.set_cons_zero, List.set_cons_succ]
  refine going_take (i := 17) (oi := { dst := some 67, op := Op.unOp UnOp.not 4 (Operand.tmp 66), type := 4, pos := _, after := _, guard := some (14, false) }) (v := _) rfl (by kernel_rfl) (by kernel_rfl) (by kernel_rfl) (fun _ _ _ h => h) (by rfl) (by intro w' hSw; go_simp; try with_reducible rfl) ?_
  simp only [Act.put, List.setIfInBounds_toArray, List.set_cons_zero, List.set_cons_succ]
  refine going_take (i := 18) (oi := { dst := some 68, op := Op.pick (Operand.tmp 64) (Operand.const (Value.bool true)) (Operand.tmp 67), type := 4, pos := _, after := _, guard := none }) (v := _) rfl (by kernel_rfl) (by kernel_rfl) (by kernel_rfl) (fun _ _ _ h => h) (by rfl) (by intro w' hSw; go_simp; try with_reducible rfl) ?_
  simp only [Act.put, List.setIfInBounds_toArray, List.set_cons_zero, List.set_cons_succ]
  refine going_take (i := 19) (oi := { dst := some 69, op := Op.move (Operand.tmp 68), type := 4, pos := _, after := _, guard := none }) (v := _) rfl (by kernel_rfl) (by kernel_rfl) (by kernel_rfl) (fun _ _ _ h => h) (by rfl) (by intro w' hSw; go_simp; try with_reducible rfl) ?_
  simp only [Act.put, List.setIfInBounds_toArray, List.set_cons_zero, List.set_cons_succ]
  refine going_skip (i := 20) (oi := { dst := some 70, op := Op.load 42 (Operand.tmp 12), type := 42, pos := _, after := _, guard := some (19, false) }) rfl (by kernel_rfl) (by kernel_rfl) (by kernel_rfl) (fun _ _ _ h => h) (by rfl) ?_
  simp only [Act.put, List.setIfInBounds_toArray, List.set_cons_zero, List.set_cons_succ]
  refine going_skip (i := 23) (oi := { dst := some 73, op := Op.move (Operand.tmp 0), type := 28, pos := _, after := _, guard := some (19, false) }) rfl (by kernel_rfl) (by kernel_rfl) (by kernel_rfl) (fun _ _ _ h => h) (by rfl) ?_
  simp only [Act.put, List.setIfInBounds_toArray, List.set_cons_zero, List.set_cons_succ]
  refine going_skip (i := 24) (oi := { dst := some 74, op := Op.convert 28 9 (Operand.tmp 73), type := 9, pos := _, after := _, guard := some (19, false) }) rfl (by kernel_rfl) (by kernel_rfl) (by kernel_rfl) (fun _ _ _ h => h) (by rfl) ?_
  simp only [Act.put, List.setIfInBounds_toArray, List.set_cons_zero, List.set_cons_succ]
  refine going_skip (i := 21) (oi := { dst := some 71, op := Op.call { callee := Callee.value (Operand.func 67), args := #[Operand.tmp 70], argTypes := #[42] }, type := 28, pos := _, after := _, guard := some (19, false) }) rfl (by kernel_rfl) (by kernel_rfl) (by kernel_rfl) (fun _ _ _ h => h) (by rfl) ?_
  simp only [Act.put, List.setIfInBounds_toArray, List.set_cons_zero, List.set_cons_succ]
  refine going_skip (i := 22) (oi := { dst := some 72, op := Op.convert 28 9 (Operand.tmp 71), type := 9, pos := _, after := _, guard := some (19, false) }) rfl (by kernel_rfl) (by kernel_rfl) (by kernel_rfl) (fun _ _ _ h => h) (by rfl) ?_
  simp only [Act.put, List.setIfInBounds_toArray, List.set_cons_zero, List.set_cons_succ]
  refine going_skip (i := 25) (oi := { dst := some 75, op := Op.binOp BinOp.neq 9 (Operand.tmp 72) (Operand.tmp 74) 9, type := 4, pos := _, after := _, guard := some (19, false) }) rfl (by kernel_rfl) (by kernel_rfl) (by kernel_rfl) (fun _ _ _ h => h) (by rfl) ?_
  simp only [Act.put, List.setIfInBounds_toArray, List.set_cons_zero, List.set_cons_succ]
  refine going_take (i := 26) (oi := { dst := some 76, op := Op.pick (Operand.tmp 69) (Operand.const (Value.bool true)) (Operand.tmp 75), type := 4, pos := _, after := _, guard := none }) (v := _) rfl (by kernel_rfl) (by kernel_rfl) (by kernel_rfl) (fun _ _ _ h => h) (by rfl) (by intro w' hSw; go_simp; try with_reducible rfl) ?_
  simp only [Act.put, List.setIfInBounds_toArray, List.set_cons_zero, List.set_cons_succ]
  refine going_done (by kernel_rfl) ?_
  obtain ⟨c0, c1, c2, c3⟩ := pk_cells HB.out.2.2
  obtain ⟨f0, f1, f2, f3⟩ := pk_free HB.out.2.2
  obtain ⟨d0, d1, d2, d3⟩ := pk_cells HB.out.2.1
  go_wp2
  exact bodyPost_ret (results_ct rfl _ _ w.heap.size 42 _ (0, 0) _ rfl (pk_set HB.out.2.2) Try.underlying42 rfl (by kernel_rfl)) rfl ⟨by rw [HV.out]; rfl, (((HB.out.1.setCell (Nat.le_refl _) _).setCell (Nat.le_refl _) _).setCell (Nat.le_refl _) _).setCell (Nat.le_refl _) _⟩

set_option maxHeartbeats 400000 in
theorem parse_v6 (a : Option Addr) (l : List Nat) (n cap : Nat) (w : World) (e i s j c k q : Nat) (sd : ByteArray) (R : (Int × Int × Int × ByteArray) × Bool) (hi : i ≠ 0) (hj : j ≠ 0) (hk : k ≠ 0) (hq : q ≠ 0) (hg : goodP e s c sd = true) (hsd : sd.size ≤ 5000) (hne : ((str (bodyL e s c sd)).toList == (str l).toList) = false) (H : ParseH a l n cap w e i s j c k q sd)
    (hR : R = ((0, 0, 0, ⟨#[]⟩), false)) :
    Calls Try.prog 79 #[.slice a n cap] w fun e W' => e = .returned (.tuple #[.agg #[.int .i64 R.1.1, .int .i64 R.1.2.1, .int .i64 R.1.2.2.1, .string R.1.2.2.2], .bool R.2]) ∧ Below w.heap.size w W' := by
  have HV := hide hR
  have H1 := hide H.c1
  have H2 := hide H.c2
  have H3 := hide H.c3
  have H4 := hide H.c4
  have s1 := H.s1
  have s2 := H.s2
  have s3 := H.s3
  have HL := hide H.says
  have hbi := H.bi
  have hbj := H.bj
  have hbk := H.bk
  have hbn := H.bn
  have HB0 := hide (z42_new w)
  have q1 : ((i : Int) == 0) = false := by simp; omega
  have q2 : ((j : Int) == 0) = false := by simp; omega
  have q3 : ((k : Int) == 0) = false := by simp; omega
  have q4 : ((q : Int) == 0) = false := by simp; omega
  have HG := hide (fun W => rgood_any e s c sd W)
  rw [hg] at HG
  have HBD := hide (fun W => body_big e s c sd W hsd)
  generalize bodyL e s c sd = bl at *
  clear hR H hi hj hk hq hg hsd 
  generalize V.from_ a cap i = fa1 at *
  generalize V.from_ a cap (i + j) = fa2 at *
  generalize V.from_ a cap (i + j + k) = fa3 at *
  generalize n - i = n1 at *
  generalize n - (i + j) = n2 at *
  generalize n - (i + j + k) = n3 at *
  generalize cap - i = m1 at *
  generalize cap - (i + j) = m2 at *
  generalize cap - (i + j + k) = m3 at *
  go_enter Try.func79, Try.ntmps79
  go_wp2_with (first
    | (go_at_call 77; refine (H1.out _ HB0.out.1).mono ?_; rintro e W1 ⟨rfl, hw⟩; subst hw; clear H1)
    | (go_at_call 77; refine (H2.out _ HB0.out.1).mono ?_; rintro e W1 ⟨rfl, hw⟩; subst hw; clear H2)
    | (go_at_call 77; refine (H3.out _ HB0.out.1).mono ?_; rintro e W1 ⟨rfl, hw⟩; subst hw; clear H3)
    | (go_at_call 95; refine (H4.out _ HB0.out.1).mono ?_; rintro e W1 ⟨rfl, hw⟩; subst hw; clear H4))
  have HB := hide (pb_new w e s c sd)
  refine going_start (by kernel_rfl) ?_
  replace HB := hide (pb_drew HB.out)
  generalize hwq : World.drew _ = wd at HB ⊢
  clear hwq
  refine going_take (i := 0) (oi := { dst := some 50, op := Op.move (Operand.tmp 5), type := 3, pos := _, after := _, guard := none }) (v := _) rfl (by kernel_rfl) (by kernel_rfl) (by kernel_rfl) (fun _ _ _ h => h) (by rfl) (by intro w' hSw; go_simp; try with_reducible rfl) ?_
  simp only [Act.put, List.setIfInBounds_toArray, List.set_cons_zero, List.set_cons_succ]
  refine going_take (i := 1) (oi := { dst := some 51, op := Op.binOp BinOp.eql 3 (Operand.tmp 50) (Operand.const (Value.int IntKind.i64 0)) 3, type := 4, pos := _, after := _, guard := none }) (v := _) rfl (by kernel_rfl) (by kernel_rfl) (by kernel_rfl) (fun _ _ _ h => h) (by rfl) (by intro w' hSw; go_simp; try with_reducible rfl) ?_
  simp only [Act.put, List.setIfInBounds_toArray, List.set_cons_zero, List.set_cons_succ]
  refine going_take (i := 2) (oi := { dst := some 52, op := Op.move (Operand.tmp 51), type := 4, pos := _, after := _, guard := none }) (v := _) rfl (by kernel_rfl) (by kernel_rfl) (by kernel_rfl) (fun _ _ _ h => h) (by rfl) (by intro w' hSw; go_simp; try with_reducible rfl) ?_
  simp only [Act.put, List.setIfInBounds_toArray, List.set_cons_zero, List.set_cons_succ]
  refine going_take (i := 3) (oi := { dst := some 53, op := Op.move (Operand.tmp 7), type := 3, pos := _, after := _, guard := some (2, false) }) (v := _) rfl (by kernel_rfl) (by kernel_rfl) (by kernel_rfl) (fun _ _ _ h => h) (by rfl) (by intro w' hSw; go_simp; try with_reducible rfl) ?_
  simp only [Act.put, List.setIfInBounds_toArray, List.set_cons_zero, List.set_cons_succ]
  refine going_take (i := 4) (oi := { dst := some 54, op := Op.binOp BinOp.eql 3 (Operand.tmp 53) (Operand.const (Value.int IntKind.i64 0)) 3, type := 4, pos := _, after := _, guard := some (2, false) }) (v := _) rfl (by kernel_rfl) (by kernel_rfl) (by kernel_rfl) (fun _ _ _ h => h) (by rfl) (by intro w' hSw; go_simp; try with_reducible rfl) ?_
  simp only [Act.put, List.setIfInBounds_toArray, List.set_cons_zero, List.set_cons_succ]
  refine going_take (i := 5) (oi := { dst := some 55, op := Op.pick (Operand.tmp 52) (Operand.const (Value.bool true)) (Operand.tmp 54), type := 4, pos := _, after := _, guard := none }) (v := _) rfl (by kernel_rfl) (by kernel_rfl) (by kernel_rfl) (fun _ _ _ h => h) (by rfl) (by intro w' hSw; go_simp; try with_reducible rfl) ?_
  simp only [Act.put, List.setIfInBounds_toArray, List.set_cons_zero, List.set_cons_succ]
  refine going_take (i := 6) (oi := { dst := some 56, op := Op.move (Operand.tmp 55), type := 4, pos := _, after := _, guard := none }) (v := _) rfl (by kernel_rfl) (by kernel_rfl) (by kernel_rfl) (fun _ _ _ h => h) (by rfl) (by intro w' hSw; go_simp; try with_reducible rfl) ?_
  simp only [Act.put, List.setIfInBounds_toArray, List.set_cons_zero, List.set_cons_succ]
  refine going_take (i := 7) (oi := { dst := some 57, op := Op.move (Operand.tmp 9), type := 3, pos := _, after := _, guard := some (6, false) }) (v := _) rfl (by kernel_rfl) (by kernel_rfl) (by kernel_rfl) (fun _ _ _ h => h) (by rfl) (by intro w' hSw; go_simp; try with_reducible rfl) ?_
  simp only [Act.put, List.setIfInBounds_toArray, List.set_cons_zero, List.set_cons_succ]
  refine going_take (i := 8) (oi := { dst := some 58, op := Op.binOp BinOp.eql 3 (Operand.tmp 57) (Operand.const (Value.int IntKind.i64 0)) 3, type := 4, pos := _, after := _, guard := some (6, false) }) (v := _) rfl (by kernel_rfl) (by kernel_rfl) (by kernel_rfl) (fun _ _ _ h => h) (by rfl) (by intro w' hSw; go_simp; try with_reducible rfl) ?_
  simp only [Act.put, List.setIfInBounds_toArray, List.set_cons_zero, List.set_cons_succ]
  refine going_take (i := 9) (oi := { dst := some 59, op := Op.pick (Operand.tmp 56) (Operand.const (Value.bool true)) (Operand.tmp 58), type := 4, pos := _, after := _, guard := none }) (v := _) rfl (by kernel_rfl) (by kernel_rfl) (by kernel_rfl) (fun _ _ _ h => h) (by rfl) (by intro w' hSw; go_simp; try with_reducible rfl) ?_
  simp only [Act.put, List.setIfInBounds_toArray, List.set_cons_zero, List.set_cons_succ]
  refine going_take (i := 10) (oi := { dst := some 60, op := Op.move (Operand.tmp 59), type := 4, pos := _, after := _, guard := none }) (v := _) rfl (by kernel_rfl) (by kernel_rfl) (by kernel_rfl) (fun _ _ _ h => h) (by rfl) (by intro w' hSw; go_simp; try with_reducible rfl) ?_
  simp only [Act.put, List.setIfInBounds_toArray, List.set_cons_zero, List.set_cons_succ]
  refine going_take (i := 11) (oi := { dst := some 61, op := Op.move (Operand.tmp 11), type := 3, pos := _, after := _, guard := some (10, false) }) (v := _) rfl (by kernel_rfl) (by kernel_rfl) (by kernel_rfl) (fun _ _ _ h => h) (by rfl) (by intro w' hSw; go_simp; try with_reducible rfl) ?_
  simp only [Act.put, List.setIfInBounds_toArray, List.set_cons_zero, List.set_cons_succ]
  refine going_take (i := 12) (oi := { dst := some 62, op := Op.binOp BinOp.eql 3 (Operand.tmp 61) (Operand.const (Value.int IntKind.i64 0)) 3, type := 4, pos := _, after := _, guard := some (10, false) }) (v := _) rfl (by kernel_rfl) (by kernel_rfl) (by kernel_rfl) (fun _ _ _ h => h) (by rfl) (by intro w' hSw; go_simp; try with_reducible rfl) ?_
  simp only [Act.put, List.setIfInBounds_toArray, List.set_cons_zero, List.set_cons_succ]
  refine going_take (i := 13) (oi := { dst := some 63, op := Op.pick (Operand.tmp 60) (Operand.const (Value.bool true)) (Operand.tmp 62), type := 4, pos := _, after := _, guard := none }) (v := _) rfl (by kernel_rfl) (by kernel_rfl) (by kernel_rfl) (fun _ _ _ h => h) (by rfl) (by intro w' hSw; go_simp; try with_reducible rfl) ?_
  simp only [Act.put, List.setIfInBounds_toArray, List.set_cons_zero, List.set_cons_succ]
  refine going_take (i := 14) (oi := { dst := some 64, op := Op.move (Operand.tmp 63), type := 4, pos := _, after := _, guard := none }) (v := _) rfl (by kernel_rfl) (by kernel_rfl) (by kernel_rfl) (fun _ _ _ h => h) (by rfl) (by intro w' hSw; go_simp; try with_reducible rfl) ?_
  simp only [Act.put, List.setIfInBounds_toArray, List.set_cons_zero, List.set_cons_succ]
  refine going_take (i := 15) (oi := { dst := some 65, op := Op.load 42 (Operand.tmp 12), type := 42, pos := _, after := _, guard := some (14, false) }) (v := _) rfl (by kernel_rfl) (by kernel_rfl) (by kernel_rfl) (fun _ _ _ h => h) (by rfl) (by intro w' hSw; obtain ⟨c0, c1, c2, c3⟩ := pb_cells HB.out hSw; go_simp; try with_reducible rfl) ?_
  simp only [Act.put, List.setIfInBounds_toArray, List.set_cons_zero, List.set_cons_succ]
  refine going_step (i := 16) (o := { dst := some 66, op := Op.call { callee := Callee.value (Operand.func 23), args := #[Operand.tmp 65], argTypes := #[42] }, type := 4, pos := _, after := _, guard := some (14, false) }) (by kernel_rfl) rfl (by rfl) (fun K hK => ?_)
  go_simp
  refine (HG.out _).mono ?_
  rintro e wd ⟨rfl, hb1⟩
  refine hK.out _ _ hb1 ?_
  replace HB := hide (pb_up HB.out hb1)
  clear hb1
  clear hK K
  try simp only [Act.put, List.setIfInBounds_toArray, List.set_cons_zero, List.set_cons_succ]
  refine going_take (i := 17) (oi := { dst := some 67, op := Op.unOp UnOp.not 4 (Operand.tmp 66), type := 4, pos := _, after := _, guard := some (14, false) }) (v := _) rfl (by kernel_rfl) (by kernel_rfl) (by kernel_rfl) (fun _ _ _ h => h) (by rfl) (by intro w' hSw; go_simp; try with_reducible rfl) ?_
  simp only [Act.put, List.setIfInBounds_toArray, List.set_cons_zero, List.set_cons_succ]
  refine going_take (i := 18) (oi := { dst := some 68, op := Op.pick (Operand.tmp 64) (Operand.const (Value.bool true)) (Operand.tmp 67), type := 4, pos := _, after := _, guard := none }) (v := _) rfl (by kernel_rfl) (by kernel_rfl) (by kernel_rfl) (fun _ _ _ h => h) (by rfl) (by intro w' hSw; go_simp; try with_reducible rfl) ?_
  simp only [Act.put, List.setIfInBounds_toArray, List.set_cons_zero, List.set_cons_succ]
  refine going_take (i := 19) (oi := { dst := some 69, op := Op.move (Operand.tmp 68), type := 4, pos := _, after := _, guard := none }) (v := _) rfl (by kernel_rfl) (by kernel_rfl) (by kernel_rfl) (fun _ _ _ h => h) (by rfl) (by intro w' hSw; go_simp; try with_reducible rfl) ?_
  simp only [Act.put, List.setIfInBounds_toArray, List.set_cons_zero, List.set_cons_succ]
  refine going_take (i := 20) (oi := { dst := some 70, op := Op.load 42 (Operand.tmp 12), type := 42, pos := _, after := _, guard := some (19, false) }) (v := _) rfl (by kernel_rfl) (by kernel_rfl) (by kernel_rfl) (fun _ _ _ h => h) (by rfl) (by intro w' hSw; obtain ⟨c0, c1, c2, c3⟩ := pb_cells HB.out hSw; go_simp; try with_reducible rfl) ?_
  simp only [Act.put, List.setIfInBounds_toArray, List.set_cons_zero, List.set_cons_succ]
  refine going_take (i := 23) (oi := { dst := some 73, op := Op.move (Operand.tmp 0), type := 28, pos := _, after := _, guard := some (19, false) }) (v := _) rfl (by kernel_rfl) (by kernel_rfl) (by kernel_rfl) (fun _ _ _ h => h) (by rfl) (by intro w' hSw; go_simp; try with_reducible rfl) ?_
  simp only [Act.put, List.setIfInBounds_toArray, List.set_cons_zero, List.set_cons_succ]
  refine going_take (i := 24) (oi := { dst := some 74, op := Op.convert 28 9 (Operand.tmp 73), type := 9, pos := _, after := _, guard := some (19, false) }) (v := _) rfl (by kernel_rfl) (by kernel_rfl) (by kernel_rfl) (fun _ _ _ h => h) (by rfl) (by intro w' hSw; have hl := HL.out w' (HB.out.1.trans (hSw.mono HB.out.1.size)); go_simp; try with_reducible rfl) ?_
  simp only [Act.put, List.setIfInBounds_toArray, List.set_cons_zero, List.set_cons_succ]
  refine going_step (i := 21) (o := { dst := some 71, op := Op.call { callee := Callee.value (Operand.func 67), args := #[Operand.tmp 70], argTypes := #[42] }, type := 28, pos := _, after := _, guard := some (19, false) }) (by kernel_rfl) rfl (by rfl) (fun K hK => ?_)
  go_simp
  refine (HBD.out _).mono ?_
  rintro e wd ⟨v, rfl, ho, hb1⟩
  refine hK.out _ _ hb1 ?_
  replace HB := hide (pb_up HB.out hb1)
  have HQ := hide (says_owns ho)
  clear hb1 ho
  clear hK K
  try simp only [Act.put, List.setIfInBounds_toArray, List.set_cons_zero, List.set_cons_succ]
  refine going_take (i := 22) (oi := { dst := some 72, op := Op.convert 28 9 (Operand.tmp 71), type := 9, pos := _, after := _, guard := some (19, false) }) (v := _) rfl (by kernel_rfl) (by kernel_rfl) (by kernel_rfl) (fun _ _ _ h => h) (by rfl) (by intro w' hSw; have hq := HQ.out w' hSw; go_simp; try with_reducible rfl) ?_
  simp only [Act.put, List.setIfInBounds_toArray, List.set_cons_zero, List.set_cons_succ]
  refine going_take (i := 25) (oi := { dst := some 75, op := Op.binOp BinOp.neq 9 (Operand.tmp 72) (Operand.tmp 74) 9, type := 4, pos := _, after := _, guard := some (19, false) }) (v := _) rfl (by kernel_rfl) (by kernel_rfl) (by kernel_rfl) (fun _ _ _ h => h) (by rfl) (by intro w' hSw; go_simp; try with_reducible rfl) ?_
  simp only [Act.put, List.setIfInBounds_toArray, List.set_cons_zero, List.set_cons_succ]
  refine going_take (i := 26) (oi := { dst := some 76, op := Op.pick (Operand.tmp 69) (Operand.const (Value.bool true)) (Operand.tmp 75), type := 4, pos := _, after := _, guard := none }) (v := _) rfl (by kernel_rfl) (by kernel_rfl) (by kernel_rfl) (fun _ _ _ h => h) (by rfl) (by intro w' hSw; go_simp; try with_reducible rfl) ?_
  simp only [Act.put, List.setIfInBounds_toArray, List.set_cons_zero, List.set_cons_succ]
  refine going_done (by kernel_rfl) ?_
  obtain ⟨c0, c1, c2, c3⟩ := pk_cells HB.out.2.2
  obtain ⟨f0, f1, f2, f3⟩ := pk_free HB.out.2.2
  obtain ⟨d0, d1, d2, d3⟩ := pk_cells HB.out.2.1
  go_wp2
  exact bodyPost_ret (results_ct rfl _ _ w.heap.size 42 _ (0, 0) _ rfl (pk_set HB.out.2.2) Try.underlying42 rfl (by kernel_rfl)) rfl ⟨by rw [HV.out]; rfl, (((HB.out.1.setCell (Nat.le_refl _) _).setCell (Nat.le_refl _) _).setCell (Nat.le_refl _) _).setCell (Nat.le_refl _) _⟩

set_option maxHeartbeats 400000 in
theorem parse_v7 (a : Option Addr) (l : List Nat) (n cap : Nat) (w : World) (e i s j c k q : Nat) (sd : ByteArray) (R : (Int × Int × Int × ByteArray) × Bool) (hi : i ≠ 0) (hj : j ≠ 0) (hk : k ≠ 0) (hq : q ≠ 0) (hg : goodP e s c sd = true) (hsd : sd.size ≤ 5000) (hne : bodyL e s c sd = l) (H : ParseH a l n cap w e i s j c k q sd)
    (hR : R = (((e : Int), (s : Int), (c : Int), sd), true)) :
    Calls Try.prog 79 #[.slice a n cap] w fun e W' => e = .returned (.tuple #[.agg #[.int .i64 R.1.1, .int .i64 R.1.2.1, .int .i64 R.1.2.2.1, .string R.1.2.2.2], .bool R.2]) ∧ Below w.heap.size w W' := by
  have HV := hide hR
  have H1 := hide H.c1
  have H2 := hide H.c2
  have H3 := hide H.c3
  have H4 := hide H.c4
  have s1 := H.s1
  have s2 := H.s2
  have s3 := H.s3
  have HL := hide H.says
  have hbi := H.bi
  have hbj := H.bj
  have hbk := H.bk
  have hbn := H.bn
  have HB0 := hide (z42_new w)
  have q1 : ((i : Int) == 0) = false := by simp; omega
  have q2 : ((j : Int) == 0) = false := by simp; omega
  have q3 : ((k : Int) == 0) = false := by simp; omega
  have q4 : ((q : Int) == 0) = false := by simp; omega
  have HG := hide (fun W => rgood_any e s c sd W)
  rw [hg] at HG
  have HBD := hide (fun W => body_big e s c sd W hsd)
  rw [hne] at HBD
  clear hR H hi hj hk hq hg hsd hne
  generalize V.from_ a cap i = fa1 at *
  generalize V.from_ a cap (i + j) = fa2 at *
  generalize V.from_ a cap (i + j + k) = fa3 at *
  generalize n - i = n1 at *
  generalize n - (i + j) = n2 at *
  generalize n - (i + j + k) = n3 at *
  generalize cap - i = m1 at *
  generalize cap - (i + j) = m2 at *
  generalize cap - (i + j + k) = m3 at *
  go_enter Try.func79, Try.ntmps79
  go_wp2_with (first
    | (go_at_call 77; refine (H1.out _ HB0.out.1).mono ?_; rintro e W1 ⟨rfl, hw⟩; subst hw; clear H1)
    | (go_at_call 77; refine (H2.out _ HB0.out.1).mono ?_; rintro e W1 ⟨rfl, hw⟩; subst hw; clear H2)
    | (go_at_call 77; refine (H3.out _ HB0.out.1).mono ?_; rintro e W1 ⟨rfl, hw⟩; subst hw; clear H3)
    | (go_at_call 95; refine (H4.out _ HB0.out.1).mono ?_; rintro e W1 ⟨rfl, hw⟩; subst hw; clear H4))
  have HB := hide (pb_new w e s c sd)
  refine going_start (by kernel_rfl) ?_
  replace HB := hide (pb_drew HB.out)
  generalize hwq : World.drew _ = wd at HB ⊢
  clear hwq
  refine going_take (i := 0) (oi := { dst := some 50, op := Op.move (Operand.tmp 5), type := 3, pos := _, after := _, guard := none }) (v := _) rfl (by kernel_rfl) (by kernel_rfl) (by kernel_rfl) (fun _ _ _ h => h) (by rfl) (by intro w' hSw; go_simp; try with_reducible rfl) ?_
  simp only [Act.put, List.setIfInBounds_toArray, List.set_cons_zero, List.set_cons_succ]
  refine going_take (i := 1) (oi := { dst := some 51, op := Op.binOp BinOp.eql 3 (Operand.tmp 50) (Operand.const (Value.int IntKind.i64 0)) 3, type := 4, pos := _, after := _, guard := none }) (v := _) rfl (by kernel_rfl) (by kernel_rfl) (by kernel_rfl) (fun _ _ _ h => h) (by rfl) (by intro w' hSw; go_simp; try with_reducible rfl) ?_
  simp only [Act.put, List.setIfInBounds_toArray, List.set_cons_zero, List.set_cons_succ]
  refine going_take (i := 2) (oi := { dst := some 52, op := Op.move (Operand.tmp 51), type := 4, pos := _, after := _, guard := none }) (v := _) rfl (by kernel_rfl) (by kernel_rfl) (by kernel_rfl) (fun _ _ _ h => h) (by rfl) (by intro w' hSw; go_simp; try with_reducible rfl) ?_
  simp only [Act.put, List.setIfInBounds_toArray, List.set_cons_zero, List.set_cons_succ]
  refine going_take (i := 3) (oi := { dst := some 53, op := Op.move (Operand.tmp 7), type := 3, pos := _, after := _, guard := some (2, false) }) (v := _) rfl (by kernel_rfl) (by kernel_rfl) (by kernel_rfl) (fun _ _ _ h => h) (by rfl) (by intro w' hSw; go_simp; try with_reducible rfl) ?_
  simp only [Act.put, List.setIfInBounds_toArray, List.set_cons_zero, List.set_cons_succ]
  refine going_take (i := 4) (oi := { dst := some 54, op := Op.binOp BinOp.eql 3 (Operand.tmp 53) (Operand.const (Value.int IntKind.i64 0)) 3, type := 4, pos := _, after := _, guard := some (2, false) }) (v := _) rfl (by kernel_rfl) (by kernel_rfl) (by kernel_rfl) (fun _ _ _ h => h) (by rfl) (by intro w' hSw; go_simp; try with_reducible rfl) ?_
  simp only [Act.put, List.setIfInBounds_toArray, List.set_cons_zero, List.set_cons_succ]
  refine going_take (i := 5) (oi := { dst := some 55, op := Op.pick (Operand.tmp 52) (Operand.const (Value.bool true)) (Operand.tmp 54), type := 4, pos := _, after := _, guard := none }) (v := _) rfl (by kernel_rfl) (by kernel_rfl) (by kernel_rfl) (fun _ _ _ h => h) (by rfl) (by intro w' hSw; go_simp; try with_reducible rfl) ?_
  simp only [Act.put, List.setIfInBounds_toArray, List.set_cons_zero, List.set_cons_succ]
  refine going_take (i := 6) (oi := { dst := some 56, op := Op.move (Operand.tmp 55), type := 4, pos := _, after := _, guard := none }) (v := _) rfl (by kernel_rfl) (by kernel_rfl) (by kernel_rfl) (fun _ _ _ h => h) (by rfl) (by intro w' hSw; go_simp; try with_reducible rfl) ?_
  simp only [Act.put, List.setIfInBounds_toArray, List.set_cons_zero, List.set_cons_succ]
  refine going_take (i := 7) (oi := { dst := some 57, op := Op.move (Operand.tmp 9), type := 3, pos := _, after := _, guard := some (6, false) }) (v := _) rfl (by kernel_rfl) (by kernel_rfl) (by kernel_rfl) (fun _ _ _ h => h) (by rfl) (by intro w' hSw; go_simp; try with_reducible rfl) ?_
  simp only [Act.put, List.setIfInBounds_toArray, List.set_cons_zero, List.set_cons_succ]
  refine going_take (i := 8) (oi := { dst := some 58, op := Op.binOp BinOp.eql 3 (Operand.tmp 57) (Operand.const (Value.int IntKind.i64 0)) 3, type := 4, pos := _, after := _, guard := some (6, false) }) (v := _) rfl (by kernel_rfl) (by kernel_rfl) (by kernel_rfl) (fun _ _ _ h => h) (by rfl) (by intro w' hSw; go_simp; try with_reducible rfl) ?_
  simp only [Act.put, List.setIfInBounds_toArray, List.set_cons_zero, List.set_cons_succ]
  refine going_take (i := 9) (oi := { dst := some 59, op := Op.pick (Operand.tmp 56) (Operand.const (Value.bool true)) (Operand.tmp 58), type := 4, pos := _, after := _, guard := none }) (v := _) rfl (by kernel_rfl) (by kernel_rfl) (by kernel_rfl) (fun _ _ _ h => h) (by rfl) (by intro w' hSw; go_simp; try with_reducible rfl) ?_
  simp only [Act.put, List.setIfInBounds_toArray, List.set_cons_zero, List.set_cons_succ]
  refine going_take (i := 10) (oi := { dst := some 60, op := Op.move (Operand.tmp 59), type := 4, pos := _, after := _, guard := none }) (v := _) rfl (by kernel_rfl) (by kernel_rfl) (by kernel_rfl) (fun _ _ _ h => h) (by rfl) (by intro w' hSw; go_simp; try with_reducible rfl) ?_
  simp only [Act.put, List.setIfInBounds_toArray, List.set_cons_zero, List.set_cons_succ]
  refine going_take (i := 11) (oi := { dst := some 61, op := Op.move (Operand.tmp 11), type := 3, pos := _, after := _, guard := some (10, false) }) (v := _) rfl (by kernel_rfl) (by kernel_rfl) (by kernel_rfl) (fun _ _ _ h => h) (by rfl) (by intro w' hSw; go_simp; try with_reducible rfl) ?_
  simp only [Act.put, List.setIfInBounds_toArray, List.set_cons_zero, List.set_cons_succ]
  refine going_take (i := 12) (oi := { dst := some 62, op := Op.binOp BinOp.eql 3 (Operand.tmp 61) (Operand.const (Value.int IntKind.i64 0)) 3, type := 4, pos := _, after := _, guard := some (10, false) }) (v := _) rfl (by kernel_rfl) (by kernel_rfl) (by kernel_rfl) (fun _ _ _ h => h) (by rfl) (by intro w' hSw; go_simp; try with_reducible rfl) ?_
  simp only [Act.put, List.setIfInBounds_toArray, List.set_cons_zero, List.set_cons_succ]
  refine going_take (i := 13) (oi := { dst := some 63, op := Op.pick (Operand.tmp 60) (Operand.const (Value.bool true)) (Operand.tmp 62), type := 4, pos := _, after := _, guard := none }) (v := _) rfl (by kernel_rfl) (by kernel_rfl) (by kernel_rfl) (fun _ _ _ h => h) (by rfl) (by intro w' hSw; go_simp; try with_reducible rfl) ?_
  simp only [Act.put, List.setIfInBounds_toArray, List.set_cons_zero, List.set_cons_succ]
  refine going_take (i := 14) (oi := { dst := some 64, op := Op.move (Operand.tmp 63), type := 4, pos := _, after := _, guard := none }) (v := _) rfl (by kernel_rfl) (by kernel_rfl) (by kernel_rfl) (fun _ _ _ h => h) (by rfl) (by intro w' hSw; go_simp; try with_reducible rfl) ?_
  simp only [Act.put, List.setIfInBounds_toArray, List.set_cons_zero, List.set_cons_succ]
  refine going_take (i := 15) (oi := { dst := some 65, op := Op.load 42 (Operand.tmp 12), type := 42, pos := _, after := _, guard := some (14, false) }) (v := _) rfl (by kernel_rfl) (by kernel_rfl) (by kernel_rfl) (fun _ _ _ h => h) (by rfl) (by intro w' hSw; obtain ⟨c0, c1, c2, c3⟩ := pb_cells HB.out hSw; go_simp; try with_reducible rfl) ?_
  simp only [Act.put, List.setIfInBounds_toArray, List.set_cons_zero, List.set_cons_succ]
  refine going_step (i := 16) (o := { dst := some 66, op := Op.call { callee := Callee.value (Operand.func 23), args := #[Operand.tmp 65], argTypes := #[42] }, type := 4, pos := _, after := _, guard := some (14, false) }) (by kernel_rfl) rfl (by rfl) (fun K hK => ?_)
  go_simp
  refine (HG.out _).mono ?_
  rintro e wd ⟨rfl, hb1⟩
  refine hK.out _ _ hb1 ?_
  replace HB := hide (pb_up HB.out hb1)
  clear hb1
  clear hK K
  try simp only [Act.put, List.setIfInBounds_toArray, List.set_cons_zero, List.set_cons_succ]
  refine going_take (i := 17) (oi := { dst := some 67, op := Op.unOp UnOp.not 4 (Operand.tmp 66), type := 4, pos := _, after := _, guard := some (14, false) }) (v := _) rfl (by kernel_rfl) (by kernel_rfl) (by kernel_rfl) (fun _ _ _ h => h) (by rfl) (by intro w' hSw; go_simp; try with_reducible rfl) ?_
  simp only [Act.put, List.setIfInBounds_toArray, List.set_cons_zero, List.set_cons_succ]
  refine going_take (i := 18) (oi := { dst := some 68, op := Op.pick (Operand.tmp 64) (Operand.const (Value.bool true)) (Operand.tmp 67), type := 4, pos := _, after := _, guard := none }) (v := _) rfl (by kernel_rfl) (by kernel_rfl) (by kernel_rfl) (fun _ _ _ h => h) (by rfl) (by intro w' hSw; go_simp; try with_reducible rfl) ?_
  simp only [Act.put, List.setIfInBounds_toArray, List.set_cons_zero, List.set_cons_succ]
  refine going_take (i := 19) (oi := { dst := some 69, op := Op.move (Operand.tmp 68), type := 4, pos := _, after := _, guard := none }) (v := _) rfl (by kernel_rfl) (by kernel_rfl) (by kernel_rfl) (fun _ _ _ h => h) (by rfl) (by intro w' hSw; go_simp; try with_reducible rfl) ?_
  simp only [Act.put, List.setIfInBounds_toArray, List.set_cons_zero, List.set_cons_succ]
  refine going_take (i := 20) (oi := { dst := some 70, op := Op.load 42 (Operand.tmp 12), type := 42, pos := _, after := _, guard := some (19, false) }) (v := _) rfl (by kernel_rfl) (by kernel_rfl) (by kernel_rfl) (fun _ _ _ h => h) (by rfl) (by intro w' hSw; obtain ⟨c0, c1, c2, c3⟩ := pb_cells HB.out hSw; go_simp; try with_reducible rfl) ?_
  simp only [Act.put, List.setIfInBounds_toArray, List.set_cons_zero, List.set_cons_succ]
  refine going_take (i := 23) (oi := { dst := some 73, op := Op.move (Operand.tmp 0), type := 28, pos := _, after := _, guard := some (19, false) }) (v := _) rfl (by kernel_rfl) (by kernel_rfl) (by kernel_rfl) (fun _ _ _ h => h) (by rfl) (by intro w' hSw; go_simp; try with_reducible rfl) ?_
  simp only [Act.put, List.setIfInBounds_toArray, List.set_cons_zero, List.set_cons_succ]
  refine going_take (i := 24) (oi := { dst := some 74, op := Op.convert 28 9 (Operand.tmp 73), type := 9, pos := _, after := _, guard := some (19, false) }) (v := _) rfl (by kernel_rfl) (by kernel_rfl) (by kernel_rfl) (fun _ _ _ h => h) (by rfl) (by intro w' hSw; have hl := HL.out w' (HB.out.1.trans (hSw.mono HB.out.1.size)); go_simp; try with_reducible rfl) ?_
  simp only [Act.put, List.setIfInBounds_toArray, List.set_cons_zero, List.set_cons_succ]
  refine going_step (i := 21) (o := { dst := some 71, op := Op.call { callee := Callee.value (Operand.func 67), args := #[Operand.tmp 70], argTypes := #[42] }, type := 28, pos := _, after := _, guard := some (19, false) }) (by kernel_rfl) rfl (by rfl) (fun K hK => ?_)
  go_simp
  refine (HBD.out _).mono ?_
  rintro e wd ⟨v, rfl, ho, hb1⟩
  refine hK.out _ _ hb1 ?_
  replace HB := hide (pb_up HB.out hb1)
  have HQ := hide (says_owns ho)
  clear hb1 ho
  clear hK K
  try simp only [Act.put, List.setIfInBounds_toArray, List.set_cons_zero, List.set_cons_succ]
  refine going_take (i := 22) (oi := { dst := some 72, op := Op.convert 28 9 (Operand.tmp 71), type := 9, pos := _, after := _, guard := some (19, false) }) (v := _) rfl (by kernel_rfl) (by kernel_rfl) (by kernel_rfl) (fun _ _ _ h => h) (by rfl) (by intro w' hSw; have hq := HQ.out w' hSw; go_simp; try with_reducible rfl) ?_
  simp only [Act.put, List.setIfInBounds_toArray, List.set_cons_zero, List.set_cons_succ]
  refine going_take (i := 25) (oi := { dst := some 75, op := Op.binOp BinOp.neq 9 (Operand.tmp 72) (Operand.tmp 74) 9, type := 4, pos := _, after := _, guard := some (19, false) }) (v := _) rfl (by kernel_rfl) (by kernel_rfl) (by kernel_rfl) (fun _ _ _ h => h) (by rfl) (by intro w' hSw; go_simp; try with_reducible rfl) ?_
  simp only [Act.put, List.setIfInBounds_toArray, List.set_cons_zero, List.set_cons_succ]
  refine going_take (i := 26) (oi := { dst := some 76, op := Op.pick (Operand.tmp 69) (Operand.const (Value.bool true)) (Operand.tmp 75), type := 4, pos := _, after := _, guard := none }) (v := _) rfl (by kernel_rfl) (by kernel_rfl) (by kernel_rfl) (fun _ _ _ h => h) (by rfl) (by intro w' hSw; go_simp; try with_reducible rfl) ?_
  simp only [Act.put, List.setIfInBounds_toArray, List.set_cons_zero, List.set_cons_succ]
  refine going_done (by kernel_rfl) ?_
  obtain ⟨c0, c1, c2, c3⟩ := pk_cells HB.out.2.2
  obtain ⟨f0, f1, f2, f3⟩ := pk_free HB.out.2.2
  obtain ⟨d0, d1, d2, d3⟩ := pk_cells HB.out.2.1
  go_wp2
  exact bodyPost_ret (results_ct rfl _ _ w.heap.size 42 _ (0, 0) _ rfl (pk_set HB.out.2.2) Try.underlying42 rfl (by kernel_rfl)) rfl ⟨by rw [HV.out]; rfl, (((HB.out.1.setCell (Nat.le_refl _) _).setCell (Nat.le_refl _) _).setCell (Nat.le_refl _) _).setCell (Nat.le_refl _) _⟩

end Go.Proofs.Ytgeboanebdmebaa.F
