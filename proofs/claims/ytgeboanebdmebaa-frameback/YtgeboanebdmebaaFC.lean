/- frame: the document's body and Put. -/
import Derived.Test.YtgeboanebdmebaaFB
import Derived.Test.YtgeboanebdmebaaX6
namespace Go.Proofs.Ytgeboanebdmebaa.F
open Go.Proofs.Ytgeboanebdmebaa Go.RowKit Go.By
set_option linter.unusedVariables false
set_option linter.unusedSimpArgs false

theorem below_drw {B : Nat} {w X : World} (h : Below B w X) : Below B w X.drew := ⟨h.os, h.tape, h.output, h.size, h.block⟩
theorem PK.drew {w : World} {a b c : Int} {s : ByteArray} {W : World} (h : PK w a b c s W) : PK w a b c s W.drew := ⟨below_drw h.1, h.2⟩
/-- A number, behind what is owned: the document's way. -/
theorem rput_own {B : Nat} {W : World} {v : Value} {l : List Nat} (h : Owns W B v l) (hB : B ≤ W.heap.size) (hl : l.length ≤ 20000) (x : Int) :
    ∃ u cap, v = .slice u l.length cap ∧ Calls Try.prog 35 #[.slice u l.length cap, .int .i64 x] W fun e W' => ∃ v', e = .returned v' ∧ Owns W' B v' (l ++ Vary.putI x) ∧ Below W.heap.size W W' := by
  obtain ⟨u, cap, rfl, _, _, hL, hn, _⟩ := h.form
  refine ⟨u, cap, rfl, (V.refPut_any x u l cap W hL.came hn hl).mono ?_⟩
  rintro e W' ⟨v', rfl, h1, h2⟩
  exact ⟨v', rfl, h1.mono hB, h2⟩
theorem rtext_own {B : Nat} {W : World} {v : Value} {l : List Nat} (h : Owns W B v l) (hB : B ≤ W.heap.size) (hl : l.length ≤ 20000) (s : ByteArray) (hs : s.size ≤ 10000) :
    ∃ u cap, v = .slice u l.length cap ∧ Calls Try.prog 38 #[.slice u l.length cap, .string s] W fun e W' => ∃ v', e = .returned v' ∧ Owns W' B v' (l ++ Vary.putT (nums s)) ∧ Below W.heap.size W W' := by
  obtain ⟨u, cap, rfl, _, _, hL, hn, _⟩ := h.form
  refine ⟨u, cap, rfl, (V.refPutT_any s u l cap W hL.came hn hl hs).mono ?_⟩
  rintro e W' ⟨v', rfl, h1, h2⟩
  exact ⟨v', rfl, h1.mono hB, h2⟩
theorem small2 {n : Nat} (h : n ≤ 2000) : n ≤ 10000 := by omega
theorem rput_nil (x : Int) (W : World) : Calls Try.prog 35 #[.slice none 0 0, .int .i64 x] W fun e W' => ∃ v', e = .returned v' ∧ Owns W' W.heap.size v' (Vary.putI x) ∧ Below W.heap.size W W' :=
  V.refPut_any x none [] 0 W (came_none _ _) (fun _ => ⟨rfl, rfl⟩) (by simp)
theorem rput_nil2 (B : Nat) (a b c : Int) (W : World) (hB : B ≤ W.heap.size) : Calls Try.prog 35 #[.slice none 0 0, .int .i64 a] W fun e W' => ∃ v', e = .returned v' ∧ Owns W' B v' (preL a b c 1) ∧ Below W.heap.size W W' :=
  (rput_nil a W).mono fun e W' ⟨v, h, h1, h2⟩ => ⟨v, h, by rw [show preL a b c 1 = Vary.putI a by simp only [preL, nth3, List.nil_append]]; exact h1.mono hB, h2⟩
theorem rput_pre {a b c : Int} {k : Nat} {B : Nat} {W : World} {v : Value} (h : Owns W B v (preL a b c k)) (hB : B ≤ W.heap.size) (hk : k ≤ 3) (x : Int) (hx : nth3 a b c k = x) :
    ∃ u cap, v = .slice u (preL a b c k).length cap ∧ Calls Try.prog 35 #[.slice u (preL a b c k).length cap, .int .i64 x] W fun e W' => ∃ v', e = .returned v' ∧ Owns W' B v' (preL a b c (k + 1)) ∧ Below W.heap.size W W' := by
  rw [preL, hx]
  exact rput_own h hB (by have := preL_len a b c k; omega) x
theorem rtext_pre {a b c : Int} {B : Nat} {W : World} {v : Value} (h : Owns W B v (preL a b c 3)) (hB : B ≤ W.heap.size) (s : ByteArray) (hs : s.size ≤ 10000) :
    ∃ u cap, v = .slice u (preL a b c 3).length cap ∧ Calls Try.prog 38 #[.slice u (preL a b c 3).length cap, .string s] W fun e W' => ∃ v', e = .returned v' ∧ Owns W' B v' (bodyL a b c s) ∧ Below W.heap.size W W' :=
  rtext_own h hB (by have := preL_len a b c 3; omega) s hs
theorem rseal_at {B : Nat} {W : World} {p : Option Addr} {q : Nat} {l : List Nat} (h : Owns W B (.slice p l.length q) l) (hB : B ≤ W.heap.size) (hl : l.length ≤ 20000) :
    Calls Try.prog 68 #[.slice p l.length q] W fun e W' => ∃ v', e = .returned v' ∧ Owns W' B v' (Crc.sealed l) ∧ Below W.heap.size W W' := by
  obtain ⟨u, cap, e, _, _, hL, hn, _⟩ := h.form
  cases e
  refine (C.refSeal_any p l q W hL.came hn (by omega)).mono ?_
  rintro e W' ⟨v', rfl, h1, h2⟩
  exact ⟨v', rfl, h1.mono hB, h2⟩

set_option maxRecDepth 20000 in
set_option maxHeartbeats 1000000 in
theorem body_any (a b c : Int) (s : ByteArray) (w : World) (hs : s.size ≤ 2000) :
    Calls Try.prog 67 #[.agg #[.int .i64 a, .int .i64 b, .int .i64 c, .string s]] w fun e W' => ∃ v, e = .returned v ∧ Owns W' w.heap.size v (bodyL a b c s) ∧ Below w.heap.size w W' := by
  have hx := pk_new w a b c s
  have HSW := hide hx.drew
  have HS := hide hs
  clear hx hs
  go_enter Try.func67, Try.ntmps67
  go_wp2_with fail
  refine heldS_startP (S := PK w a b c s) (by kernel_rfl) ?_
  refine heldS_take (i := 0) (oi := { dst := some 3, op := Op.fieldAddr 42 (Operand.tmp 1) 0, type := 0, pos := _, after := _, guard := none }) (v := _) rfl (by kernel_rfl) (by kernel_rfl) (by kernel_rfl) (fun _ _ _ h => h) (by rfl) (by intro w' hSw; go_simp; try with_reducible rfl) HSW.out ?_
  simp only [Act.put, List.setIfInBounds_toArray, List.set_cons_zero, List.set_cons_succ]
  refine heldS_take (i := 1) (oi := { dst := some 4, op := Op.load 3 (Operand.tmp 3), type := 3, pos := _, after := _, guard := none }) (v := _) rfl (by kernel_rfl) (by kernel_rfl) (by kernel_rfl) (fun _ _ _ h => h) (by rfl) (by intro w' hSw; obtain ⟨c0, c1, c2, c3⟩ := hSw.cells; go_simp; try with_reducible rfl) HSW.out ?_
  simp only [Act.put, List.setIfInBounds_toArray, List.set_cons_zero, List.set_cons_succ]
  refine heldS_take (i := 3) (oi := { dst := some 6, op := Op.fieldAddr 42 (Operand.tmp 1) 1, type := 0, pos := _, after := _, guard := none }) (v := _) rfl (by kernel_rfl) (by kernel_rfl) (by kernel_rfl) (fun _ _ _ h => h) (by rfl) (by intro w' hSw; go_simp; try with_reducible rfl) HSW.out ?_
  simp only [Act.put, List.setIfInBounds_toArray, List.set_cons_zero, List.set_cons_succ]
  refine heldS_take (i := 4) (oi := { dst := some 7, op := Op.load 3 (Operand.tmp 6), type := 3, pos := _, after := _, guard := none }) (v := _) rfl (by kernel_rfl) (by kernel_rfl) (by kernel_rfl) (fun _ _ _ h => h) (by rfl) (by intro w' hSw; obtain ⟨c0, c1, c2, c3⟩ := hSw.cells; go_simp; try with_reducible rfl) HSW.out ?_
  simp only [Act.put, List.setIfInBounds_toArray, List.set_cons_zero, List.set_cons_succ]
  refine heldS_take (i := 6) (oi := { dst := some 9, op := Op.fieldAddr 42 (Operand.tmp 1) 2, type := 0, pos := _, after := _, guard := none }) (v := _) rfl (by kernel_rfl) (by kernel_rfl) (by kernel_rfl) (fun _ _ _ h => h) (by rfl) (by intro w' hSw; go_simp; try with_reducible rfl) HSW.out ?_
  simp only [Act.put, List.setIfInBounds_toArray, List.set_cons_zero, List.set_cons_succ]
  refine heldS_take (i := 7) (oi := { dst := some 10, op := Op.load 3 (Operand.tmp 9), type := 3, pos := _, after := _, guard := none }) (v := _) rfl (by kernel_rfl) (by kernel_rfl) (by kernel_rfl) (fun _ _ _ h => h) (by rfl) (by intro w' hSw; obtain ⟨c0, c1, c2, c3⟩ := hSw.cells; go_simp; try with_reducible rfl) HSW.out ?_
  simp only [Act.put, List.setIfInBounds_toArray, List.set_cons_zero, List.set_cons_succ]
  refine heldS_take (i := 9) (oi := { dst := some 12, op := Op.fieldAddr 42 (Operand.tmp 1) 3, type := 0, pos := _, after := _, guard := none }) (v := _) rfl (by kernel_rfl) (by kernel_rfl) (by kernel_rfl) (fun _ _ _ h => h) (by rfl) (by intro w' hSw; go_simp; try with_reducible rfl) HSW.out ?_
  simp only [Act.put, List.setIfInBounds_toArray, List.set_cons_zero, List.set_cons_succ]
  refine heldS_take (i := 10) (oi := { dst := some 13, op := Op.load 9 (Operand.tmp 12), type := 9, pos := _, after := _, guard := none }) (v := _) rfl (by kernel_rfl) (by kernel_rfl) (by kernel_rfl) (fun _ _ _ h => h) (by rfl) (by intro w' hSw; obtain ⟨c0, c1, c2, c3⟩ := hSw.cells; go_simp; try with_reducible rfl) HSW.out ?_
  simp only [Act.put, List.setIfInBounds_toArray, List.set_cons_zero, List.set_cons_succ]
  refine heldS_step (i := 2) (o := { dst := some 5, op := Op.call { callee := Callee.value (Operand.func 35), args := #[Operand.const (Value.slice none 0 0), Operand.tmp 4], argTypes := #[28, 3] }, type := 28, pos := _, after := _, guard := none }) (by kernel_rfl) rfl (by rfl) HSW.out (fun K hK => ?_)
  go_simp
  refine (rput_nil2 w.heap.size a b c _ HSW.out.lo.size).mono ?_
  rintro e W1 ⟨v1, rfl, ho, hb⟩
  replace HSW := hide (HSW.out.up hb)
  have HO1 := hide ho
  obtain ⟨u1, q1, rfl, hc1⟩ := rput_pre ho HSW.out.lo.size (by decide) b rfl
  clear hb ho
  refine hK.out _ _ ?_
  clear hK K
  try simp only [Act.put, List.setIfInBounds_toArray, List.set_cons_zero, List.set_cons_succ]
  refine heldS_step (i := 5) (o := { dst := some 8, op := Op.call { callee := Callee.value (Operand.func 35), args := #[Operand.tmp 5, Operand.tmp 7], argTypes := #[28, 3] }, type := 28, pos := _, after := _, guard := none }) (by kernel_rfl) rfl (by rfl) HSW.out (fun K hK => ?_)
  go_simp
  refine (hc1).mono ?_
  rintro e W2 ⟨v2, rfl, ho, hb⟩
  replace HSW := hide (HSW.out.up hb)
  have HO2 := hide ho
  obtain ⟨u2, q2, rfl, hc2⟩ := rput_pre ho HSW.out.lo.size (by decide) c rfl
  clear hb ho
  refine hK.out _ _ ?_
  clear hK K
  try simp only [Act.put, List.setIfInBounds_toArray, List.set_cons_zero, List.set_cons_succ]
  refine heldS_step (i := 8) (o := { dst := some 11, op := Op.call { callee := Callee.value (Operand.func 35), args := #[Operand.tmp 8, Operand.tmp 10], argTypes := #[28, 3] }, type := 28, pos := _, after := _, guard := none }) (by kernel_rfl) rfl (by rfl) HSW.out (fun K hK => ?_)
  go_simp
  refine (hc2).mono ?_
  rintro e W3 ⟨v3, rfl, ho, hb⟩
  replace HSW := hide (HSW.out.up hb)
  have HO3 := hide ho
  obtain ⟨u3, q3, rfl, hc3⟩ := rtext_pre ho HSW.out.lo.size s (small2 HS.out)
  clear hb ho
  refine hK.out _ _ ?_
  clear hK K
  try simp only [Act.put, List.setIfInBounds_toArray, List.set_cons_zero, List.set_cons_succ]
  refine heldS_step (i := 11) (o := { dst := some 14, op := Op.call { callee := Callee.value (Operand.func 38), args := #[Operand.tmp 11, Operand.tmp 13], argTypes := #[28, 9] }, type := 28, pos := _, after := _, guard := none }) (by kernel_rfl) rfl (by rfl) HSW.out (fun K hK => ?_)
  go_simp
  refine (hc3).mono ?_
  rintro e W4 ⟨v4, rfl, ho, hb⟩
  replace HSW := hide (HSW.out.up hb)
  have HO4 := hide ho
  clear hb ho
  refine hK.out _ _ ?_
  clear hK K
  try simp only [Act.put, List.setIfInBounds_toArray, List.set_cons_zero, List.set_cons_succ]
  refine heldS_take (i := 12) (oi := { dst := some 2, op := Op.assign (Operand.tmp 14), type := 28, pos := _, after := _, guard := none }) (v := _) rfl (by kernel_rfl) (by kernel_rfl) (by kernel_rfl) (fun _ _ _ h => h) (by rfl) (by intro w' hSw; go_simp; try with_reducible rfl) HSW.out ?_
  simp only [Act.put, List.setIfInBounds_toArray, List.set_cons_zero, List.set_cons_succ]
  refine heldS_done (by kernel_rfl) HSW.out ?_
  go_wp2
  go_ret
  exact ⟨_, rfl, HO4.out, HSW.out.lo⟩

set_option maxRecDepth 20000 in
set_option maxHeartbeats 8000000 in
theorem rputP_good (a b c : Int) (s : ByteArray) (w : World) (hg : goodP a b c s = true) (hs : s.size ≤ 2000) :
    Calls Try.prog 21 #[.agg #[.int .i64 a, .int .i64 b, .int .i64 c, .string s]] w fun e W' => ∃ v, e = .returned (.tuple #[v, .int .i64 0]) ∧ Owns W' w.heap.size v (frameL a b c s) ∧ Below w.heap.size w W' := by
  have hx := pk_new w a b c s
  obtain ⟨c0, c1, c2, c3⟩ := hx.cells
  have HX := hide hx
  have HG : Hid (∀ W, Calls Try.prog 23 #[.agg #[.int .i64 a, .int .i64 b, .int .i64 c, .string s]] W fun e W' => e = .returned (.bool true) ∧ Below W.heap.size W W') := hide fun W => by rw [← hg]; exact rgood_any a b c s W
  have HBD : Hid (∀ W, Calls Try.prog 67 #[.agg #[.int .i64 a, .int .i64 b, .int .i64 c, .string s]] W fun e W' => ∃ v, e = .returned v ∧ Owns W' W.heap.size v (bodyL a b c s) ∧ Below W.heap.size W W') := hide fun W => body_any a b c s W hs
  have HBL : Hid ((bodyL a b c s).length ≤ 2040) := hide (by have := bodyL_len a b c s; omega)
  have HFR : Hid (frameL a b c s = Vary.putI ((bodyL a b c s).length : Nat) ++ Crc.sealed (bodyL a b c s)) := hide rfl
  clear hx hg hs
  generalize bodyL a b c s = l at *
  go_enter Try.func21, Try.ntmps21
  go_wp2_with (first
    | (go_at_call 23; refine (HG.out _).mono ?_; rintro e W1 ⟨rfl, hb⟩; have HX1 := hide (HX.out.up hb); obtain ⟨d0, d1, d2, d3⟩ := HX1.out.cells; clear hb)
    | (go_at_call 67; refine (HBD.out _).mono ?_; rintro e W3 ⟨v3, rfl, ho, hb⟩; obtain ⟨p, q, rfl, _⟩ := ho.form; have HO3 := hide (ho.mono HX1.out.lo.size); have HX3 := hide (HX1.out.up hb); clear ho hb)
    | (go_at_call 35; refine (rput_nil _ _).mono ?_; rintro e W4 ⟨v4, rfl, ho, hb⟩; have HO4 := hide (And.intro (ho.mono HX3.out.lo.size) (HO3.out.below hb)); have HX4 := hide (HX3.out.up hb); clear ho hb)
    | (go_at_call 68; refine (rseal_at HO4.out.2 HX4.out.lo.size (by have := HBL.out; omega)).mono ?_; rintro e W5 ⟨v5, rfl, ho, hb⟩; obtain ⟨u5, c5, rfl, _, _, hL5, hn5, _⟩ := ho.form; have HO5 := hide (And.intro (HO4.out.1.below hb) (And.intro hL5 hn5)); have HX5 := hide (HX4.out.up hb); clear ho hb hL5 hn5)
    | (at_builtin; refine wpList_append_bytes rfl _ _ rfl Try.underlying28 V.Try.info5 w.heap.size _ _ rfl HO5.out.1 u5 (Crc.sealed l) (Crc.sealed l).length c5 rfl rfl HO5.out.2.1 HO5.out.2.2 (by have := Crc.sealed_length l; have := HBL.out; have := putI_len (l.length : Nat); omega) HX5.out.lo.size ?_; intro v6 W6 ho hgr; have HO6 := hide (And.intro ho (Below.app HX5.out.lo hgr HO5.out.1 (Nat.le_refl _) HX5.out.lo.size)); clear ho hgr))
  go_ret2
  exact ⟨_, rfl, by rw [HFR.out]; exact HO6.out.1, HO6.out.2⟩

theorem rputP_bad (a b c : Int) (s : ByteArray) (w : World) (hg : goodP a b c s = false) :
    Calls Try.prog 21 #[.agg #[.int .i64 a, .int .i64 b, .int .i64 c, .string s]] w fun e W' => e = .returned (.tuple #[.slice none 0 0, .int .i64 2]) ∧ Below w.heap.size w W' := by
  have hx := pk_new w a b c s
  obtain ⟨c0, c1, c2, c3⟩ := hx.cells
  have HX := hide hx
  have HG : Hid (∀ W, Calls Try.prog 23 #[.agg #[.int .i64 a, .int .i64 b, .int .i64 c, .string s]] W fun e W' => e = .returned (.bool false) ∧ Below W.heap.size W W') := hide fun W => by rw [← hg]; exact rgood_any a b c s W
  clear hx hg
  go_enter Try.func21, Try.ntmps21
  go_wp2_with (go_at_call 23; refine (HG.out _).mono ?_; rintro e W1 ⟨rfl, hb⟩; have HX1 := hide (HX.out.up hb); clear hb)
  go_ret2
  exact ⟨rfl, HX1.out.lo⟩

end Go.Proofs.Ytgeboanebdmebaa.F
