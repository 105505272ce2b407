/- FramePuts, walked. -/
import Derived.Test.YtgeboanebdmebaaFD
namespace Go.By
open Go.RowKit
theorem going_fork {P : Program} {ops : Array Oper} {Q : Exit → Act → World → Prop} {md : Region.Mode} {i j : Nat} {oi oj : Oper} {fuel : Nat} {listed : Array Bool} {a : Act} {w : World} (hr : Region.ready md ops listed = [i, j]) (ho : ops[i]? = some oi) (ho' : ops[j]? = some oj)
    (hw : Region.wanted oi (yielded ops a.tmps) = true) (hw' : Region.wanted oj (yielded ops a.tmps) = true)
    (h : ∀ K' : Act → World → Prop, Shut (∀ a' w', Below w.heap.size w w' → Going P md ops Q fuel (listed.setIfInBounds i true) a' w' → K' a' w') → Oper.wp P oi a w K' Q)
    (h' : ∀ K' : Act → World → Prop, Shut (∀ a' w', Below w.heap.size w w' → Going P md ops Q fuel (listed.setIfInBounds j true) a' w' → K' a' w') → Oper.wp P oj a w K' Q) :
    Going P md ops Q (fuel + 1) listed a w := by
  refine wpAnyH_ready hr (by simp) (AllReadyH.cons ho (fun K' hK => ?_) (AllReadyH.cons ho' (fun K' hK => ?_) AllReadyH.nil))
  · rw [if_pos hw]
    refine h K' fun a' w' hb hg => hK.out a' w' hb fun _ => ?_
    exact wpAnyH_mono (fun w2 h2 => hb.trans (h2.mono hb.size)) fuel _ a' w' hg
  · rw [if_pos hw']
    refine h' K' fun a' w' hb hg => hK.out a' w' hb fun _ => ?_
    exact wpAnyH_mono (fun w2 h2 => hb.trans (h2.mono hb.size)) fuel _ a' w' hg
end Go.By
namespace Go.Proofs.Ytgeboanebdmebaa.F
open Go.Proofs.Ytgeboanebdmebaa Go.RowKit Go.By
set_option linter.unusedVariables false
set_option linter.unusedSimpArgs false
attribute [local go_sem ↓] Go.wp_at_zero Go.wp_at_succ

theorem says_on {W Y : World} {v u : Value} (h : ∀ w', Below W.heap.size W w' → (convert 28 9 v).run Try.prog w' = .ok u w') (hb : Below W.heap.size W Y) : ∀ w', Below Y.heap.size Y w' → (convert 28 9 v).run Try.prog w' = .ok u w' := fun w' k => h w' (hb.trans (k.mono hb.size))
/-- A call that tells a frame, or an error. -/
def TellsF (f : Nat) (a b c : Int) (s : ByteArray) (l : List Nat) (z : Int) : Prop := ∀ W, Calls Try.prog f #[.agg #[.int .i64 a, .int .i64 b, .int .i64 c, .string s]] W fun e W' => ∃ u n q, e = .returned (.tuple #[.slice u n q, .int .i64 z]) ∧ (∀ w', Below W'.heap.size W' w' → (convert 28 9 (.slice u n q)).run Try.prog w' = .ok (.string (str l)) w') ∧ Below W.heap.size W W'
theorem tells_owned {f : Nat} {a b c : Int} {s : ByteArray} {l : List Nat} {z : Int} (h : ∀ W, Calls Try.prog f #[.agg #[.int .i64 a, .int .i64 b, .int .i64 c, .string s]] W fun e W' => ∃ v, e = .returned (.tuple #[v, .int .i64 z]) ∧ Owns W' W.heap.size v l ∧ Below W.heap.size W W') : TellsF f a b c s l z := fun W =>
  (h W).mono fun e W' ⟨v, he, ho, hb⟩ => by
    have hs := says_owns ho
    obtain ⟨u, q, rfl, _⟩ := ho.form
    exact ⟨u, _, q, he, hs, hb⟩
theorem tells_none {f : Nat} {a b c : Int} {s : ByteArray} {z : Int} (h : ∀ W, Calls Try.prog f #[.agg #[.int .i64 a, .int .i64 b, .int .i64 c, .string s]] W fun e W' => e = .returned (.tuple #[.slice none 0 0, .int .i64 z]) ∧ Below W.heap.size W W') : TellsF f a b c s [] z := fun W =>
  (h W).mono fun e W' ⟨he, hb⟩ => ⟨none, 0, 0, he, says_lies ⟨by simp, .inl rfl⟩ rfl 0, hb⟩

set_option maxRecDepth 20000 in
set_option maxHeartbeats 4000000 in
theorem puts_walk (a b c : Int) (s : ByteArray) (w : World) (l : List Nat) (z : Int) (g : Bool) (h20 : TellsF 20 a b c s l z) (h21 : TellsF 21 a b c s l z)
    (h22 : ∀ W, Calls Try.prog 22 #[.agg #[.int .i64 a, .int .i64 b, .int .i64 c, .string s]] W fun e W' => e = .returned (.bool g) ∧ Below W.heap.size W W') (h23 : ∀ W, Calls Try.prog 23 #[.agg #[.int .i64 a, .int .i64 b, .int .i64 c, .string s]] W fun e W' => e = .returned (.bool g) ∧ Below W.heap.size W W')
    (hs : s.size ≤ 131072) (hs2 : s.size ≤ 2000 ∨ 65536 < s.size) :
    Calls Try.prog 6 #[.agg #[.int .i64 a, .int .i64 b, .int .i64 c, .string s]] w fun e W' => e = .returned (.bool true) ∧ Below w.heap.size w W' := by
  have hx := pk_new w a b c s
  obtain ⟨k0, k1, k2, k3⟩ := hx.cells
  have HX0 := hide hx
  have H20 := hide h20
  have H21 := hide h21
  have H22 := hide h22
  have H23 := hide h23
  have n3 : ¬ (131072 : Int) < (s.size : Int) := by omega
  clear hx h20 h21 h22 h23 hs
  rcases hs2 with h | h
  · have n1 : ¬ (2000 : Int) < (s.size : Int) := by omega
    clear h
    go_enter Try.func6, Try.ntmps6
    go_wp2_with (first
      | (go_at_call 20; refine (H20.out _).mono ?_; rintro e W1 ⟨u1, m1, q1, rfl, hq, hb⟩; have HX1 := hide (HX0.out.up hb); have HS1 := hide hq; obtain ⟨d0, d1, d2, d3⟩ := HX1.out.cells; clear hb hq)
      | (go_at_call 21; refine (H21.out _).mono ?_; rintro e W2 ⟨u2, m2, q2, rfl, hq, hb⟩; have HX2 := hide (HX1.out.up hb); have HS2 := hide hq; have HS3 := hide hb; clear hb hq))
    have HQ1 : Hid (∀ w', Below W2.drew.heap.size W2.drew w' → (convert 28 9 (.slice u1 m1 q1)).run Try.prog w' = .ok (.string (str l)) w') := hide fun w' h => HS1.out w' (HS3.out.trans ((show Below W2.heap.size W2 w' from ⟨h.os, h.tape, h.output, h.size, h.block⟩).mono HS3.out.size))
    have HQ2 : Hid (∀ w', Below W2.drew.heap.size W2.drew w' → (convert 28 9 (.slice u2 m2 q2)).run Try.prog w' = .ok (.string (str l)) w') := hide fun w' h => HS2.out w' ⟨h.os, h.tape, h.output, h.size, h.block⟩
    have HX : Hid (PK w a b c s W2.drew) := hide HX2.out.drew
    have HB : Hid (Below w.heap.size w W2.drew) := hide HX.out.lo
    clear HS1 HS2 HS3 HX1 HX2 H20 H21 k0 k1 k2 k3 d0 d1 d2 d3
    refine going_start (by kernel_rfl) ?_
    generalize W2.drew = wd at *
    refine going_take (i := 0) (oi := { dst := some 34, op := Op.load 42 (Operand.tmp 1), type := 42, pos := _, after := _, guard := none }) (v := _) rfl (by kernel_rfl) (by kernel_rfl) (by kernel_rfl) (fun _ _ _ h => h) (by rfl) (by intro w' hSw; obtain ⟨c0, c1, c2, c3⟩ := (HX.out.up hSw).cells; go_simp; try with_reducible rfl) ?_
    simp only [Act.put, List.setIfInBounds_toArray, List.set_cons_zero, List.set_cons_succ]
    refine going_take (i := 2) (oi := { dst := some 36, op := Op.load 42 (Operand.tmp 1), type := 42, pos := _, after := _, guard := none }) (v := _) rfl (by kernel_rfl) (by kernel_rfl) (by kernel_rfl) (fun _ _ _ h => h) (by rfl) (by intro w' hSw; obtain ⟨c0, c1, c2, c3⟩ := (HX.out.up hSw).cells; go_simp; try with_reducible rfl) ?_
    simp only [Act.put, List.setIfInBounds_toArray, List.set_cons_zero, List.set_cons_succ]
    refine going_step (i := 1) (o := { dst := some 35, op := Op.call { callee := Callee.value (Operand.func 22), args := #[Operand.tmp 34], argTypes := #[42] }, type := 4, pos := _, after := _, guard := none }) (by kernel_rfl) rfl (by rfl) (fun K hK => ?_)
    go_simp
    refine (H22.out _).mono ?_
    rintro e wd ⟨rfl, hb1⟩
    refine hK.out _ _ hb1 ?_
    replace HB := hide (HB.out.trans (hb1.mono HB.out.size))
    replace HQ1 := hide (says_on HQ1.out hb1)
    replace HQ2 := hide (says_on HQ2.out hb1)
    clear hb1
    clear hK K
    try simp only [Act.put, List.setIfInBounds_toArray, List.set_cons_zero, List.set_cons_succ]
    refine going_step (i := 3) (o := { dst := some 37, op := Op.call { callee := Callee.value (Operand.func 23), args := #[Operand.tmp 36], argTypes := #[42] }, type := 4, pos := _, after := _, guard := none }) (by kernel_rfl) rfl (by rfl) (fun K hK => ?_)
    go_simp
    refine (H23.out _).mono ?_
    rintro e wd ⟨rfl, hb1⟩
    refine hK.out _ _ hb1 ?_
    replace HB := hide (HB.out.trans (hb1.mono HB.out.size))
    replace HQ1 := hide (says_on HQ1.out hb1)
    replace HQ2 := hide (says_on HQ2.out hb1)
    clear hb1
    clear hK K
    try simp only [Act.put, List.setIfInBounds_toArray, List.set_cons_zero, List.set_cons_succ]
    refine going_take (i := 4) (oi := { dst := some 38, op := Op.binOp BinOp.eql 4 (Operand.tmp 35) (Operand.tmp 37) 4, type := 4, pos := _, after := _, guard := none }) (v := _) rfl (by kernel_rfl) (by kernel_rfl) (by kernel_rfl) (fun _ _ _ h => h) (by rfl) (by intro w' hSw; go_simp; try with_reducible rfl) ?_
    simp only [Act.put, List.setIfInBounds_toArray, List.set_cons_zero, List.set_cons_succ]
    refine going_take (i := 5) (oi := { dst := some 39, op := Op.move (Operand.tmp 38), type := 4, pos := _, after := _, guard := none }) (v := _) rfl (by kernel_rfl) (by kernel_rfl) (by kernel_rfl) (fun _ _ _ h => h) (by rfl) (by intro w' hSw; go_simp; try with_reducible rfl) ?_
    simp only [Act.put, List.setIfInBounds_toArray, List.set_cons_zero, List.set_cons_succ]
    refine going_take (i := 6) (oi := { dst := some 40, op := Op.move (Operand.tmp 3), type := 28, pos := _, after := _, guard := some (5, true) }) (v := _) rfl (by kernel_rfl) (by kernel_rfl) (by kernel_rfl) (fun _ _ _ h => h) (by rfl) (by intro w' hSw; go_simp; try with_reducible rfl) ?_
    simp only [Act.put, List.setIfInBounds_toArray, List.set_cons_zero, List.set_cons_succ]
    refine going_take (i := 7) (oi := { dst := some 41, op := Op.convert 28 9 (Operand.tmp 40), type := 9, pos := _, after := _, guard := some (5, true) }) (v := _) rfl (by kernel_rfl) (by kernel_rfl) (by kernel_rfl) (fun _ _ _ h => h) (by rfl) (by intro w' hSw; have hq := HQ1.out w' hSw; go_simp; try with_reducible rfl) ?_
    simp only [Act.put, List.setIfInBounds_toArray, List.set_cons_zero, List.set_cons_succ]
    refine going_take (i := 8) (oi := { dst := some 42, op := Op.move (Operand.tmp 5), type := 28, pos := _, after := _, guard := some (5, true) }) (v := _) rfl (by kernel_rfl) (by kernel_rfl) (by kernel_rfl) (fun _ _ _ h => h) (by rfl) (by intro w' hSw; go_simp; try with_reducible rfl) ?_
    simp only [Act.put, List.setIfInBounds_toArray, List.set_cons_zero, List.set_cons_succ]
    refine going_take (i := 9) (oi := { dst := some 43, op := Op.convert 28 9 (Operand.tmp 42), type := 9, pos := _, after := _, guard := some (5, true) }) (v := _) rfl (by kernel_rfl) (by kernel_rfl) (by kernel_rfl) (fun _ _ _ h => h) (by rfl) (by intro w' hSw; have hq := HQ2.out w' hSw; go_simp; try with_reducible rfl) ?_
    simp only [Act.put, List.setIfInBounds_toArray, List.set_cons_zero, List.set_cons_succ]
    refine going_take (i := 10) (oi := { dst := some 44, op := Op.binOp BinOp.eql 9 (Operand.tmp 41) (Operand.tmp 43) 9, type := 4, pos := _, after := _, guard := some (5, true) }) (v := _) rfl (by kernel_rfl) (by kernel_rfl) (by kernel_rfl) (fun _ _ _ h => h) (by rfl) (by intro w' hSw; go_simp; try with_reducible rfl) ?_
    simp only [Act.put, List.setIfInBounds_toArray, List.set_cons_zero, List.set_cons_succ]
    refine going_take (i := 11) (oi := { dst := some 45, op := Op.pick (Operand.tmp 39) (Operand.tmp 44) (Operand.const (Value.bool false)), type := 4, pos := _, after := _, guard := none }) (v := _) rfl (by kernel_rfl) (by kernel_rfl) (by kernel_rfl) (fun _ _ _ h => h) (by rfl) (by intro w' hSw; go_simp; try with_reducible rfl) ?_
    simp only [Act.put, List.setIfInBounds_toArray, List.set_cons_zero, List.set_cons_succ]
    refine going_take (i := 12) (oi := { dst := some 46, op := Op.move (Operand.tmp 45), type := 4, pos := _, after := _, guard := none }) (v := _) rfl (by kernel_rfl) (by kernel_rfl) (by kernel_rfl) (fun _ _ _ h => h) (by rfl) (by intro w' hSw; go_simp; try with_reducible rfl) ?_
    simp only [Act.put, List.setIfInBounds_toArray, List.set_cons_zero, List.set_cons_succ]
    refine going_take (i := 13) (oi := { dst := some 47, op := Op.move (Operand.tmp 4), type := 29, pos := _, after := _, guard := some (12, true) }) (v := _) rfl (by kernel_rfl) (by kernel_rfl) (by kernel_rfl) (fun _ _ _ h => h) (by rfl) (by intro w' hSw; go_simp; try with_reducible rfl) ?_
    simp only [Act.put, List.setIfInBounds_toArray, List.set_cons_zero, List.set_cons_succ]
    refine going_take (i := 14) (oi := { dst := some 48, op := Op.move (Operand.tmp 6), type := 3, pos := _, after := _, guard := some (12, true) }) (v := _) rfl (by kernel_rfl) (by kernel_rfl) (by kernel_rfl) (fun _ _ _ h => h) (by rfl) (by intro w' hSw; go_simp; try with_reducible rfl) ?_
    simp only [Act.put, List.setIfInBounds_toArray, List.set_cons_zero, List.set_cons_succ]
    refine going_take (i := 15) (oi := { dst := some 49, op := Op.binOp BinOp.eql 3 (Operand.tmp 47) (Operand.tmp 48) 3, type := 4, pos := _, after := _, guard := some (12, true) }) (v := _) rfl (by kernel_rfl) (by kernel_rfl) (by kernel_rfl) (fun _ _ _ h => h) (by rfl) (by intro w' hSw; go_simp; try with_reducible rfl) ?_
    simp only [Act.put, List.setIfInBounds_toArray, List.set_cons_zero, List.set_cons_succ]
    refine going_take (i := 16) (oi := { dst := some 50, op := Op.pick (Operand.tmp 46) (Operand.tmp 49) (Operand.const (Value.bool false)), type := 4, pos := _, after := _, guard := none }) (v := _) rfl (by kernel_rfl) (by kernel_rfl) (by kernel_rfl) (fun _ _ _ h => h) (by rfl) (by intro w' hSw; go_simp; try with_reducible rfl) ?_
    simp only [Act.put, List.setIfInBounds_toArray, List.set_cons_zero, List.set_cons_succ]
    refine going_take (i := 17) (oi := { dst := some 51, op := Op.move (Operand.tmp 50), type := 4, pos := _, after := _, guard := none }) (v := _) rfl (by kernel_rfl) (by kernel_rfl) (by kernel_rfl) (fun _ _ _ h => h) (by rfl) (by intro w' hSw; go_simp; try with_reducible rfl) ?_
    simp only [Act.put, List.setIfInBounds_toArray, List.set_cons_zero, List.set_cons_succ]
    refine going_step (i := 18) (o := { dst := some 52, op := Op.call { callee := Callee.value (Operand.func 19), args := #[], argTypes := #[] }, type := 4, pos := _, after := _, guard := some (17, true) }) (by kernel_rfl) rfl (by rfl) (fun K hK => ?_)
    go_simp
    refine (lives_any _).mono ?_
    rintro e wd ⟨rfl, hb1⟩
    refine hK.out _ _ hb1 ?_
    replace HB := hide (HB.out.trans (hb1.mono HB.out.size))
    replace HQ1 := hide (says_on HQ1.out hb1)
    replace HQ2 := hide (says_on HQ2.out hb1)
    clear hb1
    clear hK K
    try simp only [Act.put, List.setIfInBounds_toArray, List.set_cons_zero, List.set_cons_succ]
    refine going_take (i := 19) (oi := { dst := some 53, op := Op.pick (Operand.tmp 51) (Operand.tmp 52) (Operand.const (Value.bool false)), type := 4, pos := _, after := _, guard := none }) (v := _) rfl (by kernel_rfl) (by kernel_rfl) (by kernel_rfl) (fun _ _ _ h => h) (by rfl) (by intro w' hSw; go_simp; try with_reducible rfl) ?_
    simp only [Act.put, List.setIfInBounds_toArray, List.set_cons_zero, List.set_cons_succ]
    refine going_take (i := 20) (oi := { dst := some 2, op := Op.assign (Operand.tmp 53), type := 4, pos := _, after := _, guard := none }) (v := _) rfl (by kernel_rfl) (by kernel_rfl) (by kernel_rfl) (fun _ _ _ h => h) (by rfl) (by intro w' hSw; go_simp; try with_reducible rfl) ?_
    simp only [Act.put, List.setIfInBounds_toArray, List.set_cons_zero, List.set_cons_succ]
    refine going_done (by kernel_rfl) ?_
    all_goals
      go_wp2
      go_ret
      exact ⟨rfl, HB.out⟩
  · have n1 : (2000 : Int) < (s.size : Int) := by omega
    have n2 : ¬ (s.size : Int) ≤ 65536 := by omega
    clear h
    go_enter Try.func6, Try.ntmps6
    go_wp2_with (first
      | (go_at_call 20; refine (H20.out _).mono ?_; rintro e W1 ⟨u1, m1, q1, rfl, hq, hb⟩; have HX1 := hide (HX0.out.up hb); have HS1 := hide hq; obtain ⟨d0, d1, d2, d3⟩ := HX1.out.cells; clear hb hq)
      | (go_at_call 21; refine (H21.out _).mono ?_; rintro e W2 ⟨u2, m2, q2, rfl, hq, hb⟩; have HX2 := hide (HX1.out.up hb); have HS2 := hide hq; have HS3 := hide hb; clear hb hq))
    have HQ1 : Hid (∀ w', Below W2.drew.heap.size W2.drew w' → (convert 28 9 (.slice u1 m1 q1)).run Try.prog w' = .ok (.string (str l)) w') := hide fun w' h => HS1.out w' (HS3.out.trans ((show Below W2.heap.size W2 w' from ⟨h.os, h.tape, h.output, h.size, h.block⟩).mono HS3.out.size))
    have HQ2 : Hid (∀ w', Below W2.drew.heap.size W2.drew w' → (convert 28 9 (.slice u2 m2 q2)).run Try.prog w' = .ok (.string (str l)) w') := hide fun w' h => HS2.out w' ⟨h.os, h.tape, h.output, h.size, h.block⟩
    have HX : Hid (PK w a b c s W2.drew) := hide HX2.out.drew
    have HB : Hid (Below w.heap.size w W2.drew) := hide HX.out.lo
    clear HS1 HS2 HS3 HX1 HX2 H20 H21 k0 k1 k2 k3 d0 d1 d2 d3
    refine going_start (by kernel_rfl) ?_
    generalize W2.drew = wd at *
    refine going_take (i := 0) (oi := { dst := some 34, op := Op.load 42 (Operand.tmp 1), type := 42, pos := _, after := _, guard := none }) (v := _) rfl (by kernel_rfl) (by kernel_rfl) (by kernel_rfl) (fun _ _ _ h => h) (by rfl) (by intro w' hSw; obtain ⟨c0, c1, c2, c3⟩ := (HX.out.up hSw).cells; go_simp; try with_reducible rfl) ?_
    simp only [Act.put, List.setIfInBounds_toArray, List.set_cons_zero, List.set_cons_succ]
    refine going_take (i := 2) (oi := { dst := some 36, op := Op.load 42 (Operand.tmp 1), type := 42, pos := _, after := _, guard := none }) (v := _) rfl (by kernel_rfl) (by kernel_rfl) (by kernel_rfl) (fun _ _ _ h => h) (by rfl) (by intro w' hSw; obtain ⟨c0, c1, c2, c3⟩ := (HX.out.up hSw).cells; go_simp; try with_reducible rfl) ?_
    simp only [Act.put, List.setIfInBounds_toArray, List.set_cons_zero, List.set_cons_succ]
    refine going_step (i := 1) (o := { dst := some 35, op := Op.call { callee := Callee.value (Operand.func 22), args := #[Operand.tmp 34], argTypes := #[42] }, type := 4, pos := _, after := _, guard := none }) (by kernel_rfl) rfl (by rfl) (fun K hK => ?_)
    go_simp
    refine (H22.out _).mono ?_
    rintro e wd ⟨rfl, hb1⟩
    refine hK.out _ _ hb1 ?_
    replace HB := hide (HB.out.trans (hb1.mono HB.out.size))
    replace HQ1 := hide (says_on HQ1.out hb1)
    replace HQ2 := hide (says_on HQ2.out hb1)
    clear hb1
    clear hK K
    try simp only [Act.put, List.setIfInBounds_toArray, List.set_cons_zero, List.set_cons_succ]
    refine going_step (i := 3) (o := { dst := some 37, op := Op.call { callee := Callee.value (Operand.func 23), args := #[Operand.tmp 36], argTypes := #[42] }, type := 4, pos := _, after := _, guard := none }) (by kernel_rfl) rfl (by rfl) (fun K hK => ?_)
    go_simp
    refine (H23.out _).mono ?_
    rintro e wd ⟨rfl, hb1⟩
    refine hK.out _ _ hb1 ?_
    replace HB := hide (HB.out.trans (hb1.mono HB.out.size))
    replace HQ1 := hide (says_on HQ1.out hb1)
    replace HQ2 := hide (says_on HQ2.out hb1)
    clear hb1
    clear hK K
    try simp only [Act.put, List.setIfInBounds_toArray, List.set_cons_zero, List.set_cons_succ]
    refine going_take (i := 4) (oi := { dst := some 38, op := Op.binOp BinOp.eql 4 (Operand.tmp 35) (Operand.tmp 37) 4, type := 4, pos := _, after := _, guard := none }) (v := _) rfl (by kernel_rfl) (by kernel_rfl) (by kernel_rfl) (fun _ _ _ h => h) (by rfl) (by intro w' hSw; go_simp; try with_reducible rfl) ?_
    simp only [Act.put, List.setIfInBounds_toArray, List.set_cons_zero, List.set_cons_succ]
    refine going_take (i := 5) (oi := { dst := some 39, op := Op.move (Operand.tmp 38), type := 4, pos := _, after := _, guard := none }) (v := _) rfl (by kernel_rfl) (by kernel_rfl) (by kernel_rfl) (fun _ _ _ h => h) (by rfl) (by intro w' hSw; go_simp; try with_reducible rfl) ?_
    simp only [Act.put, List.setIfInBounds_toArray, List.set_cons_zero, List.set_cons_succ]
    refine going_take (i := 6) (oi := { dst := some 40, op := Op.move (Operand.tmp 3), type := 28, pos := _, after := _, guard := some (5, true) }) (v := _) rfl (by kernel_rfl) (by kernel_rfl) (by kernel_rfl) (fun _ _ _ h => h) (by rfl) (by intro w' hSw; go_simp; try with_reducible rfl) ?_
    simp only [Act.put, List.setIfInBounds_toArray, List.set_cons_zero, List.set_cons_succ]
    refine going_take (i := 7) (oi := { dst := some 41, op := Op.convert 28 9 (Operand.tmp 40), type := 9, pos := _, after := _, guard := some (5, true) }) (v := _) rfl (by kernel_rfl) (by kernel_rfl) (by kernel_rfl) (fun _ _ _ h => h) (by rfl) (by intro w' hSw; have hq := HQ1.out w' hSw; go_simp; try with_reducible rfl) ?_
    simp only [Act.put, List.setIfInBounds_toArray, List.set_cons_zero, List.set_cons_succ]
    refine going_take (i := 8) (oi := { dst := some 42, op := Op.move (Operand.tmp 5), type := 28, pos := _, after := _, guard := some (5, true) }) (v := _) rfl (by kernel_rfl) (by kernel_rfl) (by kernel_rfl) (fun _ _ _ h => h) (by rfl) (by intro w' hSw; go_simp; try with_reducible rfl) ?_
    simp only [Act.put, List.setIfInBounds_toArray, List.set_cons_zero, List.set_cons_succ]
    refine going_take (i := 9) (oi := { dst := some 43, op := Op.convert 28 9 (Operand.tmp 42), type := 9, pos := _, after := _, guard := some (5, true) }) (v := _) rfl (by kernel_rfl) (by kernel_rfl) (by kernel_rfl) (fun _ _ _ h => h) (by rfl) (by intro w' hSw; have hq := HQ2.out w' hSw; go_simp; try with_reducible rfl) ?_
    simp only [Act.put, List.setIfInBounds_toArray, List.set_cons_zero, List.set_cons_succ]
    refine going_take (i := 10) (oi := { dst := some 44, op := Op.binOp BinOp.eql 9 (Operand.tmp 41) (Operand.tmp 43) 9, type := 4, pos := _, after := _, guard := some (5, true) }) (v := _) rfl (by kernel_rfl) (by kernel_rfl) (by kernel_rfl) (fun _ _ _ h => h) (by rfl) (by intro w' hSw; go_simp; try with_reducible rfl) ?_
    simp only [Act.put, List.setIfInBounds_toArray, List.set_cons_zero, List.set_cons_succ]
    refine going_take (i := 11) (oi := { dst := some 45, op := Op.pick (Operand.tmp 39) (Operand.tmp 44) (Operand.const (Value.bool false)), type := 4, pos := _, after := _, guard := none }) (v := _) rfl (by kernel_rfl) (by kernel_rfl) (by kernel_rfl) (fun _ _ _ h => h) (by rfl) (by intro w' hSw; go_simp; try with_reducible rfl) ?_
    simp only [Act.put, List.setIfInBounds_toArray, List.set_cons_zero, List.set_cons_succ]
    refine going_take (i := 12) (oi := { dst := some 46, op := Op.move (Operand.tmp 45), type := 4, pos := _, after := _, guard := none }) (v := _) rfl (by kernel_rfl) (by kernel_rfl) (by kernel_rfl) (fun _ _ _ h => h) (by rfl) (by intro w' hSw; go_simp; try with_reducible rfl) ?_
    simp only [Act.put, List.setIfInBounds_toArray, List.set_cons_zero, List.set_cons_succ]
    refine going_take (i := 13) (oi := { dst := some 47, op := Op.move (Operand.tmp 4), type := 29, pos := _, after := _, guard := some (12, true) }) (v := _) rfl (by kernel_rfl) (by kernel_rfl) (by kernel_rfl) (fun _ _ _ h => h) (by rfl) (by intro w' hSw; go_simp; try with_reducible rfl) ?_
    simp only [Act.put, List.setIfInBounds_toArray, List.set_cons_zero, List.set_cons_succ]
    refine going_take (i := 14) (oi := { dst := some 48, op := Op.move (Operand.tmp 6), type := 3, pos := _, after := _, guard := some (12, true) }) (v := _) rfl (by kernel_rfl) (by kernel_rfl) (by kernel_rfl) (fun _ _ _ h => h) (by rfl) (by intro w' hSw; go_simp; try with_reducible rfl) ?_
    simp only [Act.put, List.setIfInBounds_toArray, List.set_cons_zero, List.set_cons_succ]
    refine going_take (i := 15) (oi := { dst := some 49, op := Op.binOp BinOp.eql 3 (Operand.tmp 47) (Operand.tmp 48) 3, type := 4, pos := _, after := _, guard := some (12, true) }) (v := _) rfl (by kernel_rfl) (by kernel_rfl) (by kernel_rfl) (fun _ _ _ h => h) (by rfl) (by intro w' hSw; go_simp; try with_reducible rfl) ?_
    simp only [Act.put, List.setIfInBounds_toArray, List.set_cons_zero, List.set_cons_succ]
    refine going_take (i := 16) (oi := { dst := some 50, op := Op.pick (Operand.tmp 46) (Operand.tmp 49) (Operand.const (Value.bool false)), type := 4, pos := _, after := _, guard := none }) (v := _) rfl (by kernel_rfl) (by kernel_rfl) (by kernel_rfl) (fun _ _ _ h => h) (by rfl) (by intro w' hSw; go_simp; try with_reducible rfl) ?_
    simp only [Act.put, List.setIfInBounds_toArray, List.set_cons_zero, List.set_cons_succ]
    refine going_take (i := 17) (oi := { dst := some 51, op := Op.move (Operand.tmp 50), type := 4, pos := _, after := _, guard := none }) (v := _) rfl (by kernel_rfl) (by kernel_rfl) (by kernel_rfl) (fun _ _ _ h => h) (by rfl) (by intro w' hSw; go_simp; try with_reducible rfl) ?_
    simp only [Act.put, List.setIfInBounds_toArray, List.set_cons_zero, List.set_cons_succ]
    refine going_step (i := 18) (o := { dst := some 52, op := Op.call { callee := Callee.value (Operand.func 19), args := #[], argTypes := #[] }, type := 4, pos := _, after := _, guard := some (17, true) }) (by kernel_rfl) rfl (by rfl) (fun K hK => ?_)
    go_simp
    refine (lives_any _).mono ?_
    rintro e wd ⟨rfl, hb1⟩
    refine hK.out _ _ hb1 ?_
    replace HB := hide (HB.out.trans (hb1.mono HB.out.size))
    replace HQ1 := hide (says_on HQ1.out hb1)
    replace HQ2 := hide (says_on HQ2.out hb1)
    clear hb1
    clear hK K
    try simp only [Act.put, List.setIfInBounds_toArray, List.set_cons_zero, List.set_cons_succ]
    refine going_take (i := 19) (oi := { dst := some 53, op := Op.pick (Operand.tmp 51) (Operand.tmp 52) (Operand.const (Value.bool false)), type := 4, pos := _, after := _, guard := none }) (v := _) rfl (by kernel_rfl) (by kernel_rfl) (by kernel_rfl) (fun _ _ _ h => h) (by rfl) (by intro w' hSw; go_simp; try with_reducible rfl) ?_
    simp only [Act.put, List.setIfInBounds_toArray, List.set_cons_zero, List.set_cons_succ]
    refine going_take (i := 20) (oi := { dst := some 2, op := Op.assign (Operand.tmp 53), type := 4, pos := _, after := _, guard := none }) (v := _) rfl (by kernel_rfl) (by kernel_rfl) (by kernel_rfl) (fun _ _ _ h => h) (by rfl) (by intro w' hSw; go_simp; try with_reducible rfl) ?_
    simp only [Act.put, List.setIfInBounds_toArray, List.set_cons_zero, List.set_cons_succ]
    refine going_done (by kernel_rfl) ?_
    all_goals
      go_wp2
      go_ret
      exact ⟨rfl, HB.out⟩

set_option maxRecDepth 20000 in
set_option maxHeartbeats 4000000 in
theorem framePuts_any (a b c : Int) (s : ByteArray) (w : World) :
    Calls Try.prog 6 #[.agg #[.int .i64 a, .int .i64 b, .int .i64 c, .string s]] w fun e W' => e = .returned (.bool true) ∧ Below w.heap.size w W' := by
  by_cases he : (2000 < s.size ∧ s.size ≤ 65536) ∨ 131072 < s.size
  · have hx := pk_new w a b c s
    obtain ⟨k0, k1, k2, k3⟩ := hx.cells
    have HX0 := hide hx
    clear hx
    rcases he with ⟨h1, h2⟩ | h1
    · have n1 : (2000 : Int) < (s.size : Int) := by omega
      have n2 : (s.size : Int) ≤ 65536 := by omega
      clear h1 h2
      go_enter Try.func6, Try.ntmps6
      go_wp2_with (go_at_call 19; refine (lives_any _).mono ?_; rintro e W1 ⟨rfl, hb⟩; have HX1 := hide (HX0.out.up hb); clear hb)
      go_ret
      exact ⟨rfl, HX1.out.lo⟩
    · have n1 : (2000 : Int) < (s.size : Int) := by omega
      have n2 : ¬ (s.size : Int) ≤ 65536 := by omega
      have n3 : (131072 : Int) < (s.size : Int) := by omega
      clear h1
      go_enter Try.func6, Try.ntmps6
      go_wp2_with (go_at_call 19; refine (lives_any _).mono ?_; rintro e W1 ⟨rfl, hb⟩; have HX1 := hide (HX0.out.up hb); clear hb)
      go_ret
      exact ⟨rfl, HX1.out.lo⟩
  · have hs : s.size ≤ 131072 := by omega
    have hs2 : s.size ≤ 2000 ∨ 65536 < s.size := by omega
    cases hg : goodP a b c s with
    | true =>
      have h64 : s.size ≤ 65536 := by
        rw [goodP] at hg; simp only [Bool.and_eq_true, decide_eq_true_eq] at hg; exact hg.1.2
      have h2000 : s.size ≤ 2000 := by omega
      exact puts_walk a b c s w _ 0 true (tells_owned fun W => put_good a b c s W hg h2000) (tells_owned fun W => rputP_good a b c s W hg h2000) (fun W => by rw [← hg]; exact good_any a b c s W) (fun W => by rw [← hg]; exact rgood_any a b c s W) hs hs2
    | false =>
      exact puts_walk a b c s w _ 2 false (tells_none fun W => put_bad a b c s W hg) (tells_none fun W => rputP_bad a b c s W hg) (fun W => by rw [← hg]; exact good_any a b c s W) (fun W => by rw [← hg]; exact rgood_any a b c s W) hs hs2

end Go.Proofs.Ytgeboanebdmebaa.F
