/- Whatever bytes, number and text come in, the call VaryPuts returns true and writes nothing that was there. -/
import Derived.Test.YtaichjkenfnkbaaLives
namespace Go.Proofs.Ytaichjkenfnkbaa
open Go.RowKit Go.By
set_option linter.unusedVariables false
attribute [local go_sem ↓] Go.wp_at_zero Go.wp_at_succ

theorem says_owns {w : World} {base : Nat} {v : Value} {l : List Nat} (h : Owns w base v l) : ∀ w', Below w.heap.size w w' → (convert 22 9 v).run Try.prog w' = .ok (.string (str l)) w' := by
  intro w' hb
  obtain ⟨a, cap, rfl, _, _, hL, _⟩ := (h.below hb).form
  exact run_str 22 5 9 Try.underlying22 Try.underlying5 Try.underlying9 hL _ cap rfl

set_option maxHeartbeats 4000000 in
set_option maxRecDepth 20000 in
theorem puts_walk (a : Option Addr) (l : List Nat) (cap : Nat) (z : Int) (s : ByteArray) (w : World) (hL : Came w.heap.size w a l) (hnil : a = none → l = [] ∧ cap = 0) (hm : l.length + s.size ≤ 4000) (z1 : -9223372036854775808 ≤ z) (z2 : z ≤ 9223372036854775807) :
    Calls Try.prog 3 #[.slice a l.length cap, .int .i64 z, .string s] w fun e w' => e = .returned (.bool true) ∧ Below w.heap.size w w' := by
  have HL := hide hL
  have HN := hide hnil
  clear hL hnil
  have hd : decide ((4000 : Int) < (l.length : Int) + (s.size : Int)) = false := by simp; omega
  go_enter Try.func3, Try.ntmps3
  go_wp2_with fail
  have HB : Hid (Below w.heap.size w w.drew) := (Below.refl _ _).drew
  refine going_start (by kernel_rfl) ?_
  generalize w.drew = wd at *
  refine going_take (i := 0) (oi := { dst := some 14, op := Op.move (Operand.tmp 0), type := 22, pos := _, after := _, guard := none }) (v := _) rfl (by kernel_rfl) (by kernel_rfl) (by kernel_rfl) (fun _ _ _ h => h) (by rfl) (by intro w' hSw; go_simp; try with_reducible rfl) ?_
  simp only [Act.put, List.setIfInBounds_toArray, List.set_cons_zero, List.set_cons_succ]
  refine going_take (i := 1) (oi := { dst := some 15, op := Op.move (Operand.tmp 1), type := 3, pos := _, after := _, guard := none }) (v := _) rfl (by kernel_rfl) (by kernel_rfl) (by kernel_rfl) (fun _ _ _ h => h) (by rfl) (by intro w' hSw; go_simp; try with_reducible rfl) ?_
  simp only [Act.put, List.setIfInBounds_toArray, List.set_cons_zero, List.set_cons_succ]
  refine going_take (i := 4) (oi := { dst := some 18, op := Op.move (Operand.tmp 0), type := 22, pos := _, after := _, guard := none }) (v := _) rfl (by kernel_rfl) (by kernel_rfl) (by kernel_rfl) (fun _ _ _ h => h) (by rfl) (by intro w' hSw; go_simp; try with_reducible rfl) ?_
  simp only [Act.put, List.setIfInBounds_toArray, List.set_cons_zero, List.set_cons_succ]
  refine going_take (i := 5) (oi := { dst := some 19, op := Op.move (Operand.tmp 1), type := 3, pos := _, after := _, guard := none }) (v := _) rfl (by kernel_rfl) (by kernel_rfl) (by kernel_rfl) (fun _ _ _ h => h) (by rfl) (by intro w' hSw; go_simp; try with_reducible rfl) ?_
  simp only [Act.put, List.setIfInBounds_toArray, List.set_cons_zero, List.set_cons_succ]
  refine going_step (i := 2) (o := { dst := some 16, op := Op.call { callee := Callee.value (Operand.func 10), args := #[Operand.tmp 14, Operand.tmp 15], argTypes := #[22, 3] }, type := 22, pos := _, after := _, guard := none }) (by kernel_rfl) rfl (by rfl) (fun K hK => ?_)
  go_simp
  refine (put_any z a l cap _ ((HL.out.below HB.out).mono HB.out.size) HN.out (by omega)).mono ?_
  rintro e wd ⟨v1, rfl, hown1, hb1⟩
  refine hK.out _ _ hb1 ?_
  have hq2 := hide (says_owns hown1)
  replace HB := hide (HB.out.trans (hb1.mono HB.out.size))
  clear hown1 hb1
  clear hK K
  try simp only [Act.put, List.setIfInBounds_toArray, List.set_cons_zero, List.set_cons_succ]
  refine going_take (i := 3) (oi := { dst := some 17, op := Op.convert 22 9 (Operand.tmp 16), type := 9, pos := _, after := _, guard := none }) (v := _) rfl (by kernel_rfl) (by kernel_rfl) (by kernel_rfl) (fun _ _ _ h => h) (by rfl) (by intro w' hSw; have hq := hq2.out w' hSw; go_simp; try with_reducible rfl) ?_
  simp only [Act.put, List.setIfInBounds_toArray, List.set_cons_zero, List.set_cons_succ]
  refine going_step (i := 6) (o := { dst := some 20, op := Op.call { callee := Callee.value (Operand.func 11), args := #[Operand.tmp 18, Operand.tmp 19], argTypes := #[22, 3] }, type := 22, pos := _, after := _, guard := none }) (by kernel_rfl) rfl (by rfl) (fun K hK => ?_)
  go_simp
  refine (refPut_any z a l cap _ ((HL.out.below HB.out).mono HB.out.size) HN.out (by omega)).mono ?_
  rintro e wd ⟨v1, rfl, hown1, hb1⟩
  refine hK.out _ _ hb1 ?_
  have hq6 := hide (says_owns hown1)
  replace HB := hide (HB.out.trans (hb1.mono HB.out.size))
  clear hown1 hb1
  clear hK K
  try simp only [Act.put, List.setIfInBounds_toArray, List.set_cons_zero, List.set_cons_succ]
  refine going_take (i := 7) (oi := { dst := some 21, op := Op.convert 22 9 (Operand.tmp 20), type := 9, pos := _, after := _, guard := none }) (v := _) rfl (by kernel_rfl) (by kernel_rfl) (by kernel_rfl) (fun _ _ _ h => h) (by rfl) (by intro w' hSw; have hq := hq6.out w' hSw; go_simp; try with_reducible rfl) ?_
  simp only [Act.put, List.setIfInBounds_toArray, List.set_cons_zero, List.set_cons_succ]
  refine going_take (i := 8) (oi := { dst := some 22, op := Op.binOp BinOp.eql 9 (Operand.tmp 17) (Operand.tmp 21) 9, type := 4, pos := _, after := _, guard := none }) (v := _) rfl (by kernel_rfl) (by kernel_rfl) (by kernel_rfl) (fun _ _ _ h => h) (by rfl) (by intro w' hSw; go_simp; try with_reducible rfl) ?_
  simp only [Act.put, List.setIfInBounds_toArray, List.set_cons_zero, List.set_cons_succ]
  refine going_take (i := 9) (oi := { dst := some 23, op := Op.move (Operand.tmp 22), type := 4, pos := _, after := _, guard := none }) (v := _) rfl (by kernel_rfl) (by kernel_rfl) (by kernel_rfl) (fun _ _ _ h => h) (by rfl) (by intro w' hSw; go_simp; try with_reducible rfl) ?_
  simp only [Act.put, List.setIfInBounds_toArray, List.set_cons_zero, List.set_cons_succ]
  refine going_take (i := 10) (oi := { dst := some 24, op := Op.move (Operand.tmp 0), type := 22, pos := _, after := _, guard := some (9, true) }) (v := _) rfl (by kernel_rfl) (by kernel_rfl) (by kernel_rfl) (fun _ _ _ h => h) (by rfl) (by intro w' hSw; go_simp; try with_reducible rfl) ?_
  simp only [Act.put, List.setIfInBounds_toArray, List.set_cons_zero, List.set_cons_succ]
  refine going_take (i := 11) (oi := { dst := some 25, op := Op.move (Operand.tmp 1), type := 3, pos := _, after := _, guard := some (9, true) }) (v := _) rfl (by kernel_rfl) (by kernel_rfl) (by kernel_rfl) (fun _ _ _ h => h) (by rfl) (by intro w' hSw; go_simp; try with_reducible rfl) ?_
  simp only [Act.put, List.setIfInBounds_toArray, List.set_cons_zero, List.set_cons_succ]
  refine going_take (i := 14) (oi := { dst := some 28, op := Op.move (Operand.tmp 0), type := 22, pos := _, after := _, guard := some (9, true) }) (v := _) rfl (by kernel_rfl) (by kernel_rfl) (by kernel_rfl) (fun _ _ _ h => h) (by rfl) (by intro w' hSw; go_simp; try with_reducible rfl) ?_
  simp only [Act.put, List.setIfInBounds_toArray, List.set_cons_zero, List.set_cons_succ]
  refine going_take (i := 15) (oi := { dst := some 29, op := Op.move (Operand.tmp 1), type := 3, pos := _, after := _, guard := some (9, true) }) (v := _) rfl (by kernel_rfl) (by kernel_rfl) (by kernel_rfl) (fun _ _ _ h => h) (by rfl) (by intro w' hSw; go_simp; try with_reducible rfl) ?_
  simp only [Act.put, List.setIfInBounds_toArray, List.set_cons_zero, List.set_cons_succ]
  refine going_step (i := 12) (o := { dst := some 26, op := Op.call { callee := Callee.value (Operand.func 12), args := #[Operand.tmp 24, Operand.tmp 25], argTypes := #[22, 3] }, type := 22, pos := _, after := _, guard := some (9, true) }) (by kernel_rfl) rfl (by rfl) (fun K hK => ?_)
  go_simp
  refine (putS_any z a l cap _ ((HL.out.below HB.out).mono HB.out.size) HN.out (by omega) z1 z2).mono ?_
  rintro e wd ⟨v1, rfl, hown1, hb1⟩
  refine hK.out _ _ hb1 ?_
  have hq12 := hide (says_owns hown1)
  replace HB := hide (HB.out.trans (hb1.mono HB.out.size))
  clear hown1 hb1
  clear hK K
  try simp only [Act.put, List.setIfInBounds_toArray, List.set_cons_zero, List.set_cons_succ]
  refine going_take (i := 13) (oi := { dst := some 27, op := Op.convert 22 9 (Operand.tmp 26), type := 9, pos := _, after := _, guard := some (9, true) }) (v := _) rfl (by kernel_rfl) (by kernel_rfl) (by kernel_rfl) (fun _ _ _ h => h) (by rfl) (by intro w' hSw; have hq := hq12.out w' hSw; go_simp; try with_reducible rfl) ?_
  simp only [Act.put, List.setIfInBounds_toArray, List.set_cons_zero, List.set_cons_succ]
  refine going_step (i := 16) (o := { dst := some 30, op := Op.call { callee := Callee.value (Operand.func 13), args := #[Operand.tmp 28, Operand.tmp 29], argTypes := #[22, 3] }, type := 22, pos := _, after := _, guard := some (9, true) }) (by kernel_rfl) rfl (by rfl) (fun K hK => ?_)
  go_simp
  refine (refPutS_any z a l cap _ ((HL.out.below HB.out).mono HB.out.size) HN.out (by omega) z1 z2).mono ?_
  rintro e wd ⟨v1, rfl, hown1, hb1⟩
  refine hK.out _ _ hb1 ?_
  have hq16 := hide (says_owns hown1)
  replace HB := hide (HB.out.trans (hb1.mono HB.out.size))
  clear hown1 hb1
  clear hK K
  try simp only [Act.put, List.setIfInBounds_toArray, List.set_cons_zero, List.set_cons_succ]
  refine going_take (i := 17) (oi := { dst := some 31, op := Op.convert 22 9 (Operand.tmp 30), type := 9, pos := _, after := _, guard := some (9, true) }) (v := _) rfl (by kernel_rfl) (by kernel_rfl) (by kernel_rfl) (fun _ _ _ h => h) (by rfl) (by intro w' hSw; have hq := hq16.out w' hSw; go_simp; try with_reducible rfl) ?_
  simp only [Act.put, List.setIfInBounds_toArray, List.set_cons_zero, List.set_cons_succ]
  refine going_take (i := 18) (oi := { dst := some 32, op := Op.binOp BinOp.eql 9 (Operand.tmp 27) (Operand.tmp 31) 9, type := 4, pos := _, after := _, guard := some (9, true) }) (v := _) rfl (by kernel_rfl) (by kernel_rfl) (by kernel_rfl) (fun _ _ _ h => h) (by rfl) (by intro w' hSw; go_simp; try with_reducible rfl) ?_
  simp only [Act.put, List.setIfInBounds_toArray, List.set_cons_zero, List.set_cons_succ]
  refine going_take (i := 19) (oi := { dst := some 33, op := Op.pick (Operand.tmp 23) (Operand.tmp 32) (Operand.const (Value.bool false)), type := 4, pos := _, after := _, guard := none }) (v := _) rfl (by kernel_rfl) (by kernel_rfl) (by kernel_rfl) (fun _ _ _ h => h) (by rfl) (by intro w' hSw; go_simp; try with_reducible rfl) ?_
  simp only [Act.put, List.setIfInBounds_toArray, List.set_cons_zero, List.set_cons_succ]
  refine going_take (i := 20) (oi := { dst := some 34, op := Op.move (Operand.tmp 33), type := 4, pos := _, after := _, guard := none }) (v := _) rfl (by kernel_rfl) (by kernel_rfl) (by kernel_rfl) (fun _ _ _ h => h) (by rfl) (by intro w' hSw; go_simp; try with_reducible rfl) ?_
  simp only [Act.put, List.setIfInBounds_toArray, List.set_cons_zero, List.set_cons_succ]
  refine going_take (i := 21) (oi := { dst := some 35, op := Op.move (Operand.tmp 0), type := 22, pos := _, after := _, guard := some (20, true) }) (v := _) rfl (by kernel_rfl) (by kernel_rfl) (by kernel_rfl) (fun _ _ _ h => h) (by rfl) (by intro w' hSw; go_simp; try with_reducible rfl) ?_
  simp only [Act.put, List.setIfInBounds_toArray, List.set_cons_zero, List.set_cons_succ]
  refine going_take (i := 22) (oi := { dst := some 36, op := Op.move (Operand.tmp 2), type := 9, pos := _, after := _, guard := some (20, true) }) (v := _) rfl (by kernel_rfl) (by kernel_rfl) (by kernel_rfl) (fun _ _ _ h => h) (by rfl) (by intro w' hSw; go_simp; try with_reducible rfl) ?_
  simp only [Act.put, List.setIfInBounds_toArray, List.set_cons_zero, List.set_cons_succ]
  refine going_take (i := 25) (oi := { dst := some 39, op := Op.move (Operand.tmp 0), type := 22, pos := _, after := _, guard := some (20, true) }) (v := _) rfl (by kernel_rfl) (by kernel_rfl) (by kernel_rfl) (fun _ _ _ h => h) (by rfl) (by intro w' hSw; go_simp; try with_reducible rfl) ?_
  simp only [Act.put, List.setIfInBounds_toArray, List.set_cons_zero, List.set_cons_succ]
  refine going_take (i := 26) (oi := { dst := some 40, op := Op.move (Operand.tmp 2), type := 9, pos := _, after := _, guard := some (20, true) }) (v := _) rfl (by kernel_rfl) (by kernel_rfl) (by kernel_rfl) (fun _ _ _ h => h) (by rfl) (by intro w' hSw; go_simp; try with_reducible rfl) ?_
  simp only [Act.put, List.setIfInBounds_toArray, List.set_cons_zero, List.set_cons_succ]
  refine going_step (i := 23) (o := { dst := some 37, op := Op.call { callee := Callee.value (Operand.func 14), args := #[Operand.tmp 35, Operand.tmp 36], argTypes := #[22, 9] }, type := 22, pos := _, after := _, guard := some (20, true) }) (by kernel_rfl) rfl (by rfl) (fun K hK => ?_)
  go_simp
  refine (putT_any s a l cap _ ((HL.out.below HB.out).mono HB.out.size) HN.out (by omega) (by omega)).mono ?_
  rintro e wd ⟨v1, rfl, hown1, hb1⟩
  refine hK.out _ _ hb1 ?_
  have hq23 := hide (says_owns hown1)
  replace HB := hide (HB.out.trans (hb1.mono HB.out.size))
  clear hown1 hb1
  clear hK K
  try simp only [Act.put, List.setIfInBounds_toArray, List.set_cons_zero, List.set_cons_succ]
  refine going_take (i := 24) (oi := { dst := some 38, op := Op.convert 22 9 (Operand.tmp 37), type := 9, pos := _, after := _, guard := some (20, true) }) (v := _) rfl (by kernel_rfl) (by kernel_rfl) (by kernel_rfl) (fun _ _ _ h => h) (by rfl) (by intro w' hSw; have hq := hq23.out w' hSw; go_simp; try with_reducible rfl) ?_
  simp only [Act.put, List.setIfInBounds_toArray, List.set_cons_zero, List.set_cons_succ]
  refine going_step (i := 27) (o := { dst := some 41, op := Op.call { callee := Callee.value (Operand.func 15), args := #[Operand.tmp 39, Operand.tmp 40], argTypes := #[22, 9] }, type := 22, pos := _, after := _, guard := some (20, true) }) (by kernel_rfl) rfl (by rfl) (fun K hK => ?_)
  go_simp
  refine (refPutT_any s a l cap _ ((HL.out.below HB.out).mono HB.out.size) HN.out (by omega) (by omega)).mono ?_
  rintro e wd ⟨v1, rfl, hown1, hb1⟩
  refine hK.out _ _ hb1 ?_
  have hq27 := hide (says_owns hown1)
  replace HB := hide (HB.out.trans (hb1.mono HB.out.size))
  clear hown1 hb1
  clear hK K
  try simp only [Act.put, List.setIfInBounds_toArray, List.set_cons_zero, List.set_cons_succ]
  refine going_take (i := 28) (oi := { dst := some 42, op := Op.convert 22 9 (Operand.tmp 41), type := 9, pos := _, after := _, guard := some (20, true) }) (v := _) rfl (by kernel_rfl) (by kernel_rfl) (by kernel_rfl) (fun _ _ _ h => h) (by rfl) (by intro w' hSw; have hq := hq27.out w' hSw; go_simp; try with_reducible rfl) ?_
  simp only [Act.put, List.setIfInBounds_toArray, List.set_cons_zero, List.set_cons_succ]
  refine going_take (i := 29) (oi := { dst := some 43, op := Op.binOp BinOp.eql 9 (Operand.tmp 38) (Operand.tmp 42) 9, type := 4, pos := _, after := _, guard := some (20, true) }) (v := _) rfl (by kernel_rfl) (by kernel_rfl) (by kernel_rfl) (fun _ _ _ h => h) (by rfl) (by intro w' hSw; go_simp; try with_reducible rfl) ?_
  simp only [Act.put, List.setIfInBounds_toArray, List.set_cons_zero, List.set_cons_succ]
  refine going_take (i := 30) (oi := { dst := some 44, op := Op.pick (Operand.tmp 34) (Operand.tmp 43) (Operand.const (Value.bool false)), type := 4, pos := _, after := _, guard := none }) (v := _) rfl (by kernel_rfl) (by kernel_rfl) (by kernel_rfl) (fun _ _ _ h => h) (by rfl) (by intro w' hSw; go_simp; try with_reducible rfl) ?_
  simp only [Act.put, List.setIfInBounds_toArray, List.set_cons_zero, List.set_cons_succ]
  refine going_take (i := 31) (oi := { dst := some 45, op := Op.move (Operand.tmp 44), type := 4, pos := _, after := _, guard := none }) (v := _) rfl (by kernel_rfl) (by kernel_rfl) (by kernel_rfl) (fun _ _ _ h => h) (by rfl) (by intro w' hSw; go_simp; try with_reducible rfl) ?_
  simp only [Act.put, List.setIfInBounds_toArray, List.set_cons_zero, List.set_cons_succ]
  refine going_step (i := 32) (o := { dst := some 46, op := Op.call { callee := Callee.value (Operand.func 9), args := #[], argTypes := #[] }, type := 4, pos := _, after := _, guard := some (31, true) }) (by kernel_rfl) rfl (by rfl) (fun K hK => ?_)
  go_simp
  refine (lives_any _).mono ?_
  rintro e wd ⟨rfl, hb1⟩
  refine hK.out _ _ hb1 ?_
  replace HB := hide (HB.out.trans (hb1.mono HB.out.size))
  clear hb1
  clear hK K
  try simp only [Act.put, List.setIfInBounds_toArray, List.set_cons_zero, List.set_cons_succ]
  refine going_take (i := 33) (oi := { dst := some 47, op := Op.pick (Operand.tmp 45) (Operand.tmp 46) (Operand.const (Value.bool false)), type := 4, pos := _, after := _, guard := none }) (v := _) rfl (by kernel_rfl) (by kernel_rfl) (by kernel_rfl) (fun _ _ _ h => h) (by rfl) (by intro w' hSw; go_simp; try with_reducible rfl) ?_
  simp only [Act.put, List.setIfInBounds_toArray, List.set_cons_zero, List.set_cons_succ]
  refine going_take (i := 34) (oi := { dst := some 6, op := Op.assign (Operand.tmp 47), type := 4, pos := _, after := _, guard := none }) (v := _) rfl (by kernel_rfl) (by kernel_rfl) (by kernel_rfl) (fun _ _ _ h => h) (by rfl) (by intro w' hSw; go_simp; try with_reducible rfl) ?_
  simp only [Act.put, List.setIfInBounds_toArray, List.set_cons_zero, List.set_cons_succ]
  refine going_done (by kernel_rfl) ?_
  go_wp2
  go_ret
  exact ⟨rfl, HB.out⟩

set_option maxHeartbeats 400000 in
theorem puts_big (a : Option Addr) (n cap : Nat) (z : Int) (s : ByteArray) (w : World) (hm : 4000 < n + s.size) (h1 : n ≤ 140737488351232) (h2 : s.size ≤ 140737488351232) :
    Calls Try.prog 3 #[.slice a n cap, .int .i64 z, .string s] w fun e w' => e = .returned (.bool true) ∧ Below w.heap.size w w' := by
  have hd : decide ((4000 : Int) < (n : Int) + (s.size : Int)) = true := by simp; omega
  go_enter Try.func3, Try.ntmps3
  go_wp2_with (go_at_call 9; refine (lives_any _).mono ?_; rintro e w' ⟨rfl, hlv⟩)
  go_ret
  exact ⟨rfl, hlv⟩

theorem row_nil {k : IntKind} {w : World} {a : Option Addr} {len cap : Nat} {zs : List Int} (h : IsRow k w a len cap zs) : a = none → len = 0 ∧ cap = 0 := by
  rcases h with ⟨rfl, rfl, rfl, rfl⟩ | ⟨x, rfl, _⟩
  · exact fun _ => ⟨rfl, rfl⟩
  · intro h; cases h

theorem row_le {k : IntKind} {w : World} {a : Option Addr} {len cap : Nat} {zs : List Int} (h : IsRow k w a len cap zs) : len ≤ cap := by
  rcases h with ⟨rfl, rfl, rfl, rfl⟩ | ⟨x, rfl, h, _⟩
  · exact Nat.le_refl _
  · exact h

theorem i64_bounds {n : Int} (h : (Lit.int .i64 n).wf = true) : -9223372036854775808 ≤ n ∧ n ≤ 9223372036854775807 := by
  simp [Lit.wf, IntKind.min, IntKind.max, IntKind.bits, IntKind.signed] at h
  omega

theorem bytes5 : Try.prog.bytesOf 5 = 1 := by kernel_rfl

theorem puts_all (a : Option Addr) (n cap : Nat) (zs : List Int) (z : Int) (s : ByteArray) (w : World) (h : IsRow .u8 w a n cap zs) (w1 : (Lit.int .i64 z).wf = true)
    (h1 : cap * Try.prog.bytesOf 5 ≤ 140737488351232) (h2 : s.size ≤ 140737488351232) :
    Calls Try.prog 3 #[.slice a n cap, .int .i64 z, .string s] w fun e w' => e = .returned (.bool true) ∧ Below w.heap.size w w' := by
  rw [bytes5] at h1
  have hle := row_le h
  by_cases hm : n + s.size ≤ 4000
  · obtain ⟨l, rfl, hc, hx, hg⟩ := came_of_row h
    have hb := i64_bounds w1
    exact puts_walk a l cap z s w hg (fun e => ⟨List.length_eq_zero_iff.1 (row_nil h e).1, (row_nil h e).2⟩) hm hb.1 hb.2
  · exact puts_big a n cap z s w (by omega) (by omega) h2
end Go.Proofs.Ytaichjkenfnkbaa
