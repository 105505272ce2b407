/- Whatever comes in, the call Sum32Joins returns true and writes nothing that was there. -/
import Derived.Test.YtaichjkenfnkbabJoin
namespace Go.Proofs.Ytaichjkenfnkbab
open Go.RowKit Go.By
set_option linter.unusedVariables false
attribute [local go_sem ↓] Go.wp_at_zero Go.wp_at_succ

theorem slice_full (a : Option Addr) (n cap : Nat) (h : n ≤ cap) (w : World) :
    (Instr.slice 22 (.slice a n cap) none (some (.int .i64 (n : Int))) (some (.int .i64 (n : Int)))).run Try.prog w = .ok (.slice a n n) w := by
  rw [run_slice_hm w 22 a n cap (by exact Try.underlying22) .i64 .i64 n n (by omega) (by omega) (by omega)]
  have hs : (sizeOf (Try.prog.elem 22)).run Try.prog w = .ok 1 w := by kernel_rfl
  rw [hs]
  simp [Result.andThen, sliced]
  cases a with
  | none => simp
  | some x => simp [Addr.add]

theorem join_both (x y : Nat) (many : Int) (hx : x < 4294967296) (hy : y < 4294967296) : ∃ j : Nat,
    (∀ w, Calls Try.prog 14 #[.int .u32 (x : Int), .int .u32 (y : Int), .int .i64 many] w fun e w' => e = .returned (.int .u32 (j : Int)) ∧ Below w.heap.size w w') ∧
    (∀ w, Calls Try.prog 15 #[.int .u32 (x : Int), .int .u32 (y : Int), .int .i64 many] w fun e w' => e = .returned (.int .u32 (j : Int)) ∧ w' = w) := by
  by_cases h : many < 0 ∨ 1048576 < many
  · exact ⟨0, fun w => (join_out x y many w h).mono fun e w' ⟨h1, h2⟩ => ⟨h1, h2 ▸ Below.refl _ _⟩, fun w => refJoin_out x y many w h⟩
  · obtain ⟨n, rfl⟩ := Int.eq_ofNat_of_zero_le (show 0 ≤ many by omega)
    exact ⟨_, fun w => join_any x y n w hx hy (by omega), fun w => refJoin_any x y n w hx hy (by omega)⟩

set_option maxHeartbeats 2000000 in
theorem joins_walk (a b : Option Addr) (l m : List Nat) (ca cb : Nat) (x y : Nat) (many : Int) (w : World)
    (ga : Came w.heap.size w a l) (gb : Came w.heap.size w b m) (na : a = none → l = [] ∧ ca = 0) (nb : b = none → m = [] ∧ cb = 0) (hca : l.length ≤ ca)
    (hsz : l.length + m.length ≤ 5000) (hx : x < 4294967296) (hy : y < 4294967296) (hmany : many ≤ 5000 ∨ 1048576 < many) :
    Calls Try.prog 4 #[.slice a l.length ca, .slice b m.length cb, .int .u32 (x : Int), .int .u32 (y : Int), .int .i64 many] w fun e w' => e = .returned (.bool true) ∧ Below w.heap.size w w' := by
  obtain ⟨j, hj⟩ := join_both x y many hx hy
  have HJ := hide hj
  have GA := hide ga
  have GB := hide gb
  have NA := hide na
  have NB := hide nb
  have hsl := Crc.sum_lt ga.1
  have hsm := Crc.sum_lt gb.1
  have slm := Crc.sum_append l m
  generalize hS1 : Crc.sum l = sl at *
  generalize hS2 : Crc.sum m = sm at *
  have SL := hide hS1
  have SM := hide hS2
  have SLM := hide slm
  clear hj ga gb na nb hS1 hS2 slm
  have hsf := slice_full a l.length ca hca
  have h1 : decide ((5000 : Int) < (l.length : Int) + (m.length : Int)) = false := by simp; omega
  have h2 : (decide ((5000 : Int) < many) = false) ∨ (decide ((5000 : Int) < many) = true ∧ decide (many ≤ 1048576) = false) := by
    rcases hmany with h | h
    · left; simp; omega
    · right; simp; omega
  clear hmany
  rcases h2 with h2 | ⟨h2, h3⟩
  all_goals
    go_enter Try.func4, Try.ntmps4
    go_wp2
    refine going_start (by kernel_rfl) ?_
    refine going_take (i := 0) (oi := { dst := some 26, op := Op.move (Operand.tmp 0), type := 22, pos := _, after := _, guard := none }) (v := _) rfl (by kernel_rfl) (by kernel_rfl) (by kernel_rfl) (fun _ _ _ h => h) (by rfl) (by intro w' hSw; go_simp; try with_reducible rfl) ?_
    simp only [Act.put, List.setIfInBounds_toArray, List.set_cons_zero, List.set_cons_succ]
    refine going_take (i := 2) (oi := { dst := some 28, op := Op.move (Operand.tmp 1), type := 22, pos := _, after := _, guard := none }) (v := _) rfl (by kernel_rfl) (by kernel_rfl) (by kernel_rfl) (fun _ _ _ h => h) (by rfl) (by intro w' hSw; go_simp; try with_reducible rfl) ?_
    simp only [Act.put, List.setIfInBounds_toArray, List.set_cons_zero, List.set_cons_succ]
    refine going_take (i := 4) (oi := { dst := some 30, op := Op.move (Operand.tmp 1), type := 22, pos := _, after := _, guard := none }) (v := _) rfl (by kernel_rfl) (by kernel_rfl) (by kernel_rfl) (fun _ _ _ h => h) (by rfl) (by intro w' hSw; go_simp; try with_reducible rfl) ?_
    simp only [Act.put, List.setIfInBounds_toArray, List.set_cons_zero, List.set_cons_succ]
    refine going_take (i := 5) (oi := { dst := some 31, op := Op.call { callee := Callee.builtin Builtin.len, args := #[Operand.tmp 30], argTypes := #[22] }, type := 3, pos := _, after := _, guard := none }) (v := _) rfl (by kernel_rfl) (by kernel_rfl) (by kernel_rfl) (fun _ _ _ h => h) (by rfl) (by intro w' hSw; go_simp; try with_reducible rfl) ?_
    simp only [Act.put, List.setIfInBounds_toArray, List.set_cons_zero, List.set_cons_succ]
    refine going_take (i := 7) (oi := { dst := some 33, op := Op.move (Operand.tmp 0), type := 22, pos := _, after := _, guard := none }) (v := _) rfl (by kernel_rfl) (by kernel_rfl) (by kernel_rfl) (fun _ _ _ h => h) (by rfl) (by intro w' hSw; go_simp; try with_reducible rfl) ?_
    simp only [Act.put, List.setIfInBounds_toArray, List.set_cons_zero, List.set_cons_succ]
    refine going_take (i := 8) (oi := { dst := some 34, op := Op.move (Operand.tmp 0), type := 22, pos := _, after := _, guard := none }) (v := _) rfl (by kernel_rfl) (by kernel_rfl) (by kernel_rfl) (fun _ _ _ h => h) (by rfl) (by intro w' hSw; go_simp; try with_reducible rfl) ?_
    simp only [Act.put, List.setIfInBounds_toArray, List.set_cons_zero, List.set_cons_succ]
    refine going_take (i := 9) (oi := { dst := some 35, op := Op.call { callee := Callee.builtin Builtin.len, args := #[Operand.tmp 34], argTypes := #[22] }, type := 3, pos := _, after := _, guard := none }) (v := _) rfl (by kernel_rfl) (by kernel_rfl) (by kernel_rfl) (fun _ _ _ h => h) (by rfl) (by intro w' hSw; go_simp; try with_reducible rfl) ?_
    simp only [Act.put, List.setIfInBounds_toArray, List.set_cons_zero, List.set_cons_succ]
    refine going_take (i := 10) (oi := { dst := some 36, op := Op.move (Operand.tmp 0), type := 22, pos := _, after := _, guard := none }) (v := _) rfl (by kernel_rfl) (by kernel_rfl) (by kernel_rfl) (fun _ _ _ h => h) (by rfl) (by intro w' hSw; go_simp; try with_reducible rfl) ?_
    simp only [Act.put, List.setIfInBounds_toArray, List.set_cons_zero, List.set_cons_succ]
    refine going_take (i := 11) (oi := { dst := some 37, op := Op.call { callee := Callee.builtin Builtin.len, args := #[Operand.tmp 36], argTypes := #[22] }, type := 3, pos := _, after := _, guard := none }) (v := _) rfl (by kernel_rfl) (by kernel_rfl) (by kernel_rfl) (fun _ _ _ h => h) (by rfl) (by intro w' hSw; go_simp; try with_reducible rfl) ?_
    simp only [Act.put, List.setIfInBounds_toArray, List.set_cons_zero, List.set_cons_succ]
    refine going_take (i := 12) (oi := { dst := some 38, op := Op.slice 22 (Operand.tmp 33) none (some (Operand.tmp 35)) (some (Operand.tmp 37)), type := 22, pos := _, after := _, guard := none }) (v := _) rfl (by kernel_rfl) (by kernel_rfl) (by kernel_rfl) (fun _ _ _ h => h) (by rfl) (by intro w' hSw; go_simp; try with_reducible rfl) ?_
    simp only [Act.put, List.setIfInBounds_toArray, List.set_cons_zero, List.set_cons_succ]
    refine going_take (i := 13) (oi := { dst := some 39, op := Op.move (Operand.tmp 1), type := 22, pos := _, after := _, guard := none }) (v := _) rfl (by kernel_rfl) (by kernel_rfl) (by kernel_rfl) (fun _ _ _ h => h) (by rfl) (by intro w' hSw; go_simp; try with_reducible rfl) ?_
    simp only [Act.put, List.setIfInBounds_toArray, List.set_cons_zero, List.set_cons_succ]
    refine going_step (i := 1) (o := { dst := some 27, op := Op.call { callee := Callee.value (Operand.func 11), args := #[Operand.tmp 26], argTypes := #[22] }, type := 27, pos := _, after := _, guard := none }) (by kernel_rfl) rfl (by rfl) (fun K hK => ?_)
    go_simp
    refine (sum_at a l l.length ca sl _ rfl SL.out (by exact GA.out.lies) (by omega)).mono ?_
    rintro e w1 ⟨rfl, hw⟩
    subst hw
    refine hK.out _ _ (Below.refl _ _) ?_
    clear hK K
    try simp only [Act.put, List.setIfInBounds_toArray, List.set_cons_zero, List.set_cons_succ]
    refine going_step (i := 3) (o := { dst := some 29, op := Op.call { callee := Callee.value (Operand.func 11), args := #[Operand.tmp 28], argTypes := #[22] }, type := 27, pos := _, after := _, guard := none }) (by kernel_rfl) rfl (by rfl) (fun K hK => ?_)
    go_simp
    refine (sum_at b m m.length cb sm _ rfl SM.out (by exact GB.out.lies) (by omega)).mono ?_
    rintro e w1 ⟨rfl, hw⟩
    subst hw
    refine hK.out _ _ (Below.refl _ _) ?_
    clear hK K
    try simp only [Act.put, List.setIfInBounds_toArray, List.set_cons_zero, List.set_cons_succ]
    refine going_step (i := 6) (o := { dst := some 32, op := Op.call { callee := Callee.value (Operand.func 14), args := #[Operand.tmp 27, Operand.tmp 29, Operand.tmp 31], argTypes := #[27, 27, 3] }, type := 27, pos := _, after := _, guard := none }) (by kernel_rfl) rfl (by rfl) (fun K hK => ?_)
    go_simp
    refine (join_any sl sm m.length _ hsl hsm (by omega)).mono ?_
    rintro e w2 ⟨rfl, hb2⟩
    refine hK.out _ _ hb2 ?_
    have HB2 := hide ((Below.refl _ w).drew.trans hb2)
    clear hb2
    clear hK K
    try simp only [Act.put, List.setIfInBounds_toArray, List.set_cons_zero, List.set_cons_succ]
    refine going_step (i := 14) (o := { dst := some 40, op := Op.call { callee := Callee.builtin Builtin.append, args := #[Operand.tmp 38, Operand.tmp 39], argTypes := #[22, 22] }, type := 22, pos := _, after := _, guard := none }) (by kernel_rfl) rfl (by rfl) (fun K hK => ?_)
    refine wp_append_full (.tmp 38) (.tmp 39) rfl Try.underlying22 Try.info5 a b l m cb rfl rfl (GA.out.below HB2.out).lies (GB.out.below HB2.out).lies (fun e => (NA.out e).1) NB.out (by omega) ?_
    intro a3 c3 w3 hb3 hl3
    refine hK.out _ _ hb3 ?_
    have HB3 := hide (HB2.out.trans (hb3.mono HB2.out.size))
    have HL3 := hide hl3
    clear hb3 hl3
    clear hK K
    try simp only [Act.put, List.setIfInBounds_toArray, List.set_cons_zero, List.set_cons_succ]
    refine going_step (i := 15) (o := { dst := some 41, op := Op.call { callee := Callee.value (Operand.func 11), args := #[Operand.tmp 40], argTypes := #[22] }, type := 27, pos := _, after := _, guard := none }) (by kernel_rfl) rfl (by rfl) (fun K hK => ?_)
    go_simp
    refine (sum_at a3 (l ++ m) (l.length + m.length) c3 (Crc.bits sl (8 * m.length) ^^^ sm) _ (by simp) SLM.out HL3.out (by omega)).mono ?_
    rintro e w1 ⟨rfl, hw⟩
    subst hw
    refine hK.out _ _ (Below.refl _ _) ?_
    clear hK K
    try simp only [Act.put, List.setIfInBounds_toArray, List.set_cons_zero, List.set_cons_succ]
    refine going_take (i := 16) (oi := { dst := some 42, op := Op.binOp BinOp.eql 27 (Operand.tmp 32) (Operand.tmp 41) 27, type := 4, pos := _, after := _, guard := none }) (v := _) rfl (by kernel_rfl) (by kernel_rfl) (by kernel_rfl) (fun _ _ _ h => h) (by rfl) (by intro w' hSw; go_simp; try with_reducible rfl) ?_
    simp only [Act.put, List.setIfInBounds_toArray, List.set_cons_zero, List.set_cons_succ]
    refine going_take (i := 17) (oi := { dst := some 43, op := Op.move (Operand.tmp 42), type := 4, pos := _, after := _, guard := none }) (v := _) rfl (by kernel_rfl) (by kernel_rfl) (by kernel_rfl) (fun _ _ _ h => h) (by rfl) (by intro w' hSw; go_simp; try with_reducible rfl) ?_
    simp only [Act.put, List.setIfInBounds_toArray, List.set_cons_zero, List.set_cons_succ]
    refine going_take (i := 18) (oi := { dst := some 44, op := Op.move (Operand.tmp 2), type := 27, pos := _, after := _, guard := some (17, true) }) (v := _) rfl (by kernel_rfl) (by kernel_rfl) (by kernel_rfl) (fun _ _ _ h => h) (by rfl) (by intro w' hSw; go_simp; try with_reducible rfl) ?_
    simp only [Act.put, List.setIfInBounds_toArray, List.set_cons_zero, List.set_cons_succ]
    refine going_take (i := 19) (oi := { dst := some 45, op := Op.move (Operand.tmp 3), type := 27, pos := _, after := _, guard := some (17, true) }) (v := _) rfl (by kernel_rfl) (by kernel_rfl) (by kernel_rfl) (fun _ _ _ h => h) (by rfl) (by intro w' hSw; go_simp; try with_reducible rfl) ?_
    simp only [Act.put, List.setIfInBounds_toArray, List.set_cons_zero, List.set_cons_succ]
    refine going_take (i := 20) (oi := { dst := some 46, op := Op.move (Operand.tmp 4), type := 3, pos := _, after := _, guard := some (17, true) }) (v := _) rfl (by kernel_rfl) (by kernel_rfl) (by kernel_rfl) (fun _ _ _ h => h) (by rfl) (by intro w' hSw; go_simp; try with_reducible rfl) ?_
    simp only [Act.put, List.setIfInBounds_toArray, List.set_cons_zero, List.set_cons_succ]
    refine going_take (i := 22) (oi := { dst := some 48, op := Op.move (Operand.tmp 2), type := 27, pos := _, after := _, guard := some (17, true) }) (v := _) rfl (by kernel_rfl) (by kernel_rfl) (by kernel_rfl) (fun _ _ _ h => h) (by rfl) (by intro w' hSw; go_simp; try with_reducible rfl) ?_
    simp only [Act.put, List.setIfInBounds_toArray, List.set_cons_zero, List.set_cons_succ]
    refine going_take (i := 23) (oi := { dst := some 49, op := Op.move (Operand.tmp 3), type := 27, pos := _, after := _, guard := some (17, true) }) (v := _) rfl (by kernel_rfl) (by kernel_rfl) (by kernel_rfl) (fun _ _ _ h => h) (by rfl) (by intro w' hSw; go_simp; try with_reducible rfl) ?_
    simp only [Act.put, List.setIfInBounds_toArray, List.set_cons_zero, List.set_cons_succ]
    refine going_take (i := 24) (oi := { dst := some 50, op := Op.move (Operand.tmp 4), type := 3, pos := _, after := _, guard := some (17, true) }) (v := _) rfl (by kernel_rfl) (by kernel_rfl) (by kernel_rfl) (fun _ _ _ h => h) (by rfl) (by intro w' hSw; go_simp; try with_reducible rfl) ?_
    simp only [Act.put, List.setIfInBounds_toArray, List.set_cons_zero, List.set_cons_succ]
    refine going_step (i := 21) (o := { dst := some 47, op := Op.call { callee := Callee.value (Operand.func 14), args := #[Operand.tmp 44, Operand.tmp 45, Operand.tmp 46], argTypes := #[27, 27, 3] }, type := 27, pos := _, after := _, guard := some (17, true) }) (by kernel_rfl) rfl (by rfl) (fun K hK => ?_)
    go_simp
    refine (HJ.out.1 _).mono ?_
    rintro e w4 ⟨rfl, hb4⟩
    refine hK.out _ _ hb4 ?_
    have HB4 := hide (HB3.out.trans (hb4.mono HB3.out.size))
    clear hb4
    clear hK K
    try simp only [Act.put, List.setIfInBounds_toArray, List.set_cons_zero, List.set_cons_succ]
    refine going_step (i := 25) (o := { dst := some 51, op := Op.call { callee := Callee.value (Operand.func 15), args := #[Operand.tmp 48, Operand.tmp 49, Operand.tmp 50], argTypes := #[27, 27, 3] }, type := 27, pos := _, after := _, guard := some (17, true) }) (by kernel_rfl) rfl (by rfl) (fun K hK => ?_)
    go_simp
    refine (HJ.out.2 _).mono ?_
    rintro e w5 ⟨rfl, hw⟩
    subst hw
    refine hK.out _ _ (Below.refl _ _) ?_
    clear hK K
    try simp only [Act.put, List.setIfInBounds_toArray, List.set_cons_zero, List.set_cons_succ]
    refine going_take (i := 26) (oi := { dst := some 52, op := Op.binOp BinOp.eql 27 (Operand.tmp 47) (Operand.tmp 51) 27, type := 4, pos := _, after := _, guard := some (17, true) }) (v := _) rfl (by kernel_rfl) (by kernel_rfl) (by kernel_rfl) (fun _ _ _ h => h) (by rfl) (by intro w' hSw; go_simp; try with_reducible rfl) ?_
    simp only [Act.put, List.setIfInBounds_toArray, List.set_cons_zero, List.set_cons_succ]
    refine going_take (i := 27) (oi := { dst := some 53, op := Op.pick (Operand.tmp 43) (Operand.tmp 52) (Operand.const (Value.bool false)), type := 4, pos := _, after := _, guard := none }) (v := _) rfl (by kernel_rfl) (by kernel_rfl) (by kernel_rfl) (fun _ _ _ h => h) (by rfl) (by intro w' hSw; go_simp; try with_reducible rfl) ?_
    simp only [Act.put, List.setIfInBounds_toArray, List.set_cons_zero, List.set_cons_succ]
    refine going_take (i := 28) (oi := { dst := some 54, op := Op.move (Operand.tmp 53), type := 4, pos := _, after := _, guard := none }) (v := _) rfl (by kernel_rfl) (by kernel_rfl) (by kernel_rfl) (fun _ _ _ h => h) (by rfl) (by intro w' hSw; go_simp; try with_reducible rfl) ?_
    simp only [Act.put, List.setIfInBounds_toArray, List.set_cons_zero, List.set_cons_succ]
    refine going_step (i := 29) (o := { dst := some 55, op := Op.call { callee := Callee.value (Operand.func 7), args := #[], argTypes := #[] }, type := 4, pos := _, after := _, guard := some (28, true) }) (by kernel_rfl) rfl (by rfl) (fun K hK => ?_)
    go_simp
    refine (lives_any _).mono ?_
    rintro e w6 ⟨rfl, hb6⟩
    refine hK.out _ _ hb6 ?_
    have HB6 := hide (HB4.out.trans (hb6.mono HB4.out.size))
    clear hb6
    clear hK K
    try simp only [Act.put, List.setIfInBounds_toArray, List.set_cons_zero, List.set_cons_succ]
    refine going_take (i := 30) (oi := { dst := some 56, op := Op.pick (Operand.tmp 54) (Operand.tmp 55) (Operand.const (Value.bool false)), type := 4, pos := _, after := _, guard := none }) (v := _) rfl (by kernel_rfl) (by kernel_rfl) (by kernel_rfl) (fun _ _ _ h => h) (by rfl) (by intro w' hSw; go_simp; try with_reducible rfl) ?_
    simp only [Act.put, List.setIfInBounds_toArray, List.set_cons_zero, List.set_cons_succ]
    refine going_take (i := 31) (oi := { dst := some 10, op := Op.assign (Operand.tmp 56), type := 4, pos := _, after := _, guard := none }) (v := _) rfl (by kernel_rfl) (by kernel_rfl) (by kernel_rfl) (fun _ _ _ h => h) (by rfl) (by intro w' hSw; go_simp; try with_reducible rfl) ?_
    simp only [Act.put, List.setIfInBounds_toArray, List.set_cons_zero, List.set_cons_succ]
    refine going_done (by kernel_rfl) ?_
    go_wp2
    go_ret
    exact ⟨rfl, HB6.out⟩

set_option maxHeartbeats 400000 in
theorem joins_long (a b : Option Addr) (n m ca cb : Nat) (x y many : Int) (w : World) (hm : 5000 < n + m) (h1 : n ≤ 140737488351232) (h2 : m ≤ 140737488351232) :
    Calls Try.prog 4 #[.slice a n ca, .slice b m cb, .int .u32 x, .int .u32 y, .int .i64 many] w fun e w' => e = .returned (.bool true) ∧ Below w.heap.size w w' := by
  have hd : decide ((5000 : Int) < (n : Int) + (m : Int)) = true := by simp; omega
  go_enter Try.func4, Try.ntmps4
  go_wp2_with (go_at_call 7; refine (lives_any _).mono ?_; rintro e w' ⟨rfl, hlv⟩)
  go_ret
  exact ⟨rfl, hlv⟩

set_option maxHeartbeats 400000 in
theorem joins_many (a b : Option Addr) (n m ca cb : Nat) (x y many : Int) (w : World) (hm : n + m ≤ 5000) (h1 : 5000 < many) (h2 : many ≤ 1048576) :
    Calls Try.prog 4 #[.slice a n ca, .slice b m cb, .int .u32 x, .int .u32 y, .int .i64 many] w fun e w' => e = .returned (.bool true) ∧ Below w.heap.size w w' := by
  have hd : decide ((5000 : Int) < (n : Int) + (m : Int)) = false := by simp; omega
  have hd1 : decide ((5000 : Int) < many) = true := by simp; omega
  have hd2 : decide (many ≤ 1048576) = true := by simp; omega
  go_enter Try.func4, Try.ntmps4
  go_wp2_with (go_at_call 7; refine (lives_any _).mono ?_; rintro e w' ⟨rfl, hlv⟩)
  go_ret
  exact ⟨rfl, hlv⟩

theorem row_le {k : IntKind} {w : World} {a : Option Addr} {len cap : Nat} {zs : List Int} (h : IsRow k w a len cap zs) : len ≤ cap := by
  rcases h with ⟨rfl, rfl, rfl, rfl⟩ | ⟨x, rfl, h, _⟩
  · exact Nat.le_refl _
  · exact h

theorem joins_all (a b : Option Addr) (n m ca cb : Nat) (za zb : List Int) (x y many : Int) (w : World) (ha : IsRow .u8 w a n ca za) (hb : IsRow .u8 w b m cb zb)
    (w2 : (Lit.int .u32 x).wf = true) (w3 : (Lit.int .u32 y).wf = true) (h1 : ca * Try.prog.bytesOf 5 ≤ 140737488351232) (h2 : cb * Try.prog.bytesOf 5 ≤ 140737488351232) :
    Calls Try.prog 4 #[.slice a n ca, .slice b m cb, .int .u32 x, .int .u32 y, .int .i64 many] w fun e w' => e = .returned (.bool true) ∧ Below w.heap.size w w' := by
  have hby : Try.prog.bytesOf 5 = 1 := by kernel_rfl
  rw [hby] at h1 h2
  have l1 := row_le ha
  have l2 := row_le hb
  by_cases hm : n + m ≤ 5000
  · by_cases hr : 5000 < many ∧ many ≤ 1048576
    · exact joins_many a b n m ca cb x y many w hm hr.1 hr.2
    · obtain ⟨l, rfl, hc, hx, hg⟩ := came_of_row ha
      obtain ⟨l', rfl, hc', hx', hg'⟩ := came_of_row hb
      have bx := u32_bounds w2
      have by' := u32_bounds w3
      obtain ⟨u, rfl⟩ := Int.eq_ofNat_of_zero_le bx.1
      obtain ⟨v, rfl⟩ := Int.eq_ofNat_of_zero_le by'.1
      exact joins_walk a b l l' ca cb u v many w hg hg' (fun e => ⟨List.length_eq_zero_iff.1 (row_nil ha e).1, (row_nil ha e).2⟩) (fun e => ⟨List.length_eq_zero_iff.1 (row_nil hb e).1, (row_nil hb e).2⟩) hc hm (by omega) (by omega) (by omega)
  · exact joins_long a b n m ca cb x y many w (by omega) (by omega) (by omega)
end Go.Proofs.Ytaichjkenfnkbab
