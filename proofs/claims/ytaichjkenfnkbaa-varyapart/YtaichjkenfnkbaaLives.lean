/- The chapter's examples hold of the program. -/
import Derived.Test.YtaichjkenfnkbaaReads
import Derived.Test.YtaichjkenfnkbaaDrawR
namespace Go.Proofs.Ytaichjkenfnkbaa
open Go.RowKit Go.By
set_option linter.unusedVariables false
attribute [local go_sem ↓] Go.wp_at_zero Go.wp_at_succ

theorem read_any (a : Option Addr) (l : List Nat) (n cap : Nat) (w : World) (hn : l.length = n) (hL : Came w.heap.size w a l) :
    Calls Try.prog 16 #[.slice a n cap] w fun e w' => ∃ g, e = .returned (.pointer (some ⟨g, 0, none⟩)) ∧ w.heap.size ≤ g ∧ Rd w' g l true ∧ Below w.heap.size w w' := by
  subst hn
  exact (read_look a l cap w hL).mono fun e w' ⟨h1, h2, h3⟩ => ⟨_, h1, Nat.le_refl _, h2, h3⟩

theorem rd_lt {w : World} {g : Nat} {l : List Nat} {ok : Bool} (h : Rd w g l ok) : g < w.heap.size := by
  rcases Nat.lt_or_ge g w.heap.size with h1 | h1
  · exact h1
  · unfold Rd at h; rw [Array.getElem?_eq_none h1] at h; cases h

theorem rd_below {w w' : World} {g : Nat} {l : List Nat} {ok : Bool} (h : Rd w g l ok) (hb : Below w.heap.size w w') : Rd w' g l ok :=
  (hb.block g (rd_lt h)).trans h

/-- A literal of bytes, just laid. -/
theorem built_says {w : World} {g : Nat} {m : List Nat} {ok : Bool} (h : Rd w g m ok) (cs : Array Value) (l : List Nat) (n : Nat) (hl : ∀ c ∈ l, c < 256) (hc : cs = (l.map B8).toArray) (h0 : l ≠ []) (hn : l.length = n) :
    SaysR (some g) Try.prog (w.alloc (.cells cs 5)) (.slice (some ⟨w.heap.size, 0, none⟩) n n) l := by
  subst hn
  refine saysR_lies Try.underlying22 Try.underlying5 Try.underlying9 ⟨hl, .inr ⟨_, _, rfl, fun i hi => ?_⟩⟩ rfl ?_
  · rw [Nat.zero_add, Joins.cell_of_block (heap_alloc_new w _), hc]
    simp [List.getD, hi, B8]
  · intro x hx _ e
    cases hx
    have := rd_lt h
    have : w.heap.size = g := by simpa using e
    omega

theorem put300 (w : World) : Calls Try.prog 10 #[.slice none 0 0, .int .i64 300] w fun e w' => ∃ v, e = .returned v ∧ Owns w' w.heap.size v [172, 2] ∧ Below w.heap.size w w' := by
  have h := put_any 300 none [] 0 w ⟨by simp, .inl rfl⟩ (fun _ => ⟨rfl, rfl⟩) (by simp)
  have e : [] ++ Vary.putI 300 = [172, 2] := by decide
  unfold Puts at h
  rw [e] at h
  exact h

theorem putm1 (w : World) : Calls Try.prog 12 #[.slice none 0 0, .int .i64 (-1)] w fun e w' => ∃ v, e = .returned v ∧ Owns w' w.heap.size v [1] ∧ Below w.heap.size w w' := by
  have h := putS_any (-1) none [] 0 w ⟨by simp, .inl rfl⟩ (fun _ => ⟨rfl, rfl⟩) (by simp) (by omega) (by omega)
  have e : [] ++ Vary.putS (-1) = [1] := by decide
  unfold Puts at h
  rw [e] at h
  exact h

theorem putab (w : World) : Calls Try.prog 14 #[.slice none 0 0, .string { data := #[97, 98] }] w fun e w' => ∃ v, e = .returned v ∧ Owns w' w.heap.size v [2, 97, 98] ∧ Below w.heap.size w w' := by
  have h := putT_any { data := #[97, 98] } none [] 0 w ⟨by simp, .inl rfl⟩ (fun _ => ⟨rfl, rfl⟩) (by simp) (by decide)
  have e : [] ++ Vary.putT (nums { data := #[97, 98] }) = [2, 97, 98] := by decide
  unfold Puts at h
  rw [e] at h
  exact h

theorem num_128_0 : Vary.num [128, 0] = none := by decide

set_option maxHeartbeats 4000000 in
set_option maxRecDepth 20000 in
theorem lives_any (w : World) : Calls Try.prog 9 #[] w fun e w' => e = .returned (.bool true) ∧ Below w.heap.size w w' := by
  go_enter Try.func9, Try.ntmps9
  go_wp2_with fail
  refine (read_any (some ⟨w.heap.size, 0, none⟩) [128, 0] 2 2 _ rfl ?_).mono ?_
  · refine ⟨by decide, .inr ⟨_, _, rfl, by simp, fun i hi => ?_⟩⟩
    rw [Joins.cell_of_block (heap_alloc_new w _)]
    have : i = 0 ∨ i = 1 := by simp at hi; omega
    rcases this with rfl | rfl <;> rfl
  rintro e w0 ⟨g, rfl, hg, hr, hb⟩
  have HG : Hid (w.heap.size ≤ g) := by have : w.heap.size + 1 ≤ g := by simpa using hg
                                        exact Nat.le_of_succ_le this
  have HB := hide (((Below.refl w.heap.size w).alloc (Nat.le_refl _) (.cells #[.int .u8 128, .int .u8 0] 5)).trans (hb.mono (by simp)))
  have HR := hide hr
  clear hg hr hb
  go_wp2_with fail
  replace HR : Hid (Rd w0.drew g [128, 0] true) := HR
  replace HB : Hid (Below w.heap.size w w0.drew) := HB.out.drew
  refine goingR_start (some g) (by kernel_rfl) ?_
  generalize w0.drew = wd at *
  refine goingR_fork (i := 0) (j := 2) (oi := { dst := some 4, op := Op.call { callee := Callee.value (Operand.func 10), args := #[Operand.const (Value.slice none 0 0), Operand.const (Value.int IntKind.i64 300)], argTypes := #[22, 3] }, type := 22, pos := _, after := _, guard := none }) (oj := { dst := some 6, op := Op.buildSlice 22 2 #[(0, Operand.const (Value.int IntKind.u8 172)), (1, Operand.const (Value.int IntKind.u8 2))], type := 22, pos := _, after := _, guard := none }) (by kernel_rfl) rfl rfl (by rfl) (by rfl) (fun K hK => ?_) (fun K hK => ?_)
  go_simp
  refine (put300 _).mono ?_
  rintro e wd ⟨v1, rfl, hown1, hb1⟩
  refine hK.out _ _ (gb_below hb1) ?_
  have hq0 := hide (saysR_owns Try.underlying22 Try.underlying5 Try.underlying9 hown1 (rd_lt HR.out))
  replace HR := hide (rd_below HR.out hb1)
  replace HB := hide (HB.out.trans (hb1.mono HB.out.size))
  clear hown1 hb1
  clear hK K
  try simp only [Act.put, List.setIfInBounds_toArray, List.set_cons_zero, List.set_cons_succ]
  refine goingR_take (i := 1) (oi := { dst := some 5, op := Op.convert 22 9 (Operand.tmp 4), type := 9, pos := _, after := _, guard := none }) (v := _) rfl (by kernel_rfl) (by kernel_rfl) (by kernel_rfl) (fun _ _ _ h => h) (by rfl) (by intro w' hSw; have hq := hq0.out w' hSw; go_simp; try with_reducible rfl) ?_
  simp only [Act.put, List.setIfInBounds_toArray, List.set_cons_zero, List.set_cons_succ]
  refine goingR_step (i := 2) (o := { dst := some 6, op := Op.buildSlice 22 2 #[(0, Operand.const (Value.int IntKind.u8 172)), (1, Operand.const (Value.int IntKind.u8 2))], type := 22, pos := _, after := _, guard := none }) (by kernel_rfl) rfl (by rfl) (fun K hK => ?_)
  go_simp
  refine hK.out _ _ (gb_below ((Below.refl _ _).alloc (Nat.le_refl _) _)) ?_
  have hq2 := hide (built_says HR.out #[.int .u8 172, .int .u8 2] [172, 2] 2 (by decide) rfl (by decide) rfl)
  replace HR := hide (rd_below HR.out ((Below.refl _ _).alloc (Nat.le_refl _) (.cells #[.int .u8 172, .int .u8 2] 5)))
  replace HB := hide (HB.out.alloc HB.out.size (.cells #[.int .u8 172, .int .u8 2] 5))
  clear hK K
  generalize hwq : wd.alloc (.cells #[.int .u8 172, .int .u8 2] 5) = wd at *
  clear hwq
  have hK := True.intro
  have K := True.intro
  clear hK K
  try simp only [Act.put, List.setIfInBounds_toArray, List.set_cons_zero, List.set_cons_succ]
  refine goingR_take (i := 3) (oi := { dst := some 7, op := Op.convert 22 9 (Operand.tmp 6), type := 9, pos := _, after := _, guard := none }) (v := _) rfl (by kernel_rfl) (by kernel_rfl) (by kernel_rfl) (fun _ _ _ h => h) (by rfl) (by intro w' hSw; have hq := hq2.out w' hSw; go_simp; try with_reducible rfl) ?_
  simp only [Act.put, List.setIfInBounds_toArray, List.set_cons_zero, List.set_cons_succ]
  refine goingR_take (i := 4) (oi := { dst := some 8, op := Op.binOp BinOp.eql 9 (Operand.tmp 5) (Operand.tmp 7) 9, type := 4, pos := _, after := _, guard := none }) (v := _) rfl (by kernel_rfl) (by kernel_rfl) (by kernel_rfl) (fun _ _ _ h => h) (by rfl) (by intro w' hSw; go_simp; try with_reducible rfl) ?_
  simp only [Act.put, List.setIfInBounds_toArray, List.set_cons_zero, List.set_cons_succ]
  refine goingR_take (i := 5) (oi := { dst := some 9, op := Op.move (Operand.tmp 8), type := 4, pos := _, after := _, guard := none }) (v := _) rfl (by kernel_rfl) (by kernel_rfl) (by kernel_rfl) (fun _ _ _ h => h) (by rfl) (by intro w' hSw; go_simp; try with_reducible rfl) ?_
  simp only [Act.put, List.setIfInBounds_toArray, List.set_cons_zero, List.set_cons_succ]
  rotate_left
  go_simp
  refine hK.out _ _ (gb_below ((Below.refl _ _).alloc (Nat.le_refl _) _)) ?_
  have hq2 := hide (built_says HR.out #[.int .u8 172, .int .u8 2] [172, 2] 2 (by decide) rfl (by decide) rfl)
  replace HR := hide (rd_below HR.out ((Below.refl _ _).alloc (Nat.le_refl _) (.cells #[.int .u8 172, .int .u8 2] 5)))
  replace HB := hide (HB.out.alloc HB.out.size (.cells #[.int .u8 172, .int .u8 2] 5))
  clear hK K
  generalize hwq : wd.alloc (.cells #[.int .u8 172, .int .u8 2] 5) = wd at *
  clear hwq
  have hK := True.intro
  have K := True.intro
  clear hK K
  try simp only [Act.put, List.setIfInBounds_toArray, List.set_cons_zero, List.set_cons_succ]
  refine goingR_take (i := 3) (oi := { dst := some 7, op := Op.convert 22 9 (Operand.tmp 6), type := 9, pos := _, after := _, guard := none }) (v := _) rfl (by kernel_rfl) (by kernel_rfl) (by kernel_rfl) (fun _ _ _ h => h) (by rfl) (by intro w' hSw; have hq := hq2.out w' hSw; go_simp; try with_reducible rfl) ?_
  simp only [Act.put, List.setIfInBounds_toArray, List.set_cons_zero, List.set_cons_succ]
  refine goingR_step (i := 0) (o := { dst := some 4, op := Op.call { callee := Callee.value (Operand.func 10), args := #[Operand.const (Value.slice none 0 0), Operand.const (Value.int IntKind.i64 300)], argTypes := #[22, 3] }, type := 22, pos := _, after := _, guard := none }) (by kernel_rfl) rfl (by rfl) (fun K hK => ?_)
  go_simp
  refine (put300 _).mono ?_
  rintro e wd ⟨v1, rfl, hown1, hb1⟩
  refine hK.out _ _ (gb_below hb1) ?_
  have hq0 := hide (saysR_owns Try.underlying22 Try.underlying5 Try.underlying9 hown1 (rd_lt HR.out))
  replace HR := hide (rd_below HR.out hb1)
  replace HB := hide (HB.out.trans (hb1.mono HB.out.size))
  clear hown1 hb1
  clear hK K
  try simp only [Act.put, List.setIfInBounds_toArray, List.set_cons_zero, List.set_cons_succ]
  refine goingR_take (i := 1) (oi := { dst := some 5, op := Op.convert 22 9 (Operand.tmp 4), type := 9, pos := _, after := _, guard := none }) (v := _) rfl (by kernel_rfl) (by kernel_rfl) (by kernel_rfl) (fun _ _ _ h => h) (by rfl) (by intro w' hSw; have hq := hq0.out w' hSw; go_simp; try with_reducible rfl) ?_
  simp only [Act.put, List.setIfInBounds_toArray, List.set_cons_zero, List.set_cons_succ]
  refine goingR_take (i := 4) (oi := { dst := some 8, op := Op.binOp BinOp.eql 9 (Operand.tmp 5) (Operand.tmp 7) 9, type := 4, pos := _, after := _, guard := none }) (v := _) rfl (by kernel_rfl) (by kernel_rfl) (by kernel_rfl) (fun _ _ _ h => h) (by rfl) (by intro w' hSw; go_simp; try with_reducible rfl) ?_
  simp only [Act.put, List.setIfInBounds_toArray, List.set_cons_zero, List.set_cons_succ]
  refine goingR_take (i := 5) (oi := { dst := some 9, op := Op.move (Operand.tmp 8), type := 4, pos := _, after := _, guard := none }) (v := _) rfl (by kernel_rfl) (by kernel_rfl) (by kernel_rfl) (fun _ _ _ h => h) (by rfl) (by intro w' hSw; go_simp; try with_reducible rfl) ?_
  simp only [Act.put, List.setIfInBounds_toArray, List.set_cons_zero, List.set_cons_succ]
  all_goals
    refine goingR_fork (i := 6) (j := 8) (oi := { dst := some 10, op := Op.call { callee := Callee.value (Operand.func 12), args := #[Operand.const (Value.slice none 0 0), Operand.const (Value.int IntKind.i64 (-1))], argTypes := #[22, 3] }, type := 22, pos := _, after := _, guard := some (5, true) }) (oj := { dst := some 12, op := Op.buildSlice 22 1 #[(0, Operand.const (Value.int IntKind.u8 1))], type := 22, pos := _, after := _, guard := some (5, true) }) (by kernel_rfl) rfl rfl (by rfl) (by rfl) (fun K hK => ?_) (fun K hK => ?_)
    go_simp
    refine (putm1 _).mono ?_
    rintro e wd ⟨v1, rfl, hown1, hb1⟩
    refine hK.out _ _ (gb_below hb1) ?_
    have hq6 := hide (saysR_owns Try.underlying22 Try.underlying5 Try.underlying9 hown1 (rd_lt HR.out))
    replace HR := hide (rd_below HR.out hb1)
    replace HB := hide (HB.out.trans (hb1.mono HB.out.size))
    clear hown1 hb1
    clear hK K
    try simp only [Act.put, List.setIfInBounds_toArray, List.set_cons_zero, List.set_cons_succ]
    refine goingR_take (i := 7) (oi := { dst := some 11, op := Op.convert 22 9 (Operand.tmp 10), type := 9, pos := _, after := _, guard := some (5, true) }) (v := _) rfl (by kernel_rfl) (by kernel_rfl) (by kernel_rfl) (fun _ _ _ h => h) (by rfl) (by intro w' hSw; have hq := hq6.out w' hSw; go_simp; try with_reducible rfl) ?_
    simp only [Act.put, List.setIfInBounds_toArray, List.set_cons_zero, List.set_cons_succ]
    refine goingR_step (i := 8) (o := { dst := some 12, op := Op.buildSlice 22 1 #[(0, Operand.const (Value.int IntKind.u8 1))], type := 22, pos := _, after := _, guard := some (5, true) }) (by kernel_rfl) rfl (by rfl) (fun K hK => ?_)
    go_simp
    refine hK.out _ _ (gb_below ((Below.refl _ _).alloc (Nat.le_refl _) _)) ?_
    have hq8 := hide (built_says HR.out #[.int .u8 1] [1] 1 (by decide) rfl (by decide) rfl)
    replace HR := hide (rd_below HR.out ((Below.refl _ _).alloc (Nat.le_refl _) (.cells #[.int .u8 1] 5)))
    replace HB := hide (HB.out.alloc HB.out.size (.cells #[.int .u8 1] 5))
    clear hK K
    generalize hwq : wd.alloc (.cells #[.int .u8 1] 5) = wd at *
    clear hwq
    have hK := True.intro
    have K := True.intro
    clear hK K
    try simp only [Act.put, List.setIfInBounds_toArray, List.set_cons_zero, List.set_cons_succ]
    refine goingR_take (i := 9) (oi := { dst := some 13, op := Op.convert 22 9 (Operand.tmp 12), type := 9, pos := _, after := _, guard := some (5, true) }) (v := _) rfl (by kernel_rfl) (by kernel_rfl) (by kernel_rfl) (fun _ _ _ h => h) (by rfl) (by intro w' hSw; have hq := hq8.out w' hSw; go_simp; try with_reducible rfl) ?_
    simp only [Act.put, List.setIfInBounds_toArray, List.set_cons_zero, List.set_cons_succ]
    refine goingR_take (i := 10) (oi := { dst := some 14, op := Op.binOp BinOp.eql 9 (Operand.tmp 11) (Operand.tmp 13) 9, type := 4, pos := _, after := _, guard := some (5, true) }) (v := _) rfl (by kernel_rfl) (by kernel_rfl) (by kernel_rfl) (fun _ _ _ h => h) (by rfl) (by intro w' hSw; go_simp; try with_reducible rfl) ?_
    simp only [Act.put, List.setIfInBounds_toArray, List.set_cons_zero, List.set_cons_succ]
    refine goingR_take (i := 11) (oi := { dst := some 15, op := Op.pick (Operand.tmp 9) (Operand.tmp 14) (Operand.const (Value.bool false)), type := 4, pos := _, after := _, guard := none }) (v := _) rfl (by kernel_rfl) (by kernel_rfl) (by kernel_rfl) (fun _ _ _ h => h) (by rfl) (by intro w' hSw; go_simp; try with_reducible rfl) ?_
    simp only [Act.put, List.setIfInBounds_toArray, List.set_cons_zero, List.set_cons_succ]
    refine goingR_take (i := 12) (oi := { dst := some 16, op := Op.move (Operand.tmp 15), type := 4, pos := _, after := _, guard := none }) (v := _) rfl (by kernel_rfl) (by kernel_rfl) (by kernel_rfl) (fun _ _ _ h => h) (by rfl) (by intro w' hSw; go_simp; try with_reducible rfl) ?_
    simp only [Act.put, List.setIfInBounds_toArray, List.set_cons_zero, List.set_cons_succ]
    rotate_left
    go_simp
    refine hK.out _ _ (gb_below ((Below.refl _ _).alloc (Nat.le_refl _) _)) ?_
    have hq8 := hide (built_says HR.out #[.int .u8 1] [1] 1 (by decide) rfl (by decide) rfl)
    replace HR := hide (rd_below HR.out ((Below.refl _ _).alloc (Nat.le_refl _) (.cells #[.int .u8 1] 5)))
    replace HB := hide (HB.out.alloc HB.out.size (.cells #[.int .u8 1] 5))
    clear hK K
    generalize hwq : wd.alloc (.cells #[.int .u8 1] 5) = wd at *
    clear hwq
    have hK := True.intro
    have K := True.intro
    clear hK K
    try simp only [Act.put, List.setIfInBounds_toArray, List.set_cons_zero, List.set_cons_succ]
    refine goingR_take (i := 9) (oi := { dst := some 13, op := Op.convert 22 9 (Operand.tmp 12), type := 9, pos := _, after := _, guard := some (5, true) }) (v := _) rfl (by kernel_rfl) (by kernel_rfl) (by kernel_rfl) (fun _ _ _ h => h) (by rfl) (by intro w' hSw; have hq := hq8.out w' hSw; go_simp; try with_reducible rfl) ?_
    simp only [Act.put, List.setIfInBounds_toArray, List.set_cons_zero, List.set_cons_succ]
    refine goingR_step (i := 6) (o := { dst := some 10, op := Op.call { callee := Callee.value (Operand.func 12), args := #[Operand.const (Value.slice none 0 0), Operand.const (Value.int IntKind.i64 (-1))], argTypes := #[22, 3] }, type := 22, pos := _, after := _, guard := some (5, true) }) (by kernel_rfl) rfl (by rfl) (fun K hK => ?_)
    go_simp
    refine (putm1 _).mono ?_
    rintro e wd ⟨v1, rfl, hown1, hb1⟩
    refine hK.out _ _ (gb_below hb1) ?_
    have hq6 := hide (saysR_owns Try.underlying22 Try.underlying5 Try.underlying9 hown1 (rd_lt HR.out))
    replace HR := hide (rd_below HR.out hb1)
    replace HB := hide (HB.out.trans (hb1.mono HB.out.size))
    clear hown1 hb1
    clear hK K
    try simp only [Act.put, List.setIfInBounds_toArray, List.set_cons_zero, List.set_cons_succ]
    refine goingR_take (i := 7) (oi := { dst := some 11, op := Op.convert 22 9 (Operand.tmp 10), type := 9, pos := _, after := _, guard := some (5, true) }) (v := _) rfl (by kernel_rfl) (by kernel_rfl) (by kernel_rfl) (fun _ _ _ h => h) (by rfl) (by intro w' hSw; have hq := hq6.out w' hSw; go_simp; try with_reducible rfl) ?_
    simp only [Act.put, List.setIfInBounds_toArray, List.set_cons_zero, List.set_cons_succ]
    refine goingR_take (i := 10) (oi := { dst := some 14, op := Op.binOp BinOp.eql 9 (Operand.tmp 11) (Operand.tmp 13) 9, type := 4, pos := _, after := _, guard := some (5, true) }) (v := _) rfl (by kernel_rfl) (by kernel_rfl) (by kernel_rfl) (fun _ _ _ h => h) (by rfl) (by intro w' hSw; go_simp; try with_reducible rfl) ?_
    simp only [Act.put, List.setIfInBounds_toArray, List.set_cons_zero, List.set_cons_succ]
    refine goingR_take (i := 11) (oi := { dst := some 15, op := Op.pick (Operand.tmp 9) (Operand.tmp 14) (Operand.const (Value.bool false)), type := 4, pos := _, after := _, guard := none }) (v := _) rfl (by kernel_rfl) (by kernel_rfl) (by kernel_rfl) (fun _ _ _ h => h) (by rfl) (by intro w' hSw; go_simp; try with_reducible rfl) ?_
    simp only [Act.put, List.setIfInBounds_toArray, List.set_cons_zero, List.set_cons_succ]
    refine goingR_take (i := 12) (oi := { dst := some 16, op := Op.move (Operand.tmp 15), type := 4, pos := _, after := _, guard := none }) (v := _) rfl (by kernel_rfl) (by kernel_rfl) (by kernel_rfl) (fun _ _ _ h => h) (by rfl) (by intro w' hSw; go_simp; try with_reducible rfl) ?_
    simp only [Act.put, List.setIfInBounds_toArray, List.set_cons_zero, List.set_cons_succ]
  all_goals
    refine goingR_fork (i := 13) (j := 15) (oi := { dst := some 17, op := Op.call { callee := Callee.value (Operand.func 14), args := #[Operand.const (Value.slice none 0 0), Operand.const (Value.string { data := #[97, 98] })], argTypes := #[22, 9] }, type := 22, pos := _, after := _, guard := some (12, true) }) (oj := { dst := some 19, op := Op.buildSlice 22 3 #[(0, Operand.const (Value.int IntKind.u8 2)), (1, Operand.const (Value.int IntKind.u8 97)), (2, Operand.const (Value.int IntKind.u8 98))], type := 22, pos := _, after := _, guard := some (12, true) }) (by kernel_rfl) rfl rfl (by rfl) (by rfl) (fun K hK => ?_) (fun K hK => ?_)
    go_simp
    refine (putab _).mono ?_
    rintro e wd ⟨v1, rfl, hown1, hb1⟩
    refine hK.out _ _ (gb_below hb1) ?_
    have hq13 := hide (saysR_owns Try.underlying22 Try.underlying5 Try.underlying9 hown1 (rd_lt HR.out))
    replace HR := hide (rd_below HR.out hb1)
    replace HB := hide (HB.out.trans (hb1.mono HB.out.size))
    clear hown1 hb1
    clear hK K
    try simp only [Act.put, List.setIfInBounds_toArray, List.set_cons_zero, List.set_cons_succ]
    refine goingR_take (i := 14) (oi := { dst := some 18, op := Op.convert 22 9 (Operand.tmp 17), type := 9, pos := _, after := _, guard := some (12, true) }) (v := _) rfl (by kernel_rfl) (by kernel_rfl) (by kernel_rfl) (fun _ _ _ h => h) (by rfl) (by intro w' hSw; have hq := hq13.out w' hSw; go_simp; try with_reducible rfl) ?_
    simp only [Act.put, List.setIfInBounds_toArray, List.set_cons_zero, List.set_cons_succ]
    refine goingR_step (i := 15) (o := { dst := some 19, op := Op.buildSlice 22 3 #[(0, Operand.const (Value.int IntKind.u8 2)), (1, Operand.const (Value.int IntKind.u8 97)), (2, Operand.const (Value.int IntKind.u8 98))], type := 22, pos := _, after := _, guard := some (12, true) }) (by kernel_rfl) rfl (by rfl) (fun K hK => ?_)
    go_simp
    refine hK.out _ _ (gb_below ((Below.refl _ _).alloc (Nat.le_refl _) _)) ?_
    have hq15 := hide (built_says HR.out #[.int .u8 2, .int .u8 97, .int .u8 98] [2, 97, 98] 3 (by decide) rfl (by decide) rfl)
    replace HR := hide (rd_below HR.out ((Below.refl _ _).alloc (Nat.le_refl _) (.cells #[.int .u8 2, .int .u8 97, .int .u8 98] 5)))
    replace HB := hide (HB.out.alloc HB.out.size (.cells #[.int .u8 2, .int .u8 97, .int .u8 98] 5))
    clear hK K
    generalize hwq : wd.alloc (.cells #[.int .u8 2, .int .u8 97, .int .u8 98] 5) = wd at *
    clear hwq
    have hK := True.intro
    have K := True.intro
    clear hK K
    try simp only [Act.put, List.setIfInBounds_toArray, List.set_cons_zero, List.set_cons_succ]
    refine goingR_take (i := 16) (oi := { dst := some 20, op := Op.convert 22 9 (Operand.tmp 19), type := 9, pos := _, after := _, guard := some (12, true) }) (v := _) rfl (by kernel_rfl) (by kernel_rfl) (by kernel_rfl) (fun _ _ _ h => h) (by rfl) (by intro w' hSw; have hq := hq15.out w' hSw; go_simp; try with_reducible rfl) ?_
    simp only [Act.put, List.setIfInBounds_toArray, List.set_cons_zero, List.set_cons_succ]
    refine goingR_take (i := 17) (oi := { dst := some 21, op := Op.binOp BinOp.eql 9 (Operand.tmp 18) (Operand.tmp 20) 9, type := 4, pos := _, after := _, guard := some (12, true) }) (v := _) rfl (by kernel_rfl) (by kernel_rfl) (by kernel_rfl) (fun _ _ _ h => h) (by rfl) (by intro w' hSw; go_simp; try with_reducible rfl) ?_
    simp only [Act.put, List.setIfInBounds_toArray, List.set_cons_zero, List.set_cons_succ]
    refine goingR_take (i := 18) (oi := { dst := some 22, op := Op.pick (Operand.tmp 16) (Operand.tmp 21) (Operand.const (Value.bool false)), type := 4, pos := _, after := _, guard := none }) (v := _) rfl (by kernel_rfl) (by kernel_rfl) (by kernel_rfl) (fun _ _ _ h => h) (by rfl) (by intro w' hSw; go_simp; try with_reducible rfl) ?_
    simp only [Act.put, List.setIfInBounds_toArray, List.set_cons_zero, List.set_cons_succ]
    refine goingR_take (i := 19) (oi := { dst := some 23, op := Op.move (Operand.tmp 22), type := 4, pos := _, after := _, guard := none }) (v := _) rfl (by kernel_rfl) (by kernel_rfl) (by kernel_rfl) (fun _ _ _ h => h) (by rfl) (by intro w' hSw; go_simp; try with_reducible rfl) ?_
    simp only [Act.put, List.setIfInBounds_toArray, List.set_cons_zero, List.set_cons_succ]
    refine goingR_take (i := 20) (oi := { dst := some 24, op := Op.move (Operand.tmp 1), type := 27, pos := _, after := _, guard := some (19, true) }) (v := _) rfl (by kernel_rfl) (by kernel_rfl) (by kernel_rfl) (fun _ _ _ h => h) (by rfl) (by intro w' hSw; go_simp; try with_reducible rfl) ?_
    simp only [Act.put, List.setIfInBounds_toArray, List.set_cons_zero, List.set_cons_succ]
    refine goingR_take (i := 21) (oi := { dst := some 25, op := Op.binOp BinOp.neq 27 (Operand.tmp 24) (Operand.const (Value.pointer none)) 27, type := 4, pos := _, after := _, guard := some (19, true) }) (v := _) rfl (by kernel_rfl) (by kernel_rfl) (by kernel_rfl) (fun _ _ _ h => h) (by rfl) (by intro w' hSw; go_simp; try with_reducible rfl) ?_
    simp only [Act.put, List.setIfInBounds_toArray, List.set_cons_zero, List.set_cons_succ]
    refine goingR_take (i := 22) (oi := { dst := some 26, op := Op.pick (Operand.tmp 23) (Operand.tmp 25) (Operand.const (Value.bool false)), type := 4, pos := _, after := _, guard := none }) (v := _) rfl (by kernel_rfl) (by kernel_rfl) (by kernel_rfl) (fun _ _ _ h => h) (by rfl) (by intro w' hSw; go_simp; try with_reducible rfl) ?_
    simp only [Act.put, List.setIfInBounds_toArray, List.set_cons_zero, List.set_cons_succ]
    refine goingR_take (i := 23) (oi := { dst := some 27, op := Op.move (Operand.tmp 26), type := 4, pos := _, after := _, guard := none }) (v := _) rfl (by kernel_rfl) (by kernel_rfl) (by kernel_rfl) (fun _ _ _ h => h) (by rfl) (by intro w' hSw; go_simp; try with_reducible rfl) ?_
    simp only [Act.put, List.setIfInBounds_toArray, List.set_cons_zero, List.set_cons_succ]
    refine goingR_take (i := 24) (oi := { dst := some 28, op := Op.move (Operand.tmp 1), type := 27, pos := _, after := _, guard := some (23, true) }) (v := _) rfl (by kernel_rfl) (by kernel_rfl) (by kernel_rfl) (fun _ _ _ h => h) (by rfl) (by intro w' hSw; go_simp; try with_reducible rfl) ?_
    simp only [Act.put, List.setIfInBounds_toArray, List.set_cons_zero, List.set_cons_succ]
    rotate_left
    go_simp
    refine hK.out _ _ (gb_below ((Below.refl _ _).alloc (Nat.le_refl _) _)) ?_
    have hq15 := hide (built_says HR.out #[.int .u8 2, .int .u8 97, .int .u8 98] [2, 97, 98] 3 (by decide) rfl (by decide) rfl)
    replace HR := hide (rd_below HR.out ((Below.refl _ _).alloc (Nat.le_refl _) (.cells #[.int .u8 2, .int .u8 97, .int .u8 98] 5)))
    replace HB := hide (HB.out.alloc HB.out.size (.cells #[.int .u8 2, .int .u8 97, .int .u8 98] 5))
    clear hK K
    generalize hwq : wd.alloc (.cells #[.int .u8 2, .int .u8 97, .int .u8 98] 5) = wd at *
    clear hwq
    have hK := True.intro
    have K := True.intro
    clear hK K
    try simp only [Act.put, List.setIfInBounds_toArray, List.set_cons_zero, List.set_cons_succ]
    refine goingR_take (i := 16) (oi := { dst := some 20, op := Op.convert 22 9 (Operand.tmp 19), type := 9, pos := _, after := _, guard := some (12, true) }) (v := _) rfl (by kernel_rfl) (by kernel_rfl) (by kernel_rfl) (fun _ _ _ h => h) (by rfl) (by intro w' hSw; have hq := hq15.out w' hSw; go_simp; try with_reducible rfl) ?_
    simp only [Act.put, List.setIfInBounds_toArray, List.set_cons_zero, List.set_cons_succ]
    refine goingR_step (i := 13) (o := { dst := some 17, op := Op.call { callee := Callee.value (Operand.func 14), args := #[Operand.const (Value.slice none 0 0), Operand.const (Value.string { data := #[97, 98] })], argTypes := #[22, 9] }, type := 22, pos := _, after := _, guard := some (12, true) }) (by kernel_rfl) rfl (by rfl) (fun K hK => ?_)
    go_simp
    refine (putab _).mono ?_
    rintro e wd ⟨v1, rfl, hown1, hb1⟩
    refine hK.out _ _ (gb_below hb1) ?_
    have hq13 := hide (saysR_owns Try.underlying22 Try.underlying5 Try.underlying9 hown1 (rd_lt HR.out))
    replace HR := hide (rd_below HR.out hb1)
    replace HB := hide (HB.out.trans (hb1.mono HB.out.size))
    clear hown1 hb1
    clear hK K
    try simp only [Act.put, List.setIfInBounds_toArray, List.set_cons_zero, List.set_cons_succ]
    refine goingR_take (i := 14) (oi := { dst := some 18, op := Op.convert 22 9 (Operand.tmp 17), type := 9, pos := _, after := _, guard := some (12, true) }) (v := _) rfl (by kernel_rfl) (by kernel_rfl) (by kernel_rfl) (fun _ _ _ h => h) (by rfl) (by intro w' hSw; have hq := hq13.out w' hSw; go_simp; try with_reducible rfl) ?_
    simp only [Act.put, List.setIfInBounds_toArray, List.set_cons_zero, List.set_cons_succ]
    refine goingR_take (i := 17) (oi := { dst := some 21, op := Op.binOp BinOp.eql 9 (Operand.tmp 18) (Operand.tmp 20) 9, type := 4, pos := _, after := _, guard := some (12, true) }) (v := _) rfl (by kernel_rfl) (by kernel_rfl) (by kernel_rfl) (fun _ _ _ h => h) (by rfl) (by intro w' hSw; go_simp; try with_reducible rfl) ?_
    simp only [Act.put, List.setIfInBounds_toArray, List.set_cons_zero, List.set_cons_succ]
    refine goingR_take (i := 18) (oi := { dst := some 22, op := Op.pick (Operand.tmp 16) (Operand.tmp 21) (Operand.const (Value.bool false)), type := 4, pos := _, after := _, guard := none }) (v := _) rfl (by kernel_rfl) (by kernel_rfl) (by kernel_rfl) (fun _ _ _ h => h) (by rfl) (by intro w' hSw; go_simp; try with_reducible rfl) ?_
    simp only [Act.put, List.setIfInBounds_toArray, List.set_cons_zero, List.set_cons_succ]
    refine goingR_take (i := 19) (oi := { dst := some 23, op := Op.move (Operand.tmp 22), type := 4, pos := _, after := _, guard := none }) (v := _) rfl (by kernel_rfl) (by kernel_rfl) (by kernel_rfl) (fun _ _ _ h => h) (by rfl) (by intro w' hSw; go_simp; try with_reducible rfl) ?_
    simp only [Act.put, List.setIfInBounds_toArray, List.set_cons_zero, List.set_cons_succ]
    refine goingR_take (i := 20) (oi := { dst := some 24, op := Op.move (Operand.tmp 1), type := 27, pos := _, after := _, guard := some (19, true) }) (v := _) rfl (by kernel_rfl) (by kernel_rfl) (by kernel_rfl) (fun _ _ _ h => h) (by rfl) (by intro w' hSw; go_simp; try with_reducible rfl) ?_
    simp only [Act.put, List.setIfInBounds_toArray, List.set_cons_zero, List.set_cons_succ]
    refine goingR_take (i := 21) (oi := { dst := some 25, op := Op.binOp BinOp.neq 27 (Operand.tmp 24) (Operand.const (Value.pointer none)) 27, type := 4, pos := _, after := _, guard := some (19, true) }) (v := _) rfl (by kernel_rfl) (by kernel_rfl) (by kernel_rfl) (fun _ _ _ h => h) (by rfl) (by intro w' hSw; go_simp; try with_reducible rfl) ?_
    simp only [Act.put, List.setIfInBounds_toArray, List.set_cons_zero, List.set_cons_succ]
    refine goingR_take (i := 22) (oi := { dst := some 26, op := Op.pick (Operand.tmp 23) (Operand.tmp 25) (Operand.const (Value.bool false)), type := 4, pos := _, after := _, guard := none }) (v := _) rfl (by kernel_rfl) (by kernel_rfl) (by kernel_rfl) (fun _ _ _ h => h) (by rfl) (by intro w' hSw; go_simp; try with_reducible rfl) ?_
    simp only [Act.put, List.setIfInBounds_toArray, List.set_cons_zero, List.set_cons_succ]
    refine goingR_take (i := 23) (oi := { dst := some 27, op := Op.move (Operand.tmp 26), type := 4, pos := _, after := _, guard := none }) (v := _) rfl (by kernel_rfl) (by kernel_rfl) (by kernel_rfl) (fun _ _ _ h => h) (by rfl) (by intro w' hSw; go_simp; try with_reducible rfl) ?_
    simp only [Act.put, List.setIfInBounds_toArray, List.set_cons_zero, List.set_cons_succ]
    refine goingR_take (i := 24) (oi := { dst := some 28, op := Op.move (Operand.tmp 1), type := 27, pos := _, after := _, guard := some (23, true) }) (v := _) rfl (by kernel_rfl) (by kernel_rfl) (by kernel_rfl) (fun _ _ _ h => h) (by rfl) (by intro w' hSw; go_simp; try with_reducible rfl) ?_
    simp only [Act.put, List.setIfInBounds_toArray, List.set_cons_zero, List.set_cons_succ]
  all_goals
    refine goingR_step (i := 25) (o := { dst := some 29, op := Op.call { callee := Callee.value (Operand.func 20), args := #[Operand.tmp 28], argTypes := #[27] }, type := 3, pos := _, after := _, guard := some (23, true) }) (by kernel_rfl) rfl (by rfl) (fun K hK => ?_)
    go_simp
    refine (Num_any g [128, 0] true _ HR.out (by decide) (by decide)).mono ?_
    rintro e wd ⟨z, rfl, hn⟩
    obtain ⟨ht, ⟨n, k, h1, -⟩ | ⟨-, rfl, hr⟩⟩ := hn
    · exact absurd h1 (by rw [num_128_0]; simp)
    refine hK.out _ _ ht.1 ?_
    replace HB := hide (HB.out.trans (ht.below HG.out HB.out.size))
    replace HR := hide hr
    clear ht hr
    clear hK K
    try simp only [Act.put, List.setIfInBounds_toArray, List.set_cons_zero, List.set_cons_succ]
    refine goingR_take (i := 26) (oi := { dst := some 30, op := Op.binOp BinOp.eql 3 (Operand.tmp 29) (Operand.const (Value.int IntKind.i64 0)) 3, type := 4, pos := _, after := _, guard := some (23, true) }) (v := _) rfl (by kernel_rfl) (by kernel_rfl) (by kernel_rfl) (fun _ _ _ h => h) (by rfl) (by intro w' hSw; go_simp; try with_reducible rfl) ?_
    simp only [Act.put, List.setIfInBounds_toArray, List.set_cons_zero, List.set_cons_succ]
    refine goingR_take (i := 27) (oi := { dst := some 31, op := Op.pick (Operand.tmp 27) (Operand.tmp 30) (Operand.const (Value.bool false)), type := 4, pos := _, after := _, guard := none }) (v := _) rfl (by kernel_rfl) (by kernel_rfl) (by kernel_rfl) (fun _ _ _ h => h) (by rfl) (by intro w' hSw; go_simp; try with_reducible rfl) ?_
    simp only [Act.put, List.setIfInBounds_toArray, List.set_cons_zero, List.set_cons_succ]
    refine goingR_take (i := 28) (oi := { dst := some 32, op := Op.move (Operand.tmp 31), type := 4, pos := _, after := _, guard := none }) (v := _) rfl (by kernel_rfl) (by kernel_rfl) (by kernel_rfl) (fun _ _ _ h => h) (by rfl) (by intro w' hSw; go_simp; try with_reducible rfl) ?_
    simp only [Act.put, List.setIfInBounds_toArray, List.set_cons_zero, List.set_cons_succ]
    refine goingR_take (i := 29) (oi := { dst := some 33, op := Op.move (Operand.tmp 1), type := 27, pos := _, after := _, guard := some (28, true) }) (v := _) rfl (by kernel_rfl) (by kernel_rfl) (by kernel_rfl) (fun _ _ _ h => h) (by rfl) (by intro w' hSw; go_simp; try with_reducible rfl) ?_
    simp only [Act.put, List.setIfInBounds_toArray, List.set_cons_zero, List.set_cons_succ]
  all_goals
    refine goingR_step (i := 30) (o := { dst := some 34, op := Op.call { callee := Callee.value (Operand.func 23), args := #[Operand.tmp 33], argTypes := #[27] }, type := 4, pos := _, after := _, guard := some (28, true) }) (by kernel_rfl) rfl (by rfl) (fun K hK => ?_)
    go_simp
    refine (Bad_any g [] false _ HR.out).mono ?_
    rintro e w1 ⟨rfl, hw⟩
    subst hw
    refine hK.out _ _ (gb_refl _ _) ?_
    clear hK K
    try simp only [Act.put, List.setIfInBounds_toArray, List.set_cons_zero, List.set_cons_succ]
    refine goingR_take (i := 31) (oi := { dst := some 35, op := Op.pick (Operand.tmp 32) (Operand.tmp 34) (Operand.const (Value.bool false)), type := 4, pos := _, after := _, guard := none }) (v := _) rfl (by kernel_rfl) (by kernel_rfl) (by kernel_rfl) (fun _ _ _ h => h) (by rfl) (by intro w' hSw; go_simp; try with_reducible rfl) ?_
    simp only [Act.put, List.setIfInBounds_toArray, List.set_cons_zero, List.set_cons_succ]
    refine goingR_take (i := 32) (oi := { dst := some 0, op := Op.assign (Operand.tmp 35), type := 4, pos := _, after := _, guard := none }) (v := _) rfl (by kernel_rfl) (by kernel_rfl) (by kernel_rfl) (fun _ _ _ h => h) (by rfl) (by intro w' hSw; go_simp; try with_reducible rfl) ?_
    simp only [Act.put, List.setIfInBounds_toArray, List.set_cons_zero]
  all_goals
    refine goingR_done (by kernel_rfl) ?_
  all_goals
    go_wp2
    go_ret
    exact ⟨rfl, HB.out⟩
end Go.Proofs.Ytaichjkenfnkbaa
