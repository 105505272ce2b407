/- letters: the words: LettersWords. -/
import Derived.Test.YteimabnkpdbhaaaLG
import Derived.Laws.Concat
namespace Go.Proofs.Yteimabnkpdbhaaa.L
open Go.Proofs.Yteimabnkpdbhaaa Go.RowKit Go.By
set_option linter.unusedVariables false
set_option linter.unusedSimpArgs false
attribute [local go_sem ↓] Go.wp_at_zero Go.wp_at_succ

theorem words_are : ∀ k : Fin 15, wordB (wordsL.getD k.val ⟨#[]⟩) = true ∧ nameB (wordsL.getD k.val ⟨#[]⟩) = false ∧ nameB (wordsL.getD k.val ⟨#[]⟩ ++ ⟨#[95]⟩) = true ∧ (wordsL.getD k.val ⟨#[]⟩).size ≤ 10 ∧ (wordsL.getD k.val ⟨#[]⟩ ++ ⟨#[95]⟩).size ≤ 11 := by
  simp only [nameB_data, wordB_data]
  decide +kernel
theorem the_word (i : Int) : ∃ K : Nat, wrap64 ((IntKind.u64.wrap i).tmod 15) = (K : Int) ∧ K < 15 := by
  have h0 : 0 ≤ IntKind.u64.wrap i := by rw [IntKind.wrap_u64]; omega
  generalize IntKind.u64.wrap i = z at *
  rw [Int.tmod_eq_emod_of_nonneg h0]
  refine ⟨(z % 15).toNat, ?_, by omega⟩
  unfold wrap64
  omega

set_option maxRecDepth 20000 in
set_option maxHeartbeats 4000000 in
theorem lwords_any (i : Int) (w : World) : Calls Try.prog 5 #[.int .i64 i] w fun e W' => e = .returned (.bool true) ∧ Below w.heap.size w W' := by
  obtain ⟨K, hK, hK15⟩ := the_word i
  obtain ⟨a1, a2, a3, a4, a5⟩ := words_are ⟨K, hK15⟩
  have HK15 : Hid (K < wordsL.length) := hide hK15
  have h15 : (K : Int) < 15 := by omega
  obtain ⟨y, HY⟩ : ∃ y, Hid (wordsL.getD K ⟨#[]⟩ = y) := ⟨_, hide rfl⟩
  rw [HY.out] at a1 a2 a3 a4 a5
  have HWd := hide (word_any y)
  have HNm := hide (fun W => name_any y W (by omega))
  have HN2 := hide (fun W => name_any (y ++ ⟨#[95]⟩) W (by omega))
  rw [a1] at HWd
  rw [a2] at HNm
  rw [a3] at HN2
  clear a1 a2 a3 a5
  go_enter Try.func5, Try.ntmps5
  go_wp2_with (first
    | (go_at_call 21; refine (pwords_any _).mono ?_; rintro e W1 ⟨g1, rfl, hr, hb⟩; have HR1 := hide hr; have HB1 := hide hb; clear hr hb)
    | (go_at_call 22; refine (rwords_any _).mono ?_; rintro e W2 ⟨g2, rfl, hr, hb⟩; have HR2 := hide (HR1.out.below hb); have HR3 := hide hr; have HB2 := hide (HB1.out.trans (hb.mono HB1.out.size)); clear hr hb))
  refine going_start (by kernel_rfl) ?_
  replace HB2 := hide HB2.out.drew
  replace HR2 := hide (HR2.out.below (Below.refl _ W2).drew)
  replace HR3 := hide (HR3.out.below (Below.refl _ W2).drew)
  have HB := HB2
  generalize W2.drew = wd at *
  clear HB1 HR1 HB2
  refine going_take (i := 0) (oi := { dst := some 20, op := Op.move (Operand.tmp 3), type := 28, pos := _, after := _, guard := none }) (v := _) rfl (by kernel_rfl) (by kernel_rfl) (by kernel_rfl) (fun _ _ _ h => h) (by rfl) (by intro w' hSw; go_simp; try with_reducible rfl) ?_
  simp only [Act.put, List.setIfInBounds_toArray, List.set_cons_zero, List.set_cons_succ]
  refine going_take (i := 1) (oi := { dst := some 21, op := Op.move (Operand.tmp 5), type := 3, pos := _, after := _, guard := none }) (v := _) rfl (by kernel_rfl) (by kernel_rfl) (by kernel_rfl) (fun _ _ _ h => h) (by rfl) (by intro w' hSw; go_simp; try with_reducible rfl) ?_
  simp only [Act.put, List.setIfInBounds_toArray, List.set_cons_zero, List.set_cons_succ]
  refine going_take (i := 2) (oi := { dst := some 22, op := Op.indexAddr 28 (Operand.tmp 20) (Operand.tmp 21), type := 0, pos := _, after := _, guard := none }) (v := _) rfl (by kernel_rfl) (by kernel_rfl) (by kernel_rfl) (fun _ _ _ h => h) (by rfl) (by intro w' hSw; go_simp; try with_reducible rfl) ?_
  simp only [Act.put, List.setIfInBounds_toArray, List.set_cons_zero, List.set_cons_succ]
  refine going_take (i := 3) (oi := { dst := some 23, op := Op.load 9 (Operand.tmp 22), type := 9, pos := _, after := _, guard := none }) (v := _) rfl (by kernel_rfl) (by kernel_rfl) (by kernel_rfl) (fun _ _ _ h => h) (by rfl) (by intro w' hSw; have hc := (HR2.out.below hSw).2 K HK15.out; rw [HY.out] at hc; go_simp; try with_reducible rfl) ?_
  simp only [Act.put, List.setIfInBounds_toArray, List.set_cons_zero, List.set_cons_succ]
  refine going_take (i := 4) (oi := { dst := some 24, op := Op.move (Operand.tmp 4), type := 28, pos := _, after := _, guard := none }) (v := _) rfl (by kernel_rfl) (by kernel_rfl) (by kernel_rfl) (fun _ _ _ h => h) (by rfl) (by intro w' hSw; go_simp; try with_reducible rfl) ?_
  simp only [Act.put, List.setIfInBounds_toArray, List.set_cons_zero, List.set_cons_succ]
  refine going_take (i := 5) (oi := { dst := some 25, op := Op.move (Operand.tmp 5), type := 3, pos := _, after := _, guard := none }) (v := _) rfl (by kernel_rfl) (by kernel_rfl) (by kernel_rfl) (fun _ _ _ h => h) (by rfl) (by intro w' hSw; go_simp; try with_reducible rfl) ?_
  simp only [Act.put, List.setIfInBounds_toArray, List.set_cons_zero, List.set_cons_succ]
  refine going_take (i := 6) (oi := { dst := some 26, op := Op.indexAddr 28 (Operand.tmp 24) (Operand.tmp 25), type := 0, pos := _, after := _, guard := none }) (v := _) rfl (by kernel_rfl) (by kernel_rfl) (by kernel_rfl) (fun _ _ _ h => h) (by rfl) (by intro w' hSw; go_simp; try with_reducible rfl) ?_
  simp only [Act.put, List.setIfInBounds_toArray, List.set_cons_zero, List.set_cons_succ]
  refine going_take (i := 7) (oi := { dst := some 27, op := Op.load 9 (Operand.tmp 26), type := 9, pos := _, after := _, guard := none }) (v := _) rfl (by kernel_rfl) (by kernel_rfl) (by kernel_rfl) (fun _ _ _ h => h) (by rfl) (by intro w' hSw; have hc := (HR3.out.below hSw).2 K HK15.out; rw [HY.out] at hc; go_simp; try with_reducible rfl) ?_
  simp only [Act.put, List.setIfInBounds_toArray, List.set_cons_zero, List.set_cons_succ]
  refine going_take (i := 8) (oi := { dst := some 28, op := Op.binOp BinOp.eql 9 (Operand.tmp 23) (Operand.tmp 27) 9, type := 4, pos := _, after := _, guard := none }) (v := _) rfl (by kernel_rfl) (by kernel_rfl) (by kernel_rfl) (fun _ _ _ h => h) (by rfl) (by intro w' hSw; go_simp; try with_reducible rfl) ?_
  simp only [Act.put, List.setIfInBounds_toArray, List.set_cons_zero, List.set_cons_succ]
  refine going_take (i := 9) (oi := { dst := some 29, op := Op.move (Operand.tmp 28), type := 4, pos := _, after := _, guard := none }) (v := _) rfl (by kernel_rfl) (by kernel_rfl) (by kernel_rfl) (fun _ _ _ h => h) (by rfl) (by intro w' hSw; go_simp; try with_reducible rfl) ?_
  simp only [Act.put, List.setIfInBounds_toArray, List.set_cons_zero, List.set_cons_succ]
  refine going_take (i := 10) (oi := { dst := some 30, op := Op.move (Operand.tmp 3), type := 28, pos := _, after := _, guard := some (9, true) }) (v := _) rfl (by kernel_rfl) (by kernel_rfl) (by kernel_rfl) (fun _ _ _ h => h) (by rfl) (by intro w' hSw; go_simp; try with_reducible rfl) ?_
  simp only [Act.put, List.setIfInBounds_toArray, List.set_cons_zero, List.set_cons_succ]
  refine going_take (i := 11) (oi := { dst := some 31, op := Op.move (Operand.tmp 5), type := 3, pos := _, after := _, guard := some (9, true) }) (v := _) rfl (by kernel_rfl) (by kernel_rfl) (by kernel_rfl) (fun _ _ _ h => h) (by rfl) (by intro w' hSw; go_simp; try with_reducible rfl) ?_
  simp only [Act.put, List.setIfInBounds_toArray, List.set_cons_zero, List.set_cons_succ]
  refine going_take (i := 12) (oi := { dst := some 32, op := Op.indexAddr 28 (Operand.tmp 30) (Operand.tmp 31), type := 0, pos := _, after := _, guard := some (9, true) }) (v := _) rfl (by kernel_rfl) (by kernel_rfl) (by kernel_rfl) (fun _ _ _ h => h) (by rfl) (by intro w' hSw; go_simp; try with_reducible rfl) ?_
  simp only [Act.put, List.setIfInBounds_toArray, List.set_cons_zero, List.set_cons_succ]
  refine going_take (i := 13) (oi := { dst := some 33, op := Op.load 9 (Operand.tmp 32), type := 9, pos := _, after := _, guard := some (9, true) }) (v := _) rfl (by kernel_rfl) (by kernel_rfl) (by kernel_rfl) (fun _ _ _ h => h) (by rfl) (by intro w' hSw; have hc := (HR2.out.below hSw).2 K HK15.out; rw [HY.out] at hc; go_simp; try with_reducible rfl) ?_
  simp only [Act.put, List.setIfInBounds_toArray, List.set_cons_zero, List.set_cons_succ]
  refine going_step (i := 14) (o := { dst := some 34, op := Op.call { callee := Callee.value (Operand.func 16), args := #[Operand.tmp 33], argTypes := #[9] }, type := 4, pos := _, after := _, guard := some (9, true) }) (by kernel_rfl) rfl (by rfl) (fun K hK => ?_)
  go_simp
  refine (HWd.out _).mono ?_
  rintro e wd ⟨rfl, hb1⟩
  refine hK.out _ _ hb1 ?_
  replace HB := hide (HB.out.trans (hb1.mono HB.out.size))
  replace HR2 := hide (HR2.out.below hb1)
  replace HR3 := hide (HR3.out.below hb1)
  clear hb1
  clear hK K
  try simp only [Act.put, List.setIfInBounds_toArray, List.set_cons_zero, List.set_cons_succ]
  refine going_take (i := 15) (oi := { dst := some 35, op := Op.pick (Operand.tmp 29) (Operand.tmp 34) (Operand.const (Value.bool false)), type := 4, pos := _, after := _, guard := none }) (v := _) rfl (by kernel_rfl) (by kernel_rfl) (by kernel_rfl) (fun _ _ _ h => h) (by rfl) (by intro w' hSw; go_simp; try with_reducible rfl) ?_
  simp only [Act.put, List.setIfInBounds_toArray, List.set_cons_zero, List.set_cons_succ]
  refine going_take (i := 16) (oi := { dst := some 36, op := Op.move (Operand.tmp 35), type := 4, pos := _, after := _, guard := none }) (v := _) rfl (by kernel_rfl) (by kernel_rfl) (by kernel_rfl) (fun _ _ _ h => h) (by rfl) (by intro w' hSw; go_simp; try with_reducible rfl) ?_
  simp only [Act.put, List.setIfInBounds_toArray, List.set_cons_zero, List.set_cons_succ]
  refine going_take (i := 17) (oi := { dst := some 37, op := Op.move (Operand.tmp 3), type := 28, pos := _, after := _, guard := some (16, true) }) (v := _) rfl (by kernel_rfl) (by kernel_rfl) (by kernel_rfl) (fun _ _ _ h => h) (by rfl) (by intro w' hSw; go_simp; try with_reducible rfl) ?_
  simp only [Act.put, List.setIfInBounds_toArray, List.set_cons_zero, List.set_cons_succ]
  refine going_take (i := 18) (oi := { dst := some 38, op := Op.move (Operand.tmp 5), type := 3, pos := _, after := _, guard := some (16, true) }) (v := _) rfl (by kernel_rfl) (by kernel_rfl) (by kernel_rfl) (fun _ _ _ h => h) (by rfl) (by intro w' hSw; go_simp; try with_reducible rfl) ?_
  simp only [Act.put, List.setIfInBounds_toArray, List.set_cons_zero, List.set_cons_succ]
  refine going_take (i := 19) (oi := { dst := some 39, op := Op.indexAddr 28 (Operand.tmp 37) (Operand.tmp 38), type := 0, pos := _, after := _, guard := some (16, true) }) (v := _) rfl (by kernel_rfl) (by kernel_rfl) (by kernel_rfl) (fun _ _ _ h => h) (by rfl) (by intro w' hSw; go_simp; try with_reducible rfl) ?_
  simp only [Act.put, List.setIfInBounds_toArray, List.set_cons_zero, List.set_cons_succ]
  refine going_take (i := 20) (oi := { dst := some 40, op := Op.load 9 (Operand.tmp 39), type := 9, pos := _, after := _, guard := some (16, true) }) (v := _) rfl (by kernel_rfl) (by kernel_rfl) (by kernel_rfl) (fun _ _ _ h => h) (by rfl) (by intro w' hSw; have hc := (HR2.out.below hSw).2 K HK15.out; rw [HY.out] at hc; go_simp; try with_reducible rfl) ?_
  simp only [Act.put, List.setIfInBounds_toArray, List.set_cons_zero, List.set_cons_succ]
  refine going_step (i := 21) (o := { dst := some 41, op := Op.call { callee := Callee.value (Operand.func 18), args := #[Operand.tmp 40], argTypes := #[9] }, type := 4, pos := _, after := _, guard := some (16, true) }) (by kernel_rfl) rfl (by rfl) (fun K hK => ?_)
  go_simp
  refine (HNm.out _).mono ?_
  rintro e wd ⟨rfl, hb1⟩
  refine hK.out _ _ hb1 ?_
  replace HB := hide (HB.out.trans (hb1.mono HB.out.size))
  replace HR2 := hide (HR2.out.below hb1)
  replace HR3 := hide (HR3.out.below hb1)
  clear hb1
  clear hK K
  try simp only [Act.put, List.setIfInBounds_toArray, List.set_cons_zero, List.set_cons_succ]
  refine going_take (i := 22) (oi := { dst := some 42, op := Op.unOp UnOp.not 4 (Operand.tmp 41), type := 4, pos := _, after := _, guard := some (16, true) }) (v := _) rfl (by kernel_rfl) (by kernel_rfl) (by kernel_rfl) (fun _ _ _ h => h) (by rfl) (by intro w' hSw; go_simp; try with_reducible rfl) ?_
  simp only [Act.put, List.setIfInBounds_toArray, List.set_cons_zero, List.set_cons_succ]
  refine going_take (i := 23) (oi := { dst := some 43, op := Op.pick (Operand.tmp 36) (Operand.tmp 42) (Operand.const (Value.bool false)), type := 4, pos := _, after := _, guard := none }) (v := _) rfl (by kernel_rfl) (by kernel_rfl) (by kernel_rfl) (fun _ _ _ h => h) (by rfl) (by intro w' hSw; go_simp; try with_reducible rfl) ?_
  simp only [Act.put, List.setIfInBounds_toArray, List.set_cons_zero, List.set_cons_succ]
  refine going_take (i := 24) (oi := { dst := some 44, op := Op.move (Operand.tmp 43), type := 4, pos := _, after := _, guard := none }) (v := _) rfl (by kernel_rfl) (by kernel_rfl) (by kernel_rfl) (fun _ _ _ h => h) (by rfl) (by intro w' hSw; go_simp; try with_reducible rfl) ?_
  simp only [Act.put, List.setIfInBounds_toArray, List.set_cons_zero, List.set_cons_succ]
  refine going_take (i := 25) (oi := { dst := some 45, op := Op.move (Operand.tmp 3), type := 28, pos := _, after := _, guard := some (24, true) }) (v := _) rfl (by kernel_rfl) (by kernel_rfl) (by kernel_rfl) (fun _ _ _ h => h) (by rfl) (by intro w' hSw; go_simp; try with_reducible rfl) ?_
  simp only [Act.put, List.setIfInBounds_toArray, List.set_cons_zero, List.set_cons_succ]
  refine going_take (i := 26) (oi := { dst := some 46, op := Op.move (Operand.tmp 5), type := 3, pos := _, after := _, guard := some (24, true) }) (v := _) rfl (by kernel_rfl) (by kernel_rfl) (by kernel_rfl) (fun _ _ _ h => h) (by rfl) (by intro w' hSw; go_simp; try with_reducible rfl) ?_
  simp only [Act.put, List.setIfInBounds_toArray, List.set_cons_zero, List.set_cons_succ]
  refine going_take (i := 27) (oi := { dst := some 47, op := Op.indexAddr 28 (Operand.tmp 45) (Operand.tmp 46), type := 0, pos := _, after := _, guard := some (24, true) }) (v := _) rfl (by kernel_rfl) (by kernel_rfl) (by kernel_rfl) (fun _ _ _ h => h) (by rfl) (by intro w' hSw; go_simp; try with_reducible rfl) ?_
  simp only [Act.put, List.setIfInBounds_toArray, List.set_cons_zero, List.set_cons_succ]
  refine going_take (i := 28) (oi := { dst := some 48, op := Op.load 9 (Operand.tmp 47), type := 9, pos := _, after := _, guard := some (24, true) }) (v := _) rfl (by kernel_rfl) (by kernel_rfl) (by kernel_rfl) (fun _ _ _ h => h) (by rfl) (by intro w' hSw; have hc := (HR2.out.below hSw).2 K HK15.out; rw [HY.out] at hc; go_simp; try with_reducible rfl) ?_
  simp only [Act.put, List.setIfInBounds_toArray, List.set_cons_zero, List.set_cons_succ]
  refine going_take (i := 29) (oi := { dst := some 49, op := Op.binOp BinOp.add 9 (Operand.tmp 48) (Operand.const (Value.string { data := #[95] })) 9, type := 9, pos := _, after := _, guard := some (24, true) }) (v := _) rfl (by kernel_rfl) (by kernel_rfl) (by kernel_rfl) (fun _ _ _ h => h) (by rfl) (by intro w' hSw; have hno : ¬ 9223372036854775807 < y.size + 1 := (by omega); go_simp; try with_reducible rfl) ?_
  simp only [Act.put, List.setIfInBounds_toArray, List.set_cons_zero, List.set_cons_succ]
  refine going_step (i := 30) (o := { dst := some 50, op := Op.call { callee := Callee.value (Operand.func 18), args := #[Operand.tmp 49], argTypes := #[9] }, type := 4, pos := _, after := _, guard := some (24, true) }) (by kernel_rfl) rfl (by rfl) (fun K hK => ?_)
  go_simp
  refine (HN2.out _).mono ?_
  rintro e wd ⟨rfl, hb1⟩
  refine hK.out _ _ hb1 ?_
  replace HB := hide (HB.out.trans (hb1.mono HB.out.size))
  replace HR2 := hide (HR2.out.below hb1)
  replace HR3 := hide (HR3.out.below hb1)
  clear hb1
  clear hK K
  try simp only [Act.put, List.setIfInBounds_toArray, List.set_cons_zero, List.set_cons_succ]
  refine going_take (i := 31) (oi := { dst := some 51, op := Op.pick (Operand.tmp 44) (Operand.tmp 50) (Operand.const (Value.bool false)), type := 4, pos := _, after := _, guard := none }) (v := _) rfl (by kernel_rfl) (by kernel_rfl) (by kernel_rfl) (fun _ _ _ h => h) (by rfl) (by intro w' hSw; go_simp; try with_reducible rfl) ?_
  simp only [Act.put, List.setIfInBounds_toArray, List.set_cons_zero, List.set_cons_succ]
  refine going_take (i := 32) (oi := { dst := some 52, op := Op.move (Operand.tmp 51), type := 4, pos := _, after := _, guard := none }) (v := _) rfl (by kernel_rfl) (by kernel_rfl) (by kernel_rfl) (fun _ _ _ h => h) (by rfl) (by intro w' hSw; go_simp; try with_reducible rfl) ?_
  simp only [Act.put, List.setIfInBounds_toArray, List.set_cons_zero, List.set_cons_succ]
  refine going_step (i := 33) (o := { dst := some 53, op := Op.call { callee := Callee.value (Operand.func 15), args := #[], argTypes := #[] }, type := 4, pos := _, after := _, guard := some (32, true) }) (by kernel_rfl) rfl (by rfl) (fun K hK => ?_)
  go_simp
  refine (lives_any _).mono ?_
  rintro e wd ⟨rfl, hb1⟩
  refine hK.out _ _ hb1 ?_
  replace HB := hide (HB.out.trans (hb1.mono HB.out.size))
  replace HR2 := hide (HR2.out.below hb1)
  replace HR3 := hide (HR3.out.below hb1)
  clear hb1
  clear hK K
  try simp only [Act.put, List.setIfInBounds_toArray, List.set_cons_zero, List.set_cons_succ]
  refine going_take (i := 34) (oi := { dst := some 54, op := Op.pick (Operand.tmp 52) (Operand.tmp 53) (Operand.const (Value.bool false)), type := 4, pos := _, after := _, guard := none }) (v := _) rfl (by kernel_rfl) (by kernel_rfl) (by kernel_rfl) (fun _ _ _ h => h) (by rfl) (by intro w' hSw; go_simp; try with_reducible rfl) ?_
  simp only [Act.put, List.setIfInBounds_toArray, List.set_cons_zero, List.set_cons_succ]
  refine going_take (i := 35) (oi := { dst := some 2, op := Op.assign (Operand.tmp 54), type := 4, pos := _, after := _, guard := none }) (v := _) rfl (by kernel_rfl) (by kernel_rfl) (by kernel_rfl) (fun _ _ _ h => h) (by rfl) (by intro w' hSw; go_simp; try with_reducible rfl) ?_
  simp only [Act.put, List.setIfInBounds_toArray, List.set_cons_zero, List.set_cons_succ]
  refine going_done (by kernel_rfl) ?_
  go_wp2
  go_ret
  exact ⟨rfl, HB.out⟩
end Go.Proofs.Yteimabnkpdbhaaa.L
