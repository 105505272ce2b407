/- letters: what any byte may be in a text: LettersBytes. -/
import Derived.Test.YteimabnkpdbhaaaLG
namespace Go.By
open Go.RowKit
theorem going_fork {P : Program} {ops : Array Oper} {Q : Exit → Act → World → Prop} {md : Region.Mode} {i j : Nat} {oi oj : Oper} {fuel : Nat} {listed : Array Bool} {a : Act} {w : World} (hr : Region.ready md ops listed = [i, j]) (ho : ops[i]? = some oi) (ho' : ops[j]? = some oj)
    (hw : Region.wanted oi (yielded ops a.tmps) = true) (hw' : Region.wanted oj (yielded ops a.tmps) = true)
    (h : ∀ K' : Act → World → Prop, Shut (∀ a' w', Below w.heap.size w w' → Going P md ops Q fuel (listed.setIfInBounds i true) a' w' → K' a' w') → Oper.wp P oi a w K' Q)
    (h' : ∀ K' : Act → World → Prop, Shut (∀ a' w', Below w.heap.size w w' → Going P md ops Q fuel (listed.setIfInBounds j true) a' w' → K' a' w') → Oper.wp P oj a w K' Q) :
    Going P md ops Q (fuel + 1) listed a w := by
  refine wpAnyH_ready hr (by simp) (AllReadyH.cons ho (fun K' hK => ?_) (AllReadyH.cons ho' (fun K' hK => ?_) AllReadyH.nil))
  · rw [if_pos hw]
    refine h K' fun a' w' hb hg => hK.out a' w' hb fun _ => ?_
    exact wpAnyH_mono (fun w2 h2 => hb.trans (h2.mono hb.size)) fuel _ a' w' hg
  · rw [if_pos hw']
    refine h' K' fun a' w' hb hg => hK.out a' w' hb fun _ => ?_
    exact wpAnyH_mono (fun w2 h2 => hb.trans (h2.mono hb.size)) fuel _ a' w' hg
end Go.By
namespace Go.Proofs.Yteimabnkpdbhaaa.L
open Go.Proofs.Yteimabnkpdbhaaa Go.RowKit Go.By
set_option linter.unusedVariables false
set_option linter.unusedSimpArgs false
attribute [local go_sem ↓] Go.wp_at_zero Go.wp_at_succ

def one (c : Nat) : ByteArray := str [c]
def manyB (bs : List Bool) : Nat := (bs.filter id).length
def bitsB (c : Nat) : List Bool := [startB c, digitB c, blankB c, decide (0 < signN (one c))]
theorem bits_few : ∀ c : Fin 256, manyB (bitsB c.val) < 2 := by
  simp only [bitsB, signN_data]
  decide +kernel
theorem says_on {W Y : World} {v u : Value} (h : ∀ w', Below W.heap.size W w' → (convert 24 9 v).run Try.prog w' = .ok u w') (hb : Below W.heap.size W Y) : ∀ w', Below Y.heap.size Y w' → (convert 24 9 v).run Try.prog w' = .ok u w' := fun w' k => h w' (hb.trans (k.mono hb.size))
theorem built_one (w : World) (c : Nat) (hc : c < 256) : ∀ w', Below (w.alloc (.cells #[.int .u8 (c : Int)] 5)).heap.size (w.alloc (.cells #[.int .u8 (c : Int)] 5)) w' → (convert 24 9 (.slice (some ⟨w.heap.size, 0, none⟩) 1 1)).run Try.prog w' = .ok (.string (one c)) w' := by
  intro w' hb
  have hlt : w.heap.size < (w.alloc (.cells #[.int .u8 (c : Int)] 5)).heap.size := by rw [World.size_alloc]; omega
  have h0 := (hb.block w.heap.size hlt).trans (World.alloc_heap_new w _)
  refine run_str 24 5 9 Try.underlying24 Try.underlying5 Try.underlying9 ⟨by simpa using hc, .inr ⟨w.heap.size, 0, rfl, fun i hi => ?_⟩⟩ 1 1 rfl
  have : i = 0 := by simp at hi; omega
  subst this
  rw [Joins.cell_of_block h0]
  rfl

theorem row4 (b0 b1 b2 b3 : Bool) : ∀ k, k < 4 → (#[Value.bool b0, .bool b1, .bool b2, .bool b3] : Array Value)[k]? = some (.bool ([b0, b1, b2, b3].getD k false)) := by
  intro k hk
  have : k = 0 ∨ k = 1 ∨ k = 2 ∨ k = 3 := by omega
  rcases this with rfl | rfl | rfl | rfl <;> rfl
theorem many_le (l : List Bool) (k : Nat) : manyB (l.take k) ≤ k := by
  rw [manyB]
  have h1 := List.length_filter_le id (l.take k)
  rw [List.length_take] at h1
  omega
theorem many_step (l : List Bool) (k : Nat) (h : k < l.length) : manyB (l.take (k + 1)) = manyB (l.take k) + (if l.getD k false then 1 else 0) := by
  have e : l.take (k + 1) = l.take k ++ [l.getD k false] := by rw [List.take_succ_eq_append_getElem h]; simp [List.getD, h]
  rw [manyB, manyB, e, List.filter_append, List.length_append]
  cases l.getD k false <;> rfl

set_option maxRecDepth 20000 in
set_option maxHeartbeats 4000000 in
theorem bytes_any (c : Nat) (hc : c < 256) (w : World) : Calls Try.prog 3 #[.int .u8 (c : Int)] w fun e W' => e = .returned (.bool true) ∧ Below w.heap.size w W' := by
  have HF := hide (bits_few ⟨c, hc⟩)
  have H6 := hide (start_any c)
  have H7 := hide (digit_any c)
  have H8 := hide (blank_any c)
  have H9 := hide (sign_any (one c))
  have P6 := H6
  have P7 := H7
  have P8 := H8
  have H12 := hide (part_any c)
  have H10 := hide (rstart_any c hc)
  have H11 := hide (rdigit_any c hc)
  have H13 := hide (rpart_any c hc)
  have H14 := hide (rblank_any c hc)
  replace HF : Hid (manyB [startB c, digitB c, blankB c, decide (0 < signN (one c))] < 2) := HF
  generalize startB c = b0 at *
  generalize digitB c = b1 at *
  generalize blankB c = b2 at *
  generalize partB c = b4 at *
  generalize signN (one c) = n at *
  have HB := hide (Below.refl w.heap.size w)
  go_enter Try.func3, Try.ntmps3
  go_wp2_with fail
  refine going_start (by kernel_rfl) ?_
  replace HB : Hid (Below w.heap.size w w.drew) := HB.out.drew
  generalize w.drew = wd at *
  refine going_take (i := 0) (oi := { dst := some 6, op := Op.move (Operand.tmp 0), type := 5, pos := _, after := _, guard := none }) (v := _) rfl (by kernel_rfl) (by kernel_rfl) (by kernel_rfl) (fun _ _ _ h => h) (by rfl) (by intro w' hSw; go_simp; try with_reducible rfl) ?_
  simp only [Act.put, List.setIfInBounds_toArray, List.set_cons_zero, List.set_cons_succ]
  refine going_take (i := 2) (oi := { dst := some 8, op := Op.move (Operand.tmp 0), type := 5, pos := _, after := _, guard := none }) (v := _) rfl (by kernel_rfl) (by kernel_rfl) (by kernel_rfl) (fun _ _ _ h => h) (by rfl) (by intro w' hSw; go_simp; try with_reducible rfl) ?_
  simp only [Act.put, List.setIfInBounds_toArray, List.set_cons_zero, List.set_cons_succ]
  refine going_take (i := 4) (oi := { dst := some 10, op := Op.move (Operand.tmp 0), type := 5, pos := _, after := _, guard := none }) (v := _) rfl (by kernel_rfl) (by kernel_rfl) (by kernel_rfl) (fun _ _ _ h => h) (by rfl) (by intro w' hSw; go_simp; try with_reducible rfl) ?_
  simp only [Act.put, List.setIfInBounds_toArray, List.set_cons_zero, List.set_cons_succ]
  refine going_take (i := 6) (oi := { dst := some 12, op := Op.move (Operand.tmp 0), type := 5, pos := _, after := _, guard := none }) (v := _) rfl (by kernel_rfl) (by kernel_rfl) (by kernel_rfl) (fun _ _ _ h => h) (by rfl) (by intro w' hSw; go_simp; try with_reducible rfl) ?_
  simp only [Act.put, List.setIfInBounds_toArray, List.set_cons_zero, List.set_cons_succ]
  refine going_take (i := 13) (oi := { dst := some 19, op := Op.move (Operand.const (Value.int IntKind.i64 0)), type := 3, pos := _, after := _, guard := none }) (v := _) rfl (by kernel_rfl) (by kernel_rfl) (by kernel_rfl) (fun _ _ _ h => h) (by rfl) (by intro w' hSw; go_simp; try with_reducible rfl) ?_
  simp only [Act.put, List.setIfInBounds_toArray, List.set_cons_zero, List.set_cons_succ]
  refine going_fork (i := 1) (j := 7) (oi := { dst := some 7, op := Op.call { callee := Callee.value (Operand.func 6), args := #[Operand.tmp 6], argTypes := #[5] }, type := 4, pos := _, after := _, guard := none }) (oj := { dst := some 13, op := Op.buildSlice 24 1 #[(0, Operand.tmp 12)], type := 24, pos := _, after := _, guard := none }) (by kernel_rfl) rfl rfl (by rfl) (by rfl) (fun K hK => ?_) (fun K hK => ?_)
  · go_simp
    refine (H6.out _).mono ?_
    rintro e wd ⟨rfl, hb1⟩
    refine hK.out _ _ hb1 ?_
    replace HB := hide (HB.out.trans (hb1.mono HB.out.size))
    try replace HQ := hide (says_on HQ.out hb1)
    clear hb1
    clear hK K
    try simp only [Act.put, List.setIfInBounds_toArray, List.set_cons_zero, List.set_cons_succ]
    refine going_fork (i := 3) (j := 7) (oi := { dst := some 9, op := Op.call { callee := Callee.value (Operand.func 7), args := #[Operand.tmp 8], argTypes := #[5] }, type := 4, pos := _, after := _, guard := none }) (oj := { dst := some 13, op := Op.buildSlice 24 1 #[(0, Operand.tmp 12)], type := 24, pos := _, after := _, guard := none }) (by kernel_rfl) rfl rfl (by rfl) (by rfl) (fun K hK => ?_) (fun K hK => ?_)
    · go_simp
      refine (H7.out _).mono ?_
      rintro e wd ⟨rfl, hb1⟩
      refine hK.out _ _ hb1 ?_
      replace HB := hide (HB.out.trans (hb1.mono HB.out.size))
      try replace HQ := hide (says_on HQ.out hb1)
      clear hb1
      clear hK K
      try simp only [Act.put, List.setIfInBounds_toArray, List.set_cons_zero, List.set_cons_succ]
      refine going_fork (i := 5) (j := 7) (oi := { dst := some 11, op := Op.call { callee := Callee.value (Operand.func 8), args := #[Operand.tmp 10], argTypes := #[5] }, type := 4, pos := _, after := _, guard := none }) (oj := { dst := some 13, op := Op.buildSlice 24 1 #[(0, Operand.tmp 12)], type := 24, pos := _, after := _, guard := none }) (by kernel_rfl) rfl rfl (by rfl) (by rfl) (fun K hK => ?_) (fun K hK => ?_)
      · go_simp
        refine (H8.out _).mono ?_
        rintro e wd ⟨rfl, hb1⟩
        refine hK.out _ _ hb1 ?_
        replace HB := hide (HB.out.trans (hb1.mono HB.out.size))
        try replace HQ := hide (says_on HQ.out hb1)
        clear hb1
        clear hK K
        try simp only [Act.put, List.setIfInBounds_toArray, List.set_cons_zero, List.set_cons_succ]
        refine going_step (i := 7) (o := { dst := some 13, op := Op.buildSlice 24 1 #[(0, Operand.tmp 12)], type := 24, pos := _, after := _, guard := none }) (by kernel_rfl) rfl (by rfl) (fun K hK => ?_)
        go_simp
        refine hK.out _ _ ((Below.refl _ _).alloc (Nat.le_refl _) _) ?_
        have HQ := hide (built_one wd c hc)
        replace HB := hide (HB.out.alloc HB.out.size (.cells #[.int .u8 (c : Int)] 5))
        generalize hwq : wd.alloc (.cells #[.int .u8 (c : Int)] 5) = wd at *
        clear hwq
        clear hK K
        try simp only [Act.put, List.setIfInBounds_toArray, List.set_cons_zero, List.set_cons_succ]
        refine going_take (i := 8) (oi := { dst := some 14, op := Op.convert 24 9 (Operand.tmp 13), type := 9, pos := _, after := _, guard := none }) (v := _) rfl (by kernel_rfl) (by kernel_rfl) (by kernel_rfl) (fun _ _ _ h => h) (by rfl) (by intro w' hSw; have hq := HQ.out w' hSw; go_simp; try with_reducible rfl) ?_
        simp only [Act.put, List.setIfInBounds_toArray, List.set_cons_zero, List.set_cons_succ]
        refine going_step (i := 9) (o := { dst := some 15, op := Op.call { callee := Callee.value (Operand.func 9), args := #[Operand.tmp 14], argTypes := #[9] }, type := 3, pos := _, after := _, guard := none }) (by kernel_rfl) rfl (by rfl) (fun K hK => ?_)
        go_simp
        refine (H9.out _).mono ?_
        rintro e wd ⟨rfl, hb1⟩
        refine hK.out _ _ hb1 ?_
        replace HB := hide (HB.out.trans (hb1.mono HB.out.size))
        try replace HQ := hide (says_on HQ.out hb1)
        clear hb1
        clear hK K
        try simp only [Act.put, List.setIfInBounds_toArray, List.set_cons_zero, List.set_cons_succ]
        refine going_take (i := 10) (oi := { dst := some 16, op := Op.binOp BinOp.gtr 3 (Operand.tmp 15) (Operand.const (Value.int IntKind.i64 0)) 3, type := 4, pos := _, after := _, guard := none }) (v := _) rfl (by kernel_rfl) (by kernel_rfl) (by kernel_rfl) (fun _ _ _ h => h) (by rfl) (by intro w' hSw; go_simp; try with_reducible rfl) ?_
        simp only [Act.put, List.setIfInBounds_toArray, List.set_cons_zero, List.set_cons_succ]
        refine going_step (i := 11) (o := { dst := some 17, op := Op.buildSlice 25 4 #[(0, Operand.tmp 7), (1, Operand.tmp 9), (2, Operand.tmp 11), (3, Operand.tmp 16)], type := 25, pos := _, after := _, guard := none }) (by kernel_rfl) rfl (by rfl) (fun K hK => ?_)
        go_simp
        refine hK.out _ _ ((Below.refl _ _).alloc (Nat.le_refl _) _) ?_
        have HR := hide (World.alloc_heap_new wd (.cells #[.bool b0, .bool b1, .bool b2, .bool (decide (0 < n))] 4))
        have HG : Hid (wd.heap.size < (wd.alloc (.cells #[.bool b0, .bool b1, .bool b2, .bool (decide (0 < n))] 4)).heap.size) := hide (by rw [World.size_alloc]; omega)
        replace HB := hide (HB.out.alloc HB.out.size (.cells #[.bool b0, .bool b1, .bool b2, .bool (decide (0 < n))] 4))
        generalize hwq : wd.alloc (.cells #[.bool b0, .bool b1, .bool b2, .bool (decide (0 < n))] 4) = we at *
        clear hwq HQ
        generalize wd.heap.size = g at *
        clear hK K
        try simp only [Act.put, List.setIfInBounds_toArray, List.set_cons_zero, List.set_cons_succ]
        refine going_take (i := 12) (oi := { dst := some 18, op := Op.call { callee := Callee.builtin Builtin.len, args := #[Operand.tmp 17], argTypes := #[25] }, type := 3, pos := _, after := _, guard := none }) (v := _) rfl (by kernel_rfl) (by kernel_rfl) (by kernel_rfl) (fun _ _ _ h => h) (by rfl) (by intro w' hSw; go_simp; try with_reducible rfl) ?_
        simp only [Act.put, List.setIfInBounds_toArray, List.set_cons_zero, List.set_cons_succ]
        refine going_done (by kernel_rfl) ?_
        clear H6 H7 H8 H9
        generalize decide (0 < n) = b3 at *
        have HC : Hid (∀ k, k < 4 → (#[Value.bool b0, .bool b1, .bool b2, .bool b3] : Array Value)[k]? = some (.bool ([b0, b1, b2, b3].getD k false))) := hide (row4 b0 b1 b2 b3)
        have HLE := hide (many_le [b0, b1, b2, b3])
        have HST := hide (many_step [b0, b1, b2, b3])
        have HL4 : Hid (([b0, b1, b2, b3] : List Bool).length = 4) := hide rfl
        have HRR : Hid (we.heap[g]? = some (.cells #[.bool b0, .bool b1, .bool b2, .bool b3] 4 (0, 0))) := HR
        clear HR
        generalize hL : [b0, b1, b2, b3] = L at *
        generalize hV : (#[Value.bool b0, .bool b1, .bool b2, .bool b3] : Array Value) = V at *
        have HLL := hide hL
        clear hL hV
        go_wp2_with fail
        go_loopw [3, 19] (fun s3 s19 wr => ∃ k : Nat, s19 = .int .i64 (k : Int) ∧ k ≤ 4 ∧ s3 = .int .i64 ((manyB (L.take k) : Nat) : Int) ∧ Hid (Below w.heap.size w wr ∧ wr.heap[g]? = some (.cells V 4 (0, 0)))) (fun _ s19 _ => 4 - (intOf s19).toNat)
        case atStart => exact ⟨0, rfl, by omega, rfl, hide ⟨HB.out, HRR.out⟩⟩
        case round =>
          obtain ⟨k, rfl, hk, rfl, HI⟩ := hrel
          by_cases hlt : k < 4
          · have hc : wr.cell? ⟨g, k, none⟩ = some (.bool (L.getD k false)) := by rw [Joins.cell_of_block HI.out.2]; exact HC.out k hlt
            have hm1 := HLE.out k
            have HS1 := hide (HST.out k (by rw [HL4.out]; exact hlt))
            generalize L.getD k false = b at *
            generalize manyB (L.take k) = m at *
            cases b with
            | true =>
              go_wp2
              go_roundw
              case rel => exact ⟨k + 1, by go_num, by omega, by rw [HS1.out]; go_num, HI⟩
              case measure => simp [intOf]; omega
            | false =>
              go_wp2
              go_roundw
              case rel => exact ⟨k + 1, by go_num, by omega, by rw [HS1.out]; simp, HI⟩
              case measure => simp [intOf]; omega
          · have hk4 : k = 4 := by omega
            subst hk4
            have hm1 : manyB (L.take 4) < 2 := by rw [List.take_of_length_le (by rw [HL4.out]; omega)]; exact HF.out
            clear hlt hk
            generalize manyB (L.take 4) = m at *
            have hm2 : (m : Int) < 2 := by omega
            go_wp2_with (first
              | (go_at_call 6; refine (P6.out _).mono ?_; rintro e W1 ⟨rfl, hb⟩; have HB1 := hide (HI.out.1.trans (hb.mono HI.out.1.size)); clear hb)
              | (go_at_call 10; refine (H10.out _).mono ?_; rintro e W2 ⟨rfl, hb⟩; have HB2 := hide (HB1.out.trans (hb.mono HB1.out.size)); clear hb)
              | (go_at_call 7; refine (P7.out _).mono ?_; rintro e W3 ⟨rfl, hb⟩; have HB3 := hide (HB2.out.trans (hb.mono HB2.out.size)); clear hb)
              | (go_at_call 11; refine (H11.out _).mono ?_; rintro e W4 ⟨rfl, hb⟩; have HB4 := hide (HB3.out.trans (hb.mono HB3.out.size)); clear hb)
              | (go_at_call 12; refine (H12.out _).mono ?_; rintro e W5 ⟨rfl, hb⟩; have HB5 := hide (HB4.out.trans (hb.mono HB4.out.size)); clear hb)
              | (go_at_call 13; refine (H13.out _).mono ?_; rintro e W6 ⟨rfl, hb⟩; have HB6 := hide (HB5.out.trans (hb.mono HB5.out.size)); clear hb)
              | (go_at_call 8; refine (P8.out _).mono ?_; rintro e W7 ⟨rfl, hb⟩; have HB7 := hide (HB6.out.trans (hb.mono HB6.out.size)); clear hb)
              | (go_at_call 14; refine (H14.out _).mono ?_; rintro e W8 ⟨rfl, hb⟩; have HB8 := hide (HB7.out.trans (hb.mono HB7.out.size)); clear hb)
              | (go_at_call 15; refine (lives_any _).mono ?_; rintro e W9 ⟨rfl, hb⟩; have HB9 := hide (HB8.out.trans (hb.mono HB8.out.size)); clear hb))
            go_ret
            exact ⟨rfl, HB9.out⟩
      · go_simp
        refine hK.out _ _ ((Below.refl _ _).alloc (Nat.le_refl _) _) ?_
        have HQ := hide (built_one wd c hc)
        replace HB := hide (HB.out.alloc HB.out.size (.cells #[.int .u8 (c : Int)] 5))
        generalize hwq : wd.alloc (.cells #[.int .u8 (c : Int)] 5) = wd at *
        clear hwq
        clear hK K
        try simp only [Act.put, List.setIfInBounds_toArray, List.set_cons_zero, List.set_cons_succ]
        refine going_take (i := 8) (oi := { dst := some 14, op := Op.convert 24 9 (Operand.tmp 13), type := 9, pos := _, after := _, guard := none }) (v := _) rfl (by kernel_rfl) (by kernel_rfl) (by kernel_rfl) (fun _ _ _ h => h) (by rfl) (by intro w' hSw; have hq := HQ.out w' hSw; go_simp; try with_reducible rfl) ?_
        simp only [Act.put, List.setIfInBounds_toArray, List.set_cons_zero, List.set_cons_succ]
        refine going_step (i := 5) (o := { dst := some 11, op := Op.call { callee := Callee.value (Operand.func 8), args := #[Operand.tmp 10], argTypes := #[5] }, type := 4, pos := _, after := _, guard := none }) (by kernel_rfl) rfl (by rfl) (fun K hK => ?_)
        go_simp
        refine (H8.out _).mono ?_
        rintro e wd ⟨rfl, hb1⟩
        refine hK.out _ _ hb1 ?_
        replace HB := hide (HB.out.trans (hb1.mono HB.out.size))
        try replace HQ := hide (says_on HQ.out hb1)
        clear hb1
        clear hK K
        try simp only [Act.put, List.setIfInBounds_toArray, List.set_cons_zero, List.set_cons_succ]
        refine going_step (i := 9) (o := { dst := some 15, op := Op.call { callee := Callee.value (Operand.func 9), args := #[Operand.tmp 14], argTypes := #[9] }, type := 3, pos := _, after := _, guard := none }) (by kernel_rfl) rfl (by rfl) (fun K hK => ?_)
        go_simp
        refine (H9.out _).mono ?_
        rintro e wd ⟨rfl, hb1⟩
        refine hK.out _ _ hb1 ?_
        replace HB := hide (HB.out.trans (hb1.mono HB.out.size))
        try replace HQ := hide (says_on HQ.out hb1)
        clear hb1
        clear hK K
        try simp only [Act.put, List.setIfInBounds_toArray, List.set_cons_zero, List.set_cons_succ]
        refine going_take (i := 10) (oi := { dst := some 16, op := Op.binOp BinOp.gtr 3 (Operand.tmp 15) (Operand.const (Value.int IntKind.i64 0)) 3, type := 4, pos := _, after := _, guard := none }) (v := _) rfl (by kernel_rfl) (by kernel_rfl) (by kernel_rfl) (fun _ _ _ h => h) (by rfl) (by intro w' hSw; go_simp; try with_reducible rfl) ?_
        simp only [Act.put, List.setIfInBounds_toArray, List.set_cons_zero, List.set_cons_succ]
        refine going_step (i := 11) (o := { dst := some 17, op := Op.buildSlice 25 4 #[(0, Operand.tmp 7), (1, Operand.tmp 9), (2, Operand.tmp 11), (3, Operand.tmp 16)], type := 25, pos := _, after := _, guard := none }) (by kernel_rfl) rfl (by rfl) (fun K hK => ?_)
        go_simp
        refine hK.out _ _ ((Below.refl _ _).alloc (Nat.le_refl _) _) ?_
        have HR := hide (World.alloc_heap_new wd (.cells #[.bool b0, .bool b1, .bool b2, .bool (decide (0 < n))] 4))
        have HG : Hid (wd.heap.size < (wd.alloc (.cells #[.bool b0, .bool b1, .bool b2, .bool (decide (0 < n))] 4)).heap.size) := hide (by rw [World.size_alloc]; omega)
        replace HB := hide (HB.out.alloc HB.out.size (.cells #[.bool b0, .bool b1, .bool b2, .bool (decide (0 < n))] 4))
        generalize hwq : wd.alloc (.cells #[.bool b0, .bool b1, .bool b2, .bool (decide (0 < n))] 4) = we at *
        clear hwq HQ
        generalize wd.heap.size = g at *
        clear hK K
        try simp only [Act.put, List.setIfInBounds_toArray, List.set_cons_zero, List.set_cons_succ]
        refine going_take (i := 12) (oi := { dst := some 18, op := Op.call { callee := Callee.builtin Builtin.len, args := #[Operand.tmp 17], argTypes := #[25] }, type := 3, pos := _, after := _, guard := none }) (v := _) rfl (by kernel_rfl) (by kernel_rfl) (by kernel_rfl) (fun _ _ _ h => h) (by rfl) (by intro w' hSw; go_simp; try with_reducible rfl) ?_
        simp only [Act.put, List.setIfInBounds_toArray, List.set_cons_zero, List.set_cons_succ]
        refine going_done (by kernel_rfl) ?_
        clear H6 H7 H8 H9
        generalize decide (0 < n) = b3 at *
        have HC : Hid (∀ k, k < 4 → (#[Value.bool b0, .bool b1, .bool b2, .bool b3] : Array Value)[k]? = some (.bool ([b0, b1, b2, b3].getD k false))) := hide (row4 b0 b1 b2 b3)
        have HLE := hide (many_le [b0, b1, b2, b3])
        have HST := hide (many_step [b0, b1, b2, b3])
        have HL4 : Hid (([b0, b1, b2, b3] : List Bool).length = 4) := hide rfl
        have HRR : Hid (we.heap[g]? = some (.cells #[.bool b0, .bool b1, .bool b2, .bool b3] 4 (0, 0))) := HR
        clear HR
        generalize hL : [b0, b1, b2, b3] = L at *
        generalize hV : (#[Value.bool b0, .bool b1, .bool b2, .bool b3] : Array Value) = V at *
        have HLL := hide hL
        clear hL hV
        go_wp2_with fail
        go_loopw [3, 19] (fun s3 s19 wr => ∃ k : Nat, s19 = .int .i64 (k : Int) ∧ k ≤ 4 ∧ s3 = .int .i64 ((manyB (L.take k) : Nat) : Int) ∧ Hid (Below w.heap.size w wr ∧ wr.heap[g]? = some (.cells V 4 (0, 0)))) (fun _ s19 _ => 4 - (intOf s19).toNat)
        case atStart => exact ⟨0, rfl, by omega, rfl, hide ⟨HB.out, HRR.out⟩⟩
        case round =>
          obtain ⟨k, rfl, hk, rfl, HI⟩ := hrel
          by_cases hlt : k < 4
          · have hc : wr.cell? ⟨g, k, none⟩ = some (.bool (L.getD k false)) := by rw [Joins.cell_of_block HI.out.2]; exact HC.out k hlt
            have hm1 := HLE.out k
            have HS1 := hide (HST.out k (by rw [HL4.out]; exact hlt))
            generalize L.getD k false = b at *
            generalize manyB (L.take k) = m at *
            cases b with
            | true =>
              go_wp2
              go_roundw
              case rel => exact ⟨k + 1, by go_num, by omega, by rw [HS1.out]; go_num, HI⟩
              case measure => simp [intOf]; omega
            | false =>
              go_wp2
              go_roundw
              case rel => exact ⟨k + 1, by go_num, by omega, by rw [HS1.out]; simp, HI⟩
              case measure => simp [intOf]; omega
          · have hk4 : k = 4 := by omega
            subst hk4
            have hm1 : manyB (L.take 4) < 2 := by rw [List.take_of_length_le (by rw [HL4.out]; omega)]; exact HF.out
            clear hlt hk
            generalize manyB (L.take 4) = m at *
            have hm2 : (m : Int) < 2 := by omega
            go_wp2_with (first
              | (go_at_call 6; refine (P6.out _).mono ?_; rintro e W1 ⟨rfl, hb⟩; have HB1 := hide (HI.out.1.trans (hb.mono HI.out.1.size)); clear hb)
              | (go_at_call 10; refine (H10.out _).mono ?_; rintro e W2 ⟨rfl, hb⟩; have HB2 := hide (HB1.out.trans (hb.mono HB1.out.size)); clear hb)
              | (go_at_call 7; refine (P7.out _).mono ?_; rintro e W3 ⟨rfl, hb⟩; have HB3 := hide (HB2.out.trans (hb.mono HB2.out.size)); clear hb)
              | (go_at_call 11; refine (H11.out _).mono ?_; rintro e W4 ⟨rfl, hb⟩; have HB4 := hide (HB3.out.trans (hb.mono HB3.out.size)); clear hb)
              | (go_at_call 12; refine (H12.out _).mono ?_; rintro e W5 ⟨rfl, hb⟩; have HB5 := hide (HB4.out.trans (hb.mono HB4.out.size)); clear hb)
              | (go_at_call 13; refine (H13.out _).mono ?_; rintro e W6 ⟨rfl, hb⟩; have HB6 := hide (HB5.out.trans (hb.mono HB5.out.size)); clear hb)
              | (go_at_call 8; refine (P8.out _).mono ?_; rintro e W7 ⟨rfl, hb⟩; have HB7 := hide (HB6.out.trans (hb.mono HB6.out.size)); clear hb)
              | (go_at_call 14; refine (H14.out _).mono ?_; rintro e W8 ⟨rfl, hb⟩; have HB8 := hide (HB7.out.trans (hb.mono HB7.out.size)); clear hb)
              | (go_at_call 15; refine (lives_any _).mono ?_; rintro e W9 ⟨rfl, hb⟩; have HB9 := hide (HB8.out.trans (hb.mono HB8.out.size)); clear hb))
            go_ret
            exact ⟨rfl, HB9.out⟩
    · go_simp
      refine hK.out _ _ ((Below.refl _ _).alloc (Nat.le_refl _) _) ?_
      have HQ := hide (built_one wd c hc)
      replace HB := hide (HB.out.alloc HB.out.size (.cells #[.int .u8 (c : Int)] 5))
      generalize hwq : wd.alloc (.cells #[.int .u8 (c : Int)] 5) = wd at *
      clear hwq
      clear hK K
      try simp only [Act.put, List.setIfInBounds_toArray, List.set_cons_zero, List.set_cons_succ]
      refine going_take (i := 8) (oi := { dst := some 14, op := Op.convert 24 9 (Operand.tmp 13), type := 9, pos := _, after := _, guard := none }) (v := _) rfl (by kernel_rfl) (by kernel_rfl) (by kernel_rfl) (fun _ _ _ h => h) (by rfl) (by intro w' hSw; have hq := HQ.out w' hSw; go_simp; try with_reducible rfl) ?_
      simp only [Act.put, List.setIfInBounds_toArray, List.set_cons_zero, List.set_cons_succ]
      refine going_step (i := 3) (o := { dst := some 9, op := Op.call { callee := Callee.value (Operand.func 7), args := #[Operand.tmp 8], argTypes := #[5] }, type := 4, pos := _, after := _, guard := none }) (by kernel_rfl) rfl (by rfl) (fun K hK => ?_)
      go_simp
      refine (H7.out _).mono ?_
      rintro e wd ⟨rfl, hb1⟩
      refine hK.out _ _ hb1 ?_
      replace HB := hide (HB.out.trans (hb1.mono HB.out.size))
      try replace HQ := hide (says_on HQ.out hb1)
      clear hb1
      clear hK K
      try simp only [Act.put, List.setIfInBounds_toArray, List.set_cons_zero, List.set_cons_succ]
      refine going_step (i := 5) (o := { dst := some 11, op := Op.call { callee := Callee.value (Operand.func 8), args := #[Operand.tmp 10], argTypes := #[5] }, type := 4, pos := _, after := _, guard := none }) (by kernel_rfl) rfl (by rfl) (fun K hK => ?_)
      go_simp
      refine (H8.out _).mono ?_
      rintro e wd ⟨rfl, hb1⟩
      refine hK.out _ _ hb1 ?_
      replace HB := hide (HB.out.trans (hb1.mono HB.out.size))
      try replace HQ := hide (says_on HQ.out hb1)
      clear hb1
      clear hK K
      try simp only [Act.put, List.setIfInBounds_toArray, List.set_cons_zero, List.set_cons_succ]
      refine going_step (i := 9) (o := { dst := some 15, op := Op.call { callee := Callee.value (Operand.func 9), args := #[Operand.tmp 14], argTypes := #[9] }, type := 3, pos := _, after := _, guard := none }) (by kernel_rfl) rfl (by rfl) (fun K hK => ?_)
      go_simp
      refine (H9.out _).mono ?_
      rintro e wd ⟨rfl, hb1⟩
      refine hK.out _ _ hb1 ?_
      replace HB := hide (HB.out.trans (hb1.mono HB.out.size))
      try replace HQ := hide (says_on HQ.out hb1)
      clear hb1
      clear hK K
      try simp only [Act.put, List.setIfInBounds_toArray, List.set_cons_zero, List.set_cons_succ]
      refine going_take (i := 10) (oi := { dst := some 16, op := Op.binOp BinOp.gtr 3 (Operand.tmp 15) (Operand.const (Value.int IntKind.i64 0)) 3, type := 4, pos := _, after := _, guard := none }) (v := _) rfl (by kernel_rfl) (by kernel_rfl) (by kernel_rfl) (fun _ _ _ h => h) (by rfl) (by intro w' hSw; go_simp; try with_reducible rfl) ?_
      simp only [Act.put, List.setIfInBounds_toArray, List.set_cons_zero, List.set_cons_succ]
      refine going_step (i := 11) (o := { dst := some 17, op := Op.buildSlice 25 4 #[(0, Operand.tmp 7), (1, Operand.tmp 9), (2, Operand.tmp 11), (3, Operand.tmp 16)], type := 25, pos := _, after := _, guard := none }) (by kernel_rfl) rfl (by rfl) (fun K hK => ?_)
      go_simp
      refine hK.out _ _ ((Below.refl _ _).alloc (Nat.le_refl _) _) ?_
      have HR := hide (World.alloc_heap_new wd (.cells #[.bool b0, .bool b1, .bool b2, .bool (decide (0 < n))] 4))
      have HG : Hid (wd.heap.size < (wd.alloc (.cells #[.bool b0, .bool b1, .bool b2, .bool (decide (0 < n))] 4)).heap.size) := hide (by rw [World.size_alloc]; omega)
      replace HB := hide (HB.out.alloc HB.out.size (.cells #[.bool b0, .bool b1, .bool b2, .bool (decide (0 < n))] 4))
      generalize hwq : wd.alloc (.cells #[.bool b0, .bool b1, .bool b2, .bool (decide (0 < n))] 4) = we at *
      clear hwq HQ
      generalize wd.heap.size = g at *
      clear hK K
      try simp only [Act.put, List.setIfInBounds_toArray, List.set_cons_zero, List.set_cons_succ]
      refine going_take (i := 12) (oi := { dst := some 18, op := Op.call { callee := Callee.builtin Builtin.len, args := #[Operand.tmp 17], argTypes := #[25] }, type := 3, pos := _, after := _, guard := none }) (v := _) rfl (by kernel_rfl) (by kernel_rfl) (by kernel_rfl) (fun _ _ _ h => h) (by rfl) (by intro w' hSw; go_simp; try with_reducible rfl) ?_
      simp only [Act.put, List.setIfInBounds_toArray, List.set_cons_zero, List.set_cons_succ]
      refine going_done (by kernel_rfl) ?_
      clear H6 H7 H8 H9
      generalize decide (0 < n) = b3 at *
      have HC : Hid (∀ k, k < 4 → (#[Value.bool b0, .bool b1, .bool b2, .bool b3] : Array Value)[k]? = some (.bool ([b0, b1, b2, b3].getD k false))) := hide (row4 b0 b1 b2 b3)
      have HLE := hide (many_le [b0, b1, b2, b3])
      have HST := hide (many_step [b0, b1, b2, b3])
      have HL4 : Hid (([b0, b1, b2, b3] : List Bool).length = 4) := hide rfl
      have HRR : Hid (we.heap[g]? = some (.cells #[.bool b0, .bool b1, .bool b2, .bool b3] 4 (0, 0))) := HR
      clear HR
      generalize hL : [b0, b1, b2, b3] = L at *
      generalize hV : (#[Value.bool b0, .bool b1, .bool b2, .bool b3] : Array Value) = V at *
      have HLL := hide hL
      clear hL hV
      go_wp2_with fail
      go_loopw [3, 19] (fun s3 s19 wr => ∃ k : Nat, s19 = .int .i64 (k : Int) ∧ k ≤ 4 ∧ s3 = .int .i64 ((manyB (L.take k) : Nat) : Int) ∧ Hid (Below w.heap.size w wr ∧ wr.heap[g]? = some (.cells V 4 (0, 0)))) (fun _ s19 _ => 4 - (intOf s19).toNat)
      case atStart => exact ⟨0, rfl, by omega, rfl, hide ⟨HB.out, HRR.out⟩⟩
      case round =>
        obtain ⟨k, rfl, hk, rfl, HI⟩ := hrel
        by_cases hlt : k < 4
        · have hc : wr.cell? ⟨g, k, none⟩ = some (.bool (L.getD k false)) := by rw [Joins.cell_of_block HI.out.2]; exact HC.out k hlt
          have hm1 := HLE.out k
          have HS1 := hide (HST.out k (by rw [HL4.out]; exact hlt))
          generalize L.getD k false = b at *
          generalize manyB (L.take k) = m at *
          cases b with
          | true =>
            go_wp2
            go_roundw
            case rel => exact ⟨k + 1, by go_num, by omega, by rw [HS1.out]; go_num, HI⟩
            case measure => simp [intOf]; omega
          | false =>
            go_wp2
            go_roundw
            case rel => exact ⟨k + 1, by go_num, by omega, by rw [HS1.out]; simp, HI⟩
            case measure => simp [intOf]; omega
        · have hk4 : k = 4 := by omega
          subst hk4
          have hm1 : manyB (L.take 4) < 2 := by rw [List.take_of_length_le (by rw [HL4.out]; omega)]; exact HF.out
          clear hlt hk
          generalize manyB (L.take 4) = m at *
          have hm2 : (m : Int) < 2 := by omega
          go_wp2_with (first
            | (go_at_call 6; refine (P6.out _).mono ?_; rintro e W1 ⟨rfl, hb⟩; have HB1 := hide (HI.out.1.trans (hb.mono HI.out.1.size)); clear hb)
            | (go_at_call 10; refine (H10.out _).mono ?_; rintro e W2 ⟨rfl, hb⟩; have HB2 := hide (HB1.out.trans (hb.mono HB1.out.size)); clear hb)
            | (go_at_call 7; refine (P7.out _).mono ?_; rintro e W3 ⟨rfl, hb⟩; have HB3 := hide (HB2.out.trans (hb.mono HB2.out.size)); clear hb)
            | (go_at_call 11; refine (H11.out _).mono ?_; rintro e W4 ⟨rfl, hb⟩; have HB4 := hide (HB3.out.trans (hb.mono HB3.out.size)); clear hb)
            | (go_at_call 12; refine (H12.out _).mono ?_; rintro e W5 ⟨rfl, hb⟩; have HB5 := hide (HB4.out.trans (hb.mono HB4.out.size)); clear hb)
            | (go_at_call 13; refine (H13.out _).mono ?_; rintro e W6 ⟨rfl, hb⟩; have HB6 := hide (HB5.out.trans (hb.mono HB5.out.size)); clear hb)
            | (go_at_call 8; refine (P8.out _).mono ?_; rintro e W7 ⟨rfl, hb⟩; have HB7 := hide (HB6.out.trans (hb.mono HB6.out.size)); clear hb)
            | (go_at_call 14; refine (H14.out _).mono ?_; rintro e W8 ⟨rfl, hb⟩; have HB8 := hide (HB7.out.trans (hb.mono HB7.out.size)); clear hb)
            | (go_at_call 15; refine (lives_any _).mono ?_; rintro e W9 ⟨rfl, hb⟩; have HB9 := hide (HB8.out.trans (hb.mono HB8.out.size)); clear hb))
          go_ret
          exact ⟨rfl, HB9.out⟩
  · go_simp
    refine hK.out _ _ ((Below.refl _ _).alloc (Nat.le_refl _) _) ?_
    have HQ := hide (built_one wd c hc)
    replace HB := hide (HB.out.alloc HB.out.size (.cells #[.int .u8 (c : Int)] 5))
    generalize hwq : wd.alloc (.cells #[.int .u8 (c : Int)] 5) = wd at *
    clear hwq
    clear hK K
    try simp only [Act.put, List.setIfInBounds_toArray, List.set_cons_zero, List.set_cons_succ]
    refine going_take (i := 8) (oi := { dst := some 14, op := Op.convert 24 9 (Operand.tmp 13), type := 9, pos := _, after := _, guard := none }) (v := _) rfl (by kernel_rfl) (by kernel_rfl) (by kernel_rfl) (fun _ _ _ h => h) (by rfl) (by intro w' hSw; have hq := HQ.out w' hSw; go_simp; try with_reducible rfl) ?_
    simp only [Act.put, List.setIfInBounds_toArray, List.set_cons_zero, List.set_cons_succ]
    refine going_step (i := 1) (o := { dst := some 7, op := Op.call { callee := Callee.value (Operand.func 6), args := #[Operand.tmp 6], argTypes := #[5] }, type := 4, pos := _, after := _, guard := none }) (by kernel_rfl) rfl (by rfl) (fun K hK => ?_)
    go_simp
    refine (H6.out _).mono ?_
    rintro e wd ⟨rfl, hb1⟩
    refine hK.out _ _ hb1 ?_
    replace HB := hide (HB.out.trans (hb1.mono HB.out.size))
    try replace HQ := hide (says_on HQ.out hb1)
    clear hb1
    clear hK K
    try simp only [Act.put, List.setIfInBounds_toArray, List.set_cons_zero, List.set_cons_succ]
    refine going_step (i := 3) (o := { dst := some 9, op := Op.call { callee := Callee.value (Operand.func 7), args := #[Operand.tmp 8], argTypes := #[5] }, type := 4, pos := _, after := _, guard := none }) (by kernel_rfl) rfl (by rfl) (fun K hK => ?_)
    go_simp
    refine (H7.out _).mono ?_
    rintro e wd ⟨rfl, hb1⟩
    refine hK.out _ _ hb1 ?_
    replace HB := hide (HB.out.trans (hb1.mono HB.out.size))
    try replace HQ := hide (says_on HQ.out hb1)
    clear hb1
    clear hK K
    try simp only [Act.put, List.setIfInBounds_toArray, List.set_cons_zero, List.set_cons_succ]
    refine going_step (i := 5) (o := { dst := some 11, op := Op.call { callee := Callee.value (Operand.func 8), args := #[Operand.tmp 10], argTypes := #[5] }, type := 4, pos := _, after := _, guard := none }) (by kernel_rfl) rfl (by rfl) (fun K hK => ?_)
    go_simp
    refine (H8.out _).mono ?_
    rintro e wd ⟨rfl, hb1⟩
    refine hK.out _ _ hb1 ?_
    replace HB := hide (HB.out.trans (hb1.mono HB.out.size))
    try replace HQ := hide (says_on HQ.out hb1)
    clear hb1
    clear hK K
    try simp only [Act.put, List.setIfInBounds_toArray, List.set_cons_zero, List.set_cons_succ]
    refine going_step (i := 9) (o := { dst := some 15, op := Op.call { callee := Callee.value (Operand.func 9), args := #[Operand.tmp 14], argTypes := #[9] }, type := 3, pos := _, after := _, guard := none }) (by kernel_rfl) rfl (by rfl) (fun K hK => ?_)
    go_simp
    refine (H9.out _).mono ?_
    rintro e wd ⟨rfl, hb1⟩
    refine hK.out _ _ hb1 ?_
    replace HB := hide (HB.out.trans (hb1.mono HB.out.size))
    try replace HQ := hide (says_on HQ.out hb1)
    clear hb1
    clear hK K
    try simp only [Act.put, List.setIfInBounds_toArray, List.set_cons_zero, List.set_cons_succ]
    refine going_take (i := 10) (oi := { dst := some 16, op := Op.binOp BinOp.gtr 3 (Operand.tmp 15) (Operand.const (Value.int IntKind.i64 0)) 3, type := 4, pos := _, after := _, guard := none }) (v := _) rfl (by kernel_rfl) (by kernel_rfl) (by kernel_rfl) (fun _ _ _ h => h) (by rfl) (by intro w' hSw; go_simp; try with_reducible rfl) ?_
    simp only [Act.put, List.setIfInBounds_toArray, List.set_cons_zero, List.set_cons_succ]
    refine going_step (i := 11) (o := { dst := some 17, op := Op.buildSlice 25 4 #[(0, Operand.tmp 7), (1, Operand.tmp 9), (2, Operand.tmp 11), (3, Operand.tmp 16)], type := 25, pos := _, after := _, guard := none }) (by kernel_rfl) rfl (by rfl) (fun K hK => ?_)
    go_simp
    refine hK.out _ _ ((Below.refl _ _).alloc (Nat.le_refl _) _) ?_
    have HR := hide (World.alloc_heap_new wd (.cells #[.bool b0, .bool b1, .bool b2, .bool (decide (0 < n))] 4))
    have HG : Hid (wd.heap.size < (wd.alloc (.cells #[.bool b0, .bool b1, .bool b2, .bool (decide (0 < n))] 4)).heap.size) := hide (by rw [World.size_alloc]; omega)
    replace HB := hide (HB.out.alloc HB.out.size (.cells #[.bool b0, .bool b1, .bool b2, .bool (decide (0 < n))] 4))
    generalize hwq : wd.alloc (.cells #[.bool b0, .bool b1, .bool b2, .bool (decide (0 < n))] 4) = we at *
    clear hwq HQ
    generalize wd.heap.size = g at *
    clear hK K
    try simp only [Act.put, List.setIfInBounds_toArray, List.set_cons_zero, List.set_cons_succ]
    refine going_take (i := 12) (oi := { dst := some 18, op := Op.call { callee := Callee.builtin Builtin.len, args := #[Operand.tmp 17], argTypes := #[25] }, type := 3, pos := _, after := _, guard := none }) (v := _) rfl (by kernel_rfl) (by kernel_rfl) (by kernel_rfl) (fun _ _ _ h => h) (by rfl) (by intro w' hSw; go_simp; try with_reducible rfl) ?_
    simp only [Act.put, List.setIfInBounds_toArray, List.set_cons_zero, List.set_cons_succ]
    refine going_done (by kernel_rfl) ?_
    clear H6 H7 H8 H9
    generalize decide (0 < n) = b3 at *
    have HC : Hid (∀ k, k < 4 → (#[Value.bool b0, .bool b1, .bool b2, .bool b3] : Array Value)[k]? = some (.bool ([b0, b1, b2, b3].getD k false))) := hide (row4 b0 b1 b2 b3)
    have HLE := hide (many_le [b0, b1, b2, b3])
    have HST := hide (many_step [b0, b1, b2, b3])
    have HL4 : Hid (([b0, b1, b2, b3] : List Bool).length = 4) := hide rfl
    have HRR : Hid (we.heap[g]? = some (.cells #[.bool b0, .bool b1, .bool b2, .bool b3] 4 (0, 0))) := HR
    clear HR
    generalize hL : [b0, b1, b2, b3] = L at *
    generalize hV : (#[Value.bool b0, .bool b1, .bool b2, .bool b3] : Array Value) = V at *
    have HLL := hide hL
    clear hL hV
    go_wp2_with fail
    go_loopw [3, 19] (fun s3 s19 wr => ∃ k : Nat, s19 = .int .i64 (k : Int) ∧ k ≤ 4 ∧ s3 = .int .i64 ((manyB (L.take k) : Nat) : Int) ∧ Hid (Below w.heap.size w wr ∧ wr.heap[g]? = some (.cells V 4 (0, 0)))) (fun _ s19 _ => 4 - (intOf s19).toNat)
    case atStart => exact ⟨0, rfl, by omega, rfl, hide ⟨HB.out, HRR.out⟩⟩
    case round =>
      obtain ⟨k, rfl, hk, rfl, HI⟩ := hrel
      by_cases hlt : k < 4
      · have hc : wr.cell? ⟨g, k, none⟩ = some (.bool (L.getD k false)) := by rw [Joins.cell_of_block HI.out.2]; exact HC.out k hlt
        have hm1 := HLE.out k
        have HS1 := hide (HST.out k (by rw [HL4.out]; exact hlt))
        generalize L.getD k false = b at *
        generalize manyB (L.take k) = m at *
        cases b with
        | true =>
          go_wp2
          go_roundw
          case rel => exact ⟨k + 1, by go_num, by omega, by rw [HS1.out]; go_num, HI⟩
          case measure => simp [intOf]; omega
        | false =>
          go_wp2
          go_roundw
          case rel => exact ⟨k + 1, by go_num, by omega, by rw [HS1.out]; simp, HI⟩
          case measure => simp [intOf]; omega
      · have hk4 : k = 4 := by omega
        subst hk4
        have hm1 : manyB (L.take 4) < 2 := by rw [List.take_of_length_le (by rw [HL4.out]; omega)]; exact HF.out
        clear hlt hk
        generalize manyB (L.take 4) = m at *
        have hm2 : (m : Int) < 2 := by omega
        go_wp2_with (first
          | (go_at_call 6; refine (P6.out _).mono ?_; rintro e W1 ⟨rfl, hb⟩; have HB1 := hide (HI.out.1.trans (hb.mono HI.out.1.size)); clear hb)
          | (go_at_call 10; refine (H10.out _).mono ?_; rintro e W2 ⟨rfl, hb⟩; have HB2 := hide (HB1.out.trans (hb.mono HB1.out.size)); clear hb)
          | (go_at_call 7; refine (P7.out _).mono ?_; rintro e W3 ⟨rfl, hb⟩; have HB3 := hide (HB2.out.trans (hb.mono HB2.out.size)); clear hb)
          | (go_at_call 11; refine (H11.out _).mono ?_; rintro e W4 ⟨rfl, hb⟩; have HB4 := hide (HB3.out.trans (hb.mono HB3.out.size)); clear hb)
          | (go_at_call 12; refine (H12.out _).mono ?_; rintro e W5 ⟨rfl, hb⟩; have HB5 := hide (HB4.out.trans (hb.mono HB4.out.size)); clear hb)
          | (go_at_call 13; refine (H13.out _).mono ?_; rintro e W6 ⟨rfl, hb⟩; have HB6 := hide (HB5.out.trans (hb.mono HB5.out.size)); clear hb)
          | (go_at_call 8; refine (P8.out _).mono ?_; rintro e W7 ⟨rfl, hb⟩; have HB7 := hide (HB6.out.trans (hb.mono HB6.out.size)); clear hb)
          | (go_at_call 14; refine (H14.out _).mono ?_; rintro e W8 ⟨rfl, hb⟩; have HB8 := hide (HB7.out.trans (hb.mono HB7.out.size)); clear hb)
          | (go_at_call 15; refine (lives_any _).mono ?_; rintro e W9 ⟨rfl, hb⟩; have HB9 := hide (HB8.out.trans (hb.mono HB8.out.size)); clear hb))
        go_ret
        exact ⟨rfl, HB9.out⟩
theorem bytes_all (z : Int) (w : World) (h : (Lit.int .u8 z).wf = true) : Calls Try.prog 3 #[.int .u8 z] w fun e W' => e = .returned (.bool true) ∧ Below w.heap.size w W' := by
  have hb := u8_bounds h
  have e : z = ((z.toNat : Nat) : Int) := by omega
  rw [e]
  exact bytes_any z.toNat (by omega) w
end Go.Proofs.Yteimabnkpdbhaaa.L
