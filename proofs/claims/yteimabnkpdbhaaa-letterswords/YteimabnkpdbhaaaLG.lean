/- letters: names, the document's answer; the examples. -/
import Derived.Test.YteimabnkpdbhaaaLF
namespace Go.Proofs.Yteimabnkpdbhaaa.L
open Go.Proofs.Yteimabnkpdbhaaa Go.RowKit Go.By
set_option linter.unusedVariables false
set_option linter.unusedSimpArgs false
attribute [local go_sem ↓] Go.wp_at_zero Go.wp_at_succ

theorem start_part (c : Nat) (h : startB c = true) : partB c = true := by rw [partB, h]; rfl

set_option maxRecDepth 20000 in
set_option maxHeartbeats 1000000 in
theorem rname_any (s : ByteArray) (w : World) (hm : s.size ≤ 1000) : Calls Try.prog 19 #[.string s] w fun e W' => e = .returned (.bool (nameB s)) ∧ Below w.heap.size w W' := by
  have HW := hide (rword_any s)
  have HV : Hid (nameB s = (!s.toList.isEmpty && allB (nums s) && !wordB s)) := hide rfl
  have HL : Hid ((nums s).length = s.size) := hide (nums_length s)
  have HSM : Hid (∀ k, (nums s).getD k 0 < 256) := hide (getD_lt (nums_small s))
  generalize wordB s = b2 at *
  by_cases h0 : s.size = 0
  · have he := is_nil s h0
    have HV2 : Hid (nameB s = false) := hide (by rw [HV.out, he]; rfl)
    clear h0 HV
    go_enter Try.func19, Try.ntmps19
    go_wp2
    go_ret
    exact ⟨by rw [HV2.out]; rfl, Below.refl _ _⟩
  · have he := not_nil s (by omega)
    have he2 : s.toList.isEmpty = false := by simpa using he
    have hix0 := index_zero s (by omega)
    have HS := hide (rstart_any _ (HSM.out 0))
    have hpos : 0 < s.size := by omega
    cases hst : startB ((nums s).getD 0 0) with
    | false =>
      have HV2 : Hid (nameB s = false) := hide (by
        rw [HV.out, he2, allB_false (k := 0) (by rw [HL.out]; omega) (by rw [nameAt, if_pos rfl, hst])]; rfl)
      rw [hst] at HS
      clear HV hst h0
      generalize (nums s).getD 0 0 = d at *
      go_enter Try.func19, Try.ntmps19
      go_wp2_with (go_at_call 10; refine (HS.out _).mono ?_; rintro e W1 ⟨rfl, hb⟩; have HB1 := hide hb; clear hb)
      go_ret
      exact ⟨by rw [HV2.out]; rfl, HB1.out⟩
    | true =>
      have HST := hide hst
      rw [hst] at HS
      clear hst h0
      generalize hd0 : (nums s).getD 0 0 = d at *
      have HD0 := hide hd0
      clear hd0
      cases b2 with
      | true =>
        have HV2 : Hid (nameB s = false) := hide (by rw [HV.out]; simp)
        clear HV
        go_enter Try.func19, Try.ntmps19
        go_wp2_with (first | (go_at_call 10; refine (HS.out _).mono ?_; rintro e W1 ⟨rfl, hb⟩; have HB1 := hide hb; clear hb) | (go_at_call 17; refine (HW.out _).mono ?_; rintro e W2 ⟨rfl, hb⟩; have HB2 := hide (HB1.out.trans (hb.mono HB1.out.size)); clear hb))
        go_ret
        exact ⟨by rw [HV2.out]; rfl, HB2.out⟩
      | false =>
        have HV1 : Hid (nameB s = allB (nums s)) := hide (by rw [HV.out, he2]; simp)
        clear HV
        go_enter Try.func19, Try.ntmps19
        go_wp2_with (first | (go_at_call 10; refine (HS.out _).mono ?_; rintro e W1 ⟨rfl, hb⟩; have HB1 := hide hb; clear hb) | (go_at_call 17; refine (HW.out _).mono ?_; rintro e W2 ⟨rfl, hb⟩; have HB2 := hide (HB1.out.trans (hb.mono HB1.out.size)); clear hb))
        go_loopw [3] (fun s3 wr => ∃ k : Nat, s3 = .int .i64 (k : Int) ∧ k ≤ s.size ∧ Hid (Below w.heap.size w wr ∧ ∀ j, j < k → nameAt j ((nums s).getD j 0) = true)) (fun s3 _ => s.size - (intOf s3).toNat)
        case atStart => exact ⟨0, rfl, by omega, hide ⟨HB2.out, fun j hj => by omega⟩⟩
        case round =>
          obtain ⟨k, rfl, hk, HI⟩ := hrel
          clear hix0
          by_cases hlt : k < s.size
          · have hix := index_any s k hlt
            have HP := hide (rpart_any _ (HSM.out k))
            cases hv : partB ((nums s).getD k 0) with
            | true =>
              have HN : Hid (∀ j, j < k + 1 → nameAt j ((nums s).getD j 0) = true) := hide fun j hj => by
                by_cases hjk : j = k
                · rw [hjk, nameAt]
                  split
                  · next h => rw [h, HD0.out]; exact HST.out
                  · exact hv
                · exact HI.out.2 j (by omega)
              rw [hv] at HP
              clear hv
              generalize (nums s).getD k 0 = dk at *
              go_wp2_with (go_at_call 13; refine (HP.out _).mono ?_; rintro e W3 ⟨rfl, hb⟩; have HB3 := hide (HI.out.1.trans (hb.mono HI.out.1.size)); clear hb)
              go_roundw
              case rel => exact ⟨k + 1, by go_num, by omega, hide ⟨HB3.out, HN.out⟩⟩
              case measure => simp [intOf]; omega
            | false =>
              have HN : Hid (nameB s = false) := hide (by
                rw [HV1.out]
                refine allB_false (k := k) (by rw [HL.out]; exact hlt) ?_
                rw [nameAt]
                split
                · next h =>
                  have h1 := start_part _ HST.out
                  rw [← HD0.out] at h1
                  rw [h, h1] at hv
                  cases hv
                · exact hv)
              rw [hv] at HP
              clear hv
              generalize (nums s).getD k 0 = dk at *
              go_wp2_with (go_at_call 13; refine (HP.out _).mono ?_; rintro e W3 ⟨rfl, hb⟩; have HB3 := hide (HI.out.1.trans (hb.mono HI.out.1.size)); clear hb)
              go_ret
              exact ⟨by rw [HN.out]; rfl, HB3.out⟩
          · have HN : Hid (nameB s = true) := hide (by rw [HV1.out]; exact allB_true fun j hj => HI.out.2 j (by have := HL.out; omega))
            go_wp2
            go_ret
            exact ⟨by rw [HN.out]; rfl, HI.out.1⟩

theorem pre2_data (s p : ByteArray) : pre2 s p = (decide (2 ≤ s.size) && ((s.extract 0 2).data.toList == p.data.toList)) := by rw [pre2, ByteArray.toList_eq, ByteArray.toList_eq]
theorem wordB_data (s : ByteArray) : wordB s = wordsL.any fun y => y.data.toList == s.data.toList := by
  rw [wordB, wordIn]
  congr 1
  funext y
  rw [ByteArray.toList_eq, ByteArray.toList_eq]
theorem nameB_data (s : ByteArray) : nameB s = (!decide (s.size = 0) && allB (nums s) && !(wordsL.any fun y => y.data.toList == s.data.toList)) := by
  rw [nameB, wordB_data, empty_iff]
theorem signN_data (s : ByteArray) : signN s = if ((decide (2 ≤ s.size) && ((s.extract 0 2).data.toList == [61, 62])) || (decide (2 ≤ s.size) && ((s.extract 0 2).data.toList == [45, 62])) || (decide (2 ≤ s.size) && ((s.extract 0 2).data.toList == [61, 61]))) then 2 else if (!decide (s.size = 0) && hasB shortS ((nums s).getD 0 0)) then 1 else 0 := by
  rw [signN, twoB, oneB, pre2_data, pre2_data, pre2_data, empty_iff]
theorem ex1 : signN ⟨#[61, 62, 120]⟩ = 2 := by rw [signN_data]; decide +kernel
theorem ex2 : signN ⟨#[61, 120]⟩ = 1 := by rw [signN_data]; decide +kernel
theorem ex3 : signN ⟨#[120, 121]⟩ = 0 := by rw [signN_data]; decide +kernel
theorem ex4 : nameB ⟨#[102, 110]⟩ = false := by rw [nameB_data]; decide +kernel
theorem ex5 : nameB ⟨#[102, 110, 49]⟩ = true := by rw [nameB_data]; decide +kernel

theorem lives_any (w : World) : Calls Try.prog 15 #[] w fun e W' => e = .returned (.bool true) ∧ Below w.heap.size w W' := by
  have H1 : Hid (∀ W, Calls Try.prog 9 #[.string ⟨#[61, 62, 120]⟩] W fun e W' => e = .returned (.int .i64 2) ∧ Below W.heap.size W W') := hide fun W => by have := sign_any ⟨#[61, 62, 120]⟩ W; rw [ex1] at this; exact this
  have H2 : Hid (∀ W, Calls Try.prog 9 #[.string ⟨#[61, 120]⟩] W fun e W' => e = .returned (.int .i64 1) ∧ Below W.heap.size W W') := hide fun W => by have := sign_any ⟨#[61, 120]⟩ W; rw [ex2] at this; exact this
  have H3 : Hid (∀ W, Calls Try.prog 9 #[.string ⟨#[120, 121]⟩] W fun e W' => e = .returned (.int .i64 0) ∧ Below W.heap.size W W') := hide fun W => by have := sign_any ⟨#[120, 121]⟩ W; rw [ex3] at this; exact this
  have H4 : Hid (∀ W, Calls Try.prog 18 #[.string ⟨#[102, 110]⟩] W fun e W' => e = .returned (.bool false) ∧ Below W.heap.size W W') := hide fun W => by have := name_any ⟨#[102, 110]⟩ W (by decide); rw [ex4] at this; exact this
  have H5 : Hid (∀ W, Calls Try.prog 18 #[.string ⟨#[102, 110, 49]⟩] W fun e W' => e = .returned (.bool true) ∧ Below W.heap.size W W') := hide fun W => by have := name_any ⟨#[102, 110, 49]⟩ W (by decide); rw [ex5] at this; exact this
  go_enter Try.func15, Try.ntmps15
  go_wp2_with (first
    | (go_at_call 9; refine (H1.out _).mono ?_; rintro e W1 ⟨rfl, hb⟩; have HB1 := hide hb; clear hb H1)
    | (go_at_call 9; refine (H2.out _).mono ?_; rintro e W2 ⟨rfl, hb⟩; have HB2 := hide (HB1.out.trans (hb.mono HB1.out.size)); clear hb H2)
    | (go_at_call 9; refine (H3.out _).mono ?_; rintro e W3 ⟨rfl, hb⟩; have HB3 := hide (HB2.out.trans (hb.mono HB2.out.size)); clear hb H3)
    | (go_at_call 18; refine (H4.out _).mono ?_; rintro e W4 ⟨rfl, hb⟩; have HB4 := hide (HB3.out.trans (hb.mono HB3.out.size)); clear hb H4)
    | (go_at_call 18; refine (H5.out _).mono ?_; rintro e W5 ⟨rfl, hb⟩; have HB5 := hide (HB4.out.trans (hb.mono HB4.out.size)); clear hb H5))
  go_ret
  exact ⟨rfl, HB5.out⟩

theorem word_name (s : ByteArray) (h : wordB s = true) : nameB s = false := by rw [nameB, h]; simp

set_option maxRecDepth 20000 in
set_option maxHeartbeats 2000000 in
theorem texts_any (s : ByteArray) (w : World) : Calls Try.prog 4 #[.string s] w fun e W' => e = .returned (.bool true) ∧ Below w.heap.size w W' := by
  by_cases hm : s.size ≤ 200
  · have H16 := hide (word_any s)
    have H17 := hide (rword_any s)
    have H18 := hide (fun W => name_any s W (by omega))
    have H19 := hide (fun W => rname_any s W (by omega))
    have H9 := hide (sign_any s)
    have H20 := hide (rsign_any s)
    have HN := hide (word_name s)
    have hm' : ¬ 200 < (s.size : Int) := by omega
    generalize wordB s = b1 at *
    generalize nameB s = b2 at *
    generalize signN s = n at *
    clear hm
    cases b1 with
    | true =>
      have hb2 := HN.out rfl
      subst hb2
      go_enter Try.func4, Try.ntmps4
      go_wp2_with (first
        | (go_at_call 17; refine (H17.out _).mono ?_; rintro e W2 ⟨rfl, hb⟩; have HB2 := hide (HB1.out.trans (hb.mono HB1.out.size)); clear hb)
        | (go_at_call 19; refine (H19.out _).mono ?_; rintro e W4 ⟨rfl, hb⟩; have HB4 := hide (HB3.out.trans (hb.mono HB3.out.size)); clear hb)
        | (go_at_call 9; refine (H9.out _).mono ?_; rintro e W5 ⟨rfl, hb⟩; have HB5 := hide (HB4.out.trans (hb.mono HB4.out.size)); clear hb)
        | (go_at_call 20; refine (H20.out _).mono ?_; rintro e W6 ⟨rfl, hb⟩; have HB6 := hide (HB5.out.trans (hb.mono HB5.out.size)); clear hb)
        | (go_at_call 16; refine (H16.out _).mono ?_; rintro e W7 ⟨rfl, hb⟩; have HB7 := hide (HB6.out.trans (hb.mono HB6.out.size)); clear hb)
        | (go_at_call 18; refine (H18.out _).mono ?_; rintro e W8 ⟨rfl, hb⟩; have HB8 := hide (HB7.out.trans (hb.mono HB7.out.size)); clear hb)
        | (go_at_call 16; refine (H16.out _).mono ?_; rintro e W1 ⟨rfl, hb⟩; have HB1 := hide hb; clear hb)
        | (go_at_call 18; refine (H18.out _).mono ?_; rintro e W3 ⟨rfl, hb⟩; have HB3 := hide (HB2.out.trans (hb.mono HB2.out.size)); clear hb)
        | (go_at_call 15; refine (lives_any _).mono ?_; rintro e W9 ⟨rfl, hb⟩; have HB9 := hide (HB8.out.trans (hb.mono HB8.out.size)); clear hb))
      go_ret
      exact ⟨rfl, HB9.out⟩
    | false =>
      go_enter Try.func4, Try.ntmps4
      go_wp2_with (first
        | (go_at_call 17; refine (H17.out _).mono ?_; rintro e W2 ⟨rfl, hb⟩; have HB2 := hide (HB1.out.trans (hb.mono HB1.out.size)); clear hb)
        | (go_at_call 19; refine (H19.out _).mono ?_; rintro e W4 ⟨rfl, hb⟩; have HB4 := hide (HB3.out.trans (hb.mono HB3.out.size)); clear hb)
        | (go_at_call 9; refine (H9.out _).mono ?_; rintro e W5 ⟨rfl, hb⟩; have HB5 := hide (HB4.out.trans (hb.mono HB4.out.size)); clear hb)
        | (go_at_call 20; refine (H20.out _).mono ?_; rintro e W6 ⟨rfl, hb⟩; have HB6 := hide (HB5.out.trans (hb.mono HB5.out.size)); clear hb)
        | (go_at_call 16; refine (H16.out _).mono ?_; rintro e W7 ⟨rfl, hb⟩; have HB7 := hide (HB6.out.trans (hb.mono HB6.out.size)); clear hb)
        | (go_at_call 16; refine (H16.out _).mono ?_; rintro e W1 ⟨rfl, hb⟩; have HB1 := hide hb; clear hb)
        | (go_at_call 18; refine (H18.out _).mono ?_; rintro e W3 ⟨rfl, hb⟩; have HB3 := hide (HB2.out.trans (hb.mono HB2.out.size)); clear hb)
        | (go_at_call 15; refine (lives_any _).mono ?_; rintro e W9 ⟨rfl, hb⟩; have HB9 := hide (HB7.out.trans (hb.mono HB7.out.size)); clear hb))
      go_ret
      exact ⟨rfl, HB9.out⟩
  · have hm' : 200 < (s.size : Int) := by omega
    clear hm
    go_enter Try.func4, Try.ntmps4
    go_wp2_with (go_at_call 15; refine (lives_any _).mono ?_; rintro e W1 ⟨rfl, hb⟩; have HB1 := hide hb; clear hb)
    go_ret
    exact ⟨rfl, HB1.out⟩
end Go.Proofs.Yteimabnkpdbhaaa.L
