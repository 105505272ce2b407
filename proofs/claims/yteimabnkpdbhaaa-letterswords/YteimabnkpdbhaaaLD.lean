/- letters: with which sign a text begins, the document's answer. -/
import Derived.Test.YteimabnkpdbhaaaLC
namespace Go.Proofs.Yteimabnkpdbhaaa.L
open Go.Proofs.Yteimabnkpdbhaaa Go.RowKit Go.By
set_option linter.unusedVariables false
set_option linter.unusedSimpArgs false
attribute [local go_sem ↓] Go.wp_at_zero Go.wp_at_succ

theorem lit2 (a b : UInt8) : (⟨#[a, b]⟩ : ByteArray).toList = [a, b] := by rw [ByteArray.toList_eq]
theorem pre2_big (s : ByteArray) (h : 2 ≤ s.size) (a b : UInt8) : pre2 s ⟨#[a, b]⟩ = decide ((s.extract 0 2).toList = [a, b]) := by
  rw [pre2, decide_eq_true h, Bool.true_and, lit2, Bool.eq_iff_iff]
  simp
theorem not_nil (s : ByteArray) (h : 0 < s.size) : ¬ s.toList = [] := by
  intro e
  have := empty_iff s
  rw [e, decide_eq_false (by omega)] at this
  cases this
theorem is_nil (s : ByteArray) (h : s.size = 0) : s.toList = [] := by
  have := empty_iff s
  rw [decide_eq_true h] at this
  exact List.isEmpty_iff.1 this

set_option maxRecDepth 20000 in
set_option maxHeartbeats 1000000 in
theorem rsign_any (s : ByteArray) (w : World) : Calls Try.prog 20 #[.string s] w fun e W' => e = .returned (.int .i64 (signN s : Int)) ∧ Below w.heap.size w W' := by
  have HI := hide (fun W => has_any shortS ((nums s).getD 0 0) W (by decide))
  have hix := index_zero s
  have HV : Hid (signN s = if (pre2 s ⟨#[61, 62]⟩ || pre2 s ⟨#[45, 62]⟩ || pre2 s ⟨#[61, 61]⟩) then 2 else if (!s.toList.isEmpty && hasB shortS ((nums s).getD 0 0)) then 1 else 0) := hide rfl
  generalize (nums s).getD 0 0 = d at *
  generalize hasB shortS d = h1 at *
  have small : ¬ 2 ≤ s.size → ∀ p, pre2 s p = false := fun h p => by rw [pre2, decide_eq_false h, Bool.false_and]
  have HS := hide small
  clear small
  by_cases h2 : 2 ≤ s.size
  · have hs := slice_two s h2
    have h2' : 1 < (s.size : Int) := by omega
    have q1 := pre2_big s h2 61 62
    have q2 := pre2_big s h2 45 62
    have q3 := pre2_big s h2 61 61
    have he := not_nil s (by omega); have he2 : s.toList.isEmpty = false := by simpa using he
    have hix0 := hix (by omega)
    clear h2 HS hix
    generalize s.extract 0 2 = t at *
    by_cases e1 : t.toList = [61, 62]
    · rw [decide_eq_true e1] at q1
      have HV2 : Hid (signN s = 2) := hide (by rw [HV.out]; rw [q1]; simp)
      clear HV
      clear q1 q2 q3
      go_enter Try.func20, Try.ntmps20
      go_wp2
      go_ret
      exact ⟨by rw [HV2.out]; rfl, Below.refl _ _⟩
    · rw [decide_eq_false e1] at q1
      by_cases e2 : t.toList = [45, 62]
      · rw [decide_eq_true e2] at q2
        have HV2 : Hid (signN s = 2) := hide (by rw [HV.out]; rw [q2]; simp)
        clear HV
        clear q1 q2 q3
        go_enter Try.func20, Try.ntmps20
        go_wp2
        go_ret
        exact ⟨by rw [HV2.out]; rfl, Below.refl _ _⟩
      · rw [decide_eq_false e2] at q2
        have b1 : (t.toList == [61, 62]) = false := by simp [e1]
        have b2 : (t.toList == [45, 62]) = false := by simp [e2]
        by_cases e3 : t.toList = [61, 61]
        · rw [decide_eq_true e3] at q3
          have b3 : (t.toList == [61, 61]) = true := by simp [e3]
          have HV2 : Hid (signN s = 2) := hide (by rw [HV.out]; rw [q3]; simp)
          clear HV
          clear q1 q2 q3
          go_enter Try.func20, Try.ntmps20
          go_wp2
          go_ret
          exact ⟨by rw [HV2.out]; rfl, Below.refl _ _⟩
        · rw [decide_eq_false e3] at q3
          have b3 : (t.toList == [61, 61]) = false := by simp [e3]
          cases h1 with
          | true =>
            have HV2 : Hid (signN s = 1) := hide (by rw [HV.out]; rw [q1, q2, q3]; simp [he])
            clear HV
            clear q1 q2 q3
            go_enter Try.func20, Try.ntmps20
            go_wp2_with (go_at_call 26; refine (HI.out _).mono ?_; rintro e W1 ⟨rfl, hw⟩; subst hw)
            go_ret
            exact ⟨by rw [HV2.out]; rfl, Below.refl _ _⟩
          | false =>
            have HV2 : Hid (signN s = 0) := hide (by rw [HV.out]; rw [q1, q2, q3]; simp)
            clear HV
            clear q1 q2 q3
            go_enter Try.func20, Try.ntmps20
            go_wp2_with (go_at_call 26; refine (HI.out _).mono ?_; rintro e W1 ⟨rfl, hw⟩; subst hw)
            go_ret
            exact ⟨by rw [HV2.out]; rfl, Below.refl _ _⟩
  · have h2' : ¬ 1 < (s.size : Int) := by omega
    have q1 := HS.out h2 ⟨#[61, 62]⟩
    have q2 := HS.out h2 ⟨#[45, 62]⟩
    have q3 := HS.out h2 ⟨#[61, 61]⟩
    clear HS
    by_cases h0 : s.size = 0
    · have he := is_nil s h0
      clear h0 hix h2
      have HV2 : Hid (signN s = 0) := hide (by rw [HV.out]; rw [q1, q2, q3]; simp [he])
      clear HV
      clear q1 q2 q3
      go_enter Try.func20, Try.ntmps20
      go_wp2
      go_ret
      exact ⟨by rw [HV2.out]; rfl, Below.refl _ _⟩
    · have he := not_nil s (by omega); have he2 : s.toList.isEmpty = false := by simpa using he
      have hix0 := hix (by omega)
      clear h0 hix h2
      cases h1 with
      | true =>
        have HV2 : Hid (signN s = 1) := hide (by rw [HV.out]; rw [q1, q2, q3]; simp [he])
        clear HV
        clear q1 q2 q3
        go_enter Try.func20, Try.ntmps20
        go_wp2_with (go_at_call 26; refine (HI.out _).mono ?_; rintro e W1 ⟨rfl, hw⟩; subst hw)
        go_ret
        exact ⟨by rw [HV2.out]; rfl, Below.refl _ _⟩
      | false =>
        have HV2 : Hid (signN s = 0) := hide (by rw [HV.out]; rw [q1, q2, q3]; simp)
        clear HV
        clear q1 q2 q3
        go_enter Try.func20, Try.ntmps20
        go_wp2_with (go_at_call 26; refine (HI.out _).mono ?_; rintro e W1 ⟨rfl, hw⟩; subst hw)
        go_ret
        exact ⟨by rw [HV2.out]; rfl, Below.refl _ _⟩
end Go.Proofs.Yteimabnkpdbhaaa.L
