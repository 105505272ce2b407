/- letters: with which sign a text begins. -/
import Derived.Test.YteimabnkpdbhaaaLB
namespace Go.Proofs.Yteimabnkpdbhaaa.L
open Go.Proofs.Yteimabnkpdbhaaa Go.RowKit Go.By
set_option linter.unusedVariables false
set_option linter.unusedSimpArgs false
attribute [local go_sem ↓] Go.wp_at_zero Go.wp_at_succ

def twoB (s : ByteArray) : Bool := pre2 s ⟨#[61, 62]⟩ || pre2 s ⟨#[45, 62]⟩ || pre2 s ⟨#[61, 61]⟩
def oneB (s : ByteArray) : Bool := !s.toList.isEmpty && hasB shortS ((nums s).getD 0 0)
def signN (s : ByteArray) : Nat := if twoB s then 2 else if oneB s then 1 else 0

theorem index_zero (s : ByteArray) (h : 0 < s.size) (w : World) : Sem.run Try.prog (Instr.index 9 (.string s) (.int .i64 0)) w = .ok (.int .u8 (((nums s).getD 0 0 : Nat) : Int)) w := index_any s 0 h w
theorem empty_iff (s : ByteArray) : s.toList.isEmpty = decide (s.size = 0) := by
  rw [ByteArray.toList_eq, Bool.eq_iff_iff]
  simp only [List.isEmpty_iff, decide_eq_true_eq]
  rw [← List.length_eq_zero_iff, Array.length_toList]
  exact Iff.rfl

set_option maxRecDepth 20000 in
set_option maxHeartbeats 1000000 in
theorem sign_any (s : ByteArray) (w : World) : Calls Try.prog 9 #[.string s] w fun e W' => e = .returned (.int .i64 (signN s : Int)) ∧ Below w.heap.size w W' := by
  have hd := getD_lt (nums_small s) 0
  have HB1 := hide (fun g W h => begins_any s ⟨#[61, 62]⟩ g rfl W h)
  have HB2 := hide (fun g W h => begins_any s ⟨#[45, 62]⟩ g rfl W h)
  have HB3 := hide (fun g W h => begins_any s ⟨#[61, 61]⟩ g rfl W h)
  have HI := hide (fun W => idx_any ((nums s).getD 0 0) hd W)
  have HV : Hid (signN s = if (pre2 s ⟨#[61, 62]⟩ || pre2 s ⟨#[45, 62]⟩ || pre2 s ⟨#[61, 61]⟩) then 2 else if (!s.toList.isEmpty && hasB shortS ((nums s).getD 0 0)) then 1 else 0) := hide rfl
  have HX : Hid (SB (w.alloc (.cells #[.string s] 9)) w.heap.size s ∧ Below w.heap.size w (w.alloc (.cells #[.string s] 9))) := hide ⟨World.alloc_heap_new w _, (Below.refl _ w).alloc (Nat.le_refl _) _⟩
  have hix := index_zero s
  have hem := empty_iff s
  generalize (nums s).getD 0 0 = d at *
  generalize hasB shortS d = h1 at *
  generalize pre2 s ⟨#[61, 62]⟩ = p1 at *
  generalize pre2 s ⟨#[45, 62]⟩ = p2 at *
  generalize pre2 s ⟨#[61, 61]⟩ = p3 at *
  clear hd
  cases p1 with
  | true =>
    have HV2 : Hid (signN s = 2) := hide (by rw [HV.out]; simp)
    clear HV
    go_enter Try.func9, Try.ntmps9
    go_wp2_with (first | (go_at_call 23; refine (HB1.out _ _ HX.out.1).mono ?_; rintro e W1 ⟨rfl, hw⟩; subst hw; clear HB1))
    go_ret
    exact ⟨by rw [HV2.out]; rfl, HX.out.2⟩
  | false =>
    cases p2 with
    | true =>
      have HV2 : Hid (signN s = 2) := hide (by rw [HV.out]; simp)
      clear HV
      go_enter Try.func9, Try.ntmps9
      go_wp2_with (first | (go_at_call 23; refine (HB1.out _ _ HX.out.1).mono ?_; rintro e W1 ⟨rfl, hw⟩; subst hw; clear HB1) | (go_at_call 23; refine (HB2.out _ _ HX.out.1).mono ?_; rintro e W1 ⟨rfl, hw⟩; subst hw; clear HB2))
      go_ret
      exact ⟨by rw [HV2.out]; rfl, HX.out.2⟩
    | false =>
      cases p3 with
      | true =>
        have HV2 : Hid (signN s = 2) := hide (by rw [HV.out]; simp)
        clear HV
        go_enter Try.func9, Try.ntmps9
        go_wp2_with (first | (go_at_call 23; refine (HB1.out _ _ HX.out.1).mono ?_; rintro e W1 ⟨rfl, hw⟩; subst hw; clear HB1) | (go_at_call 23; refine (HB2.out _ _ HX.out.1).mono ?_; rintro e W1 ⟨rfl, hw⟩; subst hw; clear HB2) | (go_at_call 23; refine (HB3.out _ _ HX.out.1).mono ?_; rintro e W1 ⟨rfl, hw⟩; subst hw; clear HB3))
        go_ret
        exact ⟨by rw [HV2.out]; rfl, HX.out.2⟩
      | false =>
        have hc := HX.out.1.cell
        by_cases h0 : s.size = 0
        · have he : s.toList.isEmpty = true := by rw [hem, h0]; rfl
          clear hem hix
          have HV2 : Hid (signN s = 0) := hide (by rw [HV.out]; rw [he]; simp)
          clear HV
          go_enter Try.func9, Try.ntmps9
          go_wp2_with (first | (go_at_call 23; refine (HB1.out _ _ HX.out.1).mono ?_; rintro e W1 ⟨rfl, hw⟩; subst hw; clear HB1) | (go_at_call 23; refine (HB2.out _ _ HX.out.1).mono ?_; rintro e W1 ⟨rfl, hw⟩; subst hw; clear HB2) | (go_at_call 23; refine (HB3.out _ _ HX.out.1).mono ?_; rintro e W1 ⟨rfl, hw⟩; subst hw; clear HB3))
          go_ret
          exact ⟨by rw [HV2.out]; rfl, HX.out.2⟩
        · have he : s.toList.isEmpty = false := by rw [hem]; simp [h0]
          have hix0 := hix (by omega)
          clear hem hix
          cases h1 with
          | true =>
            have HV2 : Hid (signN s = 1) := hide (by rw [HV.out]; rw [he]; simp)
            clear HV
            go_enter Try.func9, Try.ntmps9
            go_wp2_with (first | (go_at_call 23; refine (HB1.out _ _ HX.out.1).mono ?_; rintro e W1 ⟨rfl, hw⟩; subst hw; clear HB1) | (go_at_call 23; refine (HB2.out _ _ HX.out.1).mono ?_; rintro e W1 ⟨rfl, hw⟩; subst hw; clear HB2) | (go_at_call 23; refine (HB3.out _ _ HX.out.1).mono ?_; rintro e W1 ⟨rfl, hw⟩; subst hw; clear HB3) | (go_at_call 25; refine (HI.out _).mono ?_; rintro e W1 ⟨⟨z, rfl, HZ⟩, hw⟩; subst hw; have hz : 0 ≤ z := of_decide_eq_true HZ.out; clear HI))
            go_ret
            exact ⟨by rw [HV2.out]; rfl, HX.out.2⟩
          | false =>
            have HV2 : Hid (signN s = 0) := hide (by rw [HV.out]; rw [he]; simp)
            clear HV
            go_enter Try.func9, Try.ntmps9
            go_wp2_with (first | (go_at_call 23; refine (HB1.out _ _ HX.out.1).mono ?_; rintro e W1 ⟨rfl, hw⟩; subst hw; clear HB1) | (go_at_call 23; refine (HB2.out _ _ HX.out.1).mono ?_; rintro e W1 ⟨rfl, hw⟩; subst hw; clear HB2) | (go_at_call 23; refine (HB3.out _ _ HX.out.1).mono ?_; rintro e W1 ⟨rfl, hw⟩; subst hw; clear HB3) | (go_at_call 25; refine (HI.out _).mono ?_; rintro e W1 ⟨⟨z, rfl, HZ⟩, hw⟩; subst hw; have hz : ¬ 0 ≤ z := of_decide_eq_false HZ.out; clear HI))
            go_ret
            exact ⟨by rw [HV2.out]; rfl, HX.out.2⟩

/-- The document's. -/
def signR (s : ByteArray) : Nat := signN s
end Go.Proofs.Yteimabnkpdbhaaa.L
