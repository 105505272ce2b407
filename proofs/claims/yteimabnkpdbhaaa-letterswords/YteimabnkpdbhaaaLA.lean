/- letters: what any byte may be, and the document's answer. -/
import Derived.Test.YteimabnkpdbhaaaProg
import Derived.Test.YteimabnkpdbhaaaStrs
import Derived.Test.YteimabnkpdbhaaaDraw
import Derived.WalkKit
import Derived.ProofKit
import Derived.Below
namespace Go.Proofs.Yteimabnkpdbhaaa.L
open Go.Proofs.Yteimabnkpdbhaaa Go.RowKit Go.By
set_option linter.unusedVariables false
set_option linter.unusedSimpArgs false
attribute [local go_sem ↓] Go.wp_at_zero Go.wp_at_succ

def startB (c : Nat) : Bool := (decide (97 ≤ c) && decide (c ≤ 122)) || (decide (65 ≤ c) && decide (c ≤ 90)) || decide (c = 95)
def digitB (c : Nat) : Bool := decide (48 ≤ c) && decide (c ≤ 57)
def partB (c : Nat) : Bool := startB c || digitB c
def blankB (c : Nat) : Bool := decide (c = 32) || decide (c = 9) || decide (c = 13) || decide (c = 10)
theorem ret_bool {a b : Bool} (h : a = b) : Ending.returned (.bool a) = .returned (.bool b) := by rw [h]

theorem start_any (c : Nat) (w : World) : Calls Try.prog 6 #[.int .u8 (c : Int)] w fun e W' => e = .returned (.bool (startB c)) ∧ Below w.heap.size w W' := by
  go_enter Try.func6, Try.ntmps6
  go_wp2
  all_goals
    go_ret
    refine ⟨ret_bool ?_, Below.refl _ _⟩
    rw [startB, Bool.eq_iff_iff]
    simp only [Bool.or_eq_true, Bool.and_eq_true, decide_eq_true_eq, beq_iff_eq, Bool.false_eq_true, false_iff, true_iff]
    first | omega | (simp_all; done) | (simp_all; omega)
theorem digit_any (c : Nat) (w : World) : Calls Try.prog 7 #[.int .u8 (c : Int)] w fun e W' => e = .returned (.bool (digitB c)) ∧ Below w.heap.size w W' := by
  go_enter Try.func7, Try.ntmps7
  go_wp2
  all_goals
    go_ret
    refine ⟨ret_bool ?_, Below.refl _ _⟩
    rw [digitB, Bool.eq_iff_iff]
    simp only [Bool.or_eq_true, Bool.and_eq_true, decide_eq_true_eq, beq_iff_eq, Bool.false_eq_true, false_iff, true_iff]
    first | omega | (simp_all; done) | (simp_all; omega)
theorem blank_any (c : Nat) (w : World) : Calls Try.prog 8 #[.int .u8 (c : Int)] w fun e W' => e = .returned (.bool (blankB c)) ∧ Below w.heap.size w W' := by
  go_enter Try.func8, Try.ntmps8
  go_wp2
  all_goals
    go_ret
    refine ⟨ret_bool ?_, Below.refl _ _⟩
    rw [blankB, Bool.eq_iff_iff]
    simp only [Bool.or_eq_true, Bool.and_eq_true, decide_eq_true_eq, beq_iff_eq, Bool.false_eq_true, false_iff, true_iff]
    first | omega | (simp_all; done) | (simp_all; omega)
theorem part_any (c : Nat) (w : World) : Calls Try.prog 12 #[.int .u8 (c : Int)] w fun e W' => e = .returned (.bool (partB c)) ∧ Below w.heap.size w W' := by
  have HS : Hid (∀ W, Calls Try.prog 6 #[.int .u8 (c : Int)] W fun e W' => e = .returned (.bool (startB c)) ∧ Below W.heap.size W W') := hide (start_any c)
  have HD : Hid (∀ W, Calls Try.prog 7 #[.int .u8 (c : Int)] W fun e W' => e = .returned (.bool (digitB c)) ∧ Below W.heap.size W W') := hide (digit_any c)
  rw [partB]
  generalize startB c = x at *
  generalize digitB c = y at *
  go_enter Try.func12, Try.ntmps12
  cases x
  · go_wp2_with (first
      | (go_at_call 6; refine (HS.out _).mono ?_; rintro e W1 ⟨rfl, hb⟩; have HB1 := hide hb; clear hb)
      | (go_at_call 7; refine (HD.out _).mono ?_; rintro e W2 ⟨rfl, hb⟩; have HB2 := hide (HB1.out.trans (hb.mono HB1.out.size)); clear hb))
    go_ret
    exact ⟨ret_bool (by simp), HB2.out⟩
  · go_wp2_with (go_at_call 6; refine (HS.out _).mono ?_; rintro e W1 ⟨rfl, hb⟩; have HB1 := hide hb; clear hb)
    go_ret
    exact ⟨rfl, HB1.out⟩

def hasB (s : ByteArray) (c : Nat) : Bool := (nums s).contains c
theorem index_str (l : List Nat) (hl : ∀ c ∈ l, c < 256) (i : Nat) (h : i < l.length) (w : World) :
    Sem.run Try.prog (Instr.index 9 (.string (str l)) (.int .i64 (i : Int))) w = .ok (.int .u8 ((l.getD i 0 : Nat) : Int)) w := by
  have hd := getD_lt hl i
  have hs : i < (str l).size := by rw [str_size]; exact h
  have e : (str l)[i]'hs = UInt8.ofNat (l.getD i 0) := by
    have : (str l)[i]'hs = (l.map fun n => UInt8.ofNat n)[i]'(by simpa using h) := rfl
    rw [this]
    simp [List.getD, h]
  have hn : ((str l)[i]'hs).toNat = l.getD i 0 := by rw [e]; generalize l.getD i 0 = x at *; simp; omega
  simp [go_sem, Try.underlying9, hs, hn]
theorem index_any (s : ByteArray) (i : Nat) (h : i < s.size) (w : World) : Sem.run Try.prog (Instr.index 9 (.string s) (.int .i64 (i : Int))) w = .ok (.int .u8 (((nums s).getD i 0 : Nat) : Int)) w := by
  have := index_str (nums s) (nums_small s) i (by rw [nums_length]; exact h) w
  rwa [str_nums] at this

theorem contains_take (l : List Nat) (k c : Nat) (h : k < l.length) : (l.take (k + 1)).contains c = ((l.take k).contains c || l.getD k 0 == c) := by
  rw [take_snoc l k h]
  simp only [List.contains_eq_any_beq, List.any_append, List.any_cons, List.any_nil, Bool.or_false]
  congr 1
  exact BEq.comm ..

set_option maxHeartbeats 1000000 in
theorem has_any (s : ByteArray) (c : Nat) (w : World) (hm : s.size ≤ 1000) : Calls Try.prog 26 #[.string s, .int .u8 (c : Int)] w fun e W' => e = .returned (.bool (hasB s c)) ∧ W' = w := by
  have HL : Hid ((nums s).length = s.size) := hide (nums_length s)
  go_enter Try.func26, Try.ntmps26
  go_wp2
  go_loop [5] (fun s5 => ∃ k : Nat, s5 = .int .i64 (k : Int) ∧ k ≤ s.size ∧ Hid (((nums s).take k).contains c = false)) (fun s5 => s.size - (intOf s5).toNat)
  case atStart => exact ⟨0, rfl, by omega, hide (by simp)⟩
  case round =>
    obtain ⟨k, rfl, hk, HI⟩ := hrel
    by_cases hlt : k < s.size
    · have hix := index_any s k hlt
      have HC := hide (contains_take (nums s) k c (by rw [HL.out]; exact hlt))
      generalize (nums s).getD k 0 = d at *
      by_cases hd : (d : Int) = (c : Int)
      · have HV : Hid (hasB s c = true) := hide (by
          have h1 := HC.out
          have hdc : (d == c) = true := by simp; omega
          rw [hdc, Bool.or_true] at h1
          rw [hasB]
          simp only [List.contains_iff_mem] at h1 ⊢
          exact List.mem_of_mem_take h1)
        have q : ((d : Int) == (c : Int)) = true := by simp [hd]
        clear hd
        go_wp2
        go_ret
        exact ⟨by rw [HV.out]; rfl, rfl⟩
      · have HV : Hid (((nums s).take (k + 1)).contains c = false) := hide (by
          rw [HC.out, HI.out]; simp; omega)
        have q : ((d : Int) == (c : Int)) = false := by simp [hd]
        clear hd
        go_wp2
        go_round
        case rel => exact ⟨k + 1, by go_num, by omega, HV⟩
        case measure => simp [intOf]; omega
    · have HV : Hid (hasB s c = false) := hide (by
        have h1 := HI.out
        rw [List.take_of_length_le (by rw [HL.out]; omega)] at h1
        exact h1)
      go_wp2
      go_ret
      exact ⟨by rw [HV.out]; rfl, rfl⟩

theorem rstart_has : ∀ c : Fin 256, hasB ⟨#[97, 98, 99, 100, 101, 102, 103, 104, 105, 106, 107, 108, 109, 110, 111, 112, 113, 114, 115, 116, 117, 118, 119, 120, 121, 122, 65, 66, 67, 68, 69, 70, 71, 72, 73, 74, 75, 76, 77, 78, 79, 80, 81, 82, 83, 84, 85, 86, 87, 88, 89, 90, 95]⟩ c.val = startB c.val := by decide +kernel
theorem rstart_any (c : Nat) (hc : c < 256) (w : World) : Calls Try.prog 10 #[.int .u8 (c : Int)] w fun e W' => e = .returned (.bool (startB c)) ∧ Below w.heap.size w W' := by
  have HV : Hid (hasB ⟨#[97, 98, 99, 100, 101, 102, 103, 104, 105, 106, 107, 108, 109, 110, 111, 112, 113, 114, 115, 116, 117, 118, 119, 120, 121, 122, 65, 66, 67, 68, 69, 70, 71, 72, 73, 74, 75, 76, 77, 78, 79, 80, 81, 82, 83, 84, 85, 86, 87, 88, 89, 90, 95]⟩ c = startB c) := hide (rstart_has ⟨c, hc⟩)
  go_enter Try.func10, Try.ntmps10
  go_wp2_with (go_at_call 26; refine (has_any _ c _ (by decide)).mono ?_; rintro e W1 ⟨rfl, hw⟩; subst hw; rw [HV.out])
  go_ret
  exact ⟨rfl, Below.refl _ _⟩

theorem rdigit_has : ∀ c : Fin 256, hasB ⟨#[48, 49, 50, 51, 52, 53, 54, 55, 56, 57]⟩ c.val = digitB c.val := by decide +kernel
theorem rdigit_any (c : Nat) (hc : c < 256) (w : World) : Calls Try.prog 11 #[.int .u8 (c : Int)] w fun e W' => e = .returned (.bool (digitB c)) ∧ Below w.heap.size w W' := by
  have HV : Hid (hasB ⟨#[48, 49, 50, 51, 52, 53, 54, 55, 56, 57]⟩ c = digitB c) := hide (rdigit_has ⟨c, hc⟩)
  go_enter Try.func11, Try.ntmps11
  go_wp2_with (go_at_call 26; refine (has_any _ c _ (by decide)).mono ?_; rintro e W1 ⟨rfl, hw⟩; subst hw; rw [HV.out])
  go_ret
  exact ⟨rfl, Below.refl _ _⟩

theorem rblank_has : ∀ c : Fin 256, hasB ⟨#[32, 9, 13, 10]⟩ c.val = blankB c.val := by decide +kernel
theorem rblank_any (c : Nat) (hc : c < 256) (w : World) : Calls Try.prog 14 #[.int .u8 (c : Int)] w fun e W' => e = .returned (.bool (blankB c)) ∧ Below w.heap.size w W' := by
  have HV : Hid (hasB ⟨#[32, 9, 13, 10]⟩ c = blankB c) := hide (rblank_has ⟨c, hc⟩)
  go_enter Try.func14, Try.ntmps14
  go_wp2_with (go_at_call 26; refine (has_any _ c _ (by decide)).mono ?_; rintro e W1 ⟨rfl, hw⟩; subst hw; rw [HV.out])
  go_ret
  exact ⟨rfl, Below.refl _ _⟩

theorem rpart_any (c : Nat) (hc : c < 256) (w : World) : Calls Try.prog 13 #[.int .u8 (c : Int)] w fun e W' => e = .returned (.bool (partB c)) ∧ Below w.heap.size w W' := by
  have HS : Hid (∀ W, Calls Try.prog 10 #[.int .u8 (c : Int)] W fun e W' => e = .returned (.bool (startB c)) ∧ Below W.heap.size W W') := hide (rstart_any c hc)
  have HD : Hid (∀ W, Calls Try.prog 11 #[.int .u8 (c : Int)] W fun e W' => e = .returned (.bool (digitB c)) ∧ Below W.heap.size W W') := hide (rdigit_any c hc)
  rw [partB]
  generalize startB c = x at *
  generalize digitB c = y at *
  go_enter Try.func13, Try.ntmps13
  cases x
  · go_wp2_with (first
      | (go_at_call 10; refine (HS.out _).mono ?_; rintro e W1 ⟨rfl, hb⟩; have HB1 := hide hb; clear hb)
      | (go_at_call 11; refine (HD.out _).mono ?_; rintro e W2 ⟨rfl, hb⟩; have HB2 := hide (HB1.out.trans (hb.mono HB1.out.size)); clear hb))
    go_ret
    exact ⟨ret_bool (by simp), HB2.out⟩
  · go_wp2_with (go_at_call 10; refine (HS.out _).mono ?_; rintro e W1 ⟨rfl, hb⟩; have HB1 := hide hb; clear hb)
    go_ret
    exact ⟨rfl, HB1.out⟩
end Go.Proofs.Yteimabnkpdbhaaa.L
