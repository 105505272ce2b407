/- letters: names. -/
import Derived.Test.YteimabnkpdbhaaaLE
namespace Go.Proofs.Yteimabnkpdbhaaa.L
open Go.Proofs.Yteimabnkpdbhaaa Go.RowKit Go.By
set_option linter.unusedVariables false
set_option linter.unusedSimpArgs false
attribute [local go_sem ↓] Go.wp_at_zero Go.wp_at_succ

theorem start_w (c : Nat) (w : World) : Calls Try.prog 6 #[.int .u8 (c : Int)] w fun e W' => e = .returned (.bool (startB c)) ∧ W' = w := by
  go_enter Try.func6, Try.ntmps6
  go_wp2
  all_goals
    go_ret
    refine ⟨ret_bool ?_, rfl⟩
    rw [startB, Bool.eq_iff_iff]
    simp only [Bool.or_eq_true, Bool.and_eq_true, decide_eq_true_eq, beq_iff_eq, Bool.false_eq_true, false_iff, true_iff]
    first | omega | (simp_all; done) | (simp_all; omega)
theorem digit_w (c : Nat) (w : World) : Calls Try.prog 7 #[.int .u8 (c : Int)] w fun e W' => e = .returned (.bool (digitB c)) ∧ W' = w := by
  go_enter Try.func7, Try.ntmps7
  go_wp2
  all_goals
    go_ret
    refine ⟨ret_bool ?_, rfl⟩
    rw [digitB, Bool.eq_iff_iff]
    simp only [Bool.or_eq_true, Bool.and_eq_true, decide_eq_true_eq, beq_iff_eq, Bool.false_eq_true, false_iff, true_iff]
    first | omega | (simp_all; done) | (simp_all; omega)
theorem part_w (c : Nat) (w : World) : Calls Try.prog 12 #[.int .u8 (c : Int)] w fun e W' => e = .returned (.bool (partB c)) ∧ W' = w := by
  have HS := hide (start_w c)
  have HD := hide (digit_w c)
  rw [partB]
  generalize startB c = x at *
  generalize digitB c = y at *
  go_enter Try.func12, Try.ntmps12
  cases x
  · go_wp2_with (first
      | (go_at_call 6; refine (HS.out _).mono ?_; rintro e W1 ⟨rfl, hw⟩; subst hw)
      | (go_at_call 7; refine (HD.out _).mono ?_; rintro e W2 ⟨rfl, hw⟩; subst hw))
    go_ret
    exact ⟨ret_bool (by simp), rfl⟩
  · go_wp2_with (go_at_call 6; refine (HS.out _).mono ?_; rintro e W1 ⟨rfl, hw⟩; subst hw)
    go_ret
    exact ⟨rfl, rfl⟩

/-- Only the block g has turned. -/
def Turn (g : Nat) (w w' : World) : Prop := w.grownBy w' (some g) ∧ w'.heap.size = w.heap.size
theorem Turn.refl (g : Nat) (w : World) : Turn g w w := ⟨⟨rfl, rfl, rfl, Nat.le_refl _, fun _ _ _ => rfl⟩, rfl⟩
theorem Turn.trans {g : Nat} {a b c : World} (h : Turn g a b) (k : Turn g b c) : Turn g a c :=
  ⟨⟨k.1.os.trans h.1.os, k.1.tape.trans h.1.tape, k.1.output.trans h.1.output, Nat.le_trans h.1.size k.1.size, fun i hi hne => (k.1.block i (by rw [h.2]; exact hi) hne).trans (h.1.block i hi hne)⟩, k.2.trans h.2⟩
theorem Turn.set {g i : Nat} {a b : World} (h : Turn g a b) (v : Value) : Turn g a (b.setCell ⟨g, i, none⟩ v) :=
  ⟨⟨h.1.os, h.1.tape, h.1.output, by simp [h.2], fun k hk hne => by
    rw [Below.heap_setCell b _ v k (fun e => hne (by rw [e]))]; exact h.1.block k hk hne⟩, by simp [h.2]⟩
theorem Turn.below {g B : Nat} {w w' : World} (h : Turn g w w') (hB : B ≤ g) (hw : B ≤ w.heap.size) : Below B w w' :=
  (Below.refl _ _).grown h.1 hw fun k hk => by cases hk; exact hB

/-- The box of what is asked next. -/
def FB (w : World) (g f : Nat) : Prop := w.heap[g]? = some (.cells #[.func (.func f) #[] #[]] 22 (0, 0))
theorem FB.cell {w : World} {g f : Nat} (h : FB w g f) : w.cell? ⟨g, 0, none⟩ = some (.func (.func f) #[] #[]) := by rw [Joins.cell_of_block h]; rfl
theorem FB.set {w : World} {g f : Nat} (h : FB w g f) (f' : Nat) : FB (w.setCell ⟨g, 0, none⟩ (.func (.func f') #[] #[])) g f' := by
  have := Joins.block_setCell (i := 0) h (.func (.func f') #[] #[])
  exact this

theorem naming_any (w : World) : Calls Try.prog 30 #[] w fun e W' => e = .returned (.func (.func 34) #[] #[.pointer (some ⟨w.heap.size, 0, none⟩)]) ∧ FB W' w.heap.size 6 ∧ Below w.heap.size w W' := by
  have hsf := fun (a : Addr) (w : World) => run_store Try.prog w a (.func (.func 6) #[] #[]) .plain rfl
  go_enter Try.func30, Try.ntmps30
  go_wp2
  go_ret
  exact ⟨rfl, World.alloc_heap_new w (.cells #[.func (.func 6) #[] #[]] 22), (Below.refl _ w).alloc (Nat.le_refl _) _⟩

theorem ask_first (c g : Nat) (w : World) (h : FB w g 6) : Calls Try.prog 34 #[.int .u8 (c : Int), .pointer (some ⟨g, 0, none⟩)] w fun e W' => e = .returned (.bool (startB c)) ∧ FB W' g 12 ∧ Turn g w W' := by
  have hc := h.cell
  have hf := Joins.unfrozen_of_block h 0
  have HF := hide h
  have HC := hide (start_w c)
  generalize startB c = b at *
  clear h
  have hsf := fun (a : Addr) (w : World) => run_store Try.prog w a (.func (.func 12) #[] #[]) .plain rfl
  go_enter Try.func34, Try.ntmps34
  go_wp2_with (go_at_call 6; refine (HC.out _).mono ?_; rintro e W1 ⟨rfl, hw⟩; subst hw)
  go_ret
  exact ⟨rfl, HF.out.set 12, (Turn.refl g _).set _⟩
theorem ask_more (c g : Nat) (w : World) (h : FB w g 12) : Calls Try.prog 34 #[.int .u8 (c : Int), .pointer (some ⟨g, 0, none⟩)] w fun e W' => e = .returned (.bool (partB c)) ∧ FB W' g 12 ∧ Turn g w W' := by
  have hc := h.cell
  have hf := Joins.unfrozen_of_block h 0
  have HF := hide h
  have HC := hide (part_w c)
  generalize partB c = b at *
  clear h
  have hsf := fun (a : Addr) (w : World) => run_store Try.prog w a (.func (.func 12) #[] #[]) .plain rfl
  go_enter Try.func34, Try.ntmps34
  go_wp2_with (go_at_call 12; refine (HC.out _).mono ?_; rintro e W1 ⟨rfl, hw⟩; subst hw)
  go_ret
  exact ⟨rfl, HF.out.set 12, (Turn.refl g _).set _⟩

def nameAt (k c : Nat) : Bool := if k = 0 then startB c else partB c
def allB (l : List Nat) : Bool := (List.range l.length).all fun k => nameAt k (l.getD k 0)
theorem allB_true {l : List Nat} (h : ∀ j, j < l.length → nameAt j (l.getD j 0) = true) : allB l = true := by
  rw [allB, List.all_eq_true]
  exact fun j hj => h j (List.mem_range.1 hj)
theorem allB_false {l : List Nat} {k : Nat} (hk : k < l.length) (h : nameAt k (l.getD k 0) = false) : allB l = false := by
  rw [allB, List.all_eq_false]
  exact ⟨k, List.mem_range.2 hk, by rw [h]; simp⟩
theorem ask_any (k c g : Nat) (w : World) (h : FB w g (if k = 0 then 6 else 12)) : Calls Try.prog 34 #[.int .u8 (c : Int), .pointer (some ⟨g, 0, none⟩)] w fun e W' => e = .returned (.bool (nameAt k c)) ∧ FB W' g 12 ∧ Turn g w W' := by
  by_cases h0 : k = 0
  · rw [if_pos h0] at h
    rw [nameAt, if_pos h0]
    exact ask_first c g w h
  · rw [if_neg h0] at h
    rw [nameAt, if_neg h0]
    exact ask_more c g w h

set_option maxRecDepth 20000 in
set_option maxHeartbeats 1000000 in
theorem all_any (s : ByteArray) (g : Nat) (w : World) (h : FB w g 6) (hm : s.size ≤ 1000) :
    Calls Try.prog 29 #[.string s, .func (.func 34) #[] #[.pointer (some ⟨g, 0, none⟩)]] w fun e W' => e = .returned (.bool (allB (nums s))) ∧ Turn g w W' := by
  have HL : Hid ((nums s).length = s.size) := hide (nums_length s)
  have HF := hide h
  clear h
  go_enter Try.func29, Try.ntmps29
  go_wp2
  go_loopw [8] (fun s8 wr => ∃ k : Nat, s8 = .int .i64 (k : Int) ∧ k ≤ s.size ∧ Hid (FB wr g (if k = 0 then 6 else 12) ∧ Turn g w wr ∧ ∀ j, j < k → nameAt j ((nums s).getD j 0) = true)) (fun s8 _ => s.size - (intOf s8).toNat)
  case atStart => exact ⟨0, rfl, by omega, hide ⟨HF.out, Turn.refl g w, fun j hj => by omega⟩⟩
  case round =>
    obtain ⟨k, rfl, hk, HI⟩ := hrel
    by_cases hlt : k < s.size
    · have hix := index_any s k hlt
      have HY : Hid ((nums s).getD k 0 = (nums s).getD k 0) := hide rfl
      cases hv : nameAt k ((nums s).getD k 0) with
      | true =>
        have HV : Hid (∀ j, j < k + 1 → nameAt j ((nums s).getD j 0) = true) := hide fun j hj => by
          by_cases hjk : j = k
          · rw [hjk]; exact hv
          · exact HI.out.2.2 j (by omega)
        have HC := hide (ask_any k ((nums s).getD k 0) g wr HI.out.1)
        rw [hv] at HC
        clear hv HY
        generalize (nums s).getD k 0 = d at *
        go_wp2_with (go_at_call 34; refine HC.out.mono ?_; rintro e W1 ⟨rfl, hf, ht⟩; have HI1 := hide (And.intro hf (HI.out.2.1.trans ht)); clear hf ht)
        go_roundw
        case rel => exact ⟨k + 1, by go_num, by omega, hide ⟨by rw [if_neg (by omega)]; exact HI1.out.1, HI1.out.2, HV.out⟩⟩
        case measure => simp [intOf]; omega
      | false =>
        have HV : Hid (allB (nums s) = false) := hide (allB_false (by rw [HL.out]; exact hlt) hv)
        have HC := hide (ask_any k ((nums s).getD k 0) g wr HI.out.1)
        rw [hv] at HC
        clear hv HY
        generalize (nums s).getD k 0 = d at *
        go_wp2_with (go_at_call 34; refine HC.out.mono ?_; rintro e W1 ⟨rfl, hf, ht⟩; have HI1 := hide (And.intro hf (HI.out.2.1.trans ht)); clear hf ht)
        go_ret
        exact ⟨by rw [HV.out]; rfl, HI1.out.2⟩
    · have HV : Hid (allB (nums s) = true) := hide (allB_true fun j hj => HI.out.2.2 j (by have := HL.out; omega))
      go_wp2
      go_ret
      exact ⟨by rw [HV.out]; rfl, HI.out.2.1⟩

def nameB (s : ByteArray) : Bool := !s.toList.isEmpty && allB (nums s) && !wordB s

set_option maxRecDepth 20000 in
set_option maxHeartbeats 1000000 in
theorem name_any (s : ByteArray) (w : World) (hm : s.size ≤ 1000) : Calls Try.prog 18 #[.string s] w fun e W' => e = .returned (.bool (nameB s)) ∧ Below w.heap.size w W' := by
  have HA := hide (fun g W h => all_any s g W h hm)
  have HW := hide (word_any s)
  have HV : Hid (nameB s = (!s.toList.isEmpty && allB (nums s) && !wordB s)) := hide rfl
  generalize allB (nums s) = b1 at *
  generalize wordB s = b2 at *
  by_cases h0 : s.size = 0
  · have he := is_nil s h0
    have HV2 : Hid (nameB s = false) := hide (by rw [HV.out, he]; rfl)
    clear h0 HV
    go_enter Try.func18, Try.ntmps18
    go_wp2
    go_ret
    exact ⟨by rw [HV2.out]; rfl, Below.refl _ _⟩
  · have he := not_nil s (by omega)
    have he2 : s.toList.isEmpty = false := by simpa using he
    clear h0
    cases b1 with
    | false =>
      have HV2 : Hid (nameB s = false) := hide (by rw [HV.out, he2]; rfl)
      clear HV
      go_enter Try.func18, Try.ntmps18
      go_wp2_with (first
        | (go_at_call 30; refine (naming_any _).mono ?_; rintro e W1 ⟨rfl, hf, hb⟩; have HB1 := hide (And.intro hf hb); clear hf hb)
        | (go_at_call 29; refine (HA.out _ _ HB1.out.1).mono ?_; rintro e W2 ⟨rfl, ht⟩; have HB2 := hide (HB1.out.2.trans (ht.below (Nat.le_refl _) HB1.out.2.size)); clear ht))
      go_ret
      exact ⟨by rw [HV2.out]; rfl, HB2.out⟩
    | true =>
      have HV2 : Hid (nameB s = !b2) := hide (by rw [HV.out, he2]; rfl)
      clear HV
      go_enter Try.func18, Try.ntmps18
      go_wp2_with (first
        | (go_at_call 30; refine (naming_any _).mono ?_; rintro e W1 ⟨rfl, hf, hb⟩; have HB1 := hide (And.intro hf hb); clear hf hb)
        | (go_at_call 29; refine (HA.out _ _ HB1.out.1).mono ?_; rintro e W2 ⟨rfl, ht⟩; have HB2 := hide (HB1.out.2.trans (ht.below (Nat.le_refl _) HB1.out.2.size)); clear ht)
        | (go_at_call 16; refine (HW.out _).mono ?_; rintro e W3 ⟨rfl, hb⟩; have HB3 := hide (HB2.out.trans (hb.mono HB2.out.size)); clear hb))
      go_ret
      exact ⟨by rw [HV2.out]; rfl, HB3.out⟩
end Go.Proofs.Yteimabnkpdbhaaa.L
