/- The chapter's example. -/
import Derived.Test.YtehefenagpdlaaaRef3
import Derived.Test.YtehefenagpdlaaaRing6
namespace Go.Proofs.Ytehefenagpdlaaa
open Go.RowKit Go.By Go.Shelf
set_option linter.unusedVariables false

theorem RingIs.turned_below {T E : TypeId} {w w' : World} {B g most : Nat} {r r' : Option Nat} {xs : List Value} (h : RingIs T E w B g most r xs) (ht : Turned g r r' w w') (hB : B ≤ w.heap.size) : Below B w w' :=
  ht.below hB h.lt.1 fun k hk => (h.room k hk).1

set_option maxRecDepth 20000 in
set_option maxHeartbeats 4000000 in
theorem lives_any (w : World) : Calls Try.prog 9 #[] w fun e w' => e = .returned (.bool true) ∧ Below w.heap.size w w' := by
  have hnew := new_int 2 w (by omega) (by omega)
  have hr0 := ring_new 54 3 2 w (by omega) (by omega)
  have hlt : w.heap.size ≤ (w.alloc (.cells #[.int .i64 2, .slice none 0 0, .int .i64 0] 54)).heap.size := by simp
  have hb0 : Below w.heap.size w (w.alloc (.cells #[.int .i64 2, .slice none 0 0, .int .i64 0] 54)) := (Below.refl _ w).alloc (Nat.le_refl _) _
  generalize hg : w.heap.size = g at hr0 hnew hlt hb0 ⊢
  have HW := hide hg
  clear hg
  go_enter Try.func9, Try.ntmps9
  go_wp2_with fail
  refine hnew.mono ?_
  rintro e w0 ⟨rfl, hw0⟩
  have hr0' : RingIs 54 3 w0 g g 2 none [] := by rw [hw0]; exact hr0
  rw [← hw0] at hlt hb0
  have HB0 := hide hb0
  clear hw0 hr0 hnew hb0
  go_wp2_with fail
  refine (push_ok_int g g 2 none [] 5 w0 hr0' hlt (by simp)).mono ?_
  rintro e w1 ⟨rfl, r1, h1, t1⟩
  have b1 := HB0.out.trans (hr0'.turned_below t1 hlt)
  have HB1 := hide b1
  have l1 : g ≤ w1.heap.size := Nat.le_trans hlt t1.1.size
  have HT1 := hide t1
  clear b1 t1 hr0'
  go_wp2_with fail
  refine (push_ok_int g g 2 r1 _ 6 w1 h1 l1 (by simp)).mono ?_
  rintro e w2 ⟨rfl, r2, h2, t2⟩
  have HB2 := hide (HB1.out.trans (h1.turned_below t2 l1))
  have l2 : g ≤ w2.heap.size := Nat.le_trans l1 t2.1.size
  clear t2 h1
  go_wp2_with fail
  refine (push_full_int g g 2 r2 _ 7 w2 h2 (by simp)).mono ?_
  rintro e w3 ⟨rfl, q3, rfl⟩
  have h3 : RingIs 54 3 (w2.drewN q3) g g 2 r2 [.int .i64 5, .int .i64 6] := h2
  have HB3 : Hid (Below g w (w2.drewN q3)) := hide (HB2.out.trans ⟨rfl, rfl, rfl, Nat.le_refl _, fun _ _ => rfl⟩)
  have l3 : g ≤ (w2.drewN q3).heap.size := l2
  clear h2 l2 HB2
  generalize w2.drewN q3 = w3 at h3 HB3 l3 ⊢
  go_wp2_with fail
  refine (take_some_int g g 2 r2 (.int .i64 5) [.int .i64 6] w3 h3).mono ?_
  rintro e w4 ⟨rfl, h4, t4⟩
  have HB4 := hide (HB3.out.trans (h3.turned_below t4 l3))
  have l4 : g ≤ w4.heap.size := Nat.le_trans l3 t4.1.size
  clear t4 h3
  go_wp2_with fail
  refine (push_ok_int g g 2 r2 _ 7 w4 h4 l4 (by simp)).mono ?_
  rintro e w5 ⟨rfl, r5, h5, t5⟩
  have HB5 := hide (HB4.out.trans (h4.turned_below t5 l4))
  have l5 : g ≤ w5.heap.size := Nat.le_trans l4 t5.1.size
  clear t5 h4
  go_wp2_with fail
  refine (all_int g g 2 r5 [6, 7] w5 h5).mono ?_
  rintro e w6 ⟨v, rfl, hrow, hb6⟩
  obtain ⟨b, cap, rfl⟩ : ∃ b cap, v = .slice b 2 cap := by obtain ⟨a, cap, e, _⟩ := lst_of_row hrow; exact ⟨a, cap, e⟩
  have hl6 := lst_of_row hrow
  have HB6 := hide (HB5.out.trans (hb6.mono l5))
  have l6 : g ≤ w6.heap.size := Nat.le_trans l5 hb6.size
  have hb7 : Below w6.heap.size w6 (w6.alloc (.cells #[.int .i64 6, .int .i64 7] 3)) := (Below.refl _ w6).alloc (Nat.le_refl _) _
  have hl7 := hl6.below hb7
  have hnew7 : Lst (w6.alloc (.cells #[.int .i64 6, .int .i64 7] 3)) (.slice (some ⟨w6.heap.size, 0, none⟩) 2 2) [6, 7] :=
    ⟨_, 2, rfl, by simp, by unfold maxLen; omega, by simp, fun x hx => by
      cases hx
      refine ⟨_, _, rfl, by simp, fun i hi => ?_⟩
      have hn := World.alloc_heap_new w6 (.cells #[.int .i64 6, .int .i64 7] 3)
      rw [Joins.cell_of_block hn]
      have : i = 0 ∨ i = 1 := by simp at hi; omega
      rcases this with rfl | rfl <;> simp⟩
  have hs := same_any _ _ _ _ _ hl7 hnew7
  clear hl6 hl7 hnew7 hrow h5
  go_wp2_with (go_at_call 21; refine hs.mono ?_; rintro e w8 ⟨rfl, q8, rfl⟩)
  go_ret
  exact ⟨by simp, (HB6.out.alloc l6 _).trans ⟨rfl, rfl, rfl, Nat.le_refl _, fun _ _ => rfl⟩⟩

end Go.Proofs.Ytehefenagpdlaaa
