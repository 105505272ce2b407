/- RingNobody. -/
import Derived.Test.YtehefenagpdlaaaLives
import Derived.Test.YtehefenagpdlaaaNob
namespace Go.Proofs.Ytehefenagpdlaaa
open Go.RowKit Go.By Go.Shelf
set_option linter.unusedVariables false

theorem Nob.drewN {p : Option Addr} {w : World} (h : Nob p w) (q : Nat) : Nob p (w.drewN q) := h

theorem below_drewN {B : Nat} {w0 w : World} (h : Below B w0 w) (q : Nat) : Below B w0 (w.drewN q) := ⟨h.os, h.tape, h.output, h.size, h.block⟩

set_option maxRecDepth 20000 in
set_option maxHeartbeats 4000000 in
theorem ringNobody_walk (i x : Int) (w : World) : Calls Try.prog 5 #[.int .i64 i, .int .i64 x] w fun e w' => e = .returned (.bool true) ∧ Below w.heap.size w w' := by
  obtain ⟨W2, hW2⟩ : ∃ W2, W2 = (w.alloc (.cells #[.int .i64 0, .slice none 0 0, .int .i64 0] 54)).alloc (.cells #[.pointer none, .pointer (some ⟨w.heap.size, 0, none⟩)] 24) := ⟨_, rfl⟩
  have hz : W2.heap[w.heap.size]? = some (.cells #[.int .i64 0, .slice none 0 0, .int .i64 0] 54 (0, 0)) := by
    rw [hW2, Below.heap_alloc _ _ _ (by simp)]; exact World.alloc_heap_new w _
  have hs : W2.heap[w.heap.size + 1]? = some (.cells #[.pointer none, .pointer (some ⟨w.heap.size, 0, none⟩)] 24 (0, 0)) := by
    have := World.alloc_heap_new (w.alloc (.cells #[.int .i64 0, .slice none 0 0, .int .i64 0] 54)) (.cells #[.pointer none, .pointer (some ⟨w.heap.size, 0, none⟩)] 24)
    rw [World.size_alloc] at this
    rw [hW2]; exact this
  have hb2 : Below w.heap.size w W2 := by rw [hW2]; exact ((Below.refl _ w).alloc (Nat.le_refl _) _).alloc (by simp) _
  have HW2 := hide hW2
  have HB2 := hide hb2
  have HZ := hide hz
  have HS := hide hs
  have hsz := hb2.size
  clear hW2 hb2 hz hs
  go_enter Try.func5, Try.ntmps5
  go_wp2_with fail
  rw [← HW2.out]
  go_loopw [17] (fun v wr => ∃ k : Nat, v = .int .i64 (k : Int) ∧ k ≤ 2 ∧ Below W2.heap.size W2 wr) (fun v _ => 2 - (intOf v).toNat)
  case atStart => exact ⟨0, rfl, by omega, Below.refl _ _⟩
  case round =>
    obtain ⟨k, rfl, hk, hbr⟩ := hrel
    have hB := HB2.out.trans (hbr.mono hsz)
    have l0 := hB.size
    by_cases hlt : k < 2
    · obtain ⟨p, hp, hnob⟩ : ∃ p, wr.cell? ⟨w.heap.size + 1, k, none⟩ = some (.pointer p) ∧ Nob p wr := by
        have h1 := (hbr.block _ (lt_of_heap HS.out)).trans HS.out
        have h2 := (hbr.block _ (lt_of_heap HZ.out)).trans HZ.out
        have : k = 0 ∨ k = 1 := by omega
        rcases this with rfl | rfl
        · exact ⟨none, by rw [Joins.cell_of_block h1]; rfl, .inl rfl⟩
        · exact ⟨_, by rw [Joins.cell_of_block h1]; rfl, .inr ⟨_, rfl, h2⟩⟩
      have hlt' : (k : Int) < 2 := by omega
      have HBR := hide hbr
      have HB := hide hB
      clear hbr hB
      go_wp2_with fail
      refine (take_nob p wr hnob).mono ?_
      rintro e w1 ⟨rfl, q1, rfl⟩
      go_wp2_with fail
      refine (at_nob p i _ (hnob.drewN q1)).mono ?_
      rintro e w2 ⟨rfl, q2, rfl⟩
      rw [World.drewN_drewN]
      go_wp2_with fail
      refine (push_nob p x _ (hnob.drewN (q1 + q2))).mono ?_
      rintro e w3 ⟨rfl, rfl⟩
      go_wp2_with fail
      refine (set_nob p i x _ (hnob.drewN (q1 + q2))).mono ?_
      rintro e w4 ⟨rfl, rfl⟩
      go_wp2_with fail
      refine (skip_nob p i _ (hnob.drewN (q1 + q2))).mono ?_
      rintro e w5 ⟨rfl, q5, rfl⟩
      rw [World.drewN_drewN]
      go_wp2_with fail
      refine (len_nob p _ (hnob.drewN (q1 + q2 + q5))).mono ?_
      rintro e w6 ⟨rfl, q6, rfl⟩
      rw [World.drewN_drewN]
      go_wp2_with fail
      refine (most_nob p _ (hnob.drewN (q1 + q2 + q5 + q6))).mono ?_
      rintro e w7 ⟨rfl, rfl⟩
      go_wp2_with fail
      refine (all_nob p _ (hnob.drewN (q1 + q2 + q5 + q6))).mono ?_
      rintro e w8 ⟨v, rfl, hrow, hb8⟩
      obtain ⟨a, cap, rfl⟩ : ∃ a cap, v = .slice a 0 cap := by
        rcases hrow.2 with ⟨rfl, _⟩ | ⟨g, cap, cur, rfl, _⟩
        · exact ⟨none, 0, rfl⟩
        · exact ⟨_, cap, rfl⟩
      have HB8 := hide ((below_drewN HBR.out (q1 + q2 + q5 + q6)).trans (hb8.mono HBR.out.size))
      clear hrow hb8
      go_wp2
      go_roundw
      case rel => exact ⟨k + 1, by simp, by omega, HB8.out⟩
      case measure => simp [intOf]; omega
    · obtain rfl : k = 2 := by omega
      go_wp2_with (go_at_call 9; refine (lives_any wr).mono ?_; rintro e w9 ⟨rfl, hb9⟩)
      go_ret
      exact ⟨rfl, hB.trans (hb9.mono l0)⟩

end Go.Proofs.Ytehefenagpdlaaa
