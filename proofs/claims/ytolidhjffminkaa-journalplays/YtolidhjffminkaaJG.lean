/- JournalNobody, walked. -/
import Derived.Test.YtolidhjffminkaaJF
namespace Go.Proofs.Ytolidhjffminkaa.J
open Go.Proofs.Ytolidhjffminkaa Go.RowKit Go.By
set_option linter.unusedVariables false
set_option linter.unusedSimpArgs false
attribute [local go_sem ↓] Go.wp_at_zero Go.wp_at_succ

/-- The two that no call made, and where they lie. -/
def Two (w W : World) : Prop := Below w.heap.size w W ∧ W.heap[w.heap.size]? = some (.cells #[.pointer none, .int .i64 0] 51 (0, 0)) ∧ W.heap[w.heap.size + 1]? = some (.cells #[.pointer none, .pointer (some ⟨w.heap.size, 0, none⟩)] 24 (0, 0))
theorem two_new (w : World) : Two w ((w.alloc (.cells #[.pointer none, .int .i64 0] 51)).alloc (.cells #[.pointer none, .pointer (some ⟨w.heap.size, 0, none⟩)] 24)) := by
  have h1 := World.alloc_heap_new w (.cells #[.pointer none, .int .i64 0] 51)
  have b1 : Below w.heap.size w (w.alloc (.cells #[.pointer none, .int .i64 0] 51)) := (Below.refl _ _).alloc (Nat.le_refl _) _
  have s1 : (w.alloc (.cells #[.pointer none, .int .i64 0] 51)).heap.size = w.heap.size + 1 := World.size_alloc ..
  generalize w.alloc (.cells #[.pointer none, .int .i64 0] 51) = W1 at *
  have h2 := World.alloc_heap_new W1 (.cells #[.pointer none, .pointer (some ⟨w.heap.size, 0, none⟩)] 24)
  have b2 : Below W1.heap.size W1 (W1.alloc (.cells #[.pointer none, .pointer (some ⟨w.heap.size, 0, none⟩)] 24)) := (Below.refl _ _).alloc (Nat.le_refl _) _
  rw [s1] at h2
  exact ⟨b1.trans (b2.mono b1.size), (b2.block _ (by omega)).trans h1, h2⟩

set_option maxHeartbeats 2000000 in
theorem nobody_any (n : Int) (s : ByteArray) (w : World) : Calls Try.prog 5 #[.int .i64 n, .string s] w fun e W' => e = .returned (.bool true) ∧ Below w.heap.size w W' := by
  have HT := hide (two_new w)
  go_enter Try.func5, Try.ntmps5
  go_wp2
  go_loopw [17] (fun z wr => ∃ k : Nat, z = .int .i64 (k : Int) ∧ k ≤ 2 ∧ Hid (Two w wr)) (fun z _ => 2 - (intOf z).toNat)
  case atStart => exact ⟨0, rfl, by omega, HT⟩
  case round =>
    obtain ⟨k, rfl, hk, HI⟩ := hrel
    by_cases hlt : k < 2
    · obtain ⟨p, hp, hn⟩ : ∃ p, wr.cell? ⟨w.heap.size + 1, k, none⟩ = some (.pointer p) ∧ Nob wr p := by
        rcases (by omega : k = 0 ∨ k = 1) with rfl | rfl
        · exact ⟨none, by rw [Joins.cell_of_block HI.out.2.2]; rfl, .inl rfl⟩
        · exact ⟨some ⟨w.heap.size, 0, none⟩, by rw [Joins.cell_of_block HI.out.2.2]; rfl, .inr ⟨w.heap.size, rfl, HI.out.2.1⟩⟩
      have HN := hide hn
      clear hn
      go_wp2_with (first
        | (go_at_call 10; refine (append_nob s HN.out).mono ?_; rintro e W1 ⟨rfl, hw⟩; subst hw)
        | (go_at_call 14; refine (since_nob n HN.out).mono ?_; rintro e W1 ⟨rfl, hw⟩; subst hw)
        | (go_at_call 8; refine (trim_nob n HN.out).mono ?_; rintro e W1 ⟨rfl, hw⟩; subst hw)
        | (go_at_call 12; refine (base_nob HN.out).mono ?_; rintro e W1 ⟨rfl, hw⟩; subst hw)
        | (go_at_call 13; refine (head_nob HN.out).mono ?_; rintro e W1 ⟨rfl, hw⟩; subst hw))
      go_roundw
      case rel => exact ⟨k + 1, by go_num, by omega, HI⟩
      case measure => simp [intOf]; omega
    · go_wp2_with (go_at_call 6; refine (lives_any _).mono ?_; rintro e W1 ⟨rfl, hb⟩; have HB := hide (HI.out.1.trans (hb.mono HI.out.1.size)); clear hb)
      go_ret
      exact ⟨rfl, HB.out⟩
end Go.Proofs.Ytolidhjffminkaa.J
