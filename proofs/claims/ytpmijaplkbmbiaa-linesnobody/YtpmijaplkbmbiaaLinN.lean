/- LinesNobody: an index that no call made. -/
import Derived.Test.YtpmijaplkbmbiaaLin6
namespace Go.Proofs.Ytpmijaplkbmbiaa.I
open Go.Proofs.Ytpmijaplkbmbiaa Go.RowKit Go.By Go.Shelf
set_option linter.unusedVariables false

/-- An index that no call made: nil, or zero. -/
def NoX (p : Option Addr) (w : World) : Prop := p = none ∨ ∃ g, p = some ⟨g, 0, none⟩ ∧ w.heap[g]? = some (.cells #[.slice none 0 0, .int .i64 0] 75 (0, 0))

theorem NoX.cases {p : Option Addr} {w : World} (h : NoX p w) : p = none ∨ ∃ g, p = some ⟨g, 0, none⟩ ∧ w.cell? ⟨g, 0, none⟩ = some (.slice none 0 0) ∧ w.cell? ⟨g, 1, none⟩ = some (.int .i64 0) :=
  h.imp_right fun ⟨g, e, hg⟩ => ⟨g, e, by rw [Joins.cell_of_block hg]; rfl, by rw [Joins.cell_of_block hg]; rfl⟩

set_option maxRecDepth 20000 in
set_option maxHeartbeats 1000000 in
theorem nx_lines {p : Option Addr} {w : World} (h : NoX p w) :
    Calls Try.prog 46 #[.pointer p] w fun e w' => e = .returned (.int .i64 0) ∧ w' = w := by
  rcases h.cases with rfl | ⟨g, rfl, c0, c1⟩
  · clear h
    go_enter Try.func46, Try.ntmps46
    go_wp2
    go_ret
    exact ⟨rfl, rfl⟩
  · clear h
    go_enter Try.func46, Try.ntmps46
    go_wp2
    go_ret
    exact ⟨rfl, rfl⟩

set_option maxRecDepth 20000 in
set_option maxHeartbeats 1000000 in
theorem nx_len {p : Option Addr} {w : World} (h : NoX p w) :
    Calls Try.prog 48 #[.pointer p] w fun e w' => e = .returned (.int .i64 0) ∧ w' = w := by
  rcases h.cases with rfl | ⟨g, rfl, c0, c1⟩
  · clear h
    go_enter Try.func48, Try.ntmps48
    go_wp2
    go_ret
    exact ⟨rfl, rfl⟩
  · clear h
    go_enter Try.func48, Try.ntmps48
    go_wp2
    go_ret
    exact ⟨rfl, rfl⟩

set_option maxRecDepth 20000 in
set_option maxHeartbeats 1000000 in
theorem nx_start {p : Option Addr} {w : World} (h : NoX p w) (i : Int) :
    Calls Try.prog 45 #[.pointer p, .int .i64 i] w fun e w' => e = .returned (.tuple #[.int .i64 0, .bool false]) ∧ w' = w := by
  have hl := nx_lines h
  clear h
  by_cases hi : i < 0
  · go_enter Try.func45, Try.ntmps45
    go_wp2_with (go_at_call 46; refine hl.mono ?_; rintro e w' ⟨rfl, rfl⟩)
    go_ret2
    exact ⟨rfl, rfl⟩
  · have hi' : (0 : Int) ≤ i := by omega
    go_enter Try.func45, Try.ntmps45
    go_wp2_with (go_at_call 46; refine hl.mono ?_; rintro e w' ⟨rfl, rfl⟩)
    go_ret2
    exact ⟨rfl, rfl⟩

set_option maxRecDepth 20000 in
set_option maxHeartbeats 1000000 in
theorem nx_pos {p : Option Addr} {w : World} (h : NoX p w) (i : Int) :
    Calls Try.prog 43 #[.pointer p, .int .i64 i] w fun e w' => e = .returned (.tuple #[.int .i64 0, .int .i64 0, .bool false]) ∧ w' = w := by
  have hl := nx_lines h
  clear h
  go_enter Try.func43, Try.ntmps43
  go_wp2_with (go_at_call 46; refine hl.mono ?_; rintro e w' ⟨rfl, rfl⟩)
  go_ret3
  exact ⟨rfl, rfl⟩

set_option maxRecDepth 20000 in
set_option maxHeartbeats 1000000 in
theorem nx_offset {p : Option Addr} {w : World} (h : NoX p w) (i j : Int) :
    Calls Try.prog 44 #[.pointer p, .int .i64 i, .int .i64 j] w fun e w' => e = .returned (.tuple #[.int .i64 0, .bool false]) ∧ w' = w := by
  have hs := nx_start h i
  clear h
  go_enter Try.func44, Try.ntmps44
  go_wp2_with (go_at_call 45; refine hs.mono ?_; rintro e w' ⟨rfl, rfl⟩)
  go_ret2
  exact ⟨rfl, rfl⟩

set_option maxRecDepth 20000 in
set_option maxHeartbeats 1000000 in
theorem nx_edit {p : Option Addr} {w : World} (h : NoX p w) (i j : Int) (s : ByteArray) :
    Calls Try.prog 41 #[.pointer p, .int .i64 i, .int .i64 j, .string s] w fun e w' => e = .returned (.int .i64 1) ∧ w' = w := by
  have hl := nx_lines h
  clear h
  go_enter Try.func41, Try.ntmps41
  go_wp2_with (go_at_call 46; refine hl.mono ?_; rintro e w' ⟨rfl, rfl⟩)
  go_ret
  exact ⟨rfl, rfl⟩

set_option maxRecDepth 20000 in
set_option maxHeartbeats 1000000 in
theorem nx_clone (w : World) : Calls Try.prog 47 #[.pointer none] w fun e w' => e = .returned (.pointer none) ∧ w' = w := by
  go_enter Try.func47, Try.ntmps47
  go_wp2
  go_ret
  exact ⟨rfl, rfl⟩

set_option maxRecDepth 20000 in
set_option maxHeartbeats 4000000 in
theorem nobody_any (i : Int) (s : ByteArray) (w : World) : Calls Try.prog 11 #[.int .i64 i, .string s] w fun e w' => e = .returned (.bool true) ∧ Below w.heap.size w w' := by
  obtain ⟨W2, hW2⟩ : ∃ W2, W2 = (w.alloc (.cells #[.slice none 0 0, .int .i64 0] 75)).alloc (.cells #[.pointer none, .pointer (some ⟨w.heap.size, 0, none⟩)] 57) := ⟨_, rfl⟩
  have hz : W2.heap[w.heap.size]? = some (.cells #[.slice none 0 0, .int .i64 0] 75 (0, 0)) := by
    rw [hW2, Below.heap_alloc _ _ _ (by simp)]; exact World.alloc_heap_new w _
  have hs : W2.heap[w.heap.size + 1]? = some (.cells #[.pointer none, .pointer (some ⟨w.heap.size, 0, none⟩)] 57 (0, 0)) := by
    have := World.alloc_heap_new (w.alloc (.cells #[.slice none 0 0, .int .i64 0] 75)) (.cells #[.pointer none, .pointer (some ⟨w.heap.size, 0, none⟩)] 57)
    rw [World.size_alloc] at this
    rw [hW2]; exact this
  have hb2 : Below w.heap.size w W2 := by rw [hW2]; exact ((Below.refl _ w).alloc (Nat.le_refl _) _).alloc (by simp) _
  have HW2 := hide hW2
  have HB2 := hide hb2
  have HZ := hide hz
  have HS := hide hs
  clear hW2 hb2 hz hs
  go_enter Try.func11, Try.ntmps11
  go_wp2_with fail
  rw [← HW2.out]
  go_loopw [20] (fun v wr => ∃ k : Nat, v = .int .i64 (k : Int) ∧ k ≤ 2 ∧ wr = W2) (fun v _ => 2 - (intOf v).toNat)
  case atStart => exact ⟨0, rfl, by omega, rfl⟩
  case round =>
    obtain ⟨k, rfl, hk, hw⟩ := hrel
    have hw2 := hw.symm
    clear hw
    subst hw2
    by_cases hlt : k < 2
    · obtain ⟨p, hp, hnob⟩ : ∃ p, W2.cell? ⟨w.heap.size + 1, k, none⟩ = some (.pointer p) ∧ NoX p W2 := by
        have : k = 0 ∨ k = 1 := by omega
        rcases this with rfl | rfl
        · exact ⟨none, by rw [Joins.cell_of_block HS.out]; rfl, .inl rfl⟩
        · exact ⟨_, by rw [Joins.cell_of_block HS.out]; rfl, .inr ⟨_, rfl, HZ.out⟩⟩
      have hlt' : (k : Int) < 2 := by omega
      have HN := hide hnob
      clear hnob
      have e45 := nx_start HN.out i
      have e43 := nx_pos HN.out i
      have e44 := nx_offset HN.out i i
      have e41 := nx_edit HN.out i i s
      have e46 := nx_lines HN.out
      have e48 := nx_len HN.out
      go_wp2_with (first
        | (go_at_call 45; refine e45.mono ?_; rintro e w' ⟨rfl, hw'⟩; have hw2 := hw'.symm; clear hw'; subst hw2)
        | (go_at_call 43; refine e43.mono ?_; rintro e w' ⟨rfl, hw'⟩; have hw2 := hw'.symm; clear hw'; subst hw2)
        | (go_at_call 44; refine e44.mono ?_; rintro e w' ⟨rfl, hw'⟩; have hw2 := hw'.symm; clear hw'; subst hw2)
        | (go_at_call 41; refine e41.mono ?_; rintro e w' ⟨rfl, hw'⟩; have hw2 := hw'.symm; clear hw'; subst hw2)
        | (go_at_call 46; refine e46.mono ?_; rintro e w' ⟨rfl, hw'⟩; have hw2 := hw'.symm; clear hw'; subst hw2)
        | (go_at_call 48; refine e48.mono ?_; rintro e w' ⟨rfl, hw'⟩; have hw2 := hw'.symm; clear hw'; subst hw2))
      go_roundw
      case rel => exact ⟨k + 1, by go_num, by omega, by first | rfl | trivial⟩
      case measure => simp [intOf]; omega
    · obtain rfl : k = 2 := by omega
      have hlv := lives_any W2
      have hcl := nx_clone W2
      go_wp2_with (first
        | (go_at_call 47; refine hcl.mono ?_; rintro e w' ⟨rfl, hw'⟩; have hw2 := hw'.symm; clear hw'; subst hw2)
        | (go_at_call 38; refine hlv.mono ?_; rintro e w7 ⟨rfl, hb7⟩; have HB7 := hide hb7; clear hb7 hlv))
      go_ret
      exact ⟨rfl, HB2.out.trans (HB7.out.mono HB2.out.size)⟩

end Go.Proofs.Ytpmijaplkbmbiaa.I
