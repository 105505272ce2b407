/- PieceNobody: a buffer that no call made. -/
import Derived.Test.YtpmijaplkbmbiaaNilP
namespace Go.Proofs.Ytpmijaplkbmbiaa
open Go.RowKit Go.By Go.Shelf
set_option linter.unusedVariables false

/-- A buffer that no call made: nil, or zero. -/
def NoB (p : Option Addr) (w : World) : Prop := p = none ∨ ∃ g, p = some ⟨g, 0, none⟩ ∧ w.heap[g]? = some (.cells #[.bool false, .bool false, .int .i64 0, .slice none 0 0] 51 (0, 0))

theorem NoB.below {p : Option Addr} {w w' : World} (h : NoB p w) (hb : Below w.heap.size w w') : NoB p w' :=
  h.imp_right fun ⟨g, e, hg⟩ => ⟨g, e, (hb.block g (lt_of_heap hg)).trans hg⟩

theorem NoB.cases {p : Option Addr} {w : World} (h : NoB p w) : p = none ∨ ∃ g, p = some ⟨g, 0, none⟩ ∧ g < w.heap.size ∧ w.cell? ⟨g, 0, none⟩ = some (.bool false) ∧ w.cell? ⟨g, 2, none⟩ = some (.int .i64 0) ∧ w.cell? ⟨g, 3, none⟩ = some (.slice none 0 0) :=
  h.imp_right fun ⟨g, e, hg⟩ => ⟨g, e, lt_of_heap hg, by rw [Joins.cell_of_block hg]; rfl, by rw [Joins.cell_of_block hg]; rfl, by rw [Joins.cell_of_block hg]; rfl⟩

set_option maxRecDepth 20000 in
set_option maxHeartbeats 1000000 in
theorem nb_slice {p : Option Addr} {w : World} (h : NoB p w) (i j : Int) :
    Calls Try.prog 33 #[.pointer p, .int .i64 i, .int .i64 j] w fun e w' => e = .returned (.tuple #[.string ⟨#[]⟩, .int .i64 1]) ∧ w' = w := by
  rcases h.cases with rfl | ⟨g, rfl, hg, c0, c2, c3⟩
  · clear h
    go_enter Try.func33, Try.ntmps33
    go_wp2
    go_ret2
    exact ⟨rfl, rfl⟩
  · clear h
    go_enter Try.func33, Try.ntmps33
    go_wp2
    go_ret2
    exact ⟨rfl, rfl⟩

set_option maxRecDepth 20000 in
set_option maxHeartbeats 1000000 in
theorem nb_insert {p : Option Addr} {w : World} (h : NoB p w) (i : Int) (s : ByteArray) :
    Calls Try.prog 30 #[.pointer p, .int .i64 i, .string s] w fun e w' => e = .returned (.int .i64 1) ∧ w' = w := by
  rcases h.cases with rfl | ⟨g, rfl, hg, c0, c2, c3⟩
  · clear h
    go_enter Try.func30, Try.ntmps30
    go_wp2
    go_ret
    exact ⟨rfl, rfl⟩
  · clear h
    go_enter Try.func30, Try.ntmps30
    go_wp2
    go_ret
    exact ⟨rfl, rfl⟩

set_option maxRecDepth 20000 in
set_option maxHeartbeats 1000000 in
theorem nb_delete {p : Option Addr} {w : World} (h : NoB p w) (i j : Int) :
    Calls Try.prog 29 #[.pointer p, .int .i64 i, .int .i64 j] w fun e w' => e = .returned (.int .i64 1) ∧ w' = w := by
  rcases h.cases with rfl | ⟨g, rfl, hg, c0, c2, c3⟩
  · clear h
    go_enter Try.func29, Try.ntmps29
    go_wp2
    go_ret
    exact ⟨rfl, rfl⟩
  · clear h
    go_enter Try.func29, Try.ntmps29
    go_wp2
    go_ret
    exact ⟨rfl, rfl⟩

set_option maxRecDepth 20000 in
set_option maxHeartbeats 1000000 in
theorem nb_len {p : Option Addr} {w : World} (h : NoB p w) :
    Calls Try.prog 35 #[.pointer p] w fun e w' => e = .returned (.int .i64 0) ∧ w' = w := by
  rcases h.cases with rfl | ⟨g, rfl, hg, c0, c2, c3⟩
  · clear h
    go_enter Try.func35, Try.ntmps35
    go_wp2
    go_ret
    exact ⟨rfl, rfl⟩
  · clear h
    go_enter Try.func35, Try.ntmps35
    go_wp2
    go_ret
    exact ⟨rfl, rfl⟩

set_option maxRecDepth 20000 in
set_option maxHeartbeats 1000000 in
theorem nb_pieces {p : Option Addr} {w : World} (h : NoB p w) :
    Calls Try.prog 36 #[.pointer p] w fun e w' => e = .returned (.int .i64 0) ∧ w' = w := by
  rcases h.cases with rfl | ⟨g, rfl, hg, c0, c2, c3⟩
  · clear h
    go_enter Try.func36, Try.ntmps36
    go_wp2
    go_ret
    exact ⟨rfl, rfl⟩
  · clear h
    go_enter Try.func36, Try.ntmps36
    go_wp2
    go_ret
    exact ⟨rfl, rfl⟩

set_option maxRecDepth 20000 in
set_option maxHeartbeats 1000000 in
theorem nb_byte {p : Option Addr} {w : World} (h : NoB p w) (i : Int) :
    Calls Try.prog 32 #[.pointer p, .int .i64 i] w fun e w' => e = .returned (.tuple #[.int .u8 0, .bool false]) ∧ w' = w := by
  have hl := nb_len h
  clear h
  by_cases hi : i < 0
  · go_enter Try.func32, Try.ntmps32
    go_wp2_with (go_at_call 35; refine hl.mono ?_; rintro e w' ⟨rfl, rfl⟩)
    go_ret2
    exact ⟨rfl, rfl⟩
  · have hi' : (0 : Int) ≤ i := by omega
    go_enter Try.func32, Try.ntmps32
    go_wp2_with (go_at_call 35; refine hl.mono ?_; rintro e w' ⟨rfl, rfl⟩)
    go_ret2
    exact ⟨rfl, rfl⟩

set_option maxRecDepth 20000 in
set_option maxHeartbeats 1000000 in
theorem nb_text {p : Option Addr} {w : World} (h : NoB p w) :
    Calls Try.prog 31 #[.pointer p] w fun e w' => e = .returned (.string ⟨#[]⟩) ∧ Below w.heap.size w w' := by
  have hl := nb_len h
  have hbt : Calls Try.prog 90 #[.pointer p, .int .i64 0, .int .i64 0] w fun e W' => e = .returned (.string ⟨#[]⟩) ∧ Below w.heap.size w W' := by
    rcases h.cases with rfl | ⟨g, rfl, hg, c0, c2, c3⟩
    · exact between_nil w
    · exact between_any g 0 0 (.slice none 0 0) [] w hg c3 ⟨none, 0, rfl, by simp [vals], fun _ => rfl, by simp⟩ (by simp [vals, tot]) (Nat.le_refl _) (by omega)
  clear h
  go_enter Try.func31, Try.ntmps31
  go_wp2_with (first
    | (go_at_call 35; refine hl.mono ?_; rintro e w' ⟨rfl, rfl⟩)
    | (go_at_call 90; refine hbt.mono ?_; rintro e w' ⟨rfl, hb⟩; have HB := hide hb; clear hb))
  go_ret
  exact ⟨rfl, HB.out⟩

set_option maxRecDepth 20000 in
set_option maxHeartbeats 1000000 in
theorem nb_clone (w : World) : Calls Try.prog 34 #[.pointer none] w fun e w' => e = .returned (.pointer none) ∧ w' = w := by
  go_enter Try.func34, Try.ntmps34
  go_wp2
  go_ret
  exact ⟨rfl, rfl⟩

set_option maxRecDepth 20000 in
set_option maxHeartbeats 4000000 in
theorem nobody_any (i : Int) (s : ByteArray) (w : World) : Calls Try.prog 7 #[.int .i64 i, .string s] w fun e w' => e = .returned (.bool true) ∧ Below w.heap.size w w' := by
  obtain ⟨W2, hW2⟩ : ∃ W2, W2 = (w.alloc (.cells #[.bool false, .bool false, .int .i64 0, .slice none 0 0] 51)).alloc (.cells #[.pointer none, .pointer (some ⟨w.heap.size, 0, none⟩)] 25) := ⟨_, rfl⟩
  have hz : W2.heap[w.heap.size]? = some (.cells #[.bool false, .bool false, .int .i64 0, .slice none 0 0] 51 (0, 0)) := by
    rw [hW2, Below.heap_alloc _ _ _ (by simp)]; exact World.alloc_heap_new w _
  have hs : W2.heap[w.heap.size + 1]? = some (.cells #[.pointer none, .pointer (some ⟨w.heap.size, 0, none⟩)] 25 (0, 0)) := by
    have := World.alloc_heap_new (w.alloc (.cells #[.bool false, .bool false, .int .i64 0, .slice none 0 0] 51)) (.cells #[.pointer none, .pointer (some ⟨w.heap.size, 0, none⟩)] 25)
    rw [World.size_alloc] at this
    rw [hW2]; exact this
  have hb2 : Below w.heap.size w W2 := by rw [hW2]; exact ((Below.refl _ w).alloc (Nat.le_refl _) _).alloc (by simp) _
  have HW2 := hide hW2
  have HB2 := hide hb2
  have HZ := hide hz
  have HS := hide hs
  have hsz := hb2.size
  clear hW2 hb2 hz hs
  go_enter Try.func7, Try.ntmps7
  go_wp2_with fail
  rw [← HW2.out]
  go_loopw [17] (fun v wr => ∃ k : Nat, v = .int .i64 (k : Int) ∧ k ≤ 2 ∧ Hid (Below W2.heap.size W2 wr)) (fun v _ => 2 - (intOf v).toNat)
  case atStart => exact ⟨0, rfl, by omega, hide (Below.refl _ _)⟩
  case round =>
    obtain ⟨k, rfl, hk, HBR⟩ := hrel
    have HB := hide (HB2.out.trans (HBR.out.mono hsz))
    have l0 := HB.out.size
    by_cases hlt : k < 2
    · obtain ⟨p, hp, hnob⟩ : ∃ p, wr.cell? ⟨w.heap.size + 1, k, none⟩ = some (.pointer p) ∧ NoB p wr := by
        have h1 := (HBR.out.block _ (lt_of_heap HS.out)).trans HS.out
        have h2 := (HBR.out.block _ (lt_of_heap HZ.out)).trans HZ.out
        have : k = 0 ∨ k = 1 := by omega
        rcases this with rfl | rfl
        · exact ⟨none, by rw [Joins.cell_of_block h1]; rfl, .inl rfl⟩
        · exact ⟨_, by rw [Joins.cell_of_block h1]; rfl, .inr ⟨_, rfl, h2⟩⟩
      have hlt' : (k : Int) < 2 := by omega
      have HN := hide hnob
      clear hnob
      go_wp2_with (first
        | (go_at_call 33; refine (nb_slice HN.out _ _).mono ?_; rintro e w' ⟨rfl, rfl⟩)
        | (go_at_call 32; refine (nb_byte HN.out _).mono ?_; rintro e w' ⟨rfl, rfl⟩)
        | (go_at_call 30; refine (nb_insert HN.out _ _).mono ?_; rintro e w' ⟨rfl, rfl⟩)
        | (go_at_call 29; refine (nb_delete HN.out _ _).mono ?_; rintro e w' ⟨rfl, rfl⟩)
        | (go_at_call 31; refine (nb_text HN.out).mono ?_; rintro e w5 ⟨rfl, hb5⟩; have HN5 := hide (HN.out.below hb5); have HB5 := hide hb5; clear hb5)
        | (go_at_call 35; refine (nb_len HN5.out).mono ?_; rintro e w' ⟨rfl, rfl⟩)
        | (go_at_call 36; refine (nb_pieces HN5.out).mono ?_; rintro e w' ⟨rfl, rfl⟩))
      go_roundw
      case rel => exact ⟨k + 1, by go_num, by omega, hide (HBR.out.trans (HB5.out.mono HBR.out.size))⟩
      case measure => simp [intOf]; omega
    · obtain rfl : k = 2 := by omega
      have hlv := lives_piece wr
      have hcl := nb_clone wr
      go_wp2_with (first
        | (go_at_call 34; refine hcl.mono ?_; rintro e w' ⟨rfl, rfl⟩)
        | (go_at_call 24; refine hlv.mono ?_; rintro e w7 ⟨rfl, hb7⟩; have HB7 := hide hb7; clear hb7 hlv))
      go_ret
      exact ⟨rfl, HB.out.trans (HB7.out.mono l0)⟩

end Go.Proofs.Ytpmijaplkbmbiaa
