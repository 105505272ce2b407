/- The index of lines: what it is in memory; how many lines have begun at a place. -/
import Derived.Test.YtpmijaplkbmbiaaIReplace4
namespace Go.Proofs.Ytpmijaplkbmbiaa.I
open Go.Proofs.Ytpmijaplkbmbiaa Go.RowKit Go.By Go.Shelf
set_option linter.unusedVariables false

theorem below_drewN' {B : Nat} {w0 w : World} (h : Below B w0 w) (q : Nat) : Below B w0 (w.drewN q) := ⟨h.os, h.tape, h.output, h.size, h.block⟩

/-- The index at block g: where lines begin (xs), how many bytes there are (n); sv is the slice of the starts. -/
structure IdxIs (W : World) (B g : Nat) (sv : Value) (xs : List Int) (n : Nat) : Prop where
  hB : B ≤ g
  blk : W.heap[g]? = some (.cells #[sv, .int .i64 (n : Int)] 75 (0, 0))
  row : W.ownsRow B 3 1 sv xs.length (ints xs)

/-- Up to c the numbers are at most a, from there on above it. -/
structure Cut (xs : List Int) (a : Int) (c : Nat) : Prop where
  le : c ≤ xs.length
  lo : ∀ m, m < c → xs.getD m 0 ≤ a
  hi : ∀ m, c ≤ m → m < xs.length → a < xs.getD m 0

/-- Rising. -/
def Rise (xs : List Int) : Prop := ∀ i j, i < j → j < xs.length → xs.getD i 0 < xs.getD j 0

theorem cells_of_row {W w : World} {B : Nat} {sv : Value} {xs : List Int} (h : W.ownsRow B 3 1 sv xs.length (ints xs)) (hb : Below W.heap.size W w) :
    ∃ a cap, sv = .slice a xs.length cap ∧ xs.length ≤ cap ∧ cap ≤ maxLen ∧ ∀ m, m < xs.length → ∃ k, a = some ⟨k, 0, none⟩ ∧ w.cell? ⟨k, m, none⟩ = some (.int .i64 (xs.getD m 0)) := by
  rcases row_open h with ⟨rfl, rfl⟩ | ⟨k, cap, L, rfl, hkB, hh, hc, hcm, hL, ht⟩
  · exact ⟨none, 0, rfl, by simp, by unfold maxLen; omega, fun m hm => by simp at hm⟩
  · refine ⟨_, cap, rfl, hc, hcm, fun m hm => ⟨k, rfl, ?_⟩⟩
    have h1 := cells_of hh ht m (.int .i64 (xs.getD m 0)) (by simp [ints, List.getD, hm])
    rw [Nat.zero_add] at h1
    exact (hb.cell (p := ⟨k, m, none⟩) (lt_of_heap hh)).trans h1

set_option maxRecDepth 20000 in
set_option maxHeartbeats 2000000 in
theorem beyond_any {W : World} {k cap len m : Nat} {at_ x : Int} (hm : m < len) (hc : W.cell? ⟨k, m, none⟩ = some (.int .i64 x)) (hl : len ≤ 1000000) :
    Calls Try.prog 131 #[.agg #[.slice (some ⟨k, 0, none⟩) len cap, .int .i64 at_], .int .i64 (m : Int)] W fun e W' => e = .returned (.bool (decide (at_ < x))) ∧ Below W.heap.size W W' := by
  have hm' : (m : Int) < (len : Int) := by omega
  have hcw : (W.alloc (.cells #[.slice (some ⟨k, 0, none⟩) len cap, .int .i64 at_] 176)).cell? ⟨k, m, none⟩ = some (.int .i64 x) := ((Below.refl _ W).alloc (Nat.le_refl _) _ : Below W.heap.size W _).cell (p := ⟨k, m, none⟩) (World.block_lt_of_cell? W _ hc) |>.trans hc
  go_enter Try.func131, Try.ntmps131
  go_wp2_with fail
  go_quiet (fail)
  go_wp2
  go_ret
  exact ⟨rfl, by first | exact below_drewN' ((Below.refl _ W).alloc (Nat.le_refl _) _) _ | exact ((Below.refl _ W).alloc (Nat.le_refl _) _)⟩

end Go.Proofs.Ytpmijaplkbmbiaa.I
