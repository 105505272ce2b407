/- The ring: its contracts. -/
import Derived.Test.YtehefenagpdlaaaChecked
import Derived.Test.YtehefenagpdlaaaOwn
import Derived.Deep.QuietTactic
import Derived.BigQuiet
import Derived.Deep.RegionLaw
import Derived.RangeFuncBox
namespace Go.Proofs.Ytehefenagpdlaaa
open Go.RowKit Go.By
set_option linter.unusedVariables false

/-- The ring at block g (its type T, its elements' E): at most 'most' elements, and these are xs; r is the block of its room. -/
def RingIs (T E : TypeId) (w : World) (B g most : Nat) (r : Option Nat) (xs : List Value) : Prop :=
  B ≤ g ∧ ∃ (v : Value) (f : Nat) (junk : List Value),
    w.heap[g]? = some (.cells #[.int .i64 (most : Int), v, .int .i64 (f : Int)] T (0, 0)) ∧ w.ownsRow B E 1 v (f + xs.length) (junk ++ xs) ∧ junk.length = f ∧ f ≤ xs.length ∧ v.ownBlock = r ∧
    (∀ u ∈ xs, u.oneCell' = true) ∧ 1 ≤ most ∧ most ≤ 65536 ∧ xs.length ≤ most

/-- What the walk reads of it. -/
theorem RingIs.cells {T E : TypeId} {w : World} {B g most : Nat} {r : Option Nat} {xs : List Value} (h : RingIs T E w B g most r xs) :
    ∃ (a : Option Addr) (f cap : Nat), w.cell? ⟨g, 0, none⟩ = some (.int .i64 (most : Int)) ∧ w.cell? ⟨g, 1, none⟩ = some (.slice a (f + xs.length) cap) ∧ w.cell? ⟨g, 2, none⟩ = some (.int .i64 (f : Int)) ∧
      f ≤ xs.length ∧ xs.length ≤ most ∧ 1 ≤ most ∧ most ≤ 65536 ∧ f + xs.length ≤ cap ∧ cap ≤ maxLen ∧ (a = none → xs = []) ∧
      ∀ b, a = some b → ∃ k, b = ⟨k, 0, none⟩ ∧ ∀ i z, i < xs.length → w.cell? ⟨k, f + i, none⟩ = some (xs.getD i z) := by
  obtain ⟨_, v, f, junk, hg, hr, hj, hf, hv, h1, h2, h3, h4⟩ := h
  have hc : ∀ i x, #[Value.int .i64 (most : Int), v, .int .i64 (f : Int)][i]? = some x → w.cell? ⟨g, i, none⟩ = some x := fun i x hx => by rw [Joins.cell_of_block hg]; exact hx
  rcases hr.2 with ⟨rfl, h0⟩ | ⟨k, cap, cur, rfl, hk, hh, hn, hm, hs, ht⟩
  · have hx : xs = [] := List.length_eq_zero_iff.1 (by omega)
    subst hx
    simp at h0 hf
    exact ⟨none, f, 0, hc 0 _ rfl, by simpa [h0] using hc 1 _ rfl, hc 2 _ rfl, by simp [h0], h4, h2, h3, by simp [h0], by unfold maxLen; omega, fun _ => rfl, by simp⟩
  · refine ⟨_, f, cap, hc 0 _ rfl, hc 1 _ rfl, hc 2 _ rfl, hf, h4, h2, h3, hn, hm, by simp, fun b hb => ?_⟩
    cases hb
    refine ⟨k, rfl, fun i z hi => ?_⟩
    rw [Joins.cell_of_block hh]
    have e1 : cur[f + i]? = (cur.toList.take ((f + xs.length) * 1))[f + i]? := by rw [List.getElem?_take_of_lt (by omega)]; simp
    rw [e1, ht, List.getElem?_append_right (by omega)]
    simp [hj, List.getD, hi]

set_option maxHeartbeats 1000000 in
theorem len_cells_int (g f n cap : Nat) (a : Option Addr) (w : World) (c1 : w.cell? ⟨g, 1, none⟩ = some (.slice a (f + n) cap)) (c2 : w.cell? ⟨g, 2, none⟩ = some (.int .i64 (f : Int))) (hn : f + n < 9000000000000000000) :
    Calls Try.prog 20 #[.pointer (some ⟨g, 0, none⟩)] w fun e w' => e = .returned (.int .i64 (n : Int)) ∧ ∃ q, w' = w.drewN q := by
  go_enter Try.func20, Try.ntmps20
  go_wp2_with fail
  go_quiet (fail)
  go_wp2
  go_ret
  exact ⟨ret_int (by have e : ((↑(f + n) : Int) - (f : Int)) = n := by push_cast; omega
                     omega), _, rfl⟩

theorem len_int (B g most : Nat) (r : Option Nat) (xs : List Value) (w : World) (h : RingIs 54 3 w B g most r xs) :
    Calls Try.prog 20 #[.pointer (some ⟨g, 0, none⟩)] w fun e w' => e = .returned (.int .i64 (xs.length : Int)) ∧ ∃ q, w' = w.drewN q := by
  obtain ⟨a, f, cap, c0, c1, c2, hf, hm, h1, h2, hc, hc2, _, _⟩ := h.cells
  exact len_cells_int g f xs.length cap a w c1 c2 (by omega)

set_option maxHeartbeats 1000000 in
theorem most_int (B g most : Nat) (r : Option Nat) (xs : List Value) (w : World) (h : RingIs 54 3 w B g most r xs) :
    Calls Try.prog 11 #[.pointer (some ⟨g, 0, none⟩)] w fun e w' => e = .returned (.int .i64 (most : Int)) ∧ w' = w := by
  obtain ⟨a, f, cap, c0, c1, c2, hf, hm, h1, h2, hc, hc2, _, _⟩ := h.cells
  go_enter Try.func11, Try.ntmps11
  go_wp2
  go_ret
  exact ⟨rfl, rfl⟩

set_option maxHeartbeats 1000000 in
theorem at_out_int (B g most : Nat) (r : Option Nat) (xs : List Value) (i : Int) (w : World) (h : RingIs 54 3 w B g most r xs) (hi : ¬ (0 ≤ i ∧ i < xs.length)) :
    Calls Try.prog 19 #[.pointer (some ⟨g, 0, none⟩), .int .i64 i] w fun e w' => e = .returned (.tuple #[.int .i64 0, .bool false]) ∧ ∃ q, w' = w.drewN q := by
  have hl := len_int B g most r xs w h
  by_cases h0 : i < 0
  · go_enter Try.func19, Try.ntmps19
    go_wp2
    go_ret2
    exact ⟨rfl, 0, rfl⟩
  · have h0' : 0 ≤ i := by omega
    have h1 : (xs.length : Int) ≤ i := by omega
    go_enter Try.func19, Try.ntmps19
    go_wp2_with (go_at_call 20; refine hl.mono ?_; rintro e w' ⟨rfl, q, rfl⟩)
    go_ret2
    exact ⟨rfl, q, rfl⟩

set_option maxHeartbeats 1000000 in
theorem at_in_int (B g most : Nat) (r : Option Nat) (xs : List Value) (i : Nat) (w : World) (h : RingIs 54 3 w B g most r xs) (hi : i < xs.length) (z : Value) :
    Calls Try.prog 19 #[.pointer (some ⟨g, 0, none⟩), .int .i64 (i : Int)] w fun e w' => e = .returned (.tuple #[xs.getD i z, .bool true]) ∧ ∃ q, w' = w.drewN q := by
  have hl := len_int B g most r xs w h
  obtain ⟨a, f, cap, c0, c1, c2, hf, hm, h1, h2, hc, hc2, hn, hs⟩ := h.cells
  obtain ⟨b, rfl⟩ : ∃ b, a = some b := by
    cases a with
    | none => have := hn rfl; subst this; simp at hi
    | some b => exact ⟨b, rfl⟩
  obtain ⟨k, rfl, hk⟩ := hs b rfl
  have ci := hk i z hi
  generalize xs.getD i z = y at ci ⊢
  have hi' : (i : Int) < (xs.length : Int) := by omega
  have hb : (f : Int) + (i : Int) < ((f + xs.length : Nat) : Int) := by push_cast; omega
  have hb2 : ((f : Int) + (i : Int)).toNat = f + i := by omega
  clear hn hs hk
  go_enter Try.func19, Try.ntmps19
  go_wp2_with (go_at_call 20; refine hl.mono ?_; rintro e w' ⟨rfl, q, rfl⟩)
  go_quiet (fail)
  go_wp2
  go_ret2
  exact ⟨rfl, _, by rw [World.drewN_drewN]⟩

end Go.Proofs.Ytehefenagpdlaaa
