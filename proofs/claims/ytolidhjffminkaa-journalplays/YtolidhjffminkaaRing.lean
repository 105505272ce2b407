/- The ring: its contracts. -/
import Derived.Test.YtolidhjffminkaaChecked
import Derived.Test.YtolidhjffminkaaOwn
import Derived.Deep.QuietTactic
import Derived.BigQuiet
import Derived.Deep.RegionLaw
import Derived.RangeFuncBox
namespace Go.Proofs.Ytolidhjffminkaa
open Go.RowKit Go.By
set_option linter.unusedVariables false

/-- The ring at block g (its type T, its elements' E): at most 'most' elements, and these are xs; r is the block of its room. -/
def RingIs (T E : TypeId) (w : World) (B g most : Nat) (r : Option Nat) (xs : List Value) : Prop :=
  B ≤ g ∧ ∃ (v : Value) (f : Nat) (junk : List Value),
    w.heap[g]? = some (.cells #[.int .i64 (most : Int), v, .int .i64 (f : Int)] T (0, 0)) ∧ w.ownsRow B E 1 v (f + xs.length) (junk ++ xs) ∧ junk.length = f ∧ f ≤ xs.length ∧ v.ownBlock = r ∧
    (∀ u ∈ xs, u.oneCell' = true) ∧ 1 ≤ most ∧ most ≤ 65536 ∧ xs.length ≤ most

/-- What the walk reads of it. -/
theorem RingIs.cells {T E : TypeId} {w : World} {B g most : Nat} {r : Option Nat} {xs : List Value} (h : RingIs T E w B g most r xs) :
    ∃ (a : Option Addr) (f cap : Nat), w.cell? ⟨g, 0, none⟩ = some (.int .i64 (most : Int)) ∧ w.cell? ⟨g, 1, none⟩ = some (.slice a (f + xs.length) cap) ∧ w.cell? ⟨g, 2, none⟩ = some (.int .i64 (f : Int)) ∧
      f ≤ xs.length ∧ xs.length ≤ most ∧ 1 ≤ most ∧ most ≤ 65536 ∧ f + xs.length ≤ cap ∧ cap ≤ maxLen ∧ (a = none → xs = []) ∧
      ∀ b, a = some b → ∃ k, b = ⟨k, 0, none⟩ ∧ ∀ i z, i < xs.length → w.cell? ⟨k, f + i, none⟩ = some (xs.getD i z) := by
  obtain ⟨_, v, f, junk, hg, hr, hj, hf, hv, h1, h2, h3, h4⟩ := h
  have hc : ∀ i x, #[Value.int .i64 (most : Int), v, .int .i64 (f : Int)][i]? = some x → w.cell? ⟨g, i, none⟩ = some x := fun i x hx => by rw [Joins.cell_of_block hg]; exact hx
  rcases hr.2 with ⟨rfl, h0⟩ | ⟨k, cap, cur, rfl, hk, hh, hn, hm, hs, ht⟩
  · have hx : xs = [] := List.length_eq_zero_iff.1 (by omega)
    subst hx
    simp at h0 hf
    exact ⟨none, f, 0, hc 0 _ rfl, by simpa [h0] using hc 1 _ rfl, hc 2 _ rfl, by simp [h0], h4, h2, h3, by simp [h0], by unfold maxLen; omega, fun _ => rfl, by simp⟩
  · refine ⟨_, f, cap, hc 0 _ rfl, hc 1 _ rfl, hc 2 _ rfl, hf, h4, h2, h3, hn, hm, by simp, fun b hb => ?_⟩
    cases hb
    refine ⟨k, rfl, fun i z hi => ?_⟩
    rw [Joins.cell_of_block hh]
    have e1 : cur[f + i]? = (cur.toList.take ((f + xs.length) * 1))[f + i]? := by rw [List.getElem?_take_of_lt (by omega)]; simp
    rw [e1, ht, List.getElem?_append_right (by omega)]
    simp [hj, List.getD, hi]

end Go.Proofs.Ytolidhjffminkaa
