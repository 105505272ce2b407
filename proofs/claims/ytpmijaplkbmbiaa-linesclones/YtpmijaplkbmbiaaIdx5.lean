/- The index of lines: the starts of a text, and what an edit makes of them. Lists alone. -/
import Derived.Test.YtpmijaplkbmbiaaIdx4
namespace Go.Proofs.Ytpmijaplkbmbiaa.I
open Go.Proofs.Ytpmijaplkbmbiaa Go.RowKit Go.By Go.Shelf
set_option linter.unusedVariables false

/-- Where the lines of a text begin. -/
def starts (l : List UInt8) : List Int := 0 :: feeds l 0

theorem feeds_pair (l : List UInt8) (k : Int) : (feeds l k).Pairwise (· < ·) := by
  induction l generalizing k with
  | nil => exact List.Pairwise.nil
  | cons c l ih =>
    simp only [feeds]
    split
    · simp only [List.cons_append, List.nil_append]
      exact List.Pairwise.cons (fun z hz => (feeds_mem _ _ _ hz).1) (ih _)
    · exact ih _

theorem starts_pair (l : List UInt8) : (starts l).Pairwise (· < ·) := List.Pairwise.cons (fun z hz => (feeds_mem _ _ _ hz).1) (feeds_pair l 0)

theorem starts_rise (l : List UInt8) : Rise (starts l) := by
  intro i j hij hj
  have := List.pairwise_iff_getElem.1 (starts_pair l) i j (by omega) hj hij
  simpa [List.getD, hj, show i < (starts l).length by omega] using this

theorem starts_len (l : List UInt8) : (starts l).length ≤ l.length + 1 := by have := feeds_len l 0; simp [starts]; exact this
theorem starts_pos (l : List UInt8) : 0 < (starts l).length := by simp [starts]
theorem starts_mem (l : List UInt8) (z : Int) (h : z ∈ starts l) : 0 ≤ z ∧ z ≤ l.length := by
  simp only [starts, List.mem_cons] at h
  rcases h with rfl | h
  · omega
  · have := feeds_mem _ _ _ h; omega

/-- A cut is told by what stands ahead of it. -/
theorem cut_split {A B : List Int} {a : Int} {c : Nat} (hA : ∀ x ∈ A, x ≤ a) (hB : ∀ x ∈ B, a < x) (h : Cut (A ++ B) a c) : c = A.length := by
  rcases Nat.lt_trichotomy c A.length with h1 | h1 | h1
  · have h2 := h.hi c (Nat.le_refl _) (by simp; omega)
    have h3 : (A ++ B).getD c 0 = A[c] := by simp [List.getD, List.getElem?_append, h1]
    have := hA A[c] (List.getElem_mem _)
    omega
  · exact h1
  · have hl : A.length < (A ++ B).length := by have := h.le; omega
    have h2 := h.lo A.length h1
    have hb : 0 < B.length := by simp at hl; omega
    have h3 : (A ++ B).getD A.length 0 = B[0] := by simp [List.getD, hb]
    have := hB B[0] (List.getElem_mem _)
    omega

theorem starts_split (l : List UInt8) (n : Nat) (h : n ≤ l.length) : starts l = (0 :: feeds (l.take n) 0) ++ feeds (l.drop n) n := by
  have e : feeds l 0 = feeds (l.take n ++ l.drop n) 0 := by rw [List.take_append_drop]
  rw [starts, e, feeds_append]
  simp [h]

theorem starts_cut {l : List UInt8} {n c : Nat} (h : n ≤ l.length) (hc : Cut (starts l) n c) : (starts l).take c = 0 :: feeds (l.take n) 0 ∧ (starts l).drop c = feeds (l.drop n) n ∧ 0 < c := by
  have hs := starts_split l n h
  rw [hs] at hc
  have e := cut_split (A := 0 :: feeds (l.take n) 0) (B := feeds (l.drop n) n) (fun x hx => by
    simp only [List.mem_cons] at hx
    rcases hx with rfl | hx
    · omega
    · have := feeds_mem _ _ _ hx; simp at this; omega) (fun x hx => (feeds_mem _ _ _ hx).1) hc
  rw [hs, e]
  exact ⟨List.take_left, List.drop_left, by simp⟩

/-- What an edit makes of the starts. -/
theorem starts_edit {l add : List UInt8} {n d c1 c2 : Nat} (h : n + d ≤ l.length) (h1 : Cut (starts l) (n : Int) c1) (h2 : Cut (starts l) ((n : Int) + (d : Int)) c2) :
    c1 ≤ c2 ∧ c2 ≤ (starts l).length ∧ (starts l).take c1 ++ (feeds add 0).map (· + (n : Int)) ++ ((starts l).drop c2).map (· + ((add.length : Int) - (d : Int))) = starts (l.take n ++ (add ++ l.drop (n + d))) := by
  have h2' : Cut (starts l) ((n + d : Nat) : Int) c2 := by rw [show ((n + d : Nat) : Int) = (n : Int) + d by omega]; exact h2
  obtain ⟨t1, _, p1⟩ := starts_cut (by omega) h1
  obtain ⟨_, t2, _⟩ := starts_cut h h2'
  refine ⟨?_, h2.le, ?_⟩
  · rcases Nat.lt_or_ge c2 c1 with hlt | hge
    · have a1 := h1.lo c2 hlt
      have a2 := h2.hi c2 (Nat.le_refl _) (by have := h1.le; omega)
      omega
    · exact hge
  · rw [t1, t2, feeds_map, feeds_map, starts, feeds_append, feeds_append]
    simp only [List.length_take, List.cons_append, List.append_assoc]
    rw [Nat.min_eq_left (show n ≤ l.length by omega), show ((n + d : Nat) : Int) + ((add.length : Int) - (d : Int)) = 0 + (n : Int) + (add.length : Int) by omega]

end Go.Proofs.Ytpmijaplkbmbiaa.I
