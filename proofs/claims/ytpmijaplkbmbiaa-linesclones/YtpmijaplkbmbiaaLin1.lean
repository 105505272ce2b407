/- Lines and columns of places. Lists alone. -/
import Derived.Test.YtpmijaplkbmbiaaIdx5
namespace Go.Proofs.Ytpmijaplkbmbiaa.I
open Go.Proofs.Ytpmijaplkbmbiaa Go.RowKit Go.By Go.Shelf
set_option linter.unusedVariables false

/-- How many line feeds, and how many bytes behind the last one. -/
def posL (t : List UInt8) : Nat := (feeds t 0).length
def colL (t : List UInt8) : Nat := t.foldl (fun n c => if c = 10 then 0 else n + 1) 0

theorem posL_snoc (t : List UInt8) (c : UInt8) : posL (t ++ [c]) = posL t + if c = 10 then 1 else 0 := by
  unfold posL
  rw [feeds_append, List.length_append]
  simp only [feeds, List.append_nil]
  split <;> simp
theorem colL_snoc (t : List UInt8) (c : UInt8) : colL (t ++ [c]) = if c = 10 then 0 else colL t + 1 := by simp [colL]

theorem colL_spec (t : List UInt8) : colL t ≤ t.length ∧ (starts t).getD (posL t) 0 = (t.length : Int) - (colL t : Int) := by
  have key : ∀ (u : List UInt8), colL u.reverse ≤ u.reverse.length ∧ (starts u.reverse).getD (posL u.reverse) 0 = (u.reverse.length : Int) - (colL u.reverse : Int) := by
    intro u
    induction u with
    | nil => simp [colL, posL, starts, feeds]
    | cons c u ih =>
      rw [List.reverse_cons]
      generalize u.reverse = s at ih
      have e : starts (s ++ [c]) = starts s ++ if c = 10 then [(s.length : Int) + 1] else [] := by
        rw [starts, feeds_append, starts]
        simp only [feeds, List.append_nil, List.cons_append]
        split <;> simp
      have hl : (starts s).length = posL s + 1 := by simp [starts, posL]
      rw [posL_snoc, colL_snoc, e]
      by_cases hc : c = 10
      · simp only [hc, if_true]
        refine ⟨by simp, ?_⟩
        simp [List.getD, hl]
      · simp only [hc, if_false, Nat.add_zero, List.append_nil]
        refine ⟨by simp; exact ih.1, ?_⟩
        rw [ih.2]
        simp
        omega
  have := key t.reverse
  rwa [List.reverse_reverse] at this

/-- The place a has the line and the column. -/
def At (l : List UInt8) (line col : Int) (a : Nat) : Prop := a ≤ l.length ∧ (posL (l.take a) : Int) = line ∧ (colL (l.take a) : Int) = col

theorem starts_at {l : List UInt8} {a : Nat} (h : a ≤ l.length) : (starts l).getD (posL (l.take a)) 0 = (a : Int) - (colL (l.take a) : Int) := by
  have e := starts_split l a h
  have h2 := (colL_spec (l.take a)).2
  rw [List.length_take, Nat.min_eq_left h] at h2
  rw [← h2, e]
  have : posL (l.take a) < (0 :: feeds (l.take a) 0).length := by simp [posL]
  simp only [List.getD, starts]
  rw [List.getElem?_append_left this]

theorem posL_lt {l : List UInt8} {a : Nat} (h : a ≤ l.length) : posL (l.take a) < (starts l).length := by
  rw [starts_split l a h]; simp [posL]; omega

theorem cut_at {l : List UInt8} {a : Nat} (h : a ≤ l.length) : Cut (starts l) (a : Int) (posL (l.take a) + 1) := by
  have e := starts_split l a h
  have hl : (0 :: feeds (l.take a) 0).length = posL (l.take a) + 1 := by simp [posL]
  refine ⟨by have := posL_lt h; omega, fun m hm => ?_, fun m h1 h2 => ?_⟩
  · rw [e]
    have hm' : m < (0 :: feeds (l.take a) 0).length := by omega
    have h3 : ((0 :: feeds (l.take a) 0) ++ feeds (l.drop a) a).getD m 0 = (0 :: feeds (l.take a) 0)[m] := by
      simp only [List.getD]; rw [List.getElem?_append_left hm', List.getElem?_eq_getElem hm', Option.getD_some]
    rw [h3]
    have := List.getElem_mem hm'
    generalize (0 :: feeds (l.take a) 0)[m] = z at this
    simp only [List.mem_cons] at this
    rcases this with rfl | hz
    · omega
    · have := feeds_mem _ _ _ hz; simp at this; omega
  · rw [e] at h2 ⊢
    have hm' : ¬ m < (0 :: feeds (l.take a) 0).length := by omega
    have hm2 : m - (0 :: feeds (l.take a) 0).length < (feeds (l.drop a) a).length := by rw [List.length_append] at h2; omega
    have h3 : ((0 :: feeds (l.take a) 0) ++ feeds (l.drop a) a).getD m 0 = (feeds (l.drop a) a)[m - (0 :: feeds (l.take a) 0).length] := by
      simp only [List.getD]; rw [List.getElem?_append_right (by omega)]; simp only [List.getElem?_eq_getElem hm2, Option.getD_some]
    rw [h3]
    exact (feeds_mem _ _ _ (List.getElem_mem _)).1

theorem cut_uniq {xs : List Int} {a : Int} {c1 c2 : Nat} (h1 : Cut xs a c1) (h2 : Cut xs a c2) : c1 = c2 := by
  rcases Nat.lt_trichotomy c1 c2 with h | h | h
  · have a1 := h2.lo c1 h
    have a2 := h1.hi c1 (Nat.le_refl _) (by have := h2.le; omega)
    omega
  · exact h
  · have a1 := h1.lo c2 h
    have a2 := h2.hi c2 (Nat.le_refl _) (by have := h1.le; omega)
    omega

theorem At.uniq {l : List UInt8} {line col : Int} {a b : Nat} (h1 : At l line col a) (h2 : At l line col b) : a = b := by
  have e1 := starts_at h1.1
  have e2 := starts_at h2.1
  have hp : posL (l.take a) = posL (l.take b) := by have := h1.2.1; have := h2.2.1; omega
  rw [hp] at e1
  have := h1.2.2
  have := h2.2.2
  omega

/-- Where the last place of a line is. -/
def lastL (l : List UInt8) (m : Nat) : Int := if m + 1 = (starts l).length then (l.length : Int) else (starts l).getD (m + 1) 0 - 1

theorem at_of {l : List UInt8} {m : Nat} {col : Int} (hm : m < (starts l).length) (h0 : 0 ≤ col) (h1 : col ≤ lastL l m - (starts l).getD m 0) : At l (m : Int) col ((starts l).getD m 0 + col).toNat := by
  have hs0 := starts_mem l ((starts l).getD m 0) (by simp [List.getD, hm])
  obtain ⟨a, ha⟩ : ∃ a : Nat, (starts l).getD m 0 + col = a := ⟨((starts l).getD m 0 + col).toNat, by omega⟩
  rw [ha, Int.toNat_natCast]
  have hal : a ≤ l.length := by
    unfold lastL at h1
    split at h1
    · omega
    · rename_i hne
      have := starts_mem l ((starts l).getD (m + 1) 0) (by simp [List.getD, show m + 1 < (starts l).length by omega])
      omega
  have hcut : Cut (starts l) (a : Int) (m + 1) := by
    refine ⟨by omega, fun q hq => ?_, fun q h2 h3 => ?_⟩
    · by_cases e : q = m
      · rw [e]; omega
      · have := starts_rise l q m (by omega) hm; omega
    · unfold lastL at h1
      rw [if_neg (by omega)] at h1
      by_cases e : q = m + 1
      · rw [e]; omega
      · have := starts_rise l (m + 1) q (by omega) h3; omega
  have hp : posL (l.take a) = m := by have := cut_uniq hcut (cut_at hal); omega
  have he := starts_at hal
  rw [hp] at he
  exact ⟨hal, by rw [hp], by omega⟩

/-- What a place tells of its line. -/
theorem At.inv {l : List UInt8} {line col : Int} {a : Nat} (h : At l line col a) : ∃ m : Nat, line = m ∧ m < (starts l).length ∧ 0 ≤ col ∧ col ≤ lastL l m - (starts l).getD m 0 ∧ (a : Int) = (starts l).getD m 0 + col := by
  have hp := posL_lt h.1
  have he := starts_at h.1
  refine ⟨posL (l.take a), h.2.1.symm, hp, by have := h.2.2; omega, ?_, by have := h.2.2; omega⟩
  unfold lastL
  have h3 := h.2.2
  have h4 := h.1
  split
  · omega
  · have := (cut_at h.1).hi (posL (l.take a) + 1) (Nat.le_refl _) (by omega)
    omega

end Go.Proofs.Ytpmijaplkbmbiaa.I
