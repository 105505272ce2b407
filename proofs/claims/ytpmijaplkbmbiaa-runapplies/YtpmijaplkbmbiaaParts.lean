/- The buffer: what a change makes of the pieces. -/
import Derived.Test.YtpmijaplkbmbiaaChange
namespace Go.Proofs.Ytpmijaplkbmbiaa
open Go.RowKit Go.By Go.Shelf
set_option linter.unusedVariables false

/-- The i'th piece. -/
def at' (ps : List ByteArray) (i : Nat) : ByteArray := ps.getD i ⟨#[]⟩

theorem drop_at {ps : List ByteArray} {i : Nat} (h : i < ps.length) : ps.drop i = at' ps i :: ps.drop (i + 1) := by
  rw [List.drop_eq_getElem_cons h]; simp [at', List.getD, h]

theorem take_at {ps : List ByteArray} {i : Nat} (h : i < ps.length) : ps.take (i + 1) = ps.take i ++ [at' ps i] := by
  rw [List.take_succ_eq_append_getElem h]; simp [at', List.getD, h]

theorem findP_spec : ∀ (ps : List ByteArray) (n : Nat), n ≤ tot ps → (findP ps n).1 ≤ ps.length ∧ tot (ps.take (findP ps n).1) + (findP ps n).2 = n ∧ ((findP ps n).1 < ps.length → (findP ps n).2 < (at' ps (findP ps n).1).size) ∧ ((findP ps n).1 = ps.length → (findP ps n).2 = 0)
  | [], n, h => by simp [findP, tot] at h ⊢; omega
  | p :: ps, n, h => by
    by_cases hp : n < p.size
    · simp [findP, tot, at', hp]
    · simp only [tot] at h
      obtain ⟨h1, h2, h3, h4⟩ := findP_spec ps (n - p.size) (by omega)
      simp only [findP, if_neg hp, List.length_cons, List.take_succ_cons, tot]
      refine ⟨by omega, by omega, fun h => ?_, fun h => h4 (by omega)⟩
      have := h3 (by omega)
      simpa [at'] using this

theorem tot_take_le (ps : List ByteArray) (i : Nat) : tot (ps.take i) ≤ tot ps := by
  have := tot_append (ps.take i) (ps.drop i)
  rw [List.take_append_drop] at this
  omega

theorem tot_take_mono (ps : List ByteArray) {i j : Nat} (h : i ≤ j) : tot (ps.take i) ≤ tot (ps.take j) := by
  have := tot_take_le (ps.take j) i
  rwa [List.take_take, Nat.min_eq_left h] at this

/-- Where a place and a later one lie. -/
structure Spot (ps : List ByteArray) (n f a : Nat) : Prop where
  le : f ≤ ps.length
  sum : tot (ps.take f) + a = n
  inn : f < ps.length → a < (at' ps f).size
  out : f = ps.length → a = 0

theorem spot_find {ps : List ByteArray} {n : Nat} (h : n ≤ tot ps) : Spot ps n (findP ps n).1 (findP ps n).2 :=
  let ⟨h1, h2, h3, h4⟩ := findP_spec ps n h
  ⟨h1, h2, h3, h4⟩

theorem Spot.lt {ps : List ByteArray} {n f a : Nat} (h : Spot ps n f a) (ha : 0 < a) : f < ps.length := by
  rcases Nat.lt_or_ge f ps.length with h1 | h1
  · exact h1
  · have := h.out (by have := h.le; omega); omega

theorem Spot.mono {ps : List ByteArray} {n m f a l z : Nat} (h : Spot ps n f a) (h' : Spot ps m l z) (hnm : n ≤ m) : f ≤ l := by
  rcases Nat.lt_or_ge l f with h1 | h1
  · have hl : l < ps.length := by have := h.le; omega
    have e1 := h'.inn hl
    have e2 := tot_take_mono ps (show l + 1 ≤ f by omega)
    rw [take_at hl, tot_append] at e2
    simp only [tot] at e2
    have e3 := h.sum
    have e4 := h'.sum
    omega
  · exact h1

theorem Spot.same {ps : List ByteArray} {n m f a z : Nat} (h : Spot ps n f a) (h' : Spot ps m f z) (hnm : n < m) : a < z := by
  have e3 := h.sum
  have e4 := h'.sum
  omega

/-- The part of a piece ahead of a place in it, if it is no end. -/
def head' (ps : List ByteArray) (f a : Nat) : List ByteArray := if 0 < a then [(at' ps f).extract 0 a] else []
def tail' (ps : List ByteArray) (l z : Nat) : List ByteArray := if 0 < z then [(at' ps l).extract z (at' ps l).size] else []
def mid' (s : ByteArray) : List ByteArray := if s.size = 0 then [] else [s]
def past (l z : Nat) : Nat := if 0 < z then l + 1 else l

theorem take_mid (A P R : List UInt8) (n a : Nat) (h : A.length + a = n) (ha : a ≤ P.length) : (A ++ (P ++ R)).take n = A ++ P.take a := by
  subst h
  rw [List.take_length_add_append, List.take_append_of_le_length ha]

theorem drop_mid (A P R : List UInt8) (n a : Nat) (h : A.length + a = n) (ha : a ≤ P.length) : (A ++ (P ++ R)).drop n = P.drop a ++ R := by
  subst h
  rw [List.drop_length_add_append, List.drop_append_of_le_length ha]

theorem text_one (p : ByteArray) : text [p] = p.data.toList := by simp [text]
theorem text_cons (p : ByteArray) (ps : List ByteArray) : text (p :: ps) = p.data.toList ++ text ps := rfl

theorem text_head {ps : List ByteArray} {n f a : Nat} (h : Spot ps n f a) : text (ps.take f ++ head' ps f a) = (text ps).take n := by
  have hl := length_text (ps.take f)
  have hs := h.sum
  have e : text ps = text (ps.take f) ++ text (ps.drop f) := by rw [← text_append, List.take_append_drop]
  rw [text_append, e]
  unfold head'
  by_cases ha : 0 < a
  · have hi := h.inn (h.lt ha)
    rw [if_pos ha, drop_at (h.lt ha), text_one, text_cons, take_mid _ _ _ n a (by omega) (by rw [Array.length_toList]; show a ≤ (at' ps f).size; omega)]
    have := extract_list (at' ps f) 0 a
    rw [Nat.min_eq_left (by omega)] at this
    rw [this]
    rfl
  · rw [if_neg ha]
    simp only [text, List.append_nil]
    rw [List.take_left' (by omega)]

theorem text_tail {ps : List ByteArray} {n l z : Nat} (h : Spot ps n l z) : text (tail' ps l z ++ ps.drop (past l z)) = (text ps).drop n := by
  have hl := length_text (ps.take l)
  have hs := h.sum
  have e : text ps = text (ps.take l) ++ text (ps.drop l) := by rw [← text_append, List.take_append_drop]
  rw [text_append, e]
  unfold tail' past
  by_cases ha : 0 < z
  · have hi := h.inn (h.lt ha)
    rw [if_pos ha, if_pos ha, drop_at (h.lt ha), text_one, text_cons, drop_mid _ _ _ n z (by omega) (by rw [Array.length_toList]; show z ≤ (at' ps l).size; omega)]
    have := extract_list (at' ps l) z (at' ps l).size
    rw [Nat.min_self] at this
    rw [this, List.take_of_length_le (by rw [Array.length_toList]; exact Nat.le_refl _)]
  · rw [if_neg ha, if_neg ha]
    simp only [text, List.nil_append]
    rw [List.drop_left' (by omega)]

/-- The pieces behind a change: s in the place of what stands from one place to another. -/
def chg (ps : List ByteArray) (s : ByteArray) (f a l z : Nat) : List ByteArray := ps.take f ++ (head' ps f a ++ mid' s ++ tail' ps l z) ++ ps.drop (past l z)

theorem text_chg {ps : List ByteArray} {s : ByteArray} {n m f a l z : Nat} (h : Spot ps n f a) (h' : Spot ps m l z) : text (chg ps s f a l z) = (text ps).take n ++ (s.data.toList ++ (text ps).drop m) := by
  have e : chg ps s f a l z = (ps.take f ++ head' ps f a) ++ (mid' s ++ (tail' ps l z ++ ps.drop (past l z))) := by simp [chg, List.append_assoc]
  rw [e, text_append, text_head h, text_append, text_tail h']
  congr 2
  unfold mid'
  split
  · rename_i h0
    have : s.data.toList = [] := List.length_eq_zero_iff.1 (by rw [Array.length_toList]; exact h0)
    rw [this]; rfl
  · simp [text]

theorem full_chg {ps : List ByteArray} {s : ByteArray} {n m f a l z : Nat} (h : Spot ps n f a) (h' : Spot ps m l z) (hf : ∀ p ∈ ps, 0 < p.size) : ∀ p ∈ chg ps s f a l z, 0 < p.size := by
  intro p hp
  unfold chg at hp
  simp only [List.mem_append] at hp
  rcases hp with (hp | (hp | hp) | hp) | hp
  · exact hf p (List.mem_of_mem_take hp)
  · unfold head' at hp
    split at hp
    · rename_i ha
      have := h.inn (h.lt ha)
      simp at hp
      subst hp
      simp [ByteArray.size_extract]
      omega
    · simp at hp
  · unfold mid' at hp
    split at hp
    · simp at hp
    · simp at hp; subst hp; omega
  · unfold tail' at hp
    split at hp
    · rename_i ha
      have := h'.inn (h'.lt ha)
      simp at hp
      subst hp
      simp [ByteArray.size_extract]
      omega
    · simp at hp
  · exact hf p (List.mem_of_mem_drop hp)

theorem tot_chg {ps : List ByteArray} {s : ByteArray} {n m f a l z : Nat} (h : Spot ps n f a) (h' : Spot ps m l z) (hm : m ≤ tot ps) (hnm : n ≤ m) : tot (chg ps s f a l z) = n + (s.size + (tot ps - m)) := by
  have e := congrArg List.length (text_chg (s := s) h h')
  rw [length_text] at e
  rw [e]
  simp only [List.length_append, List.length_take, List.length_drop, length_text, Array.length_toList]
  show min n (tot ps) + (s.size + (tot ps - m)) = _
  omega

theorem by_len (ps : List ByteArray) (s : ByteArray) (f a l z : Nat) : (head' ps f a ++ mid' s ++ tail' ps l z).length ≤ 3 := by
  unfold head' mid' tail'
  split <;> split <;> split <;> simp

theorem chg_len {ps : List ByteArray} {s : ByteArray} {n m f a l z : Nat} (h : Spot ps n f a) (h' : Spot ps m l z) (hnm : n ≤ m) : (chg ps s f a l z).length ≤ ps.length + 3 := by
  have := by_len ps s f a l z
  have h1 := h.mono h' hnm
  have h2 : l ≤ past l z := by unfold past; split <;> omega
  unfold chg
  simp only [List.length_append, List.length_take, List.length_drop] at this ⊢
  omega

theorem past_le {ps : List ByteArray} {m l z : Nat} (h : Spot ps m l z) : past l z ≤ ps.length := by
  unfold past
  split
  · rename_i hz; exact h.lt hz
  · exact h.le

/-- A text has pieces at one place alone where some come. -/
theorem spot_room {ps : List ByteArray} {s : ByteArray} {n k f a l z : Nat} (h : Spot ps n f a) (h' : Spot ps (n + k) l z) (hk : k = 0 → s.size ≠ 0) : f < past l z ∨ (f = past l z ∧ 0 < (head' ps f a ++ mid' s ++ tail' ps l z).length) := by
  have h1 := h.mono h' (by omega)
  by_cases hk0 : k = 0
  · have hs := hk hk0
    have h3 : 0 < (head' ps f a ++ mid' s ++ tail' ps l z).length := by unfold mid'; rw [if_neg hs]; simp only [List.length_append, List.length_cons]; omega
    have h2 : l ≤ past l z := by unfold past; split <;> omega
    rcases Nat.lt_or_ge f (past l z) with h4 | h4
    · exact .inl h4
    · exact .inr ⟨by omega, h3⟩
  · left
    rcases Nat.lt_or_ge f l with h4 | h4
    · unfold past; split <;> omega
    · obtain rfl : f = l := by omega
      have := h.same h' (by omega)
      unfold past; rw [if_pos (by omega)]; omega

end Go.Proofs.Ytpmijaplkbmbiaa
