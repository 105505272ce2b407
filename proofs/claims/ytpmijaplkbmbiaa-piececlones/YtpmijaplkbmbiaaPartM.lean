/- The document's parting of a list of pieces, and that it makes the buffer's own change. Lists alone. -/
import Derived.Test.YtpmijaplkbmbiaaChange5
namespace Go.Proofs.Ytpmijaplkbmbiaa
open Go.RowKit Go.By Go.Shelf
set_option linter.unusedVariables false

/-- What of a piece stands ahead of a place. -/
def hd1 (x : Int) (p : ByteArray) : List ByteArray := if 0 < x then [p.extract 0 (min x.toNat p.size)] else []
/-- What of a piece stands behind it. -/
def tl1 (x : Int) (p : ByteArray) : List ByteArray := if x < (p.size : Int) then [p.extract x.toNat p.size] else []

def pA : List ByteArray → Int → List ByteArray
  | [], _ => []
  | p :: ps, x => hd1 x p ++ pA ps (x - p.size)
def pB : List ByteArray → Int → List ByteArray
  | [], _ => []
  | p :: ps, x => tl1 x p ++ pB ps (x - p.size)

theorem pA_snoc (l : List ByteArray) (p : ByteArray) (x : Int) : pA (l ++ [p]) x = pA l x ++ hd1 (x - tot l) p := by
  induction l generalizing x with
  | nil => simp [pA, tot]
  | cons q l ih => simp only [List.cons_append, pA, ih, tot, List.append_assoc]; congr 3; push_cast; omega

theorem pB_snoc (l : List ByteArray) (p : ByteArray) (x : Int) : pB (l ++ [p]) x = pB l x ++ tl1 (x - tot l) p := by
  induction l generalizing x with
  | nil => simp [pB, tot]
  | cons q l ih => simp only [List.cons_append, pB, ih, tot, List.append_assoc]; congr 3; push_cast; omega

theorem extract_all (p : ByteArray) : p.extract 0 p.size = p := by
  apply ByteArray.ext
  simp

theorem pA_none (l : List ByteArray) (x : Int) (h : x ≤ 0) : pA l x = [] := by
  induction l generalizing x with
  | nil => rfl
  | cons p l ih => rw [pA, ih _ (by omega)]; simp [hd1]; omega

theorem pB_all (l : List ByteArray) (x : Int) (h : x ≤ 0) (hf : ∀ p ∈ l, 0 < p.size) : pB l x = l := by
  induction l generalizing x with
  | nil => rfl
  | cons p l ih =>
    have hp := hf p (by simp)
    rw [pB, ih _ (by omega) (fun q hq => hf q (by simp [hq])), tl1, if_pos (by omega), show x.toNat = 0 by omega, extract_all]
    rfl

theorem at_cons (p : ByteArray) (ps : List ByteArray) (i : Nat) : at' (p :: ps) (i + 1) = at' ps i := by simp [at']

theorem pA_find (ps : List ByteArray) (n : Nat) (hf : ∀ p ∈ ps, 0 < p.size) (hn : n ≤ tot ps) : pA ps n = ps.take (findP ps n).1 ++ head' ps (findP ps n).1 (findP ps n).2 := by
  induction ps generalizing n with
  | nil => simp [pA, findP, head']
  | cons p ps ih =>
    have hp := hf p (by simp)
    by_cases h : n < p.size
    · have e : findP (p :: ps) n = (0, n) := by simp [findP, h]
      rw [e, pA, pA_none _ _ (by omega)]
      simp only [List.take_zero, List.nil_append, List.append_nil, hd1, head']
      by_cases h0 : 0 < n
      · rw [if_pos (by omega), if_pos h0, Int.toNat_natCast, Nat.min_eq_left (by omega)]; rfl
      · rw [if_neg (by omega), if_neg h0]
    · have e : findP (p :: ps) n = ((findP ps (n - p.size)).1 + 1, (findP ps (n - p.size)).2) := by simp [findP, h]
      have ht : tot (p :: ps) = p.size + tot ps := rfl
      have := ih (n - p.size) (fun q hq => hf q (by simp [hq])) (by omega)
      rw [show ((n - p.size : Nat) : Int) = (n : Int) - p.size by omega] at this
      rw [e, pA, this, hd1, if_pos (by omega), Int.toNat_natCast, Nat.min_eq_right (by omega), extract_all]
      simp [head', at_cons]

theorem pB_find (ps : List ByteArray) (n : Nat) (hf : ∀ p ∈ ps, 0 < p.size) (hn : n ≤ tot ps) : pB ps n = tail' ps (findP ps n).1 (findP ps n).2 ++ ps.drop (past (findP ps n).1 (findP ps n).2) := by
  induction ps generalizing n with
  | nil => simp [pB, findP, tail']
  | cons p ps ih =>
    have hp := hf p (by simp)
    by_cases h : n < p.size
    · have e : findP (p :: ps) n = (0, n) := by simp [findP, h]
      rw [e, pB, pB_all _ _ (by omega) (fun q hq => hf q (by simp [hq])), tl1, if_pos (by omega), Int.toNat_natCast]
      by_cases h0 : 0 < n
      · simp [tail', past, h0, at']
      · obtain rfl : n = 0 := by omega
        simp [tail', past]
    · have e : findP (p :: ps) n = ((findP ps (n - p.size)).1 + 1, (findP ps (n - p.size)).2) := by simp [findP, h]
      have ht : tot (p :: ps) = p.size + tot ps := rfl
      have := ih (n - p.size) (fun q hq => hf q (by simp [hq])) (by omega)
      rw [show ((n - p.size : Nat) : Int) = (n : Int) - p.size by omega] at this
      rw [e, pB, this, tl1, if_neg (by omega)]
      simp only [List.nil_append, tail', past, at_cons]
      by_cases h0 : 0 < (findP ps (n - p.size)).2
      · simp [h0]
      · simp [h0]

theorem pB_more (ps : List ByteArray) (n k : Nat) (hf : ∀ p ∈ ps, 0 < p.size) : pB (pB ps n) k = pB ps ((n : Int) + k) := by
  induction ps generalizing n with
  | nil => rfl
  | cons p ps ih =>
    have hp := hf p (by simp)
    have hf' : ∀ q ∈ ps, 0 < q.size := fun q hq => hf q (by simp [hq])
    by_cases h : n < p.size
    · rw [pB, pB_all _ _ (by omega) hf', tl1, if_pos (by omega), Int.toNat_natCast]
      have hs : (p.extract n p.size).size = p.size - n := by simp
      simp only [List.cons_append, List.nil_append, pB]
      rw [hs]
      congr 1
      · unfold tl1
        rw [hs]
        by_cases h2 : n + k < p.size
        · rw [if_pos (by omega), if_pos (by omega), Int.toNat_natCast, show ((n : Int) + k).toNat = n + k by omega]
          congr 1
          apply ByteArray.ext
          simp only [ByteArray.data_extract, Array.extract_extract]
          congr 1
          omega
        · rw [if_neg (by omega), if_neg (by omega)]
      · congr 1; omega
    · have := ih (n - p.size) hf'
      rw [show ((n - p.size : Nat) : Int) = (n : Int) - p.size by omega] at this
      rw [pB, tl1, if_neg (by omega), List.nil_append, this, pB, tl1, if_neg (by omega), List.nil_append]
      congr 1; omega

/-- The document's Insert makes the buffer's change. -/
theorem ins_chg (ps : List ByteArray) (n : Nat) (s : ByteArray) (hf : ∀ p ∈ ps, 0 < p.size) (hn : n ≤ tot ps) (hs : s.size ≠ 0) : pA ps n ++ [s] ++ pB ps n = chgAt ps n 0 s := by
  unfold chgAt
  rw [if_neg (by simp [hs]), Nat.add_zero, pA_find ps n hf hn, pB_find ps n hf hn]
  simp [chg, mid', hs, List.append_assoc]

/-- So does its Delete. -/
theorem del_chg (ps : List ByteArray) (n k : Nat) (hf : ∀ p ∈ ps, 0 < p.size) (hn : n + k ≤ tot ps) (hk : k ≠ 0) : pA ps n ++ pB (pB ps n) k = chgAt ps n k ⟨#[]⟩ := by
  unfold chgAt
  rw [if_neg (by simp [hk]), pB_more ps n k hf, show (n : Int) + k = ((n + k : Nat) : Int) by omega, pA_find ps n hf (by omega), pB_find ps (n + k) hf hn]
  simp [chg, mid', List.append_assoc]
  rfl

theorem full_pA (ps : List ByteArray) (x : Int) (hf : ∀ p ∈ ps, 0 < p.size) : ∀ p ∈ pA ps x, 0 < p.size := by
  induction ps generalizing x with
  | nil => intro p hp; simp [pA] at hp
  | cons q ps ih =>
    intro p hp
    have hq := hf q (by simp)
    simp only [pA, List.mem_append] at hp
    rcases hp with hp | hp
    · unfold hd1 at hp
      split at hp
      · simp at hp; subst hp; simp; omega
      · simp at hp
    · exact ih _ (fun q hq => hf q (by simp [hq])) p hp

theorem full_pB (ps : List ByteArray) (x : Int) (hf : ∀ p ∈ ps, 0 < p.size) : ∀ p ∈ pB ps x, 0 < p.size := by
  induction ps generalizing x with
  | nil => intro p hp; simp [pB] at hp
  | cons q ps ih =>
    intro p hp
    have hq := hf q (by simp)
    simp only [pB, List.mem_append] at hp
    rcases hp with hp | hp
    · unfold tl1 at hp
      split at hp
      · simp at hp; subst hp; simp; omega
      · simp at hp
    · exact ih _ (fun q hq => hf q (by simp [hq])) p hp

theorem len_pA (ps : List ByteArray) (x : Int) : (pA ps x).length ≤ ps.length := by
  induction ps generalizing x with
  | nil => simp [pA]
  | cons q ps ih => have := ih (x - q.size); simp only [pA, List.length_append, List.length_cons]; unfold hd1; split <;> simp <;> omega
theorem len_pB (ps : List ByteArray) (x : Int) : (pB ps x).length ≤ ps.length := by
  induction ps generalizing x with
  | nil => simp [pB]
  | cons q ps ih => have := ih (x - q.size); simp only [pB, List.length_append, List.length_cons]; unfold tl1; split <;> simp <;> omega
theorem tot_pB (ps : List ByteArray) (x : Int) : tot (pB ps x) ≤ tot ps := by
  induction ps generalizing x with
  | nil => simp [pB]
  | cons q ps ih =>
    have := ih (x - q.size)
    simp only [pB, tot_append, tot]
    unfold tl1
    split
    · simp [tot]; omega
    · simp [tot]; omega

end Go.Proofs.Ytpmijaplkbmbiaa
