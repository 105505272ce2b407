/- frame: what bytes begin with. Plain mathematics. -/
import Derived.Test.YtgeboanebdmebabFB
import Derived.Test.YtgeboanebdmebabVSl
import Derived.Test.YtgeboanebdmebabCGd
namespace Vary
theorem numF_take (f i n m : Nat) (l : List Nat) (h : f ≤ m) : numF f i n (l.take m) = numF f i n l := by
  induction f generalizing i n m l with
  | zero => rfl
  | succ f ih =>
    obtain ⟨m, rfl⟩ : ∃ k, m = k + 1 := ⟨m - 1, by omega⟩
    cases l with
    | nil => rfl
    | cons d r =>
      rw [List.take_succ_cons]
      unfold numF
      split
      · exact ih _ _ _ _ (by omega)
      · rfl
theorem num_take (l : List Nat) (m : Nat) (h : 9 ≤ m) : num (l.take m) = num l := numF_take 9 0 0 m l h
theorem num_min (l : List Nat) (N : Nat) (h : N = 9 ∨ N = l.length) : num (l.take N) = num l := by
  rcases h with rfl | rfl
  · exact num_take l 9 (by omega)
  · rw [List.take_length]
theorem txt_back {l : List Nat} (hl : ∀ c ∈ l, c < 256) {d : List Nat} {n : Nat} (h : txt l = some (d, n)) : putT d = l.take n ∧ 0 < n ∧ n ≤ l.length ∧ d.length ≤ n ∧ ∀ c ∈ d, c < 256 := by
  unfold txt at h
  cases hn : num l with
  | none => rw [hn] at h; cases h
  | some p =>
    obtain ⟨m, k⟩ := p
    rw [hn] at h
    obtain ⟨h1, h2, h3, h4, h5⟩ := num_back hl hn
    simp only [] at h
    by_cases hm : m ≤ l.length - k
    · rw [if_pos hm] at h
      simp only [Option.some.injEq, Prod.mk.injEq] at h
      obtain ⟨rfl, rfl⟩ := h
      have hlen : ((l.drop k).take m).length = m := by simp; omega
      refine ⟨?_, by omega, by omega, by omega, fun c hc => hl c (List.mem_of_mem_drop (List.mem_of_mem_take hc))⟩
      rw [putT, hlen, h1, ← List.take_add]
    · rw [if_neg hm] at h; cases h
end Vary
namespace Go.Proofs.Ytgeboanebdmebab.F
open Go.Proofs.Ytgeboanebdmebab Go.RowKit Go.By
set_option linter.unusedVariables false

/-- The numbers and the text that are all of some bytes. -/
def parse4 (l : List Nat) : Option (Nat × Nat × Nat × List Nat) :=
  match Vary.num l with
  | none => none
  | some (e, i) => match Vary.num (l.drop i) with
    | none => none
    | some (s, j) => match Vary.num (l.drop (i + j)) with
      | none => none
      | some (a, k) => match Vary.txt (l.drop (i + j + k)) with
        | none => none
        | some (d, n) => if i + j + k + n = l.length then some (e, s, a, d) else none
/-- The packet whose body some bytes are; a zero one of others. -/
def parseP (l : List Nat) : (Int × Int × Int × ByteArray) × Bool :=
  match parse4 l with
  | none => ((0, 0, 0, ⟨#[]⟩), false)
  | some (e, s, a, d) => if goodP e s a (str d) then (((e : Nat), (s : Nat), (a : Nat), str d), true) else ((0, 0, 0, ⟨#[]⟩), false)

/-- What bytes begin with: the packet, the frame's size, the error. -/
def getP (l : List Nat) : (Int × Int × Int × ByteArray) × Nat × Int :=
  match Vary.num l with
  | none => ((0, 0, 0, ⟨#[]⟩), 0, 10)
  | some (n, k) =>
    if 65576 < n then ((0, 0, 0, ⟨#[]⟩), 0, 11)
    else if l.length < k + n + 4 then ((0, 0, 0, ⟨#[]⟩), 0, 10)
    else if ¬ Crc.sealed (((l.drop k).take (n + 4)).take n) = (l.drop k).take (n + 4) then ((0, 0, 0, ⟨#[]⟩), k + n + 4, 12)
    else if (parseP (((l.drop k).take (n + 4)).take n)).2 then ((parseP (((l.drop k).take (n + 4)).take n)).1, k + n + 4, 0)
    else ((0, 0, 0, ⟨#[]⟩), k + n + 4, 10)

theorem putI_nat {n : Nat} (h : n ≤ Vary.maxNum) : Vary.putI (n : Int) = Vary.put n := by
  unfold Vary.putI
  unfold Vary.maxNum at h
  rw [if_pos (by omega), Int.toNat_natCast]

/-- What was read has just the bytes of the packet's body, if it is all of them. -/
theorem body_back {l : List Nat} (hl : ∀ c ∈ l, c < 256) {e i s j a k n : Nat} {d : List Nat} (h1 : Vary.num l = some (e, i)) (h2 : Vary.num (l.drop i) = some (s, j)) (h3 : Vary.num (l.drop (i + j)) = some (a, k)) (h4 : Vary.txt (l.drop (i + j + k)) = some (d, n)) :
    bodyL e s a (str d) = l.take (i + j + k + n) ∧ i + j + k + n ≤ l.length := by
  have hd : ∀ q, ∀ c ∈ l.drop q, c < 256 := fun q c hc => hl c (List.mem_of_mem_drop hc)
  obtain ⟨a1, a2, a3, a4, a5⟩ := Vary.num_back hl h1
  obtain ⟨b1, b2, b3, b4, b5⟩ := Vary.num_back (hd i) h2
  obtain ⟨c1, c2, c3, c4, c5⟩ := Vary.num_back (hd (i + j)) h3
  obtain ⟨d1, d2, d3, d4, d5⟩ := Vary.txt_back (hd (i + j + k)) h4
  rw [List.length_drop] at b5 c5 d3
  refine ⟨?_, by omega⟩
  have hp : preL e s a 3 = Vary.putI e ++ Vary.putI s ++ Vary.putI a := by
    show (([] ++ Vary.putI (nth3 e s a 0)) ++ Vary.putI (nth3 e s a 1)) ++ Vary.putI (nth3 e s a 2) = _
    rw [List.nil_append]; rfl
  rw [bodyL, hp, putI_nat a2, putI_nat b2, putI_nat c2, nums_str d5, a1, b1, c1, d1, ← List.take_add, ← List.take_add, ← List.take_add]

theorem body_iff {l : List Nat} (hl : ∀ c ∈ l, c < 256) {e i s j a k n : Nat} {d : List Nat} (h1 : Vary.num l = some (e, i)) (h2 : Vary.num (l.drop i) = some (s, j)) (h3 : Vary.num (l.drop (i + j)) = some (a, k)) (h4 : Vary.txt (l.drop (i + j + k)) = some (d, n)) :
    bodyL e s a (str d) = l ↔ i + j + k + n = l.length := by
  obtain ⟨h5, h6⟩ := body_back hl h1 h2 h3 h4
  rw [h5]
  constructor
  · intro h
    have := congrArg List.length h
    rw [List.length_take] at this
    omega
  · intro h
    rw [h, List.take_length]
end Go.Proofs.Ytgeboanebdmebab.F
