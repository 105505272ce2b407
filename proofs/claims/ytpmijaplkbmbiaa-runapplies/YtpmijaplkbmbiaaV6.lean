/- An edit, done by deletions and then by insertions: the texts on the way. -/
import Derived.Test.YtpmijaplkbmbiaaX5
namespace Go.Proofs.Ytpmijaplkbmbiaa.E
open Go.Proofs.Ytpmijaplkbmbiaa Go.RowKit Go.By Go.Shelf
set_option linter.unusedVariables false
set_option linter.unusedSimpArgs false

/-- What is kept of a text, from a place on. -/
def kp (s : List UInt8) : List Tok → Nat → List UInt8
  | [], _ => []
  | .K :: ts, i => (s.drop i).take 1 ++ kp s ts (i + 1)
  | .A _ :: ts, i => kp s ts i
  | .D :: ts, i => kp s ts (i + 1)
def tD : List Tok → Nat
  | [] => 0
  | .K :: ts => tD ts
  | .A _ :: ts => tD ts
  | .D :: ts => tD ts + 1
theorem kp_append (s : List UInt8) (ts us : List Tok) : ∀ i, kp s (ts ++ us) i = kp s ts i ++ kp s us (i + tIn ts) := by
  induction ts with
  | nil => intro i; rfl
  | cons t ts ih => intro i; cases t <;> simp only [List.cons_append, kp, ih, tIn, List.append_assoc, Nat.add_assoc, Nat.add_comm 1]
theorem kp_K (s : List UInt8) (n : Nat) : ∀ i, kp s (List.replicate n .K) i = (s.drop i).take n := by
  induction n with
  | zero => intro i; simp [kp]
  | succ n ih =>
    intro i
    simp only [List.replicate_succ, kp, ih]
    rw [← List.drop_drop, ← List.take_add, Nat.add_comm 1 n]
theorem kp_A (s : List UInt8) (l : List UInt8) : ∀ i, kp s (l.map .A) i = [] := by
  induction l with
  | nil => intro i; rfl
  | cons b l ih => intro i; simp only [List.map_cons, kp, ih]
theorem kp_D (s : List UInt8) (n : Nat) : ∀ i, kp s (List.replicate n .D) i = [] := by
  induction n with
  | zero => intro i; rfl
  | succ n ih => intro i; simp only [List.replicate_succ, kp, ih]
theorem tD_append (a b : List Tok) : tD (a ++ b) = tD a + tD b := by
  induction a with
  | nil => simp [tD]
  | cons t a ih => cases t <;> simp only [List.cons_append, tD, ih] <;> omega
theorem tD_K (n : Nat) : tD (List.replicate n .K) = 0 := by induction n with
  | zero => rfl
  | succ n ih => rw [List.replicate_succ, tD, ih]
theorem tD_A (l : List UInt8) : tD (l.map .A) = 0 := by induction l with
  | nil => rfl
  | cons b l ih => rw [List.map_cons, tD, ih]
theorem tD_D (n : Nat) : tD (List.replicate n .D) = n := by induction n with
  | zero => rfl
  | succ n ih => rw [List.replicate_succ, tD, ih]
theorem kp_len (s : List UInt8) (ts : List Tok) : ∀ i, i + tIn ts ≤ s.length → (kp s ts i).length + tD ts = tIn ts ∧ (kp s ts i).length ≤ tOut ts := by
  induction ts with
  | nil => intro i _; exact ⟨rfl, Nat.le_refl _⟩
  | cons t ts ih =>
    intro i h
    cases t with
    | K => simp only [tIn] at h; have := ih (i + 1) (by omega); simp only [kp, tIn, tD, tOut, List.length_append, List.length_take, List.length_drop]; omega
    | A b => simp only [tIn] at h; have := ih i (by omega); simp only [kp, tIn, tD, tOut]; omega
    | D => simp only [tIn] at h; have := ih (i + 1) (by omega); simp only [kp, tIn, tD, tOut]; omega

/-- The text behind the deletions of some runs. -/
def T1 (s : List UInt8) (p : List Rn) : List UInt8 := kp s (expand p) 0 ++ s.drop (tIn (expand p))
/-- The text behind all deletions, and the insertions of some runs; others are to come. -/
def T2 (s : List UInt8) (p q : List Rn) : List UInt8 := applT s (expand p) ++ kp s (expand q) (tIn (expand p))
theorem toks_all {x : Rn} (h : kind x ≠ 0) : toks x = List.replicate x.keep.toNat .K ++ (x.add.data.toList.map .A ++ List.replicate x.drop.toNat .D) := by rw [toks, if_neg h]

theorem T1_step {s : List UInt8} {p : List Rn} {x : Rn} (h : kind x ≠ 0) (hl : tIn (expand (p ++ [x])) ≤ s.length) :
    T1 s (p ++ [x]) = (T1 s p).take (kp s (expand p) 0).length ++ (T1 s p).drop ((kp s (expand p) 0).length + x.drop.toNat) ∧
    (kp s (expand p) 0).length + x.drop.toNat ≤ (T1 s p).length := by
  rw [expand_snoc, tIn_append] at hl
  have hlen : (T1 s p).length = (kp s (expand p) 0).length + (s.length - tIn (expand p)) := by rw [T1, List.length_append, List.length_drop]
  have ht : tIn (toks x) = x.keep.toNat + x.drop.toNat := tIn_toks' h
  refine ⟨?_, by omega⟩
  rw [T1, T1, expand_snoc, kp_append, Nat.zero_add, tIn_append, ht, List.take_left, List.append_assoc]
  congr 1
  rw [List.drop_length_add_append, List.drop_drop, toks_all h, kp_append, kp_append, kp_A, kp_D, kp_K, List.append_nil, List.append_nil]
  rcases kind_cases h with ⟨n, hn, rfl⟩ | ⟨a, ha, rfl⟩ | ⟨n, hn, rfl⟩
  · show (s.drop (tIn (expand p))).take n ++ s.drop (tIn (expand p) + (n + 0)) = s.drop (tIn (expand p) + 0)
    rw [Nat.add_zero, Nat.add_zero, ← List.drop_drop, List.take_append_drop]
  · show (s.drop (tIn (expand p))).take 0 ++ s.drop (tIn (expand p) + (0 + 0)) = s.drop (tIn (expand p) + 0)
    simp
  · show (s.drop (tIn (expand p))).take 0 ++ s.drop (tIn (expand p) + (0 + n)) = s.drop (tIn (expand p) + n)
    simp

theorem T2_step {s : List UInt8} {p q : List Rn} {x : Rn} (h : kind x ≠ 0) (hl : tIn (expand p) + tIn (expand (x :: q)) ≤ s.length) :
    T2 s (p ++ [x]) q = (T2 s p (x :: q)).take (tOut (expand p)) ++ (x.add.data.toList ++ (T2 s p (x :: q)).drop (tOut (expand p))) ∧ tOut (expand p) ≤ (T2 s p (x :: q)).length ∧
    (T2 s p (x :: q)).length + x.add.size ≤ tOut (expand p) + tOut (expand (x :: q)) := by
  have ho : (applT s (expand p)).length = tOut (expand p) := applT_len (by omega)
  have hlx : tIn (expand (x :: q)) = tIn (toks x) + tIn (expand q) := by rw [expand_cons, tIn_append]
  have hk := kp_len s (expand q) (tIn (expand p) + tIn (toks x)) (by omega)
  have hto : tOut (expand (x :: q)) = tOut (toks x) + tOut (expand q) := by rw [expand_cons, tOut_append]
  have ht : tIn (toks x) = x.keep.toNat + x.drop.toNat := tIn_toks' h
  have e1 : T2 s p (x :: q) = applT s (expand p) ++ ((s.drop (tIn (expand p))).take x.keep.toNat ++ kp s (expand q) (tIn (expand p) + tIn (toks x))) := by
    rw [T2, expand_cons, kp_append, toks_all h, kp_append, kp_append, kp_A, kp_D, kp_K, List.append_nil, List.append_nil]
  have e2 : T2 s (p ++ [x]) q = applT s (expand p) ++ ((s.drop (tIn (expand p))).take x.keep.toNat ++ x.add.data.toList) ++ kp s (expand q) (tIn (expand p) + tIn (toks x)) := by
    rw [T2, expand_snoc, tIn_append, applT, ascan_append, af_run _ _ h, ascan_pos, ← applT]
  have hd : tOut (toks x) = x.keep.toNat + x.add.size := by
    rw [toks_all h, tOut_append, tOut_append, tOut_K, tOut_A, tOut_D, Array.length_toList]; rfl
  refine ⟨?_, by rw [e1, List.length_append, ho]; omega, ?_⟩
  · rw [e1, e2, ← ho, List.take_left, List.drop_left]
    rcases kind_cases h with ⟨n, hn, rfl⟩ | ⟨a, ha, rfl⟩ | ⟨n, hn, rfl⟩
    · simp [rK]
    · simp [rA]
    · simp [rD]
  · rw [e1, List.length_append, List.length_append, ho, List.length_take, List.length_drop]
    omega

theorem T1_nil (s : List UInt8) : T1 s [] = s := by simp [T1, expand, kp, tIn]
theorem T1_all {s : List UInt8} {rs : List Rn} (h : tIn (expand rs) = s.length) : T1 s rs = T2 s [] rs := by
  rw [T1, T2, h, List.drop_length, List.append_nil]; rfl
theorem T2_all (s : List UInt8) (rs : List Rn) : T2 s rs [] = applT s (expand rs) := by simp [T2, expand, kp]

end Go.Proofs.Ytpmijaplkbmbiaa.E
