/- Bits that are turned within 32 side by side are found: plain mathematics, without the program. -/
import Derived.Test.YtgeboanebdmebabCLin
import Derived.Test.YtgeboanebdmebabCGd
namespace Crc

theorem bits_add (x m n : Nat) : bits x (m + n) = bits (bits x m) n := by
  induction n with
  | zero => rfl
  | succ n ih =>
    rw [← Nat.add_assoc]
    show bit1 (bits x (m + n)) = bit1 (bits (bits x m) n)
    rw [ih]

theorem xor_null {a b : Nat} (h : a ^^^ b = 0) : a = b := by
  have := congrArg (fun z => z ^^^ b) h
  simp only [Nat.xor_assoc, Nat.xor_self, Nat.xor_zero, Nat.zero_xor] at this
  exact this

theorem bits_zero (n : Nat) : bits 0 n = 0 := by
  induction n with
  | zero => rfl
  | succ n ih => show bit1 _ = 0; rw [ih]; decide

theorem bit1_double (y : Nat) : bit1 (2 * y) = y := by
  unfold bit1
  have h1 : 2 * y / 2 = y := by omega
  have h2 : 2 * y % 2 = 0 := by omega
  rw [h1, h2]; simp

theorem bits_pow (r y : Nat) : bits (2 ^ r * y) r = y := by
  induction r generalizing y with
  | zero => simp [bits]
  | succ r ih =>
    have e : 2 ^ (r + 1) * y = 2 ^ r * (2 * y) := by rw [Nat.pow_succ, Nat.mul_assoc]
    show bit1 (bits _ r) = y
    rw [e, ih, bit1_double]

theorem bit1_null {x : Nat} (h : x < 4294967296) (e : bit1 x = 0) : x = 0 := by
  unfold bit1 poly at e
  have e2 := xor_null e
  rcases Nat.mod_two_eq_zero_or_one x with m | m
  · rw [m] at e2; omega
  · rw [m] at e2; omega

theorem bits_null {x : Nat} (h : x < 4294967296) (n : Nat) (e : bits x n = 0) : x = 0 := by
  induction n with
  | zero => exact e
  | succ n ih => exact ih (bit1_null (bits_lt h n) e)

theorem bits_inj {x y : Nat} (hx : x < 4294967296) (hy : y < 4294967296) (n : Nat) (e : bits x n = bits y n) : x = y := by
  have : bits (x ^^^ y) n = 0 := by rw [bits_xor, e, Nat.xor_self]
  exact xor_null (bits_null (Nat.xor_lt_two_pow (n := 32) hx hy) n this)

theorem run_left (r : List Nat) (y z : Nat) : run (y ^^^ z) r = run y r ^^^ bits z (8 * r.length) := by
  induction r generalizing y z with
  | nil => rfl
  | cons c r ih =>
    show run (step _ _) r = run (step _ _) r ^^^ _
    have e : step (y ^^^ z) c = step y c ^^^ bits z 8 := by
      have := step_xor y z c 0
      rw [Nat.xor_zero] at this
      rw [this]; simp [step]
    rw [e, ih, ← bits_add]
    congr 2
    simp; omega

theorem run_flip (l : List Nat) (x j c : Nat) (h : j < l.length) : run x (l.set j (l.getD j 0 ^^^ c)) = run x l ^^^ bits c (8 * (l.length - j)) := by
  induction l generalizing x j with
  | nil => simp at h
  | cons d r ih =>
    cases j with
    | zero =>
      show run (step x (d ^^^ c)) r = run (step x d) r ^^^ _
      have e : step x (d ^^^ c) = step x d ^^^ bits c 8 := by
        have := step_xor x 0 d c
        rw [Nat.xor_zero] at this
        rw [this]; simp [step]
      rw [e, run_left, ← bits_add]
      congr 2
      simp; omega
    | succ j =>
      have h2 : j < r.length := by simpa using h
      have := ih (step x d) j h2
      show run (step x d) (r.set j (r.getD j 0 ^^^ c)) = run (step x d) r ^^^ _
      rw [this]
      congr 2
      simp

def val4 (a b c d : Nat) : Nat := a ^^^ 2 ^ 8 * (b ^^^ 2 ^ 8 * (c ^^^ 2 ^ 8 * d))

theorem run_four (x a b c d : Nat) : run x [a, b, c, d] = bits (x ^^^ val4 a b c d) 32 := by
  have key : ∀ y e z, bits (y ^^^ (e ^^^ 2 ^ 8 * z)) 8 = step y e ^^^ z := by
    intro y e z
    rw [← Nat.xor_assoc, bits_xor, bits_pow]; rfl
  unfold val4
  rw [show 32 = 8 + (8 + (8 + 8)) by decide, bits_add, key, bits_add, key, bits_add, key]
  rfl

theorem xor_mod8 (a z : Nat) (h : a < 256) : (a ^^^ 2 ^ 8 * z) % 256 = a ∧ (a ^^^ 2 ^ 8 * z) / 256 = z := by
  constructor
  · have := Nat.xor_mod_two_pow (a := a) (b := 2 ^ 8 * z) (n := 8)
    rw [show (2 : Nat) ^ 8 = 256 by decide] at this ⊢
    rw [this]
    have h1 : a % 256 = a := by omega
    have h2 : 256 * z % 256 = 0 := by omega
    rw [h1, h2, Nat.xor_zero]
  · have := Nat.xor_div_two_pow (a := a) (b := 2 ^ 8 * z) (n := 8)
    rw [show (2 : Nat) ^ 8 = 256 by decide] at this ⊢
    rw [this]
    have h1 : a / 256 = 0 := by omega
    have h2 : 256 * z / 256 = z := by omega
    rw [h1, h2, Nat.zero_xor]

theorem tail4_val (a b c d : Nat) (ha : a < 256) (hb : b < 256) (hc : c < 256) (hd : d < 256) : tail4 (val4 a b c d) = [a, b, c, d] ∧ val4 a b c d < 4294967296 := by
  have e1 := xor_mod8 a (b ^^^ 2 ^ 8 * (c ^^^ 2 ^ 8 * d)) ha
  have e2 := xor_mod8 b (c ^^^ 2 ^ 8 * d) hb
  have e3 := xor_mod8 c d hc
  unfold val4
  generalize c ^^^ 2 ^ 8 * d = y at *
  generalize b ^^^ 2 ^ 8 * y = z at *
  generalize a ^^^ 2 ^ 8 * z = u at *
  constructor
  · simp only [tail4, List.cons.injEq, and_true]
    omega
  · omega

theorem val4_tail (s : Nat) (h : s < 4294967296) : ∃ a b c d, tail4 s = [a, b, c, d] ∧ val4 a b c d = s := by
  refine ⟨_, _, _, _, rfl, ?_⟩
  have h1 := (tail4_val (s % 256) (s / 256 % 256) (s / 65536 % 256) (s / 16777216 % 256) (by omega) (by omega) (by omega) (by omega))
  have h2 := h1.1
  have h3 := h1.2
  generalize val4 (s % 256) (s / 256 % 256) (s / 65536 % 256) (s / 16777216 % 256) = u at *
  simp only [tail4, List.cons.injEq, and_true] at h2
  omega

theorem good_run (l : List Nat) (m : Nat) (h : l.length = m + 4) (hl : ∀ c ∈ l, c < 256) : Good l m ↔ run top l = bits top 32 := by
  have hx : run top (l.take m) < 4294967296 := run_lt _ (by decide) (fun c hc => hl c (List.mem_of_mem_take hc))
  have e : l = l.take m ++ l.drop m := (List.take_append_drop m l).symm
  have hd : (l.drop m).length = 4 := by simp; omega
  have hb : ∀ c ∈ l.drop m, c < 256 := fun c hc => hl c (List.mem_of_mem_drop hc)
  have er : run top l = run (run top (l.take m)) (l.drop m) := by rw [← run_append, ← e]
  rw [good_iff l m h]
  unfold sealed sum
  have e2 : (l.take m ++ tail4 (run top (l.take m) ^^^ top) = l) ↔ tail4 (run top (l.take m) ^^^ top) = l.drop m := by
    constructor
    · intro h1
      have h2 : l.take m ++ tail4 (run top (l.take m) ^^^ top) = l.take m ++ l.drop m := by rw [← e]; exact h1
      exact List.append_cancel_left h2
    · intro h1; rw [h1]; exact e.symm
  rw [e2, er]
  generalize run top (l.take m) = x at *
  generalize l.drop m = t at *
  match t, hd with
  | [a, b, c, d], _ =>
    have ha := hb a (by simp)
    have hb' := hb b (by simp)
    have hc := hb c (by simp)
    have hdd := hb d (by simp)
    have hv := tail4_val a b c d ha hb' hc hdd
    have hxt : x ^^^ top < 4294967296 := Nat.xor_lt_two_pow (n := 32) hx (by decide)
    rw [run_four]
    constructor
    · intro h1
      obtain ⟨a', b', c', d', h2, h3⟩ := val4_tail (x ^^^ top) hxt
      rw [h1] at h2
      simp only [List.cons.injEq, and_true] at h2
      obtain ⟨rfl, rfl, rfl, rfl⟩ := h2
      rw [h3, ← Nat.xor_assoc, Nat.xor_self, Nat.zero_xor]
    · intro h1
      have h2 : x ^^^ val4 a b c d = top := bits_inj (Nat.xor_lt_two_pow (n := 32) hx hv.2) (by decide) 32 h1
      have h3 : x ^^^ top = val4 a b c d := by rw [← h2, ← Nat.xor_assoc, Nat.xor_self, Nat.zero_xor]
      rw [h3, hv.1]

/-- One bit of the burst: the bit number p of N bytes. -/
theorem bits_one (N k i : Nat) (h : k + i < 8 * N) : bits (2 ^ ((k + i) % 8)) (8 * (N - (k + i) / 8)) = bits (2 ^ i) (8 * N - k) := by
  have e1 : 8 * (N - (k + i) / 8) = (k + i) % 8 + (8 * N - (k + i)) := by omega
  have e2 : 8 * N - k = i + (8 * N - (k + i)) := by omega
  rw [e1, e2, bits_add, bits_add]
  have p1 : bits (2 ^ ((k + i) % 8)) ((k + i) % 8) = 1 := by have := bits_pow ((k + i) % 8) 1; rwa [Nat.mul_one] at this
  have p2 : bits (2 ^ i) i = 1 := by have := bits_pow i 1; rwa [Nat.mul_one] at this
  rw [p1, p2]

theorem mod_next (t i : Nat) : t % 2 ^ (i + 1) = (t % 2 ^ i) ^^^ (2 ^ i * (t / 2 ^ i % 2)) := by
  apply Nat.eq_of_testBit_eq
  intro j
  rw [Nat.testBit_xor, Nat.testBit_mod_two_pow, Nat.testBit_mod_two_pow, Nat.testBit_two_pow_mul]
  by_cases h1 : j < i
  · have : ¬ i ≤ j := by omega
    have h2 : j < i + 1 := by omega
    simp [h1, this, h2]
  · by_cases h2 : j = i
    · subst h2
      simp [Nat.testBit_eq_decide_div_mod_eq]
    · have h3 : ¬ j < i + 1 := by omega
      have h4 : i ≤ j := by omega
      have h5 : (t / 2 ^ i % 2).testBit (j - i) = false := by
        apply Nat.testBit_lt_two_pow
        have : t / 2 ^ i % 2 < 2 := Nat.mod_lt _ (by omega)
        have : 2 ^ 1 ≤ 2 ^ (j - i) := Nat.pow_le_pow_right (by omega) (by omega)
        omega
      simp [h1, h3, h4, h5]

/-- A burst is found. -/
theorem burst_found (s s' : List Nat) (m k t : Nat) (hs : s.length = m + 4) (hs' : s'.length = m + 4) (b : ∀ c ∈ s, c < 256) (b' : ∀ c ∈ s', c < 256) (ht : t < 4294967296) (h0 : t ≠ 0)
    (g : Good s m) (h : run top s' = run top s ^^^ bits t (8 * (m + 4) - k)) : ¬ Good s' m := by
  intro g'
  rw [good_run s m hs b] at g
  rw [good_run s' m hs' b', h, g] at g'
  have : bits t (8 * (m + 4) - k) = 0 := by
    have h2 := congrArg (fun z => bits top 32 ^^^ z) g'
    simp only [← Nat.xor_assoc, Nat.xor_self, Nat.zero_xor] at h2
    exact h2
  exact h0 (bits_null ht _ this)

end Crc
