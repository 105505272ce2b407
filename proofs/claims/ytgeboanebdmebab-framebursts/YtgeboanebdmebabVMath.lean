/- Numbers as bytes: digits to the base 128, the lowest first. Plain mathematics, without the program. -/
namespace Vary

def maxNum : Nat := 4611686018427387904

/-- The bytes of n, of at most f + 1 digits. -/
def putF : Nat → Nat → List Nat
  | 0, n => [n]
  | f + 1, n => if n < 128 then [n] else (n % 128 + 128) :: putF f (n / 128)

def put (n : Nat) : List Nat := putF 9 n

/-- What stands at the head of bytes: the number and how many bytes it has; i digits were read, their number is n. -/
def numF : Nat → Nat → Nat → List Nat → Option (Nat × Nat)
  | 0, _, _, _ => none
  | _ + 1, _, _, [] => none
  | f + 1, i, n, d :: r =>
    if 128 ≤ d then numF f (i + 1) (n + d % 128 * 128 ^ i) r
    else if (d = 0 ∧ 0 < i) ∨ maxNum < n + d % 128 * 128 ^ i then none
    else some (n + d % 128 * 128 ^ i, i + 1)

def num (l : List Nat) : Option (Nat × Nat) := numF 9 0 0 l

theorem putF_small (f n : Nat) (h : n < 128 ^ (f + 1)) : ∀ c ∈ putF f n, c < 256 := by
  induction f generalizing n with
  | zero => intro c hc; simp [putF] at hc; simp at h; omega
  | succ f ih =>
    intro c hc
    unfold putF at hc
    split at hc
    · simp at hc; omega
    · rcases List.mem_cons.1 hc with rfl | hc
      · have := Nat.mod_lt n (show 0 < 128 by omega); omega
      · refine ih (n / 128) ?_ c hc
        rw [Nat.pow_succ] at h
        exact Nat.div_lt_of_lt_mul (by rw [Nat.mul_comm]; exact h)

theorem max_lt : maxNum < 128 ^ 9 := by decide

theorem put_small {n : Nat} (h : n ≤ maxNum) : ∀ c ∈ put n, c < 256 := by
  refine putF_small 9 n (Nat.lt_of_le_of_lt h ?_)
  exact Nat.lt_of_lt_of_le max_lt (Nat.pow_le_pow_right (by omega) (by omega))

theorem putF_length (f n : Nat) : 1 ≤ (putF f n).length ∧ (putF f n).length ≤ f + 1 := by
  induction f generalizing n with
  | zero => simp [putF]
  | succ f ih =>
    unfold putF
    split
    · simp
    · have := ih (n / 128); simp; omega

theorem put_length (n : Nat) : 1 ≤ (put n).length ∧ (put n).length ≤ 10 := putF_length 9 n

/-- A round of the putting. -/
theorem putF_less (f n : Nat) (h : n < 128) : putF f n = [n] := by
  cases f with
  | zero => rfl
  | succ f => simp [putF, h]

theorem putF_more (f n : Nat) (h : 128 ≤ n) : putF (f + 1) n = (n % 128 + 128) :: putF f (n / 128) := by
  have : ¬ n < 128 := by omega
  simp [putF, this]

theorem numF_big (f i n : Nat) (l : List Nat) (h : maxNum < n) : numF f i n l = none := by
  induction f generalizing i n l with
  | zero => rfl
  | succ f ih =>
    cases l with
    | nil => rfl
    | cons d r =>
      have h2 : maxNum < n + d % 128 * 128 ^ i := by omega
      unfold numF
      split
      · exact ih _ _ _ h2
      · rw [if_pos (Or.inr h2)]

/-- What was put is read. -/
theorem numF_putF (f g i m n : Nat) (r : List Nat) (hf : n < 128 ^ (f + 1)) (hfg : f < g) (h : m + n * 128 ^ i ≤ maxNum) (h0 : n ≠ 0 ∨ i = 0) :
    numF g i m (putF f n ++ r) = some (m + n * 128 ^ i, i + (putF f n).length) := by
  induction f generalizing g i m n with
  | zero =>
    obtain ⟨g, rfl⟩ : ∃ k, g = k + 1 := ⟨g - 1, by omega⟩
    simp at hf
    show numF (g + 1) i m (n :: r) = some (m + n * 128 ^ i, i + 1)
    unfold numF
    have h1 : ¬ 128 ≤ n := by omega
    have h2 : n % 128 = n := Nat.mod_eq_of_lt hf
    rw [if_neg h1, h2, if_neg]
    omega
  | succ f ih =>
    obtain ⟨g, rfl⟩ : ∃ k, g = k + 1 := ⟨g - 1, by omega⟩
    by_cases hn : n < 128
    · rw [putF_less _ _ hn]
      show numF (g + 1) i m (n :: r) = some (m + n * 128 ^ i, i + 1)
      unfold numF
      have h1 : ¬ 128 ≤ n := by omega
      have h2 : n % 128 = n := Nat.mod_eq_of_lt hn
      rw [if_neg h1, h2, if_neg]
      omega
    · rw [putF_more f n (by omega)]
      show numF (g + 1) i m ((n % 128 + 128) :: (putF f (n / 128) ++ r)) = _
      unfold numF
      have h1 : 128 ≤ n % 128 + 128 := by omega
      have h2 : (n % 128 + 128) % 128 = n % 128 := by omega
      have h3 : n / 128 < 128 ^ (f + 1) := by
        rw [Nat.pow_succ] at hf
        exact Nat.div_lt_of_lt_mul (by rw [Nat.mul_comm]; exact hf)
      have h4 : m + n % 128 * 128 ^ i + n / 128 * 128 ^ (i + 1) = m + n * 128 ^ i := by
        have e : n = n % 128 + 128 * (n / 128) := by omega
        rw [Nat.pow_succ]
        generalize 128 ^ i = q
        generalize n / 128 = u at *
        generalize n % 128 = v at *
        subst e
        rw [Nat.add_mul, Nat.mul_comm q 128, ← Nat.mul_assoc, Nat.mul_comm u 128]
        omega
      rw [if_pos h1, h2, ih g (i + 1) (m + n % 128 * 128 ^ i) (n / 128) h3 (by omega) (by rw [h4]; exact h) (Or.inl (by omega)), h4]
      simp; omega

theorem num_put {n : Nat} (r : List Nat) (h : n ≤ maxNum) : num (put n ++ r) = some (n, (put n).length) := by
  unfold num put
  by_cases hn : n < 128 ^ 9
  · have e : putF 9 n = putF 8 n := by
      have key : ∀ f n, n < 128 ^ (f + 1) → putF (f + 1) n = putF f n := by
        intro f
        induction f with
        | zero => intro n h; simp at h; rw [putF_less _ _ h, putF_less _ _ h]
        | succ f ih =>
          intro n h
          by_cases hn : n < 128
          · rw [putF_less _ _ hn, putF_less _ _ hn]
          · rw [putF_more (f + 1) n (by omega), putF_more f n (by omega), ih]
            rw [Nat.pow_succ] at h
            exact Nat.div_lt_of_lt_mul (by rw [Nat.mul_comm]; exact h)
      exact key 8 n hn
    rw [e]
    have := numF_putF 8 9 0 0 n r hn (by omega) (by simpa using h) (Or.inr rfl)
    simpa using this
  · have := max_lt; omega

/-- What was read has just the bytes that are put of it. -/
theorem numF_back (f i m : Nat) (l : List Nat) (n k : Nat) (hl : ∀ c ∈ l, c < 256) (h : numF f i m l = some (n, k)) :
    ∃ u, n = m + u * 128 ^ i ∧ n ≤ maxNum ∧ i < k ∧ k ≤ i + f ∧ k - i ≤ l.length ∧ (∀ g, f ≤ g + 1 → putF g u = l.take (k - i)) ∧ (u ≠ 0 ∨ i = 0) := by
  induction f generalizing i m l with
  | zero => simp [numF] at h
  | succ f ih =>
    cases l with
    | nil => simp [numF] at h
    | cons d r =>
      have hd := hl d (by simp)
      unfold numF at h
      split at h
      · rename_i h1
        obtain ⟨u, h2, h3, h4, h5, h6, h7, h8⟩ := ih (i + 1) _ r (fun c hc => hl c (by simp [hc])) h
        have h8' : u ≠ 0 := by omega
        refine ⟨d % 128 + 128 * u, ?_, h3, by omega, by omega, by simp; omega, ?_, Or.inl (by omega)⟩
        · rw [h2, Nat.pow_succ]
          generalize 128 ^ i = q
          rw [Nat.add_mul, Nat.mul_comm q 128, ← Nat.mul_assoc, Nat.mul_comm u 128]
          omega
        · intro g hg
          obtain ⟨g, rfl⟩ : ∃ j, g = j + 1 := ⟨g - 1, by omega⟩
          rw [putF_more g _ (by omega)]
          have e1 : (d % 128 + 128 * u) % 128 + 128 = d := by omega
          have e2 : (d % 128 + 128 * u) / 128 = u := by omega
          have e3 : k - i = (k - (i + 1)) + 1 := by omega
          rw [e1, e2, e3, List.take_succ_cons, h7 g (by omega)]
      · rename_i h1
        split at h
        · simp at h
        · rename_i h2
          simp only [Option.some.injEq, Prod.mk.injEq] at h
          obtain ⟨rfl, rfl⟩ := h
          have e : d % 128 = d := Nat.mod_eq_of_lt (by omega)
          refine ⟨d, by rw [e], by omega, by omega, by omega, by simp, ?_, by omega⟩
          intro g _
          rw [putF_less _ _ (by omega)]
          have : i + 1 - i = 1 := by omega
          rw [this]; rfl

theorem num_back {l : List Nat} {n k : Nat} (hl : ∀ c ∈ l, c < 256) (h : num l = some (n, k)) : put n = l.take k ∧ n ≤ maxNum ∧ 0 < k ∧ k ≤ 9 ∧ k ≤ l.length := by
  obtain ⟨u, h1, h2, h3, h4, h5, h6, _⟩ := numF_back 9 0 0 l n k hl h
  simp at h1 h3 h4 h5
  subst h1
  exact ⟨by have := h6 9 (by omega); simpa [put] using this, h2, h3, h4, h5⟩

/-- The bytes of a number of any sign that is put as one from 0 to MaxNum; nothing of another. -/
def putI (z : Int) : List Nat := if 0 ≤ z ∧ z ≤ 4611686018427387904 then put z.toNat else []
/-- The bytes of a signed number; nothing of one beyond. -/
def putS (z : Int) : List Nat := if -2305843009213693952 ≤ z ∧ z ≤ 2305843009213693952 then (if z < 0 then put (2 * (0 - z) - 1).toNat else put (2 * z).toNat) else []
def putT (l : List Nat) : List Nat := put l.length ++ l
end Vary
