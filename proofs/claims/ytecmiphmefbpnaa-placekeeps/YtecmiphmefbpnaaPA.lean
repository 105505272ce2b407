/- Where a place is behind an edit, byte by byte. -/
import Derived.Test.YtecmiphmefbpnaaUB
namespace Go.Proofs.Ytecmiphmefbpnaa.E
open Go.Proofs.Ytecmiphmefbpnaa Go.RowKit Go.By Go.Shelf
set_option linter.unusedVariables false

/-- Where a place is, with what is added there or without. -/
def tMv : List Tok → Nat → Bool → Nat
  | [], _, _ => 0
  | .A _ :: ts, n, b => if n = 0 ∧ b = false then 0 else 1 + tMv ts n b
  | .K :: ts, n, b => if n = 0 then 0 else 1 + tMv ts (n - 1) b
  | .D :: ts, n, b => if n = 0 then 0 else tMv ts (n - 1) b

theorem mv_first (ts : List Tok) : tMv ts 0 false = 0 := by cases ts with
  | nil => rfl
  | cons t ts => cases t <;> simp [tMv]

theorem mv_past (xs ys : List Tok) : ∀ (n : Nat) (b : Bool), tIn xs < n ∨ (tIn xs = n ∧ b = true) → tMv (xs ++ ys) n b = tOut xs + tMv ys (n - tIn xs) b := by
  induction xs with
  | nil => intro n b h; simp [tIn, tOut]
  | cons t xs ih =>
    intro n b h
    cases t with
    | A c =>
      have h' : tIn xs < n ∨ (tIn xs = n ∧ b = true) := h
      have hn : ¬ (n = 0 ∧ b = false) := by rintro ⟨rfl, rfl⟩; rcases h' with h' | h' <;> simp at h'
      show (if n = 0 ∧ b = false then 0 else 1 + tMv (xs ++ ys) n b) = (tOut xs + 1) + tMv ys (n - tIn xs) b
      rw [if_neg hn, ih n b h']; omega
    | K =>
      have h' : tIn xs + 1 < n ∨ (tIn xs + 1 = n ∧ b = true) := h
      have hn : ¬ n = 0 := by rcases h' with h' | h' <;> omega
      show (if n = 0 then 0 else 1 + tMv (xs ++ ys) (n - 1) b) = (tOut xs + 1) + tMv ys (n - (tIn xs + 1)) b
      rw [if_neg hn, ih (n - 1) b (by rcases h' with h' | h'; exact .inl (by omega); exact .inr ⟨by omega, h'.2⟩), Nat.sub_sub, Nat.add_comm 1 (tIn xs)]; omega
    | D =>
      have h' : tIn xs + 1 < n ∨ (tIn xs + 1 = n ∧ b = true) := h
      have hn : ¬ n = 0 := by rcases h' with h' | h' <;> omega
      show (if n = 0 then 0 else tMv (xs ++ ys) (n - 1) b) = tOut xs + tMv ys (n - (tIn xs + 1)) b
      rw [if_neg hn, ih (n - 1) b (by rcases h' with h' | h'; exact .inl (by omega); exact .inr ⟨by omega, h'.2⟩), Nat.sub_sub, Nat.add_comm 1 (tIn xs)]

theorem mv_stop (xs ys : List Tok) : ∀ (n : Nat) (b : Bool), n < tIn xs ∨ (n = tIn xs ∧ b = false) → tMv (xs ++ ys) n b = tMv xs n b := by
  induction xs with
  | nil =>
    intro n b h
    have h' : n < 0 ∨ (n = 0 ∧ b = false) := h
    obtain ⟨rfl, rfl⟩ : n = 0 ∧ b = false := by rcases h' with h' | h'; omega; exact h'
    rw [mv_first, mv_first]
  | cons t xs ih =>
    intro n b h
    cases t with
    | A c =>
      have h' : n < tIn xs ∨ (n = tIn xs ∧ b = false) := h
      show (if n = 0 ∧ b = false then 0 else 1 + tMv (xs ++ ys) n b) = (if n = 0 ∧ b = false then 0 else 1 + tMv xs n b)
      rw [ih n b h']
    | K =>
      have h' : n < tIn xs + 1 ∨ (n = tIn xs + 1 ∧ b = false) := h
      show (if n = 0 then 0 else 1 + tMv (xs ++ ys) (n - 1) b) = (if n = 0 then 0 else 1 + tMv xs (n - 1) b)
      by_cases hn : n = 0
      · rw [if_pos hn, if_pos hn]
      · rw [if_neg hn, if_neg hn, ih (n - 1) b (by rcases h' with h' | h'; exact .inl (by omega); exact .inr ⟨by omega, h'.2⟩)]
    | D =>
      have h' : n < tIn xs + 1 ∨ (n = tIn xs + 1 ∧ b = false) := h
      show (if n = 0 then 0 else tMv (xs ++ ys) (n - 1) b) = (if n = 0 then 0 else tMv xs (n - 1) b)
      by_cases hn : n = 0
      · rw [if_pos hn, if_pos hn]
      · rw [if_neg hn, if_neg hn, ih (n - 1) b (by rcases h' with h' | h'; exact .inl (by omega); exact .inr ⟨by omega, h'.2⟩)]

theorem mv_K (k : Nat) : ∀ (n : Nat) (b : Bool), tMv (List.replicate k .K) n b = min n k := by
  induction k with
  | zero => intro n b; simp [tMv]
  | succ k ih =>
    intro n b
    rw [List.replicate_succ]
    show (if n = 0 then 0 else 1 + tMv (List.replicate k .K) (n - 1) b) = min n (k + 1)
    by_cases hn : n = 0
    · rw [if_pos hn]; omega
    · rw [if_neg hn, ih]; omega
theorem mv_D (k : Nat) : ∀ (n : Nat) (b : Bool), tMv (List.replicate k .D) n b = 0 := by
  induction k with
  | zero => intro n b; simp [tMv]
  | succ k ih =>
    intro n b
    rw [List.replicate_succ]
    show (if n = 0 then 0 else tMv (List.replicate k .D) (n - 1) b) = 0
    rw [ih]; simp
theorem mv_A (l : List UInt8) (n : Nat) (b : Bool) (h : ¬ (n = 0 ∧ b = false)) : tMv (l.map .A) n b = l.length := by
  induction l with
  | nil => rfl
  | cons c l ih =>
    show (if n = 0 ∧ b = false then 0 else 1 + tMv (l.map .A) n b) = l.length + 1
    rw [if_neg h, ih]; omega

theorem mv_le (ts : List Tok) : ∀ (n : Nat) (b : Bool), tMv ts n b ≤ tOut ts := by
  induction ts with
  | nil => intro n b; exact Nat.zero_le _
  | cons t ts ih =>
    intro n b
    cases t with
    | A c => show (if n = 0 ∧ b = false then 0 else 1 + tMv ts n b) ≤ tOut ts + 1; have := ih n b; split <;> omega
    | K => show (if n = 0 then 0 else 1 + tMv ts (n - 1) b) ≤ tOut ts + 1; have := ih (n - 1) b; split <;> omega
    | D => show (if n = 0 then 0 else tMv ts (n - 1) b) ≤ tOut ts; have := ih (n - 1) b; split <;> omega
theorem mv_up (ts : List Tok) : ∀ (n m : Nat) (b c : Bool), n < m ∨ (n = m ∧ (b = true → c = true)) → tMv ts n b ≤ tMv ts m c := by
  induction ts with
  | nil => intro n m b c h; exact Nat.le_refl _
  | cons t ts ih =>
    intro n m b c h
    cases t with
    | A x =>
      show (if n = 0 ∧ b = false then 0 else 1 + tMv ts n b) ≤ (if m = 0 ∧ c = false then 0 else 1 + tMv ts m c)
      have := ih n m b c h
      by_cases h1 : n = 0 ∧ b = false
      · rw [if_pos h1]; exact Nat.zero_le _
      · rw [if_neg h1, if_neg (by
          rintro ⟨rfl, rfl⟩
          rcases h with h | ⟨rfl, h⟩
          · omega
          · cases b with
            | true => cases h rfl
            | false => exact h1 ⟨rfl, rfl⟩)]
        omega
    | K =>
      show (if n = 0 then 0 else 1 + tMv ts (n - 1) b) ≤ (if m = 0 then 0 else 1 + tMv ts (m - 1) c)
      by_cases h1 : n = 0
      · rw [if_pos h1]; exact Nat.zero_le _
      · have hm : ¬ m = 0 := by rcases h with h | h <;> omega
        rw [if_neg h1, if_neg hm]
        have := ih (n - 1) (m - 1) b c (by rcases h with h | h; exact .inl (by omega); exact .inr ⟨by omega, h.2⟩)
        omega
    | D =>
      show (if n = 0 then 0 else tMv ts (n - 1) b) ≤ (if m = 0 then 0 else tMv ts (m - 1) c)
      by_cases h1 : n = 0
      · rw [if_pos h1]; exact Nat.zero_le _
      · have hm : ¬ m = 0 := by rcases h with h | h <;> omega
        rw [if_neg h1, if_neg hm]
        exact ih (n - 1) (m - 1) b c (by rcases h with h | h; exact .inl (by omega); exact .inr ⟨by omega, h.2⟩)
theorem mv_last (ts : List Tok) : tMv ts (tIn ts) true = tOut ts := by
  have := mv_past ts [] (tIn ts) true (.inr ⟨rfl, rfl⟩)
  rw [List.append_nil] at this
  rw [this]; simp [tMv]

/-- What is added ahead of each byte, and behind the last one: how many bytes. -/
def aT : List Tok → List Nat
  | [] => [0]
  | .A _ :: ts => match aT ts with
    | [] => []
    | h :: t => (h + 1) :: t
  | .K :: ts => 0 :: aT ts
  | .D :: ts => 0 :: aT ts
/-- Which bytes are dropped. -/
def dT : List Tok → List Bool
  | [] => []
  | .A _ :: ts => dT ts
  | .K :: ts => false :: dT ts
  | .D :: ts => true :: dT ts
theorem aT_ne (ts : List Tok) : ∃ h t, aT ts = h :: t := by
  induction ts with
  | nil => exact ⟨_, _, rfl⟩
  | cons t ts ih =>
    obtain ⟨h, u, e⟩ := ih
    cases t with
    | A c => exact ⟨h + 1, u, by rw [aT, e]⟩
    | K => exact ⟨0, aT ts, rfl⟩
    | D => exact ⟨0, aT ts, rfl⟩
theorem aT_A (c : UInt8) (ts : List Tok) {h : Nat} {t : List Nat} (e : aT ts = h :: t) : aT (.A c :: ts) = (h + 1) :: t := by rw [aT, e]
theorem aT_len (ts : List Tok) : (aT ts).length = tIn ts + 1 := by
  induction ts with
  | nil => rfl
  | cons t ts ih =>
    cases t with
    | A c => obtain ⟨h, u, e⟩ := aT_ne ts; rw [aT_A c ts e]; rw [e] at ih; exact ih
    | K => show (0 :: aT ts).length = _; rw [List.length_cons, ih]; rfl
    | D => show (0 :: aT ts).length = _; rw [List.length_cons, ih]; rfl
theorem dT_len (ts : List Tok) : (dT ts).length = tIn ts := by
  induction ts with
  | nil => rfl
  | cons t ts ih =>
    cases t with
    | A c => exact ih
    | K => show (false :: dT ts).length = _; rw [List.length_cons, ih]; rfl
    | D => show (true :: dT ts).length = _; rw [List.length_cons, ih]; rfl

/-- How many bytes are there ahead of the n-th one, but for what is added just ahead of it. -/
def mvS (A : List Nat) (D : List Bool) : Nat → Nat
  | 0 => 0
  | n + 1 => mvS A D n + (A.getD n 0 + if D.getD n false = true then 0 else 1)
def mvL (A : List Nat) (D : List Bool) (n : Nat) (b : Bool) : Nat := mvS A D n + if b = true then A.getD n 0 else 0
theorem mvS_cons (a : Nat) (d : Bool) (A : List Nat) (D : List Bool) : ∀ n, mvS (a :: A) (d :: D) (n + 1) = a + (if d = true then 0 else 1) + mvS A D n := by
  intro n
  induction n with
  | zero => simp [mvS]
  | succ n ih => rw [mvS, ih, mvS]; simp only [List.getD_cons_succ]; omega
theorem mvS_head (h k : Nat) (t : List Nat) (D : List Bool) : ∀ n, mvS ((h + k) :: t) D (n + 1) = k + mvS (h :: t) D (n + 1) := by
  intro n
  induction n with
  | zero => simp [mvS]; omega
  | succ n ih =>
    show mvS ((h + k) :: t) D (n + 1) + (((h + k) :: t).getD (n + 1) 0 + if D.getD (n + 1) false = true then 0 else 1) = k + (mvS (h :: t) D (n + 1) + ((h :: t).getD (n + 1) 0 + if D.getD (n + 1) false = true then 0 else 1))
    rw [ih]; simp only [List.getD_cons_succ]; omega
theorem mv_lists (ts : List Tok) : ∀ (n : Nat) (b : Bool), n ≤ tIn ts → tMv ts n b = mvL (aT ts) (dT ts) n b := by
  induction ts with
  | nil =>
    intro n b h
    obtain rfl : n = 0 := by have : tIn [] = 0 := rfl; omega
    cases b <;> rfl
  | cons t ts ih =>
    intro n b h
    cases t with
    | A c =>
      obtain ⟨x, u, e⟩ := aT_ne ts
      have h' : n ≤ tIn ts := h
      have := ih n b h'
      rw [aT_A c ts e]
      show (if n = 0 ∧ b = false then 0 else 1 + tMv ts n b) = mvL ((x + 1) :: u) (dT ts) n b
      rw [e] at this
      rw [this]
      unfold mvL
      cases n with
      | zero => cases b <;> simp [mvS]; omega
      | succ n => rw [if_neg (by omega), mvS_head]; simp only [List.getD_cons_succ]; omega
    | K =>
      show (if n = 0 then 0 else 1 + tMv ts (n - 1) b) = mvL (0 :: aT ts) (false :: dT ts) n b
      unfold mvL
      cases n with
      | zero => cases b <;> simp [mvS]
      | succ n =>
        have h' : n ≤ tIn ts := by have : n + 1 ≤ tIn ts + 1 := h; omega
        have := ih n b h'
        unfold mvL at this
        rw [if_neg (by omega), mvS_cons, Nat.add_sub_cancel, this]; simp only [List.getD_cons_succ]; simp; omega
    | D =>
      show (if n = 0 then 0 else tMv ts (n - 1) b) = mvL (0 :: aT ts) (true :: dT ts) n b
      unfold mvL
      cases n with
      | zero => cases b <;> simp [mvS]
      | succ n =>
        have h' : n ≤ tIn ts := by have : n + 1 ≤ tIn ts + 1 := h; omega
        have := ih n b h'
        unfold mvL at this
        rw [if_neg (by omega), mvS_cons, Nat.add_sub_cancel, this]; simp only [List.getD_cons_succ]; simp

end Go.Proofs.Ytecmiphmefbpnaa.E
