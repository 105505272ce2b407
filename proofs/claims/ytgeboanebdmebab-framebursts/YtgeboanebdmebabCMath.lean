/- The plain mathematics of the sum of 32 bits: steps on natural numbers below 2^32, without the program. -/
namespace Crc

def poly : Nat := 2197175160
def top : Nat := 4294967295

def bit1 (x : Nat) : Nat := (x / 2) ^^^ (poly * (x % 2))

def bits (x : Nat) : Nat → Nat
  | 0 => x
  | n + 1 => bit1 (bits x n)

def step (x c : Nat) : Nat := bits (x ^^^ c) 8

def run (x : Nat) : List Nat → Nat
  | [] => x
  | c :: r => run (step x c) r

def sum (l : List Nat) : Nat := run top l ^^^ top

theorem bit1_lt {x : Nat} (h : x < 4294967296) : bit1 x < 4294967296 := by
  unfold bit1 poly
  refine Nat.xor_lt_two_pow (n := 32) (by omega) ?_
  have : x % 2 < 2 := Nat.mod_lt _ (by omega)
  omega

theorem bits_lt {x : Nat} (h : x < 4294967296) (n : Nat) : bits x n < 4294967296 := by
  induction n with
  | zero => exact h
  | succ n ih => exact bit1_lt ih

theorem step_lt {x c : Nat} (h : x < 4294967296) (hc : c < 4294967296) : step x c < 4294967296 :=
  bits_lt (Nat.xor_lt_two_pow (n := 32) h hc) 8

theorem run_lt {x : Nat} (l : List Nat) (h : x < 4294967296) (hl : ∀ c ∈ l, c < 256) : run x l < 4294967296 := by
  induction l generalizing x with
  | nil => exact h
  | cons c r ih => exact ih (step_lt h (by have := hl c (by simp); omega)) (fun d hd => hl d (by simp [hd]))

theorem sum_lt {l : List Nat} (hl : ∀ c ∈ l, c < 256) : sum l < 4294967296 :=
  Nat.xor_lt_two_pow (n := 32) (run_lt l (by decide) hl) (by decide)

theorem run_append (x : Nat) (l m : List Nat) : run x (l ++ m) = run (run x l) m := by
  induction l generalizing x with
  | nil => rfl
  | cons c r ih => exact ih _

theorem run_snoc (x : Nat) (l : List Nat) (c : Nat) : run x (l ++ [c]) = step (run x l) c := by
  rw [run_append]; rfl

end Crc
