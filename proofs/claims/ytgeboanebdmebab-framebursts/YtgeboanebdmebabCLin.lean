/- Steps go through a xor: the sum of the xor of three lists of one length is the xor of their sums. -/
import Derived.Test.YtgeboanebdmebabCMath
namespace Crc

theorem xor_half (x y : Nat) : (x ^^^ y) / 2 = (x / 2) ^^^ (y / 2) := by
  apply Nat.eq_of_testBit_eq; intro i
  simp [Nat.testBit_div_two, Nat.testBit_xor]

theorem xor_odd (x y : Nat) : (x ^^^ y) % 2 = (x % 2 + y % 2) % 2 := by
  have h : (x ^^^ y).testBit 0 = (x.testBit 0 ^^ y.testBit 0) := Nat.testBit_xor ..
  simp only [Nat.testBit_zero] at h
  rcases Nat.mod_two_eq_zero_or_one x with a | a <;> rcases Nat.mod_two_eq_zero_or_one y with b | b <;> rcases Nat.mod_two_eq_zero_or_one (x ^^^ y) with c | c <;> simp [a, b, c] at h ⊢

theorem poly_odd (x y : Nat) : poly * ((x ^^^ y) % 2) = (poly * (x % 2)) ^^^ (poly * (y % 2)) := by
  rw [xor_odd]
  rcases Nat.mod_two_eq_zero_or_one x with h | h <;> rcases Nat.mod_two_eq_zero_or_one y with k | k <;> simp [h, k]

theorem xor4 (a b c d : Nat) : (a ^^^ b) ^^^ (c ^^^ d) = (a ^^^ c) ^^^ (b ^^^ d) := by
  rw [Nat.xor_assoc, Nat.xor_assoc, ← Nat.xor_assoc b c d, Nat.xor_comm b c, Nat.xor_assoc c b d]

theorem bit1_xor (x y : Nat) : bit1 (x ^^^ y) = bit1 x ^^^ bit1 y := by
  unfold bit1
  rw [xor_half, poly_odd, xor4]

theorem bits_xor (x y : Nat) (n : Nat) : bits (x ^^^ y) n = bits x n ^^^ bits y n := by
  induction n with
  | zero => rfl
  | succ n ih => show bit1 _ = bit1 _ ^^^ bit1 _; rw [ih, bit1_xor]

theorem step_xor (x y c d : Nat) : step (x ^^^ y) (c ^^^ d) = step x c ^^^ step y d := by
  unfold step
  rw [xor4, bits_xor]

def xorL : List Nat → List Nat → List Nat
  | a :: l, b :: m => (a ^^^ b) :: xorL l m
  | _, _ => []

theorem run_xor (l m : List Nat) (h : l.length = m.length) (x y : Nat) : run (x ^^^ y) (xorL l m) = run x l ^^^ run y m := by
  induction l generalizing m x y with
  | nil => cases m with
    | nil => rfl
    | cons b m => simp at h
  | cons a l ih => cases m with
    | nil => simp at h
    | cons b m => show run (step _ _) _ = _; rw [step_xor, ih m (by simpa using h)]; rfl

theorem xorL_length (l m : List Nat) (h : l.length = m.length) : (xorL l m).length = l.length := by
  induction l generalizing m with
  | nil => cases m <;> rfl
  | cons a l ih => cases m with
    | nil => simp at h
    | cons b m => simp [xorL, ih m (by simpa using h)]

theorem xorL_getD (l m : List Nat) (h : l.length = m.length) (i : Nat) : (xorL l m).getD i 0 = l.getD i 0 ^^^ m.getD i 0 := by
  induction l generalizing m i with
  | nil => cases m with
    | nil => simp [xorL]
    | cons b m => simp at h
  | cons a l ih => cases m with
    | nil => simp at h
    | cons b m => cases i with
      | zero => rfl
      | succ i => have := ih m (by simpa using h) i; simpa [xorL] using this

theorem sum_three (a b c : List Nat) (h1 : a.length = b.length) (h2 : b.length = c.length) :
    sum (xorL (xorL a b) c) = (sum a ^^^ sum b) ^^^ sum c := by
  have e : run ((top ^^^ top) ^^^ top) (xorL (xorL a b) c) = (run top a ^^^ run top b) ^^^ run top c := by
    rw [run_xor _ _ (by rw [xorL_length _ _ h1]; omega), run_xor _ _ h1]
  rw [show (top ^^^ top) ^^^ top = top by decide] at e
  unfold sum
  rw [e]
  generalize run top a = x
  generalize run top b = y
  generalize run top c = z
  apply Nat.eq_of_testBit_eq; intro i
  simp only [Nat.testBit_xor]
  cases x.testBit i <;> cases y.testBit i <;> cases z.testBit i <;> cases top.testBit i <;> rfl

end Crc
