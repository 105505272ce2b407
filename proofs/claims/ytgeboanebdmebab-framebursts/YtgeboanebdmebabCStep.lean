/- The program's step of a byte and the document's are one and the same function of plain numbers. -/
import Derived.Test.YtgeboanebdmebabChecked
import Derived.Test.YtgeboanebdmebabCMath
import Derived.Test.YtgeboanebdmebabBytes
namespace Go.Proofs.Ytgeboanebdmebab.C
open Go.RowKit Go.By

theorem mul_bit (y : Nat) : (2197175160 * ((y % 2 : Nat) : Int)) % 4294967296 = ((Crc.poly * (y % 2) : Nat) : Int) := by
  have : y % 2 < 2 := Nat.mod_lt _ (by omega)
  unfold Crc.poly
  omega

theorem bit1_walk (y : Nat) (h : y < 4294967296) :
    bits BinOp.xor IntKind.u32 ((y : Int) / 2) (2197175160 * bits BinOp.and IntKind.u32 (y : Int) 1 % 4294967296) = ((Crc.bit1 y : Nat) : Int) := by
  have e1 : bits BinOp.and IntKind.u32 (y : Int) 1 = ((y % 2 : Nat) : Int) := by
    have := u32_and_nat y 1 h (by omega)
    rw [nat_mask1] at this
    exact this
  rw [e1, mul_bit]
  have h2 : y % 2 < 2 := Nat.mod_lt _ (by omega)
  have e2 : ((y : Int) / 2) = ((y / 2 : Nat) : Int) := by omega
  rw [e2, u32_xor_nat (y / 2) (Crc.poly * (y % 2)) (by omega) (by unfold Crc.poly; omega)]
  rfl

theorem bit1_ref0 (y : Nat) (h2 : ((y : Int) % 2 == 1) = false) : ((y : Int) / 2) = ((Crc.bit1 y : Nat) : Int) := by
  have h3 : y % 2 = 0 := by have := beq_eq_false_iff_ne.1 h2; omega
  unfold Crc.bit1
  rw [h3]; simp

theorem bit1_ref1 (y : Nat) (h : y < 4294967296) (h2 : ((y : Int) % 2 == 1) = true) :
    bits BinOp.xor IntKind.u32 ((y : Int) / 2) 2197175160 = ((Crc.bit1 y : Nat) : Int) := by
  have h3 : y % 2 = 1 := by have := beq_iff_eq.1 h2; omega
  have := u32_xor_nat (y / 2) 2197175160 (by omega) (by omega)
  unfold Crc.bit1 Crc.poly
  rw [h3]
  exact this

set_option maxHeartbeats 400000 in
theorem step_any (x c : Nat) (w : World) (hx : x < 4294967296) (hc : c < 256) :
    Calls Try.prog 34 #[.int .u32 x, .int .u8 c] w fun e w' => e = .returned (.int .u32 (Crc.step x c)) ∧ w' = w := by
  have hxc : bits BinOp.xor IntKind.u32 (x : Int) (c : Int) = ((x ^^^ c : Nat) : Int) := u32_xor_nat x c hx (by omega)
  have H := hide hxc
  clear hxc
  go_enter Try.func34, Try.ntmps34
  go_wp2
  go_loop [0, 10] (fun t i => ∃ k : Nat, k ≤ 8 ∧ i = .int .i64 k ∧ t = .int .u32 (Crc.bits (x ^^^ c) k)) (fun _ i => 8 - (intOf i).toNat)
  case atStart => exact ⟨0, Nat.zero_le _, rfl, by rw [H.out]; rfl⟩
  case round =>
    obtain ⟨k, hk, rfl, rfl⟩ := hrel
    have hb := Crc.bits_lt (x := x ^^^ c) (Nat.xor_lt_two_pow (n := 32) hx (by omega)) k
    generalize hy : Crc.bits (x ^^^ c) k = y at *
    have HY := hide hy
    clear hy
    by_cases hlt : k < 8
    · go_wp2
      go_round
      case rel => exact ⟨k + 1, by omega, by go_num, by rw [bit1_walk y hb, ← HY.out]; rfl⟩
      case measure => simp [intOf]; omega
    · go_wp2
      go_ret
      have h8 : k = 8 := by omega
      subst h8
      exact ⟨ret_int (by rw [← HY.out]; rfl), rfl⟩

end Go.Proofs.Ytgeboanebdmebab.C
