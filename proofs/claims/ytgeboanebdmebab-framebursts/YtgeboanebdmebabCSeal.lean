/- The sealed bytes of the program and of the document: the bytes, and their sum in four more. -/
import Derived.Test.YtgeboanebdmebabCClone
namespace Crc
def tail4 (s : Nat) : List Nat := [s % 256, s / 256 % 256, s / 65536 % 256, s / 16777216 % 256]
def sealed (l : List Nat) : List Nat := l ++ tail4 (sum l)
theorem tail4_small (s : Nat) : ∀ c ∈ tail4 s, c < 256 := by
  intro c hc
  simp [tail4] at hc
  omega
theorem tail4_take (s k : Nat) (h : k < 4) : (tail4 s).take (k + 1) = (tail4 s).take k ++ [s / 256 ^ k % 256] := by
  have : k = 0 ∨ k = 1 ∨ k = 2 ∨ k = 3 := by omega
  rcases this with rfl | rfl | rfl | rfl <;> simp [tail4]
theorem sealed_length (l : List Nat) : (sealed l).length = l.length + 4 := by simp [sealed, tail4]
end Crc
namespace Go.Proofs.Ytgeboanebdmebab.C
open Go.RowKit Go.By
set_option linter.unusedVariables false

theorem byte_of (s k : Nat) : ((s : Int) / 2 ^ (8 * k) % 256) = ((s / 256 ^ k % 256 : Nat) : Int) := by
  have e : (2 : Nat) ^ (8 * k) = 256 ^ k := by rw [Nat.pow_mul]
  rw [← e]
  simp

set_option maxHeartbeats 400000 in
theorem seal_any (a : Option Addr) (l : List Nat) (cap : Nat) (w : World) (hL : Came w.heap.size w a l) (hnil : a = none → l = [] ∧ cap = 0) (hm : l.length ≤ 100000) :
    Calls Try.prog 13 #[.slice a l.length cap] w fun e w' => ∃ v, e = .returned v ∧ Owns w' w.heap.size v (Crc.sealed l) ∧ Below w.heap.size w w' := by
  have HL := hide hL
  have HN := hide hnil
  clear hL hnil
  go_enter Try.func13, Try.ntmps13
  go_wp2_with fail
  refine (clone_any a l cap w HL.out HN.out (by omega)).mono ?_
  rintro e w1 ⟨v, rfl, hown, hbel⟩
  go_wp2_with fail
  refine (sum_any a l cap w1 (HL.out.below hbel).lies (by omega)).mono ?_
  rintro e w2 ⟨rfl, rfl⟩
  have hs := Crc.sum_lt HL.out.1
  generalize hS : Crc.sum l = s at *
  have HS := hide hS
  have HO := hide hown
  have HB := hide hbel
  clear hS hown hbel
  go_wp2_with fail
  go_loopw [3, 10] (fun v i wr => ∃ k : Nat, k ≤ 4 ∧ i = .int .i64 k ∧ Owns wr w.heap.size v (l ++ (Crc.tail4 s).take k) ∧ Below w.heap.size w wr) (fun _ i _ => 4 - (intOf i).toNat)
  case atStart => exact ⟨0, by omega, rfl, by simpa using HO.out, HB.out⟩
  case round =>
    obtain ⟨k, hk, rfl, hown, hbel⟩ := hrel
    have HO := hide hown
    have HB := hide hbel
    clear hown hbel
    by_cases hlt : k < 4
    · have hlen : (l ++ (Crc.tail4 s).take k).length ≤ 100004 := by simp [Crc.tail4]; omega
      go_wp2_with (at_builtin; refine wpList_append_byte rfl _ _ rfl Try.underlying27 Try.info5 w.heap.size _ _ rfl HO.out (s / 256 ^ k % 256) _ (byte_of s k) (Nat.mod_lt _ (by omega)) _ rfl rfl (by omega) HB.out.size ?_)
      intro v' w1 hown hgrow
      have hb1 : Below w.heap.size w w1 := Below.app (HB.out.alloc HB.out.size _) hgrow (HO.out.alloc _) (Nat.le_refl _) (by have := HB.out.size; simp; omega)
      have HO1 := hide hown
      have HB1 := hide hb1
      clear hown hb1 hgrow
      go_wp2
      go_roundw
      case rel =>
        refine ⟨k + 1, by omega, by go_num, ?_, HB1.out⟩
        rw [Crc.tail4_take s k hlt]
        exact HO1.out
      case measure => simp [intOf]; omega
    · go_wp2
      go_ret
      have : k = 4 := by omega
      subst this
      exact ⟨_, rfl, by have := HO.out; rw [← HS.out] at this; exact this, HB.out⟩

end Go.Proofs.Ytgeboanebdmebab.C
