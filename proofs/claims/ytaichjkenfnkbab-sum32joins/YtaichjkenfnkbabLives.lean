/- The chapter's examples hold of the program's sum. -/
import Derived.Test.YtaichjkenfnkbabSum
import Derived.Below
import Derived.KernelRfl
import Derived.Lib.SlBytesConst
namespace Go.Proofs.Ytaichjkenfnkbab
open Go.RowKit Go.By

theorem sum_nil : Crc.sum [] = 0 := by decide
theorem sum_nine : Crc.sum [49, 50, 51, 52, 53, 54, 55, 56, 57] = 3808858755 := by decide +kernel

set_option maxHeartbeats 400000 in
theorem lives_any (w : World) :
    Calls Try.prog 7 #[] w fun e w' => e = .returned (.bool true) ∧ Below w.heap.size w w' := by
  have kc := fun (w : World) (C : Array Value) (n c : Nat) => Lib.run_convert_bytes_const (P := Try.prog) w 22 5 C n c Try.underlying22 Try.underlying5
  go_enter Try.func7, Try.ntmps7
  go_wp2_with fail
  refine (sum_any none [] 0 w ⟨by simp, .inl rfl⟩ (by simp)).mono ?_
  rintro e w' ⟨rfl, rfl⟩
  rw [sum_nil]
  go_wp2_with fail
  refine (sum_any (some ⟨w'.heap.size, 0, none⟩) [49, 50, 51, 52, 53, 54, 55, 56, 57] 9 _ ⟨by simp, .inr ⟨_, _, rfl, ?_⟩⟩ (by simp)).mono ?_
  · intro i hi
    rw [World.cell?_alloc_mark]
    have : i = 0 ∨ i = 1 ∨ i = 2 ∨ i = 3 ∨ i = 4 ∨ i = 5 ∨ i = 6 ∨ i = 7 ∨ i = 8 := by simp at hi; omega
    rcases this with rfl | rfl | rfl | rfl | rfl | rfl | rfl | rfl | rfl <;> simp
  rintro e w1 ⟨rfl, rfl⟩
  rw [sum_nine]
  go_wp2
  go_ret
  exact ⟨rfl, (Below.refl _ _).alloc (Nat.le_refl _) _⟩
end Go.Proofs.Ytaichjkenfnkbab
