/- compose: a part of a run. -/
import Derived.Test.YtpmijaplkbmbiaaWB
import Derived.IntWalk
namespace Go.Proofs.Ytpmijaplkbmbiaa.E
open Go.Proofs.Ytpmijaplkbmbiaa Go.RowKit Go.By Go.Shelf
set_option linter.unusedVariables false
set_option linter.unusedSimpArgs false

/-- What a run does with its bytes from f on, ahead of t. -/
def pcR (x : Rn) (f t : Nat) : Rn := if 0 < x.keep then ⟨(t : Int) - f, ⟨#[]⟩, 0⟩ else if 0 < x.drop then ⟨0, ⟨#[]⟩, (t : Int) - f⟩ else ⟨0, x.add.extract f t, 0⟩

set_option maxRecDepth 20000 in
set_option maxHeartbeats 4000000 in
theorem part_any (x : Rn) (f t : Nat) (W : World) (hft : f ≤ t) (ht : t ≤ 1000000000) (ha : x.keep ≤ 0 → x.drop ≤ 0 → t ≤ x.add.size) :
    Calls Try.prog 143 #[x.val, .int .i64 (f : Int), .int .i64 (t : Int)] W fun e W' => e = .returned (pcR x f t).val ∧ Below W.heap.size W W' := by
  obtain ⟨k, a, d⟩ := x
  have hB : ∀ (c0 c1 : Array Value), Below W.heap.size W (((W.alloc (.cells c0 91)).alloc (.cells c1 91))) := fun c0 c1 =>
    (((Below.refl _ W).alloc (Nat.le_refl _) _).alloc (by simp) _)
  have hq : ∀ (c0 : Array Value) (x y z : Value), (((W.alloc (.cells c0 91)).alloc (.cells #[x, y, z] 91))).heap[W.heap.size + 1]? = some (.cells #[x, y, z] 91 (0, 0)) := fun c0 x y z => by
    have := World.alloc_heap_new (W.alloc (.cells c0 91)) (.cells #[x, y, z] 91)
    simpa using this
  have hw : wrap64 ((t : Int) - (f : Int)) = (t : Int) - f := by unfold wrap64; omega
  have HW := hide hw
  clear hw
  unfold Rn.val
  go_enter Try.func143, Try.ntmps143
  by_cases h1 : 0 < k
  · have HR : Hid (pcR ⟨k, a, d⟩ f t = ⟨(t : Int) - f, ⟨#[]⟩, 0⟩) := hide (by simp [pcR, h1])
    clear ha hft ht
    go_wp2
    rw [HW.out]
    refine ⟨rfl, .agg #[.int .i64 ((t : Int) - f), .string ⟨#[]⟩, .int .i64 0], ?_, by rw [HR.out], hB _ _⟩
    obtain ⟨q0, q1, q2⟩ := cellsq (hq #[.int .i64 k, .string a, .int .i64 d] (.int .i64 ((t : Int) - f)) (.string ⟨#[]⟩) (.int .i64 0))
    simp [results, Try.f143, go_sem, q0, q1, q2]
  · by_cases h2 : 0 < d
    · have HR : Hid (pcR ⟨k, a, d⟩ f t = ⟨0, ⟨#[]⟩, (t : Int) - f⟩) := hide (by simp [pcR, h1, h2])
      clear ha hft ht
      go_wp2
      rw [HW.out]
      refine ⟨rfl, .agg #[.int .i64 0, .string ⟨#[]⟩, .int .i64 ((t : Int) - f)], ?_, by rw [HR.out], hB _ _⟩
      obtain ⟨q0, q1, q2⟩ := cellsq (hq #[.int .i64 k, .string a, .int .i64 d] (.int .i64 0) (.string ⟨#[]⟩) (.int .i64 ((t : Int) - f)))
      simp [results, Try.f143, go_sem, q0, q1, q2]
    · have HR : Hid (pcR ⟨k, a, d⟩ f t = ⟨0, a.extract f t, 0⟩) := hide (by simp [pcR, h1, h2])
      have hta : t ≤ a.size := ha (by show k ≤ 0; omega) (by show d ≤ 0; omega)
      have i1 : (f : Int) ≤ (t : Int) := by omega
      have i2 : (t : Int) ≤ (a.size : Int) := by omega
      have i0 : (0 : Int) ≤ (f : Int) := by omega
      clear ha
      go_wp2
      refine ⟨rfl, .agg #[.int .i64 0, .string (a.extract f t), .int .i64 0], ?_, by rw [HR.out], hB _ _⟩
      obtain ⟨q0, q1, q2⟩ := cellsq (hq #[.int .i64 k, .string a, .int .i64 d] (.int .i64 0) (.string (a.extract f t)) (.int .i64 0))
      simp [results, Try.f143, go_sem, q0, q1, q2]

end Go.Proofs.Ytpmijaplkbmbiaa.E
