/- compose: what comes of two parts; how long a run is. -/
import Derived.Test.YtpmijaplkbmbiaaX5
import Derived.Test.YtpmijaplkbmbiaaU3
namespace Go.Proofs.Ytpmijaplkbmbiaa.E
open Go.Proofs.Ytpmijaplkbmbiaa Go.RowKit Go.By Go.Shelf
set_option linter.unusedVariables false
set_option linter.unusedSimpArgs false

/-- What comes of what two edits do with the same bytes, or of what one of them does alone. -/
def bothR (x y : Rn) : Rn := if 0 < y.drop then ⟨0, ⟨#[]⟩, x.keep⟩ else if y.add.toList.isEmpty = false then y else x

set_option maxRecDepth 20000 in
set_option maxHeartbeats 4000000 in
theorem size_any (x : Rn) (W : World) :
    Calls Try.prog 142 #[x.val] W fun e W' => e = .returned (.int .i64 (wrap64 (wrap64 (x.keep + (x.add.size : Int)) + x.drop))) ∧ Below W.heap.size W W' := by
  obtain ⟨k, a, d⟩ := x
  unfold Rn.val
  go_enter Try.func142, Try.ntmps142
  go_wp2
  go_ret
  exact ⟨rfl, (Below.refl _ W).alloc (Nat.le_refl _) _⟩

set_option maxRecDepth 20000 in
set_option maxHeartbeats 4000000 in
theorem both_any (x y : Rn) (W : World) :
    Calls Try.prog 118 #[x.val, y.val] W fun e W' => e = .returned (bothR x y).val ∧ Below W.heap.size W W' := by
  obtain ⟨k, a, d⟩ := x
  obtain ⟨k', a', d'⟩ := y
  have hB : ∀ (c0 c1 c2 : Array Value), Below W.heap.size W ((((W.alloc (.cells c0 91)).alloc (.cells c1 91)).alloc (.cells c2 91))) := fun c0 c1 c2 =>
    ((((Below.refl _ W).alloc (Nat.le_refl _) _).alloc (by simp) _).alloc (by simp; omega) _)
  have hq : ∀ (c0 c1 : Array Value) (x y z : Value), ((((W.alloc (.cells c0 91)).alloc (.cells c1 91)).alloc (.cells #[x, y, z] 91))).heap[W.heap.size + 1 + 1]? = some (.cells #[x, y, z] 91 (0, 0)) := fun c0 c1 x y z => by
    have := World.alloc_heap_new ((W.alloc (.cells c0 91)).alloc (.cells c1 91)) (.cells #[x, y, z] 91)
    simpa using this
  unfold Rn.val
  go_enter Try.func118, Try.ntmps118
  by_cases h1 : 0 < d'
  · have HR : Hid (bothR ⟨k, a, d⟩ ⟨k', a', d'⟩ = ⟨0, ⟨#[]⟩, k⟩) := hide (by simp [bothR, h1])
    go_wp2
    refine ⟨rfl, .agg #[.int .i64 0, .string ⟨#[]⟩, .int .i64 k], ?_, by rw [HR.out], hB _ _ _⟩
    obtain ⟨q0, q1, q2⟩ := cellsq (hq #[.int .i64 k, .string a, .int .i64 d] #[.int .i64 k', .string a', .int .i64 d'] (.int .i64 0) (.string ⟨#[]⟩) (.int .i64 k))
    simp [results, Try.f118, go_sem, q0, q1, q2]
  · cases h2 : a'.toList.isEmpty
    · have HR : Hid (bothR ⟨k, a, d⟩ ⟨k', a', d'⟩ = ⟨k', a', d'⟩) := hide (by simp [bothR, h1, h2])
      go_wp2
      refine ⟨rfl, .agg #[.int .i64 k', .string a', .int .i64 d'], ?_, by rw [HR.out], hB _ _ _⟩
      obtain ⟨q0, q1, q2⟩ := cellsq (hq #[.int .i64 k, .string a, .int .i64 d] #[.int .i64 k', .string a', .int .i64 d'] (.int .i64 k') (.string a') (.int .i64 d'))
      simp [results, Try.f118, go_sem, q0, q1, q2]
    · have HR : Hid (bothR ⟨k, a, d⟩ ⟨k', a', d'⟩ = ⟨k, a, d⟩) := hide (by simp [bothR, h1, h2])
      go_wp2
      refine ⟨rfl, .agg #[.int .i64 k, .string a, .int .i64 d], ?_, by rw [HR.out], hB _ _ _⟩
      obtain ⟨q0, q1, q2⟩ := cellsq (hq #[.int .i64 k, .string a, .int .i64 d] #[.int .i64 k', .string a', .int .i64 d'] (.int .i64 k) (.string a) (.int .i64 d))
      simp [results, Try.f118, go_sem, q0, q1, q2]

end Go.Proofs.Ytpmijaplkbmbiaa.E
