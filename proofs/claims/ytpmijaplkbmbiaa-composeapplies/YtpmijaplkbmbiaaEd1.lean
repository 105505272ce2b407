/- Runs: which kind. -/
import Derived.Test.YtpmijaplkbmbiaaBetween
namespace Go.Proofs.Ytpmijaplkbmbiaa.E
open Go.Proofs.Ytpmijaplkbmbiaa Go.RowKit Go.By Go.Shelf
set_option linter.unusedVariables false

/-- A run. -/
structure Rn where
  keep : Int
  add : ByteArray
  drop : Int
def rn0 : Rn := ⟨0, ⟨#[]⟩, 0⟩
def Rn.val (r : Rn) : Value := .agg #[.int .i64 r.keep, .string r.add, .int .i64 r.drop]

/-- Which kind it is: 1 keeps, 2 adds, 3 drops, 0 is not right. -/
def kind (r : Rn) : Nat :=
  if 0 < r.keep ∧ r.add.toList = [] ∧ r.drop = 0 then 1
  else if r.keep = 0 ∧ ¬ r.add.toList = [] ∧ r.drop = 0 then 2
  else if r.keep = 0 ∧ r.add.toList = [] ∧ 0 < r.drop then 3 else 0

theorem kind_one {k d : Int} {a : ByteArray} (h1 : 0 < k) (h2 : a.toList = []) (h3 : d = 0) : kind ⟨k, a, d⟩ = 1 := by unfold kind; rw [if_pos ⟨h1, h2, h3⟩]
theorem kind_two {k d : Int} {a : ByteArray} (h1 : k = 0) (h2 : ¬ a.toList = []) (h3 : d = 0) : kind ⟨k, a, d⟩ = 2 := by unfold kind; rw [if_neg (fun h => h2 h.2.1), if_pos ⟨h1, h2, h3⟩]
theorem kind_three {k d : Int} {a : ByteArray} (h1 : k = 0) (h2 : a.toList = []) (h3 : 0 < d) : kind ⟨k, a, d⟩ = 3 := by
  unfold kind; rw [if_neg (fun h => by have := h.1; simp at this; omega), if_neg (fun h => h.2.1 h2), if_pos ⟨h1, h2, h3⟩]
theorem kind_zero {k d : Int} {a : ByteArray} (h1 : ¬ (0 < k ∧ a.toList = [] ∧ d = 0)) (h2 : ¬ (k = 0 ∧ ¬ a.toList = [] ∧ d = 0)) (h3 : ¬ (k = 0 ∧ a.toList = [] ∧ 0 < d)) : kind ⟨k, a, d⟩ = 0 := by unfold kind; rw [if_neg h1, if_neg h2, if_neg h3]

set_option maxRecDepth 20000 in
set_option maxHeartbeats 4000000 in
theorem kindOf_any (k d : Int) (a : ByteArray) (W : World) :
    Calls Try.prog 133 #[.agg #[.int .i64 k, .string a, .int .i64 d]] W fun e W' => e = .returned (.int .i64 (kind ⟨k, a, d⟩ : Int)) ∧ Below W.heap.size W W' := by
  go_enter Try.func133, Try.ntmps133
  go_wp2
  all_goals go_ret
  all_goals (refine ⟨?_, (Below.refl _ W).alloc (Nat.le_refl _) _⟩)
  all_goals
    refine ret_int ?_
    unfold kind
    dsimp only
    repeat' split
  all_goals first
    | rfl
    | omega
    | (exfalso; rename_i h _; exact h ⟨by omega, by assumption, by omega⟩)
    | (exfalso; simp_all; done)
    | (exfalso; simp_all; omega)

set_option maxRecDepth 20000 in
set_option maxHeartbeats 4000000 in
theorem rkind_any (k d : Int) (a : ByteArray) (W : World) :
    Calls Try.prog 100 #[.agg #[.int .i64 k, .string a, .int .i64 d]] W fun e W' => e = .returned (.int .i64 (kind ⟨k, a, d⟩ : Int)) ∧ Below W.heap.size W W' := by
  go_enter Try.func100, Try.ntmps100
  go_wp2
  all_goals go_ret
  all_goals (refine ⟨?_, (Below.refl _ W).alloc (Nat.le_refl _) _⟩)
  all_goals
    refine ret_int ?_
    unfold kind
    dsimp only
    repeat' split
  all_goals first
    | rfl
    | omega
    | (exfalso; rename_i h _; exact h ⟨by omega, by assumption, by omega⟩)
    | (exfalso; simp_all; done)
    | (exfalso; simp_all; omega)

end Go.Proofs.Ytpmijaplkbmbiaa.E
