/- A group of runs: does it change anything? -/
import Derived.Test.YtpmijaplkbmbiaaEdB
namespace Go.Proofs.Ytpmijaplkbmbiaa.E
open Go.Proofs.Ytpmijaplkbmbiaa Go.RowKit Go.By Go.Shelf
set_option linter.unusedVariables false

/-- A group, as it lies. -/
def Grp (W : World) (g : Nat) (k : Int) (v : Value) (d : Int) : Prop := W.heap[g]? = some (.cells #[.int .i64 k, v, .int .i64 d] 131 (0, 0))

theorem Grp.cells {W : World} {g : Nat} {k d : Int} {v : Value} (h : Grp W g k v d) : W.cell? ⟨g, 0, none⟩ = some (.int .i64 k) ∧ W.cell? ⟨g, 1, none⟩ = some v ∧ W.cell? ⟨g, 2, none⟩ = some (.int .i64 d) ∧ W.frozen? ⟨g, 0, none⟩ = false ∧ W.frozen? ⟨g, 1, none⟩ = false ∧ W.frozen? ⟨g, 2, none⟩ = false := by
  have h' : W.heap[g]? = some (.cells #[.int .i64 k, v, .int .i64 d] 131 (0, 0)) := h
  refine ⟨?_, ?_, ?_, ?_, ?_, ?_⟩
  · rw [Joins.cell_of_block h']; rfl
  · rw [Joins.cell_of_block h']; rfl
  · rw [Joins.cell_of_block h']; rfl
  · simp [World.frozen?, h']
  · simp [World.frozen?, h']
  · simp [World.frozen?, h']

set_option maxRecDepth 20000 in
set_option maxHeartbeats 4000000 in
theorem changes_any {W : World} {g : Nat} {k d : Int} {a : Option Addr} {n cap : Nat} (h : Grp W g k (.slice a n cap) d) :
    Calls Try.prog 104 #[.pointer (some ⟨g, 0, none⟩)] W fun e W' => e = .returned (.bool (decide (0 < n ∨ 0 < d))) ∧ W' = W := by
  obtain ⟨c0, c1, c2, _, _, _⟩ := h.cells
  clear h
  go_enter Try.func104, Try.ntmps104
  by_cases hn : 0 < n
  · have hn' : (0 : Int) < (n : Int) := by omega
    have HQ : Hid (0 < n ∨ 0 < d) := .inl hn
    go_wp2
    go_ret
    exact ⟨ret_bool (decide_eq_true HQ.out).symm, rfl⟩
  · have hn' : ¬ (0 : Int) < (n : Int) := by omega
    go_wp2
    go_ret
    exact ⟨rfl, rfl⟩

end Go.Proofs.Ytpmijaplkbmbiaa.E
