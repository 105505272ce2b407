/- compose: what reads an edit, and what reads two, are made. -/
import Derived.Test.YtpmijaplkbmbiaaWG
namespace Go.Proofs.Ytpmijaplkbmbiaa.E
open Go.Proofs.Ytpmijaplkbmbiaa Go.RowKit Go.By Go.Shelf
set_option linter.unusedVariables false
set_option linter.unusedSimpArgs false

theorem reader_any (a : Option Addr) (n cap : Nat) (w : World) : Calls Try.prog 141 #[.slice a n cap] w fun e W' =>
    e = .returned (.func (.func 159) #[] #[.pointer (some ⟨w.heap.size + 1, 0, none⟩), .pointer (some ⟨w.heap.size, 0, none⟩)]) ∧ W' = (w.alloc (.cells #[.slice a n cap] 77)).alloc (.cells #[.int .i64 0, .string ⟨#[]⟩, .int .i64 0] 91) := by
  go_enter Try.func141, Try.ntmps141
  go_wp2
  go_ret
  exact ⟨rfl, rfl⟩
theorem pairs_any (a b : Option Addr) (n cap m cap' : Nat) (w : World) : Calls Try.prog 117 #[.slice a n cap, .slice b m cap'] w fun e W' =>
    e = .returned (.func (.func 140) #[] #[.pointer (some ⟨w.heap.size, 0, none⟩), .pointer (some ⟨w.heap.size + 1, 0, none⟩)]) ∧ W' = (w.alloc (.cells #[.slice a n cap] 77)).alloc (.cells #[.slice b m cap'] 77) := by
  go_enter Try.func117, Try.ntmps117
  go_wp2
  go_ret
  exact ⟨rfl, rfl⟩

end Go.Proofs.Ytpmijaplkbmbiaa.E
