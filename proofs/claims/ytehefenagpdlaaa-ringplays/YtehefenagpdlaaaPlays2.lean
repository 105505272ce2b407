/- RingPlays. -/
import Derived.Test.YtehefenagpdlaaaPlays
import Derived.Deep.CutBlock
namespace Go.Proofs.Ytehefenagpdlaaa
open Go.RowKit Go.By Go.Shelf
set_option linter.unusedVariables false

set_option maxRecDepth 20000 in
set_option maxHeartbeats 8000000 in
theorem ringPlays_not (m : Int) (a : Option Addr) (n cap : Nat) (w : World) (h : 200 < n ∨ m < 1 ∨ 65536 < m) :
    Calls Try.prog 3 #[.int .i64 m, .slice a n cap] w fun e w' => e = .returned (.bool true) ∧ Below w.heap.size w w' := by
  by_cases h200 : (200 : Int) < (n : Int)
  · go_enter Try.func3, Try.ntmps3
    go_wp2_with (go_at_call 9; refine (lives_any w).mono ?_; rintro e w9 ⟨rfl, hb9⟩)
    go_ret
    exact ⟨rfl, hb9⟩
  · have hm : m < 1 ∨ 65536 < m := by rcases h with h | h; omega; exact h
    have hnew := new_none_int m w hm
    rcases hm with hm | hm
    · clear h
      go_enter Try.func3, Try.ntmps3
      go_wp2_with (first | (go_at_call 9; refine (lives_any _).mono ?_; rintro e w9 ⟨rfl, hb9⟩) | (go_at_call 10; refine hnew.mono ?_; rintro e w1 ⟨rfl, hw1⟩; subst hw1))
      go_ret
      exact ⟨rfl, hb9⟩
    · have hm1 : ¬ m < 1 := by omega
      clear h
      go_enter Try.func3, Try.ntmps3
      go_wp2_with (first | (go_at_call 9; refine (lives_any _).mono ?_; rintro e w9 ⟨rfl, hb9⟩) | (go_at_call 10; refine hnew.mono ?_; rintro e w1 ⟨rfl, hw1⟩; subst hw1))
      go_ret
      exact ⟨rfl, hb9⟩

end Go.Proofs.Ytehefenagpdlaaa
