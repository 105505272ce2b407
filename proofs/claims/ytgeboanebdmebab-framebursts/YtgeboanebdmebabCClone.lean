/- The library's clone of a slice of bytes, and the sealed bytes of the program and of the document. -/
import Derived.Test.YtgeboanebdmebabCSum
import Derived.Below
import Derived.KernelRfl
import Derived.Lib.SlBytesConst
namespace Go.Proofs.Ytgeboanebdmebab.C
open Go.RowKit Go.By
set_option linter.unusedVariables false

theorem Try.info5 : (Try.prog.info? 5).map (fun i => (i.zero, i.size, i.bytes)) = some (some (.int .u8 0), 1, 1) := by kernel_rfl

theorem eql_nil (w : World) (a : Option Addr) (n c n' c' : Nat) : (binOp .eql 27 (.slice a n c) (.slice none n' c')).run Try.prog w = .ok (.bool a.isNone) w :=
  Lib.run_eql_slice_nil w _ _ a n c n' c' Try.underlying27

set_option maxHeartbeats 400000 in
theorem clone_any (a : Option Addr) (l : List Nat) (cap : Nat) (w : World) (hL : Came w.heap.size w a l) (hnil : a = none → l = [] ∧ cap = 0) (hm : l.length ≤ 1000000) :
    Calls Try.prog 25 #[.slice a l.length cap] w fun e w' => ∃ v, e = .returned v ∧ Owns w' w.heap.size v l ∧ Below w.heap.size w w' := by
  have hq := eql_nil
  cases a with
  | none =>
    obtain ⟨rfl, rfl⟩ := hnil rfl
    go_enter Try.func25, Try.ntmps25
    go_wp2
    go_ret
    exact ⟨_, rfl, Owns.nil _ _, Below.refl _ _⟩
  | some x =>
    have HL := hide hL
    clear hL
    have hW : Below w.heap.size w (w.alloc (.cells #[] 5)) := (Below.refl _ _).alloc (Nat.le_refl _) _
    have HW := hide hW
    clear hW
    go_enter Try.func25, Try.ntmps25
    go_wp2_with (at_builtin; refine wpList_append_bytes rfl _ _ rfl Try.underlying27 Try.info5 w.heap.size _ [] rfl (owns_empty w _ (Nat.le_refl _)) (some x) l l.length cap rfl rfl (HL.out.below HW.out).lies (by simp) (by simp; omega) (by simp) ?_)
    intro v' w1 hown hgrow
    go_wp2
    go_ret
    exact ⟨v', rfl, hown, Below.app HW.out hgrow (owns_empty w _ (Nat.le_refl _)) (Nat.le_refl _) (by simp)⟩
end Go.Proofs.Ytgeboanebdmebab.C
