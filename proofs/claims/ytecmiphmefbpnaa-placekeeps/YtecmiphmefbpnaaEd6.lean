/- Good, In, Out. -/
import Derived.Test.YtecmiphmefbpnaaEd5
namespace Go.Proofs.Ytecmiphmefbpnaa.E
open Go.Proofs.Ytecmiphmefbpnaa Go.RowKit Go.By Go.Shelf
set_option linter.unusedVariables false

def mIn : Option Ms → Int
  | none => 0
  | some s => s.1
def mOut : Option Ms → Int
  | none => 0
  | some s => s.2.1
theorem measV_eq (s : Option Ms) : measV s = .tuple #[.agg #[.int .i64 (mIn s), .int .i64 (mOut s)], .bool s.isSome] := by cases s <;> rfl

theorem measure_eq (a : Option Addr) (cap : Nat) (rs : List Rn) (w : World) (hS : CameR w.heap.size w a rs) (hl : rs.length ≤ 1000000) :
    Calls Try.prog 43 #[.slice a rs.length cap] w fun e W' => e = .returned (.tuple #[.agg #[.int .i64 (mIn (meas rs)), .int .i64 (mOut (meas rs))], .bool (meas rs).isSome]) ∧ Below w.heap.size w W' :=
  (measure_any a cap rs w hS hl).mono fun e W' h => ⟨by rw [h.1, measV_eq], h.2⟩

set_option maxRecDepth 20000 in
set_option maxHeartbeats 4000000 in
theorem good_any (a : Option Addr) (cap : Nat) (rs : List Rn) (w : World) (hS : CameR w.heap.size w a rs) (hl : rs.length ≤ 1000000) :
    Calls Try.prog 37 #[.slice a rs.length cap] w fun e W' => e = .returned (.bool (meas rs).isSome) ∧ Below w.heap.size w W' := by
  have hm := measure_eq a cap rs w hS hl
  go_enter Try.func37, Try.ntmps37
  go_wp2_with fail
  refine hm.mono ?_
  rintro e W' ⟨rfl, hb⟩
  have HB := hide hb
  clear hb
  go_wp2
  go_ret
  exact ⟨rfl, HB.out.alloc HB.out.size _⟩

set_option maxRecDepth 20000 in
set_option maxHeartbeats 4000000 in
theorem in_any (a : Option Addr) (cap : Nat) (rs : List Rn) (w : World) (hS : CameR w.heap.size w a rs) (hl : rs.length ≤ 1000000) :
    Calls Try.prog 38 #[.slice a rs.length cap] w fun e W' => e = .returned (.int .i64 (mIn (meas rs))) ∧ Below w.heap.size w W' := by
  have hm := measure_eq a cap rs w hS hl
  go_enter Try.func38, Try.ntmps38
  go_wp2_with fail
  refine hm.mono ?_
  rintro e W' ⟨rfl, hb⟩
  have HB := hide hb
  clear hb
  go_wp2
  go_ret
  exact ⟨rfl, HB.out.alloc HB.out.size _⟩

set_option maxRecDepth 20000 in
set_option maxHeartbeats 4000000 in
theorem out_any (a : Option Addr) (cap : Nat) (rs : List Rn) (w : World) (hS : CameR w.heap.size w a rs) (hl : rs.length ≤ 1000000) :
    Calls Try.prog 31 #[.slice a rs.length cap] w fun e W' => e = .returned (.int .i64 (mOut (meas rs))) ∧ Below w.heap.size w W' := by
  have hm := measure_eq a cap rs w hS hl
  go_enter Try.func31, Try.ntmps31
  go_wp2_with fail
  refine hm.mono ?_
  rintro e W' ⟨rfl, hb⟩
  have HB := hide hb
  clear hb
  go_wp2
  go_ret
  exact ⟨rfl, HB.out.alloc HB.out.size _⟩

end Go.Proofs.Ytecmiphmefbpnaa.E
