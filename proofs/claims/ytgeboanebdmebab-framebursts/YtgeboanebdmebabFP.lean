/- A packet that came in, opened. -/
import Derived.Test.YtgeboanebdmebabFA
import Derived.WalkKit
import Derived.ProofKit
import Derived.OpenShut
import Derived.ShutString
import Derived.ChangeOld
import Derived.Below
import Derived.Deep.Slices
import Derived.ChangeArms
import Derived.ChangeMaps5
namespace Go.Proofs.Ytgeboanebdmebab.F
open Go.ChangeShapes Go.WideShapes Go.ChangeAt Go.RowKit Go.By
set_option linter.unusedVariables false

theorem fields23 : ∃ f0 f1 f2 f3 : Field, Try.prog.underlying 23 = some (.struct #[f0, f1, f2, f3]) ∧ (f0.offset = 0 ∧ f1.offset = 1 ∧ f2.offset = 2 ∧ f3.offset = 3) ∧ f0.type = 3 ∧ f1.type = 3 ∧ f2.type = 3 ∧ f3.type = 9 := ⟨_, _, _, _, Try.underlying23, ⟨rfl, rfl, rfl, rfl⟩, rfl, rfl, rfl, rfl⟩

theorem came_packet {H : Type} {enc : TypeId × Value → H} {W : World} {cs : Array Value} {d : DataW H} {p : List MemPlace} (h : DataW.Trod enc Try.prog W 0 (fun _ => true) true 23 (.agg cs) d p) (hcs : cs.size = Try.prog.cellsOf 23) :
    ∃ y : Int × Int × Int × ByteArray, cs = #[.int .i64 y.1, .int .i64 y.2.1, .int .i64 y.2.2.1, .string y.2.2.2] ∧ y.2.2.2.size ≤ maxLen ∧ True := by
  obtain ⟨fuel, hf⟩ := h
  obtain ⟨f0, f1, f2, f3, he, ⟨o0, o1, o2, o3⟩, y0, y1, y2, y3⟩ := fields23
  have ce : Try.prog.cellsOf 23 = 4 := by kernel_rfl
  have c3 : Try.prog.cellsOf 3 = 1 := by kernel_rfl
  have c9 : Try.prog.cellsOf 9 = 1 := by kernel_rfl
  rw [ce] at hcs
  obtain ⟨l⟩ := cs
  match l, hcs with
  | [v0, v1, v2, v3], _ =>
    obtain ⟨xs, k, hk, hxy, _, hxl, hff⟩ := DataW.trod_struct he hf
    match xs, hxl with
    | [u0, u1, u2, u3], _ =>
      have g0 := hff 0 f0 rfl
      have g1 := hff 1 f1 rfl
      have g2 := hff 2 f2 rfl
      have g3 := hff 3 f3 rfl
      rw [y0, o0, c3] at g0
      rw [y1, o1, c3] at g1
      rw [y2, o2, c3] at g2
      rw [y3, o3, c9] at g3
      obtain ⟨n0, e0, _, wf0⟩ := DataW.trod_int Try.underlying3 g0
      obtain ⟨n1, e1, _, wf1⟩ := DataW.trod_int Try.underlying3 g1
      obtain ⟨n2, e2, _, wf2⟩ := DataW.trod_int Try.underlying3 g2
      obtain ⟨n3, e3, _, hz3⟩ := DataW.trod_string Try.underlying9 g3
      simp [Value.cells] at e0 e1 e2 e3
      exact ⟨(n0, n1, n2, n3), by rw [e0, e1, e2, e3], hz3, trivial⟩

end Go.Proofs.Ytgeboanebdmebab.F
