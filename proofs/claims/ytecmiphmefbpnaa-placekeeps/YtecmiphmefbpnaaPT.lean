/- Spans that came in, opened. -/
import Derived.Test.YtecmiphmefbpnaaEdS
namespace Go.Proofs.Ytecmiphmefbpnaa.E
open Go.ChangeShapes Go.WideShapes Go.ChangeAt Go.RowKit Go.By
set_option linter.unusedVariables false

theorem fields24 : ∃ f0 f1 : Field, Try.prog.underlying 24 = some (.struct #[f0, f1]) ∧ f0.offset = 0 ∧ f1.offset = 1 ∧ f0.type = 3 ∧ f1.type = 3 := ⟨_, _, Try.underlying24, rfl, rfl, rfl, rfl⟩

theorem came_span {H : Type} {enc : TypeId × Value → H} {W : World} {cs : Array Value} {d : DataW H} {p : List MemPlace} (h : DataW.Trod enc Try.prog W 0 (fun _ => true) true 24 (.agg cs) d p) (hcs : cs.size = Try.prog.cellsOf 24) :
    ∃ y : Int × Int, cs = #[.int .i64 y.1, .int .i64 y.2] ∧ IntB y.1 ∧ IntB y.2 := by
  obtain ⟨fuel, hf⟩ := h
  obtain ⟨f0, f1, he, o0, o1, y0, y1⟩ := fields24
  have ce : Try.prog.cellsOf 24 = 2 := by kernel_rfl
  have c3 : Try.prog.cellsOf 3 = 1 := by kernel_rfl
  rw [ce] at hcs
  obtain ⟨l⟩ := cs
  match l, hcs with
  | [v0, v1], _ =>
    obtain ⟨xs, k, hk, hxy, _, hxl, hff⟩ := DataW.trod_struct he hf
    match xs, hxl with
    | [u0, u1], _ =>
      have g0 := hff 0 f0 rfl
      have g1 := hff 1 f1 rfl
      rw [y0, o0, c3] at g0
      rw [y1, o1, c3] at g1
      obtain ⟨n0, e0, _, wf0⟩ := DataW.trod_int Try.underlying3 g0
      obtain ⟨n1, e1, _, wf1⟩ := DataW.trod_int Try.underlying3 g1
      simp [Value.cells] at e0 e1
      exact ⟨(n0, n1), by rw [e0, e1], wf_b wf0, wf_b wf1⟩

end Go.Proofs.Ytecmiphmefbpnaa.E
