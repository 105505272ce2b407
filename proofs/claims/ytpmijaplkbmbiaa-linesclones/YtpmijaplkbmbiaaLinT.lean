/- A step that came in by itself, opened: lines. -/
import Derived.Test.YtpmijaplkbmbiaaLinS
namespace Go.Proofs.Ytpmijaplkbmbiaa.I
open Go.ChangeShapes Go.WideShapes Go.ChangeAt Go.RowKit Go.By
set_option linter.unusedVariables false

theorem came_step {H : Type} {enc : TypeId × Value → H} {W : World} {cs : Array Value} {d : DataW H} {p : List MemPlace} (h : DataW.Trod enc Try.prog W 0 (fun _ => true) true 61 (.agg cs) d p) (hcs : cs.size = Try.prog.cellsOf 61) :
    ∃ y : Stp, cs = #[.int .i64 y.at_, .int .i64 y.drop, .string y.s] ∧ IntOk y.at_ ∧ y.s.size ≤ maxLen := by
  obtain ⟨fuel, hf⟩ := h
  obtain ⟨f0, f1, f2, he, o0, o1, o2, y0, y1, y2⟩ := fields61
  have ce : Try.prog.cellsOf 61 = 3 := by kernel_rfl
  have c3 : Try.prog.cellsOf 3 = 1 := by kernel_rfl
  have c9 : Try.prog.cellsOf 9 = 1 := by kernel_rfl
  rw [ce] at hcs
  obtain ⟨l⟩ := cs
  match l, hcs with
  | [v0, v1, v2], _ =>
    obtain ⟨xs, k, hk, hxy, _, hxl, hff⟩ := DataW.trod_struct he hf
    match xs, hxl with
    | [u0, u1, u2], _ =>
      have g0 := hff 0 f0 rfl
      have g1 := hff 1 f1 rfl
      have g2 := hff 2 f2 rfl
      rw [y0, o0, c3] at g0
      rw [y1, o1, c3] at g1
      rw [y2, o2, c9] at g2
      obtain ⟨n0, e0, _, wf0⟩ := DataW.trod_int Try.underlying3 g0
      obtain ⟨n1, e1, _⟩ := DataW.trod_int Try.underlying3 g1
      obtain ⟨n2, e2, _, hz2⟩ := DataW.trod_string Try.underlying9 g2
      simp [Value.cells] at e0 e1 e2
      exact ⟨⟨n0, n1, n2⟩, by rw [e0, e1, e2], wf_wrap wf0, hz2⟩

end Go.Proofs.Ytpmijaplkbmbiaa.I
