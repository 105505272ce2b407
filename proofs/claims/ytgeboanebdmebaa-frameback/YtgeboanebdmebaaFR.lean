/- Bytes that came in, opened. -/
import Derived.Test.YtgeboanebdmebaaFP
namespace Go.Proofs.Ytgeboanebdmebaa.F
open Go.ChangeShapes Go.WideShapes Go.ChangeAt Go.RowKit Go.By
set_option linter.unusedVariables false
theorem came_bytes {H : Type} {enc : TypeId × Value → H} {W : World} {a : Option Addr} {n cap : Nat} {d : DataW H} {p : List MemPlace} (h : DataW.Trod enc Try.prog W 0 (fun _ => true) true 28 (.slice a n cap) d p) :
    ∃ zs : List Int, True ∧ IsRow .u8 W a n cap zs ∧ True ∧ True := by
  obtain ⟨fuel, hf⟩ := h
  rcases open_ints Try.underlying28 Try.underlying5 (by kernel_rfl) hf with ⟨hcs, _⟩ | ⟨x, l, c, zs, hcs, _, hl, hm, hz, _, hcell, hwz⟩
  · simp [Value.cells] at hcs
    obtain ⟨rfl, rfl, rfl⟩ := hcs
    exact ⟨[], trivial, .inl ⟨rfl, rfl, rfl, rfl⟩, trivial, trivial⟩
  · simp [Value.cells] at hcs
    obtain ⟨rfl, rfl, rfl⟩ := hcs
    exact ⟨zs, trivial, .inr ⟨_, rfl, hl, hm, by simpa using hz, hcell, hwz⟩, trivial, trivial⟩
end Go.Proofs.Ytgeboanebdmebaa.F
