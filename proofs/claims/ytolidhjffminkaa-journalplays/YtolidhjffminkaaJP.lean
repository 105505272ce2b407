/- Steps that came in, opened. -/
import Derived.Test.YtolidhjffminkaaJO
import Derived.WalkKit
import Derived.ProofKit
import Derived.OpenShut
import Derived.ShutString
import Derived.ChangeOld
import Derived.Below
import Derived.Deep.Slices
import Derived.ChangeArms
namespace Go.Proofs.Ytolidhjffminkaa.J
open Go.Proofs.Ytolidhjffminkaa Go.ChangeShapes Go.WideShapes Go.ChangeAt Go.RowKit Go.By
set_option linter.unusedVariables false

theorem fields30 : ∃ f0 f1 f2 : Field, Try.prog.underlying 30 = some (.struct #[f0, f1, f2]) ∧ f0.offset = 0 ∧ f1.offset = 1 ∧ f2.offset = 2 ∧ f0.type = 4 ∧ f1.type = 3 ∧ f2.type = 9 := ⟨_, _, _, Try.underlying30, rfl, rfl, rfl, rfl, rfl, rfl⟩

/-- One step, from its cells. -/
theorem step_cells {P : Program} {H : Type} {enc : TypeId × Value → H} {W : World} {base : Nat} {sp : Nat → Bool} {hd : Bool} {e tb ti ts n : Nat} {f0 f1 f2 : Field} {x : Addr} {i : Nat} {cs' : List Value} {y : DataW H × List MemPlace} (he : P.underlying e = some (.struct #[f0, f1, f2])) (o0 : f0.offset = 0) (o1 : f1.offset = 1) (o2 : f2.offset = 2) (y0 : f0.type = tb) (y1 : f1.type = ti) (y2 : f2.type = ts) (cb : P.cellsOf tb = 1) (ci : P.cellsOf ti = 1) (cs : P.cellsOf ts = 1) (hb : P.underlying tb = some .bool) (hi : P.underlying ti = some (.int .i64)) (hs : P.underlying ts = some .string)
    (h1 : W.cells? base (x.add (i * 3)) 3 = some cs') (h2 : DataW.trod enc P W base sp hd n e cs' = some y) :
    ∃ q : St, W.cell? (x.add (i * 3)) = some (.bool q.1) ∧ W.cell? (x.add (i * 3 + 1)) = some (.int .i64 q.2.1) ∧ W.cell? (x.add (i * 3 + 2)) = some (.string q.2.2) := by
  obtain ⟨_, hlen, hcell⟩ := World.cells?_some h1
  obtain ⟨xs, k, hk, hxy, _, hxl, hff⟩ := DataW.trod_struct he h2
  match xs, hxl, cs', hlen with
  | [u0, u1, u2], _, [v0, v1, v2], _ =>
    have g0 := hff 0 f0 rfl
    have g1 := hff 1 f1 rfl
    have g2 := hff 2 f2 rfl
    rw [y0, o0, cb] at g0
    rw [y1, o1, ci] at g1
    rw [y2, o2, cs] at g2
    obtain ⟨n0, e0, _⟩ := DataW.trod_bool hb g0
    obtain ⟨n1, e1, _⟩ := DataW.trod_int hi g1
    obtain ⟨n2, e2, _⟩ := DataW.trod_string hs g2
    simp at e0 e1 e2
    have q0 := hcell 0 (by omega)
    have q1 := hcell 1 (by omega)
    have q2 := hcell 2 (by omega)
    rw [Deep.add_add] at q0 q1 q2
    exact ⟨(n0, n1, n2), by simpa [e0] using q0, by simpa [e1] using q1, by simpa [e2] using q2⟩

/-- A slice of steps that came in. -/
theorem came_steps {H : Type} {enc : TypeId × Value → H} {W : World} {a : Option Addr} {len cap : Nat} {d : DataW H} {p : List MemPlace} (h : DataW.Trod enc Try.prog W 0 (fun _ => true) true 22 (.slice a len cap) d p) :
    ∃ ss : List St, True ∧ ss.length = len ∧ CameS W.heap.size W a ss ∧ True := by
  obtain ⟨fuel, hf⟩ := h
  obtain ⟨f0, f1, f2, he, o0, o1, o2, y0, y1, y2⟩ := fields30
  have ce : Try.prog.cellsOf 30 = 3 := by kernel_rfl
  have c3 : Try.prog.cellsOf 3 = 1 := by kernel_rfl
  have c4 : Try.prog.cellsOf 4 = 1 := by kernel_rfl
  have c9 : Try.prog.cellsOf 9 = 1 := by kernel_rfl
  rcases Deep.open_slice Try.underlying22 hf with ⟨hcs, _⟩ | ⟨x, l, c, m, n, D, Pl, hcs, _, hl, hm, hmm, _, hx⟩
  · simp [Value.cells] at hcs
    obtain ⟨rfl, rfl, rfl⟩ := hcs
    exact ⟨[], trivial, rfl, .inl rfl, trivial⟩
  · simp [Value.cells] at hcs
    obtain ⟨rfl, rfl, rfl⟩ := hcs
    simp only [if_true] at hmm
    subst hmm
    have each : ∀ i, i < m → ∃ q : St, W.cell? (x.add (i * 3)) = some (.bool q.1) ∧ W.cell? (x.add (i * 3 + 1)) = some (.int .i64 q.2.1) ∧ W.cell? (x.add (i * 3 + 2)) = some (.string q.2.2) := by
      intro i hi
      obtain ⟨cs', h1, h2⟩ := hx i hi
      rw [ce] at h1
      exact step_cells he o0 o1 o2 y0 y1 y2 c4 c3 c9 Try.underlying4 Try.underlying3 Try.underlying9 h1 h2
    haveI : Inhabited St := ⟨st0⟩
    obtain ⟨q, hq⟩ := Deep.choose_lt each
    refine ⟨(List.range len).map q, trivial, by simp, ?_, trivial⟩
    by_cases h0 : len = 0
    · left; simp [h0]
    · right
      obtain ⟨b, off, spot⟩ := x
      have hc := (hq 0 (by omega)).1
      have hspot : spot = none := by simpa [Addr.add] using World.cell?_spot hc
      subst hspot
      refine ⟨b, off, rfl, World.block_lt_of_cell? W _ hc, fun i hi => ?_⟩
      have hi' : i < len := by simpa using hi
      have e : ((List.range len).map q).getD i st0 = q i := by simp [List.getD, hi']
      rw [e]
      obtain ⟨h1, h2, h3⟩ := hq i (by omega)
      rw [add_eq] at h1 h2 h3
      exact ⟨h1, by rw [Nat.add_assoc]; exact h2, by rw [Nat.add_assoc]; exact h3⟩
end Go.Proofs.Ytolidhjffminkaa.J
