/- A slice of spans that came in, opened. -/
import Derived.Test.YtecmiphmefbpnaaPT
import Derived.Test.YtecmiphmefbpnaaPW
namespace Go.Proofs.Ytecmiphmefbpnaa.E
open Go.ChangeShapes Go.WideShapes Go.ChangeAt Go.RowKit Go.By
set_option linter.unusedVariables false

/-- One span, from its cells. -/
theorem span_cells {P : Program} {H : Type} {enc : TypeId × Value → H} {W : World} {base : Nat} {sp : Nat → Bool} {hd : Bool} {e ti n : Nat} {f0 f1 : Field} {x : Addr} {i : Nat} {cs' : List Value} {y : DataW H × List MemPlace} (he : P.underlying e = some (.struct #[f0, f1])) (o0 : f0.offset = 0) (o1 : f1.offset = 1) (y0 : f0.type = ti) (y1 : f1.type = ti) (ci : P.cellsOf ti = 1) (hi : P.underlying ti = some (.int .i64))
    (h1 : W.cells? base (x.add (i * 2)) 2 = some cs') (h2 : DataW.trod enc P W base sp hd n e cs' = some y) :
    ∃ q : Sp2, (IntB q.1 ∧ IntB q.2) ∧ W.cell? (x.add (i * 2)) = some (.int .i64 q.1) ∧ W.cell? (x.add (i * 2 + 1)) = some (.int .i64 q.2) := by
  obtain ⟨_, hlen, hcell⟩ := World.cells?_some h1
  obtain ⟨xs, k, hk, hxy, _, hxl, hff⟩ := DataW.trod_struct he h2
  match xs, hxl, cs', hlen with
  | [u0, u1], _, [v0, v1], _ =>
    have g0 := hff 0 f0 rfl
    have g1 := hff 1 f1 rfl
    rw [y0, o0, ci] at g0
    rw [y1, o1, ci] at g1
    obtain ⟨n0, e0, _, wf0⟩ := DataW.trod_int hi g0
    obtain ⟨n1, e1, _, wf1⟩ := DataW.trod_int hi g1
    simp at e0 e1
    have q0 := hcell 0 (by omega)
    have q1 := hcell 1 (by omega)
    rw [Deep.add_add] at q0 q1
    exact ⟨(n0, n1), ⟨wf_b wf0, wf_b wf1⟩, by simpa [e0] using q0, by simpa [e1] using q1⟩

/-- A slice of spans that came in. -/
theorem came_spans {H : Type} {enc : TypeId × Value → H} {W : World} {a : Option Addr} {len cap : Nat} {d : DataW H} {p : List MemPlace} (h : DataW.Trod enc Try.prog W 0 (fun _ => true) true 32 (.slice a len cap) d p) :
    ∃ l : List Sp2, l.length = len ∧ CameQ W.heap.size W a l ∧ (∀ i, IntB (l.getD i sp0).1 ∧ IntB (l.getD i sp0).2) ∧ True := by
  obtain ⟨fuel, hf⟩ := h
  obtain ⟨f0, f1, he, o0, o1, y0, y1⟩ := fields24
  have ce : Try.prog.cellsOf 24 = 2 := by kernel_rfl
  have c3 : Try.prog.cellsOf 3 = 1 := by kernel_rfl
  rcases Deep.open_slice Try.underlying32 hf with ⟨hcs, _⟩ | ⟨x, l, c, m, n, D, Pl, hcs, _, hl, hm, hmm, _, hx⟩
  · simp [Value.cells] at hcs
    obtain ⟨rfl, rfl, rfl⟩ := hcs
    exact ⟨[], rfl, .inl rfl, fun i => by simp [sp0, IntB], trivial⟩
  · simp [Value.cells] at hcs
    obtain ⟨rfl, rfl, rfl⟩ := hcs
    simp only [if_true] at hmm
    subst hmm
    have each : ∀ i, i < m → ∃ q : Sp2, (IntB q.1 ∧ IntB q.2) ∧ W.cell? (x.add (i * 2)) = some (.int .i64 q.1) ∧ W.cell? (x.add (i * 2 + 1)) = some (.int .i64 q.2) := by
      intro i hi
      obtain ⟨cs', h1, h2⟩ := hx i hi
      rw [ce] at h1
      exact span_cells he o0 o1 y0 y1 c3 Try.underlying3 h1 h2
    have inh : Inhabited Sp2 := ⟨sp0⟩
    obtain ⟨q, hq⟩ := Deep.choose_lt each
    have hget : ∀ i, i < len → ((List.range len).map q).getD i sp0 = q i := fun i hi => by simp [List.getD, hi]
    have hout : ∀ i, ¬ i < len → ((List.range len).map q).getD i sp0 = sp0 := fun i hi => by simp [List.getD, hi]
    refine ⟨(List.range len).map q, by simp, ?_, fun i => ?_, trivial⟩
    · by_cases h0 : len = 0
      · left; simp [h0]
      · right
        obtain ⟨b, off, spot⟩ := x
        have hc := (hq 0 (by omega)).2.1
        have hspot : spot = none := by simpa [Addr.add] using World.cell?_spot hc
        subst hspot
        refine ⟨b, off, rfl, World.block_lt_of_cell? W _ hc, fun i hi => ?_⟩
        have hi' : i < len := by simpa using hi
        rw [hget i hi']
        obtain ⟨_, h1, h2⟩ := hq i (by omega)
        rw [Addr.add_lit] at h1 h2
        exact ⟨h1, by rw [Nat.add_assoc]; exact h2⟩
    · by_cases hi : i < len
      · rw [hget i hi]; exact (hq i (by omega)).1
      · rw [hout i hi]; simp [sp0, IntB]

end Go.Proofs.Ytecmiphmefbpnaa.E
