/- Runs that came in, opened. -/
import Derived.Test.YtecmiphmefbpnaaX1
import Derived.WalkKit
import Derived.ProofKit
import Derived.OpenShut
import Derived.ShutString
import Derived.ChangeOld
import Derived.Below
import Derived.Deep.Slices
import Derived.ChangeArms
import Derived.ChangeMaps5
namespace Go.Proofs.Ytecmiphmefbpnaa.E
open Go.ChangeShapes Go.WideShapes Go.ChangeAt Go.RowKit Go.By
set_option linter.unusedVariables false

/-- An int's bounds. -/
def IntB (n : Int) : Prop := -9223372036854775808 ≤ n ∧ n ≤ 9223372036854775807
theorem wf_b {n : Int} (h : (Lit.int .i64 n).wf = true) : IntB n := by
  have := Go.bounds_i64 h
  unfold IntB
  omega

theorem fields51 : ∃ f0 f1 f2 : Field, Try.prog.underlying 51 = some (.struct #[f0, f1, f2]) ∧ f0.offset = 0 ∧ f1.offset = 1 ∧ f2.offset = 2 ∧ f0.type = 3 ∧ f1.type = 9 ∧ f2.type = 3 := ⟨_, _, _, Try.underlying51, rfl, rfl, rfl, rfl, rfl, rfl⟩

/-- One run, from its cells. -/
theorem run_cells {P : Program} {H : Type} {enc : TypeId × Value → H} {W : World} {base : Nat} {sp : Nat → Bool} {hd : Bool} {e ti ts n : Nat} {f0 f1 f2 : Field} {x : Addr} {i : Nat} {cs' : List Value} {y : DataW H × List MemPlace} (he : P.underlying e = some (.struct #[f0, f1, f2])) (o0 : f0.offset = 0) (o1 : f1.offset = 1) (o2 : f2.offset = 2) (y0 : f0.type = ti) (y1 : f1.type = ts) (y2 : f2.type = ti) (ci : P.cellsOf ti = 1) (cs : P.cellsOf ts = 1) (hi : P.underlying ti = some (.int .i64)) (hs : P.underlying ts = some .string)
    (h1 : W.cells? base (x.add (i * 3)) 3 = some cs') (h2 : DataW.trod enc P W base sp hd n e cs' = some y) :
    ∃ q : Rn, ((IntB q.keep ∧ IntB q.drop) ∧ q.add.size ≤ maxLen) ∧ W.cell? (x.add (i * 3)) = some (.int .i64 q.keep) ∧ W.cell? (x.add (i * 3 + 1)) = some (.string q.add) ∧ W.cell? (x.add (i * 3 + 2)) = some (.int .i64 q.drop) := by
  obtain ⟨_, hlen, hcell⟩ := World.cells?_some h1
  obtain ⟨xs, k, hk, hxy, _, hxl, hff⟩ := DataW.trod_struct he h2
  match xs, hxl, cs', hlen with
  | [u0, u1, u2], _, [v0, v1, v2], _ =>
    have g0 := hff 0 f0 rfl
    have g1 := hff 1 f1 rfl
    have g2 := hff 2 f2 rfl
    rw [y0, o0, ci] at g0
    rw [y1, o1, cs] at g1
    rw [y2, o2, ci] at g2
    obtain ⟨n0, e0, _, wf0⟩ := DataW.trod_int hi g0
    obtain ⟨n1, e1, _, hz1⟩ := DataW.trod_string hs g1
    obtain ⟨n2, e2, _, wf2⟩ := DataW.trod_int hi g2
    simp at e0 e1 e2
    have q0 := hcell 0 (by omega)
    have q1 := hcell 1 (by omega)
    have q2 := hcell 2 (by omega)
    rw [Deep.add_add] at q0 q1 q2
    exact ⟨⟨n0, n1, n2⟩, ⟨⟨wf_b wf0, wf_b wf2⟩, hz1⟩, by simpa [e0] using q0, by simpa [e1] using q1, by simpa [e2] using q2⟩

/-- A slice of runs that came in. -/
theorem came_runs {H : Type} {enc : TypeId × Value → H} {W : World} {a : Option Addr} {len cap : Nat} {d : DataW H} {p : List MemPlace} (h : DataW.Trod enc Try.prog W 0 (fun _ => true) true 22 (.slice a len cap) d p) :
    ∃ rs : List Rn, rs.length = len ∧ CameR W.heap.size W a rs ∧ (∀ i, IntB (rs.getD i rn0).keep ∧ IntB (rs.getD i rn0).drop) ∧ ∀ i, (rs.getD i rn0).add.size ≤ maxLen := by
  obtain ⟨fuel, hf⟩ := h
  obtain ⟨f0, f1, f2, he, o0, o1, o2, y0, y1, y2⟩ := fields51
  have ce : Try.prog.cellsOf 51 = 3 := by kernel_rfl
  have c3 : Try.prog.cellsOf 3 = 1 := by kernel_rfl
  have c9 : Try.prog.cellsOf 9 = 1 := by kernel_rfl
  rcases Deep.open_slice Try.underlying22 hf with ⟨hcs, _⟩ | ⟨x, l, c, m, n, D, Pl, hcs, _, hl, hm, hmm, _, hx⟩
  · simp [Value.cells] at hcs
    obtain ⟨rfl, rfl, rfl⟩ := hcs
    exact ⟨[], rfl, .inl rfl, fun i => by simp [rn0, IntB], fun i => by simp [rn0, ByteArray.size]⟩
  · simp [Value.cells] at hcs
    obtain ⟨rfl, rfl, rfl⟩ := hcs
    simp only [if_true] at hmm
    subst hmm
    have each : ∀ i, i < m → ∃ q : Rn, ((IntB q.keep ∧ IntB q.drop) ∧ q.add.size ≤ maxLen) ∧ W.cell? (x.add (i * 3)) = some (.int .i64 q.keep) ∧ W.cell? (x.add (i * 3 + 1)) = some (.string q.add) ∧ W.cell? (x.add (i * 3 + 2)) = some (.int .i64 q.drop) := by
      intro i hi
      obtain ⟨cs', h1, h2⟩ := hx i hi
      rw [ce] at h1
      exact run_cells he o0 o1 o2 y0 y1 y2 c3 c9 Try.underlying3 Try.underlying9 h1 h2
    have inh : Inhabited Rn := ⟨rn0⟩
    obtain ⟨q, hq⟩ := Deep.choose_lt each
    have hget : ∀ i, i < len → ((List.range len).map q).getD i rn0 = q i := fun i hi => by simp [List.getD, hi]
    have hout : ∀ i, ¬ i < len → ((List.range len).map q).getD i rn0 = rn0 := fun i hi => by simp [List.getD, hi]
    refine ⟨(List.range len).map q, by simp, ?_, fun i => ?_, fun i => ?_⟩
    · by_cases h0 : len = 0
      · left; simp [h0]
      · right
        obtain ⟨b, off, spot⟩ := x
        have hc := (hq 0 (by omega)).2.1
        have hspot : spot = none := by simpa [Addr.add] using World.cell?_spot hc
        subst hspot
        refine ⟨b, off, rfl, World.block_lt_of_cell? W _ hc, fun i hi => ?_⟩
        have hi' : i < len := by simpa using hi
        rw [hget i hi']
        obtain ⟨_, h1, h2, h3⟩ := hq i (by omega)
        rw [Addr.add_lit] at h1 h2 h3
        exact ⟨h1, by rw [Nat.add_assoc]; exact h2, by rw [Nat.add_assoc]; exact h3⟩
    · by_cases hi : i < len
      · rw [hget i hi]; exact (hq i (by omega)).1.1
      · rw [hout i hi]; simp [rn0, IntB]
    · by_cases hi : i < len
      · rw [hget i hi]; exact (hq i (by omega)).1.2
      · rw [hout i hi]; simp [rn0, ByteArray.size]

end Go.Proofs.Ytecmiphmefbpnaa.E
