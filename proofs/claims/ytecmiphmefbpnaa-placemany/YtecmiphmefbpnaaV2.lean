/- Lists of edits that came in. -/
import Derived.Test.YtecmiphmefbpnaaEdS
namespace Go.Proofs.Ytecmiphmefbpnaa.E
open Go.Proofs.Ytecmiphmefbpnaa Go.RowKit Go.By Go.Shelf
set_option linter.unusedVariables false

/-- Where an edit of a list lies, and its runs. -/
abbrev Ln := (Option Addr × Nat) × List Rn
def CameL (n₀ : Nat) (W : World) (a : Option Addr) (ls : List Ln) : Prop := ls = [] ∨ ∃ b off, a = some ⟨b, off, none⟩ ∧ b < n₀ ∧ ∀ i x, ls[i]? = some x → W.cell? ⟨b, off + i, none⟩ = some (.slice x.1.1 x.2.length x.1.2) ∧ CameR n₀ W x.1.1 x.2

theorem CameL.below {n₀ : Nat} {W W' : World} {a : Option Addr} {ls : List Ln} (h : CameL n₀ W a ls) (hb : Below n₀ W W') : CameL n₀ W' a ls := by
  rcases h with h | ⟨b, off, e, hl, hc⟩
  · exact .inl h
  · exact .inr ⟨b, off, e, hl, fun i x hx => ⟨(hb.cell (p := ⟨b, _, none⟩) hl).trans (hc i x hx).1, (hc i x hx).2.below hb⟩⟩

/-- One edit of a list, out of what came. -/
theorem runs_cell {H : Type} {enc : TypeId × Value → H} {W : World} {x : Addr} {n : Nat} {cs : List Value} {y : DataW H × List MemPlace}
    (h1 : W.cells? 0 x 1 = some cs) (h2 : DataW.trod enc Try.prog W 0 (fun _ => true) true n 22 cs = some y) : ∃ q : Ln, W.cell? x = some (.slice q.1.1 q.2.length q.1.2) ∧ CameR W.heap.size W q.1.1 q.2 := by
  obtain ⟨_, hlen, hcell⟩ := World.cells?_some h1
  have hx := hcell 0 (by omega)
  match cs, hlen with
  | [v], _ =>
    obtain ⟨d, p⟩ := y
    have key : ∀ (a : Option Addr) (l c : Nat), v = .slice a l c → ∃ q : Ln, W.cell? x = some (.slice q.1.1 q.2.length q.1.2) ∧ CameR W.heap.size W q.1.1 q.2 := fun a l c e => by
      subst e
      obtain ⟨rs, rfl, hr, _⟩ := came_runs (H := H) (enc := enc) (W := W) (a := a) (len := l) (cap := c) (d := d) (p := p) ⟨n, h2⟩
      refine ⟨((a, c), rs), ?_, hr⟩
      simpa [Addr.add] using hx
    rcases Deep.open_slice Try.underlying22 h2 with ⟨hcs, _⟩ | ⟨z, l, c, m, n', D, Pl, hcs, r⟩
    · injection hcs with e _
      exact key _ _ _ e
    · injection hcs with e _
      exact key _ _ _ e

theorem came_lists {H : Type} {enc : TypeId × Value → H} {W : World} {a : Option Addr} {len cap : Nat} {d : DataW H} {p : List MemPlace} (h : DataW.Trod enc Try.prog W 0 (fun _ => true) true 33 (.slice a len cap) d p) :
    ∃ ls : List Ln, ls.length = len ∧ CameL W.heap.size W a ls ∧ len ≤ cap ∧ (a = none → cap = 0) := by
  obtain ⟨fuel, hf⟩ := h
  rcases Deep.open_slice Try.underlying33 hf with ⟨hcs, _⟩ | ⟨x, l, c, m, n, D, Pl, hcs, h2, hl, hm, hmm, h3, hx⟩
  · simp [Value.cells] at hcs
    obtain ⟨rfl, rfl, rfl⟩ := hcs
    exact ⟨[], rfl, .inl rfl, Nat.le_refl _, fun _ => rfl⟩
  · simp [Value.cells] at hcs
    obtain ⟨rfl, rfl, rfl⟩ := hcs
    simp only [if_true] at hmm
    subst hmm
    have ce : Try.prog.cellsOf 22 = 1 := by kernel_rfl
    have each : ∀ i, i < m → ∃ q : Ln, W.cell? (x.add i) = some (.slice q.1.1 q.2.length q.1.2) ∧ CameR W.heap.size W q.1.1 q.2 := by
      intro i hi
      obtain ⟨cs', h1, h2⟩ := hx i hi
      rw [ce, Nat.mul_one] at h1
      exact runs_cell h1 h2
    have inh : Inhabited Ln := ⟨((none, 0), [])⟩
    obtain ⟨q, hq⟩ := Deep.choose_lt each
    refine ⟨(List.range len).map q, by simp, ?_, hl, fun e => by cases e⟩
    by_cases h0 : len = 0
    · left; simp [h0]
    · right
      obtain ⟨b, off, spot⟩ := x
      have hc := (hq 0 (by omega)).1
      have hspot : spot = none := by simpa [Addr.add] using World.cell?_spot hc
      subst hspot
      refine ⟨b, off, rfl, World.block_lt_of_cell? W _ hc, fun i y hy => ?_⟩
      have hi : i < len := by have := (List.getElem?_eq_some_iff.1 hy).1; simpa using this
      have e : y = q i := by simpa [hi] using hy.symm
      subst e
      obtain ⟨h1, h2⟩ := hq i (by omega)
      rw [Addr.add_lit] at h1
      exact ⟨h1, h2⟩
end Go.Proofs.Ytecmiphmefbpnaa.E
