/- A mover's stands: a list of runs, each where it stands. -/
import Derived.Test.YtecmiphmefbpnaaPC
import Derived.OwnWalkIn
import Derived.Deep.AppendLies
namespace Go.Proofs.Ytecmiphmefbpnaa.E
open Go.Proofs.Ytecmiphmefbpnaa Go.RowKit Go.By Go.Shelf
set_option linter.unusedVariables false
set_option linter.unusedSimpArgs false
attribute [local go_sem] Oper.semAt_some

theorem came_up {W W' : World} {a : Option Addr} {rs : List Rn} (h : CameR W.heap.size W a rs) (hb : Below W.heap.size W W') : CameR W'.heap.size W' a rs := by
  rcases h with h | ⟨b, off, e, hl, hc⟩
  · exact .inl h
  · exact .inr ⟨b, off, e, Nat.lt_of_lt_of_le hl hb.size, fun i hi => ⟨(hb.cell (p := ⟨b, _, none⟩) hl).trans (hc i hi).1, (hb.cell (p := ⟨b, _, none⟩) hl).trans (hc i hi).2.1, (hb.cell (p := ⟨b, _, none⟩) hl).trans (hc i hi).2.2⟩⟩
theorem up_new {W : World} {a : Option Addr} {rs : List Rn} (h : CameR W.heap.size W a rs) (o : Obj) : CameR (W.alloc o).heap.size (W.alloc o) a rs := came_up h ((Below.refl _ W).alloc (Nat.le_refl _) o)
/-- What speaks of boxes that are not of type t alone. -/
theorem ownT_of {t : TypeId} {B : Nat} {β : Type} {I : β → World → Prop} (h : ∀ s X Y, I s X → (∀ (k : Nat) (c : Array Value) (t' : TypeId) (fz : Nat × Nat), t' ≠ t → X.heap[k]? = some (.cells c t' fz) → Y.heap[k]? = some (.cells c t' fz)) → I s Y) : OwnT t B I := by
  refine ⟨fun s X Y row hs hg hr => h s X Y hs fun k c t' fz _ hk => ?_, fun s X Y hs hw => h s X Y hs fun k c t' fz ht hk => hw.keeps hk (fun cs e => by cases e; exact ht rfl)⟩
  rw [hg.block k (lt_of_heap hk) (fun e => ?_), hk]
  obtain ⟨_, o, ho, hc⟩ := hr k e.symm
  rw [hk] at ho; cases ho; cases hc
theorem good_kinds {rs : List Rn} (h : isG rs = true) : ∀ x ∈ rs, kind x ≠ 0 := by
  cases hk : kscan rs with
  | none => rw [meas_none_k hk] at h; cases h
  | some j => exact kscan_all hk
theorem sums_tok {rs : List Rn} (h : ∀ x ∈ rs, kind x ≠ 0) : sI rs = (tIn (expand rs) : Int) ∧ sO rs = (tOut (expand rs) : Int) := by
  induction rs with
  | nil => exact ⟨rfl, rfl⟩
  | cons x rs ih =>
    have hx := h x List.mem_cons_self
    have := ih fun y hy => h y (List.mem_cons_of_mem _ hy)
    rw [sI_cons, sO_cons, this.1, this.2, expand_cons, tIn_append, tOut_append, Int.natCast_add, Int.natCast_add, tIn_toks hx, tOut_toks hx]
    exact ⟨rfl, rfl⟩
theorem good_sums {rs : List Rn} (h : isG rs = true) : mIn (meas rs) = sI rs ∧ mOut (meas rs) = sO rs ∧ sI rs ≤ 16777216 ∧ sO rs ≤ 16777216 ∧ rs.length ≤ 65536 ∧ (∀ x ∈ rs, kind x ≠ 0) := by
  obtain ⟨j, hj, h1, h2, h3⟩ := good_facts h
  have hk := good_kinds h
  obtain ⟨e1, e2⟩ := sums_tok hk
  refine ⟨by rw [hj, e1]; rfl, by rw [hj, e2]; rfl, by rw [e1]; omega, by rw [e2]; omega, h3, hk⟩

/-- Stands, cell by cell. -/
def cellsP1 (x : Pl) : List Value := [.int .i64 x.2.2.keep, .string x.2.2.add, .int .i64 x.2.2.drop, .int .i64 x.1, .int .i64 x.2.1]
def cellsP (l : List Pl) : List Value := l.flatMap cellsP1
theorem cellsP_append (a b : List Pl) : cellsP (a ++ b) = cellsP a ++ cellsP b := by simp [cellsP]
theorem cellsP_one (x : Pl) : cellsP [x] = cellsP1 x := by simp [cellsP]
def pl0 : Pl := (0, 0, rn0)
theorem length_cellsP (l : List Pl) : (cellsP l).length = l.length * 5 := by
  induction l with
  | nil => rfl
  | cons r l ih =>
    have : cellsP (r :: l) = cellsP1 r ++ cellsP l := by simp [cellsP]
    rw [this, List.length_append, ih, List.length_cons]; simp [cellsP1]; omega
theorem cellsP_at (l : List Pl) : ∀ (k j : Nat) (u : Value), k < l.length → (cellsP1 (l.getD k pl0))[j]? = some u → (cellsP l)[k * 5 + j]? = some u := by
  induction l with
  | nil => intro k j u hk; simp at hk
  | cons r l ih =>
    intro k j u hk hu
    have e : cellsP (r :: l) = cellsP1 r ++ cellsP l := by simp [cellsP]
    have hj : j < 5 := by
      have := (List.getElem?_eq_some_iff.1 hu).1
      simpa [cellsP1] using this
    rw [e]
    cases k with
    | zero => rw [List.getElem?_append_left (by simp [cellsP1]; omega)]; simpa using hu
    | succ k =>
      rw [List.getElem?_append_right (by simp [cellsP1]; omega)]
      have := ih k j u (by simpa using hk) (by simpa using hu)
      rw [← this]; congr 1; simp [cellsP1]; omega
theorem oneCellP (l : List Pl) : ∀ u ∈ cellsP l, u.oneCell' = true := by
  intro u hu
  obtain ⟨r, _, hr⟩ := List.mem_flatMap.1 hu
  simp only [cellsP1, List.mem_cons, List.not_mem_nil, or_false] at hr
  rcases hr with rfl | rfl | rfl | rfl | rfl <;> rfl
theorem plc_getD {rs : List Rn} {k : Nat} (h : k < rs.length) : (plc rs).getD k pl0 = (sI (rs.take k), sO (rs.take k), rs.getD k rn0) := by
  simp [plc, List.getD, h]

/-- Stands lie there. -/
def StandsAt (n₀ : Nat) (W : World) (g : Nat) (l : List Pl) : Prop := g < n₀ ∧ ∀ k, k < l.length → W.cell? ⟨g, k * 5, none⟩ = some (.int .i64 (l.getD k pl0).2.2.keep) ∧ W.cell? ⟨g, k * 5 + 1, none⟩ = some (.string (l.getD k pl0).2.2.add) ∧
  W.cell? ⟨g, k * 5 + 2, none⟩ = some (.int .i64 (l.getD k pl0).2.2.drop) ∧ W.cell? ⟨g, k * 5 + 3, none⟩ = some (.int .i64 (l.getD k pl0).1) ∧ W.cell? ⟨g, k * 5 + 4, none⟩ = some (.int .i64 (l.getD k pl0).2.1)
theorem StandsAt.below {n₀ : Nat} {W W' : World} {g : Nat} {l : List Pl} (h : StandsAt n₀ W g l) (hb : Below n₀ W W') : StandsAt n₀ W' g l :=
  ⟨h.1, fun k hk => ⟨(hb.cell (p := ⟨g, _, none⟩) h.1).trans (h.2 k hk).1, (hb.cell (p := ⟨g, _, none⟩) h.1).trans (h.2 k hk).2.1, (hb.cell (p := ⟨g, _, none⟩) h.1).trans (h.2 k hk).2.2.1, (hb.cell (p := ⟨g, _, none⟩) h.1).trans (h.2 k hk).2.2.2.1, (hb.cell (p := ⟨g, _, none⟩) h.1).trans (h.2 k hk).2.2.2.2⟩⟩
theorem StandsAt.mono {n₀ n₁ : Nat} {W : World} {g : Nat} {l : List Pl} (h : StandsAt n₀ W g l) (hn : n₀ ≤ n₁) : StandsAt n₁ W g l := ⟨Nat.lt_of_lt_of_le h.1 hn, h.2⟩
theorem stands_own {W : World} {B g n cap : Nat} {l : List Pl} (h : W.ownsRow B 82 5 (.slice (some ⟨g, 0, none⟩) n cap) n (cellsP l)) (hn : n = l.length) : StandsAt W.heap.size W g l := by
  subst hn
  rcases h.2 with ⟨h1, _⟩ | ⟨g', cap', cur, hv, hb, hg, h1, h2, h3, h4⟩
  · cases h1
  · cases hv
    refine ⟨lt_of_heap hg, fun k hk => ?_⟩
    have key : ∀ j u, (cellsP1 (l.getD k pl0))[j]? = some u → W.cell? ⟨g, k * 5 + j, none⟩ = some u := fun j u hu => by
      have e := cellsP_at l k j u hk hu
      rw [← h4, List.getElem?_take] at e
      split at e
      · rw [Joins.cell_of_block hg]; simpa using e
      · cases e
    exact ⟨by simpa using key 0 _ rfl, key 1 _ rfl, key 2 _ rfl, key 3 _ rfl, key 4 _ rfl⟩

/-- What a mover is. -/
def MoverV (n₀ : Nat) (W : World) (rs : List Rn) (v : Value) : Prop :=
  (isG rs = false ∧ v = .agg #[.slice none 0 0, .int .i64 (-1)]) ∨ (isG rs = true ∧ ∃ g, v = .agg #[.slice (some ⟨g, 0, none⟩) rs.length rs.length, .int .i64 (sI rs)] ∧ StandsAt n₀ W g (plc rs))

end Go.Proofs.Ytecmiphmefbpnaa.E
