/- The runs of a group, behind others. -/
import Derived.Test.YtpmijaplkbmbiaaEdE
import Derived.Test.YtpmijaplkbmbiaaEdJ
import Derived.Test.YtpmijaplkbmbiaaEdC
namespace Go.Proofs.Ytpmijaplkbmbiaa.E
open Go.Proofs.Ytpmijaplkbmbiaa Go.RowKit Go.By Go.Shelf
set_option linter.unusedVariables false
set_option linter.unusedSimpArgs false

/-- Runs, cell by cell. -/
def cells1 (r : Rn) : List Value := [.int .i64 r.keep, .string r.add, .int .i64 r.drop]
def cellsR (rs : List Rn) : List Value := rs.flatMap cells1
theorem cellsR_append (a b : List Rn) : cellsR (a ++ b) = cellsR a ++ cellsR b := by simp [cellsR]
theorem cellsR_one (r : Rn) : cellsR [r] = cells1 r := by simp [cellsR]
theorem length_cellsR (rs : List Rn) : (cellsR rs).length = rs.length * 3 := by
  induction rs with
  | nil => rfl
  | cons r rs ih =>
    have : cellsR (r :: rs) = cells1 r ++ cellsR rs := by simp [cellsR]
    rw [this, List.length_append, ih, List.length_cons]; simp [cells1]; omega
theorem cellsR_at (rs : List Rn) : ∀ (k j : Nat) (u : Value), k < rs.length → (cells1 (rs.getD k rn0))[j]? = some u → (cellsR rs)[k * 3 + j]? = some u := by
  induction rs with
  | nil => intro k j u hk; simp at hk
  | cons r rs ih =>
    intro k j u hk hu
    have e : cellsR (r :: rs) = cells1 r ++ cellsR rs := by simp [cellsR]
    have hj : j < 3 := by
      have := (List.getElem?_eq_some_iff.1 hu).1
      simpa [cells1] using this
    rw [e]
    cases k with
    | zero => rw [List.getElem?_append_left (by simp [cells1]; omega)]; simpa using hu
    | succ k =>
      rw [List.getElem?_append_right (by simp [cells1]; omega)]
      have := ih k j u (by simpa using hk) (by simpa using hu)
      rw [← this]; congr 1; simp [cells1]; omega

/-- Runs that a call owns. -/
def OwnR (W : World) (B : Nat) (v : Value) (rs : List Rn) : Prop := W.ownsRow B 91 3 v rs.length (cellsR rs)

theorem OwnR.nil (W : World) (B : Nat) : OwnR W B (.slice none 0 0) [] := ⟨rfl, .inl ⟨rfl, rfl⟩⟩
theorem OwnR.form {W : World} {B : Nat} {v : Value} {rs : List Rn} (h : OwnR W B v rs) : ∃ a cap, v = .slice a rs.length cap := by
  rcases h.2 with ⟨rfl, h0⟩ | ⟨g, cap, cur, rfl, _⟩
  · exact ⟨_, _, by rw [h0]⟩
  · exact ⟨_, _, rfl⟩
theorem OwnR.lt {W : World} {B : Nat} {v : Value} {rs : List Rn} (h : OwnR W B v rs) {q : Nat} (hq : v.ownBlock = some q) : B ≤ q ∧ q < W.heap.size := by
  rcases h.2 with ⟨rfl, _⟩ | ⟨g, cap, cur, rfl, hb, hg, _⟩
  · cases hq
  · obtain rfl : g = q := by simpa [Value.ownBlock] using hq
    exact ⟨hb, lt_of_heap hg⟩
theorem OwnR.kept {W W' : World} {B : Nat} {v : Value} {rs : List Rn} (h : OwnR W B v rs) (hk : ∀ q, v.ownBlock = some q → W'.heap[q]? = W.heap[q]?) : OwnR W' B v rs := by
  refine ⟨h.1, h.2.imp id ?_⟩
  rintro ⟨g, cap, cur, hv, hb, hg, r⟩
  exact ⟨g, cap, cur, hv, hb, (hk g (by rw [hv]; rfl)).trans hg, r⟩
theorem OwnR.came {W : World} {B : Nat} {a : Option Addr} {n cap : Nat} {rs : List Rn} (h : OwnR W B (.slice a n cap) rs) : CameR W.heap.size W a rs := by
  rcases h.2 with ⟨_, h0⟩ | ⟨g, cap', cur, hv, hb, hg, h1, h2, h3, h4⟩
  · exact .inl (List.eq_nil_of_length_eq_zero h0)
  · cases hv
    refine .inr ⟨g, 0, rfl, lt_of_heap hg, fun i hi => ?_⟩
    have key : ∀ j u, (cells1 (rs.getD i rn0))[j]? = some u → W.cell? ⟨g, 0 + i * 3 + j, none⟩ = some u := fun j u hu => by
      have e := cellsR_at rs i j u hi hu
      rw [← h4, List.getElem?_take] at e
      split at e
      · rw [Joins.cell_of_block hg, Nat.zero_add]; simpa using e
      · cases e
    exact ⟨by simpa using key 0 _ rfl, by simpa using key 1 _ rfl, by simpa using key 2 _ rfl⟩

/-- Is a run not plain? -/
def nzR (r : Rn) : Bool := !(decide (r.keep = 0) && (r.add.toList.isEmpty && decide (r.drop = 0)))

theorem flush_filter (k : Nat) (a : List UInt8) (d : Nat) : [rK k, rA a, rD d].filter nzR = flush k a d := by
  have h1 : nzR (rK k) = !decide (k = 0) := by simp [nzR, rK, toList_data]
  have h2 : nzR (rA a) = !decide (a = []) := by cases a <;> simp [nzR, rA, toList_data]
  have h3 : nzR (rD d) = !decide (d = 0) := by simp [nzR, rD, toList_data]
  simp only [List.filter_cons, h1, h2, h3, List.filter_nil, flush]
  by_cases e1 : k = 0 <;> by_cases e2 : a = [] <;> by_cases e3 : d = 0 <;> simp [e1, e2, e3]

theorem cameS_below {W Z : World} {a : Option Addr} {xs : List ByteArray} (h : CameS W.heap.size W a xs) (hb : Below W.heap.size W Z) : CameS Z.heap.size Z a xs := by
  rcases h with h | ⟨b, off, e, hl, hc⟩
  · exact .inl h
  · exact .inr ⟨b, off, e, Nat.lt_of_lt_of_le hl hb.size, fun i x hx => (hb.cell (p := ⟨b, off + i, none⟩) hl).trans (hc i x hx)⟩

/-- Where behind stands in a round. -/
structure BI (W : World) (B H : Nat) (vo : Value) (rs L : List Rn) (k : Nat) (v : Value) (wr : World) : Prop where
  row : OwnR wr B v (rs ++ (L.take k).filter nzR)
  lit : wr.heap[H]? = some (.cells (cellsR L).toArray 91 (0, 0))
  ne : some H ≠ v.ownBlock
  only : Only (fun i => some i = vo.ownBlock) W wr
  own : v.ownBlock = vo.ownBlock ∨ ∃ q, v.ownBlock = some q ∧ W.heap.size ≤ q
  hi : W.heap.size ≤ H

theorem BI.skip {W wr : World} {B H k : Nat} {vo v : Value} {rs L : List Rn} {x : Rn} (h : BI W B H vo rs L k v wr) (hx : L[k]? = some x) (hz : nzR x = false) (o : Obj) : BI W B H vo rs L (k + 1) v (wr.alloc o) := by
  have hk := (List.getElem?_eq_some_iff.1 hx).1
  have e : L.take (k + 1) = L.take k ++ [x] := by rw [List.take_succ_eq_append_getElem hk, (List.getElem?_eq_some_iff.1 hx).2]
  refine ⟨?_, (Below.heap_alloc wr o H (lt_of_heap h.lit)).trans h.lit, h.ne, h.only.trans (Only.alloc _ _ _), h.own, h.hi⟩
  rw [e, List.filter_append, show [x].filter nzR = [] by simp [hz], List.append_nil]
  exact h.row.kept fun q hq => Below.heap_alloc wr o q (h.row.lt hq).2

theorem BI.add {W wr Z WA : World} {B H k gg c1 : Nat} {vo v : Value} {rs L : List Rn} {x : Rn} (h : BI W B H vo rs L k v wr) (hx : L[k]? = some x) (hz : nzR x = true) (hZ : Only (fun _ => False) wr Z)
    (hr : WA.ownsRow B 91 3 (.slice (some ⟨gg, 0, none⟩) ((rs ++ (L.take k).filter nzR).length + 1) c1) ((rs ++ (L.take k).filter nzR).length + 1) (cellsR (rs ++ (L.take k).filter nzR) ++ cells1 x)) (hg : Z.grownBy WA v.ownBlock) (hat : v.ownBlock = some gg ∨ gg = Z.heap.size) :
    BI W B H vo rs L (k + 1) (.slice (some ⟨gg, 0, none⟩) ((rs ++ (L.take k).filter nzR).length + 1) c1) WA := by
  have hk := (List.getElem?_eq_some_iff.1 hx).1
  have e : L.take (k + 1) = L.take k ++ [x] := by rw [List.take_succ_eq_append_getElem hk, (List.getElem?_eq_some_iff.1 hx).2]
  have hHl := lt_of_heap h.lit
  have hZs := hZ.size
  refine ⟨?_, ?_, ?_, ?_, ?_, h.hi⟩
  · rw [e, List.filter_append, show [x].filter nzR = [x] by simp [hz], ← List.append_assoc]
    show WA.ownsRow _ _ _ _ _ _
    generalize rs ++ (L.take k).filter nzR = R at hr ⊢
    rw [cellsR_append, cellsR_one, show (R ++ [x]).length = R.length + 1 by simp]
    exact hr
  · rw [hg.block H (by omega) h.ne, hZ.block H hHl (fun h => h)]; exact h.lit
  · intro e'
    have e' : H = gg := by simpa [Value.ownBlock] using e'
    rcases hat with hat | hat
    · exact h.ne (by rw [hat, e'])
    · omega
  · have h1 := (h.only.trans (hZ.mono fun _ _ h => h.elim))
    refine ⟨hg.os.trans h1.os, hg.tape.trans h1.tape, hg.output.trans h1.output, Nat.le_trans h1.size hg.size, fun q hq hn => ?_⟩
    rw [hg.block q (Nat.lt_of_lt_of_le hq h1.size) ?_, h1.block q hq hn]
    rcases h.own with ho | ⟨q', ho, hl⟩
    · rw [ho]; exact hn
    · rw [ho]; intro e; cases e; omega
  · rcases hat with hat | hat
    · rcases h.own with ho | ⟨q', ho, hl⟩
      · exact .inl (by rw [← ho, hat]; rfl)
      · rw [hat] at ho; cases ho; exact .inr ⟨gg, rfl, hl⟩
    · exact .inr ⟨gg, rfl, by have := h.only.size; omega⟩

theorem bi_start {W w1 : World} {B : Nat} {vo : Value} {rs : List Rn} (L : List Rn) (hb : Below W.heap.size W w1) (ho : OwnR W B vo rs) : BI W B w1.heap.size vo rs L 0 vo (w1.alloc (.cells (cellsR L).toArray 91)) := by
  have hbs := hb.size
  refine ⟨?_, World.alloc_heap_new w1 _, ?_, ?_, .inl rfl, hb.size⟩
  · rw [List.take_zero, List.filter_nil, List.append_nil]
    refine ho.kept fun q hq => ?_
    have := (ho.lt hq).2
    rw [Below.heap_alloc w1 _ q (by omega), hb.block q this]
  · intro e
    have := (ho.lt e.symm).2
    omega
  · exact (Only.mk hb.os hb.tape hb.output hb.size (fun q hq _ => hb.block q hq)).trans (Only.alloc _ _ _)

theorem BI.drew {W wr : World} {B H k : Nat} {vo v : Value} {rs L : List Rn} (h : BI W B H vo rs L k v wr) : BI W B H vo rs L k v wr.drew := ⟨h.row, h.lit, h.ne, only_drw h.only, h.own, h.hi⟩
theorem BI.drewN {W wr : World} {B H k : Nat} {vo v : Value} {rs L : List Rn} (h : BI W B H vo rs L k v wr) (q : Nat) : BI W B H vo rs L k v (wr.drewN q) := ⟨h.row, h.lit, h.ne, only_drwN h.only q, h.own, h.hi⟩

end Go.Proofs.Ytpmijaplkbmbiaa.E
