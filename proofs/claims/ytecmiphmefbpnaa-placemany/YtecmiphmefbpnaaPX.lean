/- Spans behind an edit: walked. -/
import Derived.Test.YtecmiphmefbpnaaPW
namespace Go.Proofs.Ytecmiphmefbpnaa.E
open Go.Proofs.Ytecmiphmefbpnaa Go.RowKit Go.By Go.Shelf
set_option linter.unusedVariables false
set_option linter.unusedSimpArgs false

def cellsQ1 (x : Sp2) : List Value := [.int .i64 x.1, .int .i64 x.2]
def cellsQ (l : List Sp2) : List Value := l.flatMap cellsQ1
theorem cellsQ_cons (x : Sp2) (l : List Sp2) : cellsQ (x :: l) = .int .i64 x.1 :: .int .i64 x.2 :: cellsQ l := by simp [cellsQ, cellsQ1]
theorem cellsQ_append (a b : List Sp2) : cellsQ (a ++ b) = cellsQ a ++ cellsQ b := by simp [cellsQ]
theorem length_cellsQ (l : List Sp2) : (cellsQ l).length = l.length * 2 := by
  induction l with
  | nil => rfl
  | cons x l ih => rw [cellsQ_cons, List.length_cons, List.length_cons, ih, List.length_cons]; omega
theorem cellsQ_at (l : List Sp2) : ∀ k, k < l.length → (cellsQ l)[k * 2]? = some (.int .i64 (l.getD k sp0).1) ∧ (cellsQ l)[k * 2 + 1]? = some (.int .i64 (l.getD k sp0).2) := by
  induction l with
  | nil => intro k hk; simp at hk
  | cons x l ih =>
    intro k hk
    rw [cellsQ_cons]
    cases k with
    | zero => exact ⟨rfl, rfl⟩
    | succ k =>
      have := ih k (by simpa using hk)
      rw [show (k + 1) * 2 = k * 2 + 1 + 1 by omega]
      simpa using this
theorem cellsQ_set (l : List Sp2) (v : Sp2) : ∀ k, k < l.length → ((cellsQ l).set (k * 2) (.int .i64 v.1)).set (k * 2 + 1) (.int .i64 v.2) = cellsQ (l.set k v) := by
  induction l with
  | nil => intro k hk; simp at hk
  | cons x l ih =>
    intro k hk
    rw [cellsQ_cons]
    cases k with
    | zero => show _ = cellsQ (v :: l); rw [cellsQ_cons]; rfl
    | succ k =>
      rw [List.set_cons_succ, cellsQ_cons, ← ih k (by simpa using hk), show (k + 1) * 2 = k * 2 + 1 + 1 by omega]
      simp
theorem cellsQ_one (l : List Sp2) : ∀ u ∈ cellsQ l, u.oneCell' = true := by
  intro u hu
  obtain ⟨r, _, hr⟩ := List.mem_flatMap.1 hu
  simp only [cellsQ1, List.mem_cons, List.not_mem_nil, or_false] at hr
  rcases hr with rfl | rfl <;> rfl
theorem cellsQ_zero (n : Nat) : cellsQ (List.replicate n sp0) = List.replicate (n * 2) (.int .i64 0) := by
  induction n with
  | zero => rfl
  | succ n ih => rw [List.replicate_succ, cellsQ_cons, ih, show (n + 1) * 2 = n * 2 + 1 + 1 by omega, List.replicate_succ, List.replicate_succ]; rfl
theorem made_zero (n : Nat) : (madeCells (Value.agg #[.int .i64 0, .int .i64 0]).cells (n * 2)).toList = cellsQ (List.replicate n sp0) := by
  rw [cellsQ_zero]
  refine List.eq_replicate_iff.2 ⟨by simp [size_madeCells], fun b hb => ?_⟩
  simp only [madeCells, Array.toList_map, List.mem_map] at hb
  obtain ⟨i, _, rfl⟩ := hb
  show (#[Value.int .i64 0, Value.int .i64 0])[i % 2]! = _
  rcases Nat.mod_two_eq_zero_or_one i with h | h <;> rw [h] <;> rfl

/-- Spans that a call owns. -/
def OwnQ (W : World) (B : Nat) (v : Value) (l : List Sp2) : Prop := W.ownsRow B 24 2 v l.length (cellsQ l)
theorem OwnQ.forms {W : World} {B : Nat} {v : Value} {l : List Sp2} (h : OwnQ W B v l) : ∃ a cap, v = .slice a l.length cap := by
  rcases h.2 with ⟨rfl, h0⟩ | ⟨g, cap, cur, rfl, _⟩
  · exact ⟨_, _, by rw [h0]⟩
  · exact ⟨_, _, rfl⟩
theorem OwnQ.came {W : World} {B : Nat} {a : Option Addr} {n c : Nat} {l : List Sp2} (h : OwnQ W B (.slice a n c) l) : CameQ W.heap.size W a l := by
  rcases h.2 with ⟨_, h0⟩ | ⟨g, cap', cur, hv, hb, hg, h1, h2, h3, h4⟩
  · exact .inl (List.eq_nil_of_length_eq_zero h0)
  · cases hv
    refine .inr ⟨g, 0, rfl, lt_of_heap hg, fun i hi => ?_⟩
    obtain ⟨e1, e2⟩ := cellsQ_at l i hi
    rw [← h4, List.getElem?_take] at e1 e2
    refine ⟨?_, ?_⟩
    · split at e1
      · rw [Joins.cell_of_block hg]; simpa using e1
      · cases e1
    · split at e2
      · rw [Joins.cell_of_block hg]; simpa using e2
      · cases e2
theorem OwnQ.below {W Y : World} {B : Nat} {v : Value} {l : List Sp2} (h : OwnQ W B v l) (hb : Below W.heap.size W Y) : OwnQ Y B v l :=
  ownsRow_same5 h fun k hk => by
    rcases h.2 with ⟨rfl, _⟩ | ⟨g, cap', cur, rfl, _, hg, _⟩
    · cases hk
    · obtain rfl : g = k := by simpa [Value.ownBlock] using hk
      exact hb.block _ (lt_of_heap hg)
theorem ownsRow_setZ {w : World} {B : Nat} {E : TypeId} {z k n cap i : Nat} {l : List Value} (h : w.ownsRow B E z (.slice (some ⟨k, 0, none⟩) n cap) n l) (x : Value) :
    (w.setCell ⟨k, i, none⟩ x).ownsRow B E z (.slice (some ⟨k, 0, none⟩) n cap) n (l.set i x) := by
  refine ⟨by simpa using h.1, ?_⟩
  rcases h.2 with ⟨h0, _⟩ | ⟨g, c, cur, hv, hb, hh, hn, hm, hs, ht⟩
  · cases h0
  · cases hv
    refine .inr ⟨k, cap, _, rfl, hb, heap_setCell hh x, hn, hm, by simpa using hs, ?_⟩
    rw [← ht]
    simp [List.take_set]
theorem OwnQ.put {W : World} {B g n c k : Nat} {l : List Sp2} (h : OwnQ W B (.slice (some ⟨g, 0, none⟩) n c) l) (hn : l.length = n) (hk : k < n) (v : Sp2) : OwnQ ((W.setCell ⟨g, k * 2, none⟩ (.int .i64 v.1)).setCell ⟨g, k * 2 + 1, none⟩ (.int .i64 v.2)) B (.slice (some ⟨g, 0, none⟩) n c) (l.set k v) := by
  unfold OwnQ at h ⊢
  rw [hn] at h
  rw [List.length_set, hn, ← cellsQ_set l v k (by omega)]
  exact ownsRow_setZ (ownsRow_setZ h _) _
theorem OwnQ.facts {W : World} {B g n c : Nat} {l : List Sp2} (h : OwnQ W B (.slice (some ⟨g, 0, none⟩) n c) l) : B ≤ g ∧ (∀ i, W.frozen? ⟨g, i, none⟩ = false) ∧ ∃ cur, W.heap[g]? = some (.cells cur 24 (0, 0)) := by
  rcases h.2 with ⟨h0, _⟩ | ⟨g', cap, cur, hv, hb, hg, _⟩
  · cases h0
  · cases hv; exact ⟨hb, fun i => unfroz hg, cur, hg⟩

def allB (rs : List Rn) (l : List Sp2) : Bool := l.all fun s => spanB rs s.1 s.2
def movedL (rs : List Rn) (l : List Sp2) : List Sp2 := if allB rs l = true then l.map fun s => spanP rs s.1 s.2 else []
/-- What was moved so far. -/
def soFar (rs : List Rn) (l : List Sp2) (k : Nat) : List Sp2 := ((l.take k).map fun s => spanP rs s.1 s.2) ++ List.replicate (l.length - k) sp0
theorem soFar_len (rs : List Rn) (l : List Sp2) {k : Nat} (hk : k ≤ l.length) : (soFar rs l k).length = l.length := by simp [soFar]; omega
theorem soFar_next (rs : List Rn) (l : List Sp2) {k : Nat} (hk : k < l.length) : (soFar rs l k).set k (spanP rs (l.getD k sp0).1 (l.getD k sp0).2) = soFar rs l (k + 1) := by
  unfold soFar
  have e : l.length - k = (l.length - (k + 1)) + 1 := by omega
  rw [e, List.replicate_succ, List.set_append_right _ _ (by simp; omega), List.take_succ_eq_append_getElem hk, List.map_append, List.append_assoc]
  simp [List.getD, hk, Nat.min_eq_left (Nat.le_of_lt hk)]
theorem allB_take (rs : List Rn) (l : List Sp2) {k : Nat} (hk : k < l.length) : allB rs (l.take (k + 1)) = (allB rs (l.take k) && spanB rs (l.getD k sp0).1 (l.getD k sp0).2) := by
  unfold allB
  rw [List.take_succ_eq_append_getElem hk, List.all_append]
  simp [List.getD, hk]
theorem allB_not (rs : List Rn) (l : List Sp2) {k : Nat} (hk : k < l.length) (h : spanB rs (l.getD k sp0).1 (l.getD k sp0).2 = false) : allB rs l = false := by
  cases hb : allB rs l with
  | false => rfl
  | true =>
    unfold allB at hb
    have := List.all_eq_true.1 hb (l.getD k sp0) (by simp [List.getD, hk])
    rw [h] at this; cases this

end Go.Proofs.Ytecmiphmefbpnaa.E
