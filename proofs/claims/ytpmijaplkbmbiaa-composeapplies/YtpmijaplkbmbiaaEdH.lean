/- Norm: what lies in its boxes, round by round. -/
import Derived.Test.YtpmijaplkbmbiaaEdG
namespace Go.Proofs.Ytpmijaplkbmbiaa.E
open Go.Proofs.Ytpmijaplkbmbiaa Go.RowKit Go.By Go.Shelf
set_option linter.unusedVariables false
set_option linter.unusedSimpArgs false

/-- Norm's boxes: the result, the runs, the sizes, the group. -/
structure NB (W : World) (H i o : Nat) (S : Ns) (vop : Value) (a : Option Addr) (n cap : Nat) (A : List ByteArray) : Prop where
  res : Boxed W H 77 (.slice none 0 0)
  opb : Boxed W (H + 1) 77 vop
  siz : W.heap[H + 1 + 1]? = some (.cells #[.int .i64 (i : Int), .int .i64 (o : Int)] 125 (0, 0))
  grp : Grp W (H + 1 + 1 + 1) (S.k : Int) (.slice a n cap) (S.d : Int)
  op : OwnR W H vop S.op
  ad : W.ownsRow H 9 1 (.slice a n cap) A.length (strL A)
  tx : text A = S.a
  ne : ∀ x ∈ A, ¬ x.toList = []

theorem OwnR.typ {W : World} {B : Nat} {v : Value} {rs : List Rn} (h : OwnR W B v rs) {q : Nat} (hq : v.ownBlock = some q) : ∃ cur, W.heap[q]? = some (.cells cur 91 (0, 0)) := by
  rcases h.2 with ⟨rfl, _⟩ | ⟨g, cap, cur, rfl, hb, hg, _⟩
  · cases hq
  · obtain rfl : g = q := by simpa [Value.ownBlock] using hq
    exact ⟨cur, hg⟩
theorem row_typ {W : World} {B : Nat} {v : Value} {n : Nat} {l : List Value} (h : W.ownsRow B 9 1 v n l) {q : Nat} (hq : v.ownBlock = some q) : ∃ cur, W.heap[q]? = some (.cells cur 9 (0, 0)) := by
  rcases h.2 with ⟨rfl, _⟩ | ⟨g, cap, cur, rfl, hb, hg, _⟩
  · cases hq
  · obtain rfl : g = q := by simpa [Value.ownBlock] using hq
    exact ⟨cur, hg⟩
theorem row_kept {W W' : World} {B n : Nat} {v : Value} {l : List Value} (h : W.ownsRow B 9 1 v n l) (hk : ∀ q, v.ownBlock = some q → W'.heap[q]? = W.heap[q]?) : W'.ownsRow B 9 1 v n l := by
  refine ⟨h.1, h.2.imp id ?_⟩
  rintro ⟨g, cap, cur, hv, hb, hg, r⟩
  exact ⟨g, cap, cur, hv, hb, (hk g (by rw [hv]; rfl)).trans hg, r⟩

/-- Where all cells stay, so does this. -/
theorem NB.keep {W W' : World} {H i o : Nat} {S : Ns} {vop : Value} {a : Option Addr} {n cap : Nat} {A : List ByteArray} (h : NB W H i o S vop a n cap A)
    (hk : ∀ (q : Nat) (c : Array Value) (t : TypeId) (fr : Nat × Nat), W.heap[q]? = some (Obj.cells c t fr) → W'.heap[q]? = some (Obj.cells c t fr)) : NB W' H i o S vop a n cap A := by
  refine ⟨hk _ _ _ _ h.res, hk _ _ _ _ h.opb, hk _ _ _ _ h.siz, hk _ _ _ _ h.grp, h.op.kept fun q hq => ?_, row_kept h.ad fun q hq => ?_, h.tx, h.ne⟩
  · obtain ⟨cur, e⟩ := h.op.typ hq; rw [e]; exact hk _ _ _ _ e
  · obtain ⟨cur, e⟩ := row_typ h.ad hq; rw [e]; exact hk _ _ _ _ e

theorem NB.below {W W' : World} {H i o : Nat} {S : Ns} {vop : Value} {a : Option Addr} {n cap : Nat} {A : List ByteArray} (h : NB W H i o S vop a n cap A) (hb : Below W.heap.size W W') : NB W' H i o S vop a n cap A :=
  h.keep fun q c t fr e => (hb.block q (lt_of_heap e)).trans e

/-- The sizes grew. -/
theorem NB.grew {W W' : World} {H i o i' o' : Nat} {S : Ns} {vop : Value} {a : Option Addr} {n cap : Nat} {A : List ByteArray} (h : NB W H i o S vop a n cap A)
    (hG : Grew (H + 1 + 1) (i' : Int) (o' : Int) W W') : NB W' H i' o' S vop a n cap A := by
  have key : ∀ (q : Nat) (c : Array Value) (t : TypeId), W.heap[q]? = some (Obj.cells c t (0, 0)) → t ≠ 125 → W'.heap[q]? = some (Obj.cells c t (0, 0)) := fun q c t e ht => by
    rw [hG.2.block q (lt_of_heap e) (fun hq => ?_), e]
    subst hq; rw [h.siz] at e; cases e; exact ht rfl
  refine ⟨key _ _ _ h.res (by decide), key _ _ _ h.opb (by decide), hG.1, key _ _ _ h.grp (by decide), h.op.kept fun q hq => ?_, row_kept h.ad fun q hq => ?_, h.tx, h.ne⟩
  · obtain ⟨cur, e⟩ := h.op.typ hq; rw [e]; exact key _ _ _ e (by decide)
  · obtain ⟨cur, e⟩ := row_typ h.ad hq; rw [e]; exact key _ _ _ e (by decide)

/-- A run was taken. -/
theorem NB.took {W W' : World} {H i o k' d' : Nat} {S : Ns} {vop : Value} {a : Option Addr} {n cap : Nat} {A : List ByteArray} {x : ByteArray} (h : NB W H i o S vop a n cap A)
    (hT : Took W H (H + 1 + 1 + 1) (k' : Int) (.slice a n cap) (d' : Int) (A ++ addl x) W') : ∃ a' n' cap', NB W' H i o ⟨S.op, k', S.a ++ x.data.toList, d'⟩ vop a' n' cap' (A ++ addl x) := by
  obtain ⟨a', n', cap', h1, h2, h3⟩ := hT
  have key : ∀ (q : Nat) (c : Array Value) (t : TypeId), W.heap[q]? = some (Obj.cells c t (0, 0)) → t ≠ 131 → t ≠ 9 → W'.heap[q]? = some (Obj.cells c t (0, 0)) := fun q c t e ht ht2 => by
    rw [h3.block q (lt_of_heap e) (fun hq => ?_), e]
    rcases hq with hq | hq
    · subst hq; rw [show W.heap[_]? = _ from h.grp] at e; cases e; exact ht rfl
    · obtain ⟨cur, e2⟩ := row_typ h.ad hq.symm
      rw [e2] at e; cases e; exact ht2 rfl
  refine ⟨a', n', cap', key _ _ _ h.res (by decide) (by decide), key _ _ _ h.opb (by decide) (by decide), key _ _ _ h.siz (by decide) (by decide), h1, h.op.kept fun q hq => ?_, h2, ?_, ?_⟩
  · obtain ⟨cur, e⟩ := h.op.typ hq; rw [e]; exact key _ _ _ e (by decide) (by decide)
  · rw [text_append, h.tx]
    unfold addl
    split
    · rename_i hz; rw [toList_data] at hz; rw [hz]; simp [text]
    · simp [text]
  · intro y hy
    rcases List.mem_append.1 hy with hy | hy
    · exact h.ne y hy
    · unfold addl at hy
      split at hy
      · simp at hy
      · rename_i hz; rw [List.mem_singleton.1 hy]; exact hz

/-- The group's runs went behind the others, and another group begins. -/
theorem NB.flushed {W W' : World} {H i o : Nat} {S : Ns} {vop v' : Value} {a : Option Addr} {n cap : Nat} {A : List ByteArray} (h : NB W H i o S vop a n cap A)
    (h1 : OwnR W' H v' (S.op ++ flush S.k (text A) S.d)) (h2 : Only (fun i => some i = vop.ownBlock) W W') :
    NB ((((W'.setCell ⟨H + 1, 0, none⟩ v').setCell ⟨H + 1 + 1 + 1, 0, none⟩ (.int .i64 0)).setCell ⟨H + 1 + 1 + 1, 1, none⟩ (.slice none 0 0)).setCell ⟨H + 1 + 1 + 1, 2, none⟩ (.int .i64 0)) H i o ⟨S.op ++ flush S.k S.a S.d, 0, [], 0⟩ v' none 0 0 [] := by
  have key : ∀ (q : Nat) (c : Array Value) (t : TypeId), W.heap[q]? = some (Obj.cells c t (0, 0)) → t ≠ 91 → W'.heap[q]? = some (Obj.cells c t (0, 0)) := fun q c t e ht => by
    rw [h2.block q (lt_of_heap e) (fun hq => ?_), e]
    obtain ⟨cur, e2⟩ := h.op.typ hq.symm
    rw [e2] at e; cases e; exact ht rfl
  have k0 := key _ _ _ h.res (by decide)
  have k1 : Boxed W' (H + 1) 77 vop := key _ _ _ h.opb (by decide)
  have k2 := key _ _ _ h.siz (by decide)
  have k3 : Grp W' (H + 1 + 1 + 1) (S.k : Int) (.slice a n cap) (S.d : Int) := key _ _ _ h.grp (by decide)
  have s1 : Boxed (W'.setCell ⟨H + 1, 0, none⟩ v') (H + 1) 77 v' := k1.set v'
  have s3 : Grp (W'.setCell ⟨H + 1, 0, none⟩ v') (H + 1 + 1 + 1) (S.k : Int) (.slice a n cap) (S.d : Int) := (heap_setCell_ne _ (by omega)).trans k3
  have g3 : Grp ((((W'.setCell ⟨H + 1, 0, none⟩ v').setCell ⟨H + 1 + 1 + 1, 0, none⟩ (.int .i64 0)).setCell ⟨H + 1 + 1 + 1, 1, none⟩ (.slice none 0 0)).setCell ⟨H + 1 + 1 + 1, 2, none⟩ (.int .i64 0)) (H + 1 + 1 + 1) 0 (.slice none 0 0) 0 := (s3.put0.put1).put2
  have far : ∀ q, q ≠ H + 1 → q ≠ H + 1 + 1 + 1 → ((((W'.setCell ⟨H + 1, 0, none⟩ v').setCell ⟨H + 1 + 1 + 1, 0, none⟩ (.int .i64 0)).setCell ⟨H + 1 + 1 + 1, 1, none⟩ (.slice none 0 0)).setCell ⟨H + 1 + 1 + 1, 2, none⟩ (.int .i64 0)).heap[q]? = W'.heap[q]? := fun q a b => by
    rw [heap_setCell_ne _ b, heap_setCell_ne _ b, heap_setCell_ne _ b, heap_setCell_ne _ a]
  refine ⟨(far _ (by omega) (by omega)).trans k0, ?_, (far _ (by omega) (by omega)).trans k2, ?_, ?_, World.ownsRow_nil _ _ _ _, rfl, by simp⟩
  · show _ = _
    rw [heap_setCell_ne _ (by omega), heap_setCell_ne _ (by omega), heap_setCell_ne _ (by omega)]; exact s1
  · exact g3
  · rw [← h.tx]
    refine h1.kept fun q hq => ?_
    obtain ⟨cur, e⟩ := h1.typ hq
    refine far q (fun hq => ?_) (fun hq => ?_)
    · subst hq; rw [show W'.heap[_]? = _ from k1] at e; cases e
    · subst hq; rw [show W'.heap[_]? = _ from k3] at e; cases e

/-- Has the group an add? -/
theorem NB.adds {W : World} {H i o : Nat} {S : Ns} {vop : Value} {a : Option Addr} {n cap : Nat} {A : List ByteArray} (h : NB W H i o S vop a n cap A) : n = A.length ∧ (0 < n ↔ ¬ S.a = []) := by
  have hn : n = A.length := by
    rcases h.ad.2 with ⟨e, h0⟩ | ⟨q, c, cur, e, _⟩
    · cases e; exact h0.symm
    · cases e; rfl
  refine ⟨hn, ?_⟩
  rw [hn, ← h.tx]
  have hne := h.ne
  cases A with
  | nil => simp [text]
  | cons x A =>
    have := hne x List.mem_cons_self
    rw [toList_data] at this
    simp [text, this]

end Go.Proofs.Ytpmijaplkbmbiaa.E
