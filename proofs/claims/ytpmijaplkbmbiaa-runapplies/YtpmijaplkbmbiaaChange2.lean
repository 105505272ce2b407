/- The buffer: its one way of being changed. -/
import Derived.Test.YtpmijaplkbmbiaaParts
namespace Go.Proofs.Ytpmijaplkbmbiaa
open Go.RowKit Go.By Go.Shelf
set_option linter.unusedVariables false

theorem pcs_of_row {W : World} {B : Nat} {sv : Value} {ps : List ByteArray} (h : W.ownsRow B 9 1 sv ps.length (strs ps)) (hl : ps.length ≤ 1000000) : Pcs W.heap.size W sv ps := by
  rcases row_open h with ⟨rfl, rfl⟩ | ⟨k, cap, L, rfl, hkB, hh, hc, hcm, hL, ht⟩
  · exact ⟨none, 0, rfl, by simp, fun _ => rfl, fun x hx => by cases hx⟩
  · refine ⟨_, cap, rfl, hl, (fun e => by cases e), fun x hx => ?_⟩
    cases hx
    refine ⟨k, rfl, lt_of_heap hh, fun i hi => ?_⟩
    have := cells_of hh ht i (.string (ps.getD i ⟨#[]⟩)) (by simp [strs, List.getD, hi])
    simpa using this

theorem BufIs.below {W W' : World} {B g : Nat} {sv : Value} {lent : Bool} {ps : List ByteArray} (h : BufIs W B g sv lent ps) (hb : Below W.heap.size W W') : BufIs W' B g sv lent ps :=
  ⟨h.hB, (hb.block g (lt_of_heap h.blk)).trans h.blk, ownsRow_same h.row fun k hk => hb.block k (ownBlock_lt h.row hk).2, h.small, h.full⟩

theorem le_tot : ∀ (ps : List ByteArray), ∀ p ∈ ps, p.size ≤ tot ps
  | [], p, h => by cases h
  | q :: ps, p, h => by
    simp only [tot]
    rcases List.mem_cons.1 h with rfl | h
    · omega
    · have := le_tot ps p h; omega

/-- find, of a buffer. -/
theorem find_buf {W : World} {B g : Nat} {sv : Value} {lent : Bool} {ps : List ByteArray} (h : BufIs W B g sv lent ps) (hl : ps.length ≤ 1000000) (n : Nat) (hn : n ≤ tot ps) :
    Calls Try.prog 91 #[.pointer (some ⟨g, 0, none⟩), .int .i64 (n : Int)] W fun e W' => e = .returned (.tuple #[.int .i64 ((findP ps n).1 : Int), .int .i64 ((findP ps n).2 : Int)]) ∧ Below W.heap.size W W' := by
  have hs := h.small
  obtain ⟨qs, rfl⟩ := exists_pcs ps fun p hp => by have := le_tot ps p hp; omega
  exact find_any g n sv qs W (lt_of_heap h.blk) (by rw [Joins.cell_of_block h.blk]; rfl) (pcs_of_row h.row hl) (by omega) (by omega)

/-- The block of a buffer is no row's. -/
theorem BufIs.apart {W : World} {B g : Nat} {sv : Value} {lent : Bool} {ps : List ByteArray} (h : BufIs W B g sv lent ps) : some g ≠ sv.ownBlock := by
  intro e
  rcases row_open h.row with ⟨rfl, _⟩ | ⟨k, cap, L, rfl, hkB, hh, _⟩
  · cases e
  · have e2 : g = k := by cases e; rfl
    subst e2
    rw [h.blk] at hh
    cases hh

/-- What has come of the buffer when the row is changed, and the struct not yet. -/
structure Changed (W w : World) (B g : Nat) (sv v' : Value) (lent : Bool) (ps qs : List ByteArray) : Prop where
  blk : ∃ sv', w.heap[g]? = some (.cells #[.bool true, .bool false, .int .i64 ((tot ps : Nat) : Int), sv'] 51 (0, 0))
  row : w.ownsRow B 9 1 v' qs.length (strs qs)
  only : Only (fun k => k = g ∨ (lent = false ∧ some k = sv.ownBlock)) W w
  own : (lent = false ∧ v'.ownBlock = sv.ownBlock) ∨ v'.ownBlock = none ∨ ∃ k, v'.ownBlock = some k ∧ W.heap.size ≤ k
  ne : some g ≠ v'.ownBlock

/-- slices.Replace behind own. -/
theorem replace_buf {W w4 w5 : World} {B g : Nat} {sv sv' bv : Value} {lent : Bool} {ps bs : List ByteArray} {f j : Nat} (hB : B ≤ W.heap.size) (h : BufIs W B g sv lent ps) (hb : Below W.heap.size W w4) (hr : w4.ownsRow W.heap.size 9 1 bv bs.length (strs bs)) (hnil : bs = [] → bv = .slice none 0 0)
    (h5 : BufIs w5 B g sv' false ps) (hc : Chg g sv sv' lent w4 w5) (hfj : f < j ∨ (f = j ∧ 0 < bs.length)) (hj : j ≤ ps.length) (hl : ps.length + bs.length ≤ 1000000) :
    Calls Try.prog 122 #[sv', .int .i64 (f : Int), .int .i64 (j : Int), bv] w5 fun e w6 => ∃ v', e = .returned v' ∧ Changed W w6 B g sv v' lent ps (ps.take f ++ bs ++ ps.drop j) := by
  have hB5 : B ≤ w5.heap.size := by have := hc.1.size; have := hb.size; omega
  have hk : ∀ k, bv.ownBlock = some k → k ≠ g ∧ some k ≠ sv.ownBlock := fun k hk => by
    have h1 := (ownBlock_lt hr hk).1
    refine ⟨by have := lt_of_heap h.blk; omega, fun e => ?_⟩
    have := (ownBlock_lt h.row e.symm).2
    omega
  have hr5 : w5.ownsRow B 9 1 bv bs.length (strs bs) := Joins.ownsRow_le (ownsRow_same hr fun k hk' => hc.1.block k (ownBlock_lt hr hk').2 (fun e => e.elim (fun e => (hk k hk').1 e) (fun e => (hk k hk').2 e.2))) hB
  have hne : ∀ k, bv.ownBlock = some k → some k ≠ sv'.ownBlock := fun k hk' e => by
    rcases hc.2 with ⟨_, e2⟩ | e2 | ⟨k2, e2, h2⟩
    · exact (hk k hk').2 (e.trans e2)
    · rw [e2] at e; cases e
    · rw [e2] at e; cases e
      have := (ownBlock_lt hr hk').2
      omega
  have hap := h5.apart
  have fin : ∀ e w6, (∃ v', e = .returned v' ∧ Repl B sv' w5 w6 v' (ps.take f ++ bs ++ ps.drop j)) → ∃ v', e = Ending.returned v' ∧ Changed W w6 B g sv v' lent ps (ps.take f ++ bs ++ ps.drop j) := by
    rintro e w6 ⟨v', rfl, h1, h2, h3⟩
    have hg5 := lt_of_heap h5.blk
    refine ⟨v', rfl, ⟨sv', (h2.block g hg5 hap).trans h5.blk⟩, h1, ?_, ?_, ?_⟩
    · refine (((hb.only (fun k => k = g ∨ (lent = false ∧ some k = sv.ownBlock))).trans hc.1).then h2 fun i hi e => ?_)
      rcases hc.2 with ⟨e1, e2⟩ | e2 | ⟨k2, e2, h2⟩
      · exact .inr ⟨e1, e.trans e2⟩
      · rw [e2] at e; cases e
      · rw [e2] at e; cases e
        have := hb.size
        omega
    · rcases h3 with e | ⟨k, e, hk⟩
      · rw [e]
        rcases hc.2 with e1 | e2 | ⟨k2, e2, h2⟩
        · exact .inl e1
        · exact .inr (.inl e2)
        · exact .inr (.inr ⟨k2, e2, by have := hb.size; omega⟩)
      · exact .inr (.inr ⟨k, e, by have := hb.size; have := hc.1.size; omega⟩)
    · intro e
      rcases h3 with e2 | ⟨k, e2, hk⟩
      · exact hap (e.trans e2)
      · rw [e2] at e; cases e; omega
  rcases hfj with hfj | ⟨rfl, hm⟩
  · exact (replace_any B sv' bv ps bs f j w5 hB5 h5.row hr5 hne hnil hfj hj hl).mono fin
  · exact (replace_same B sv' bv ps bs f w5 hB5 h5.row hr5 hne hm hj hl).mono fin

/-- The struct, once its row and its size are stored. -/
theorem changed_done {W w : World} {B g : Nat} {sv v' : Value} {lent : Bool} {ps qs : List ByteArray} {t : Int} (h : BufIs W B g sv lent ps) (hc : Changed W w B g sv v' lent ps qs) (ht : t = ((tot qs : Nat) : Int)) (hs : tot qs ≤ 16777216) (hf : ∀ p ∈ qs, 0 < p.size) :
    BufIs ((w.setCell ⟨g, 3, none⟩ v').setCell ⟨g, 2, none⟩ (.int .i64 t)) B g v' false qs ∧ Chg g sv v' lent W ((w.setCell ⟨g, 3, none⟩ v').setCell ⟨g, 2, none⟩ (.int .i64 t)) := by
  subst ht
  obtain ⟨sv', hblk⟩ := hc.blk
  have h3 := heap_setCell (i := 2) (heap_setCell (i := 3) hblk v') (.int .i64 ((tot qs : Nat) : Int))
  have hne : ∀ k, v'.ownBlock = some k → k ≠ g := fun k hk e => hc.ne (by rw [hk, e])
  refine ⟨⟨h.hB, by simpa using h3, ownsRow_same hc.row (fun k hk => by rw [heap_setCell_ne _ (hne k hk), heap_setCell_ne _ (hne k hk)]), hs, hf⟩, ?_, hc.own⟩
  exact (hc.only.trans (Only.setCell (S := fun k => k = g ∨ (lent = false ∧ some k = sv.ownBlock)) _ ⟨g, 3, none⟩ _ (.inl rfl))).trans (Only.setCell (S := fun k => k = g ∨ (lent = false ∧ some k = sv.ownBlock)) _ ⟨g, 2, none⟩ _ (.inl rfl))

end Go.Proofs.Ytpmijaplkbmbiaa
