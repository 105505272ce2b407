/- The buffer: change. -/
import Derived.Test.YtpmijaplkbmbiaaChange2
namespace Go.Proofs.Ytpmijaplkbmbiaa
open Go.RowKit Go.By Go.Shelf
set_option linter.unusedVariables false

/-- What the walk of change wants to know, once. -/
structure Know (W : World) (B g : Nat) (sv : Value) (lent : Bool) (ps : List ByteArray) (s : ByteArray) (n k f a l z : Nat) : Prop where
  f1 : Calls Try.prog 91 #[.pointer (some ⟨g, 0, none⟩), .int .i64 (n : Int)] W fun e W' => e = .returned (.tuple #[.int .i64 (f : Int), .int .i64 (a : Int)]) ∧ Below W.heap.size W W'
  f2 : ∀ w, Below W.heap.size W w → Calls Try.prog 91 #[.pointer (some ⟨g, 0, none⟩), .int .i64 ((n : Int) + (k : Int))] w fun e W' => e = .returned (.tuple #[.int .i64 (l : Int), .int .i64 (z : Int)]) ∧ Below W.heap.size W W'
  c3 : ∀ w, Below W.heap.size W w → w.cell? ⟨g, 3, none⟩ = some sv
  own : ∀ w, Below W.heap.size W w → Calls Try.prog 121 #[.pointer (some ⟨g, 0, none⟩)] w fun e w' => e = .returned (.tuple #[]) ∧ ∃ sv', BufIs w' B g sv' false ps ∧ Chg g sv sv' lent w w'
  rep : ∀ w4 w5 sv' bv, Below W.heap.size W w4 → w4.ownsRow W.heap.size 9 1 bv (head' ps f a ++ mid' s ++ tail' ps l z).length (strs (head' ps f a ++ mid' s ++ tail' ps l z)) → ((head' ps f a ++ mid' s ++ tail' ps l z) = [] → bv = .slice none 0 0) → BufIs w5 B g sv' false ps → Chg g sv sv' lent w4 w5 →
    Calls Try.prog 122 #[sv', .int .i64 (f : Int), .int .i64 (past l z : Int), bv] w5 fun e w6 => ∃ v', e = .returned v' ∧ Changed W w6 B g sv v' lent ps (chg ps s f a l z)
  fin : ∀ w v', Changed W w B g sv v' lent ps (chg ps s f a l z) → BufIs ((w.setCell ⟨g, 3, none⟩ v').setCell ⟨g, 2, none⟩ (.int .i64 ((tot ps : Int) + ((s.size : Int) - (k : Int))))) B g v' false (chg ps s f a l z) ∧ Chg g sv v' lent W ((w.setCell ⟨g, 3, none⟩ v').setCell ⟨g, 2, none⟩ (.int .i64 ((tot ps : Int) + ((s.size : Int) - (k : Int)))))

theorem know {W : World} {B g : Nat} {sv : Value} {lent : Bool} {ps : List ByteArray} {s : ByteArray} {n k : Nat} (hB : B ≤ W.heap.size) (h : BufIs W B g sv lent ps) (hn : n + k ≤ tot ps) (hs : tot ps - k + s.size ≤ 16777216) (hl : ps.length ≤ 900000) (hw : k = 0 → s.size ≠ 0) :
    Know W B g sv lent ps s n k (findP ps n).1 (findP ps n).2 (findP ps (n + k)).1 (findP ps (n + k)).2 := by
  have hsp1 := spot_find (ps := ps) (n := n) (by omega)
  have hsp2 := spot_find (ps := ps) (n := n + k) (by omega)
  have hbl := by_len ps s (findP ps n).1 (findP ps n).2 (findP ps (n + k)).1 (findP ps (n + k)).2
  have ht := tot_chg (s := s) hsp1 hsp2 hn (by omega)
  have hsm := h.small
  refine ⟨find_buf h (by omega) n (by omega), fun w hb => ?_, fun w hb => ?_, fun w hb => own_any B g sv lent ps w (h.below hb) (by have := hb.size; omega) (by omega), ?_, ?_⟩
  · refine (find_buf (h.below hb) (by omega) (n + k) hn).mono ?_
    rintro e w' ⟨rfl, hb2⟩
    exact ⟨rfl, hb.trans (hb2.mono hb.size)⟩
  · rw [hb.cell (lt_of_heap h.blk), Joins.cell_of_block h.blk]; rfl
  · intro w4 w5 sv' bv hb hr hnil h5 hc
    exact replace_buf hB h hb hr hnil h5 hc (spot_room hsp1 hsp2 hw) (past_le hsp2) (by omega)
  · intro w v' hc
    exact changed_done h hc (by rw [ht]; omega) (by rw [ht]; omega) (full_chg hsp1 hsp2 h.full)

end Go.Proofs.Ytpmijaplkbmbiaa
