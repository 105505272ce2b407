/- JournalPlays: what stands between two steps. -/
import Derived.Test.YtolidhjffminkaaJM
namespace Go.Proofs.Ytolidhjffminkaa.J
open Go.Proofs.Ytolidhjffminkaa Go.RowKit Go.By
set_option linter.unusedVariables false
set_option linter.unusedSimpArgs false

/-- A list of texts apart from what changes. -/
def LsA (W : World) (j g bR : Nat) (r : Option Nat) (u : Option Addr) (L : List ByteArray) : Prop := L = [] ∨ ∃ b off, u = some ⟨b, off, none⟩ ∧ (b ≠ j ∧ b ≠ g ∧ r ≠ some b ∧ b ≠ bR) ∧ b < W.heap.size ∧ ∀ i, i < L.length → W.cell? ⟨b, off + i, none⟩ = some (.string (L.getD i ⟨#[]⟩))
theorem LsA.ls {W : World} {j g bR : Nat} {r : Option Nat} {u : Option Addr} {L : List ByteArray} (h : LsA W j g bR r u L) : LS W u L := h.elim .inl fun ⟨b, off, e, _, _, hc⟩ => .inr ⟨b, off, e, hc⟩
theorem LB.lsA {B : Nat} {W : World} {j g bR : Nat} {r : Option Nat} {u : Option Addr} {L : List ByteArray} (h : LB B W u L) (hj : j < B) (hg : g < B) (hR : bR < B) (hr : ∀ q, r = some q → q < B) : LsA W j g bR r u L :=
  h.elim .inl fun ⟨b, off, e, h1, h2, hc⟩ => .inr ⟨b, off, e, ⟨by omega, by omega, fun e2 => by have := hr b e2; omega, by omega⟩, h2, hc⟩
/-- The journal, and the reference's in its box. -/
structure P3 (w0 W : World) (j g M bR : Nat) (r : Option Nat) (bj : Nat) (K : List ByteArray) (br : Nat) (L : List ByteArray) (u : Option Addr) (n cap : Nat) : Prop where
  jn : Jn w0 W j g M r bj K
  box : RBox W bR u n cap (br : Int) (M : Int)
  ls : LsA W j g bR r u L
  len : L.length = n
  cap_ : n ≤ cap
  apart : bR ≠ j ∧ bR ≠ g ∧ r ≠ some bR ∧ w0.heap.size ≤ bR
/-- A step in its box. -/
structure SB (W : World) (j g bR : Nat) (r : Option Nat) (bs : Nat) (t : Bool) (nn : Int) (x : ByteArray) : Prop where
  at_ : W.heap[bs]? = some (.cells #[.bool t, .int .i64 nn, .string x] 30 (0, 0))
  apart : bs ≠ j ∧ bs ≠ g ∧ r ≠ some bs ∧ bs ≠ bR
theorem SB.cells {W : World} {j g bR : Nat} {r : Option Nat} {bs : Nat} {t : Bool} {nn : Int} {x : ByteArray} (h : SB W j g bR r bs t nn x) : W.cell? ⟨bs, 0, none⟩ = some (.bool t) ∧ W.cell? ⟨bs, 1, none⟩ = some (.int .i64 nn) ∧ W.cell? ⟨bs, 2, none⟩ = some (.string x) :=
  ⟨by rw [Joins.cell_of_block h.at_]; rfl, by rw [Joins.cell_of_block h.at_]; rfl, by rw [Joins.cell_of_block h.at_]; rfl⟩

section
variable {w0 W W' : World} {j g M bR bs bj bj' br br' n n' cap cap' : Nat} {r r' : Option Nat} {K K' L L' : List ByteArray} {u u' : Option Addr} {t : Bool} {nn : Int} {x : ByteArray}

theorem turn_block {b : Nat} (ht : TurnJ j g r r' W W') (hb : b < W.heap.size) (h1 : b ≠ j) (h2 : b ≠ g) (h3 : r ≠ some b) : W'.heap[b]? = W.heap[b]? ∧ r' ≠ some b := by
  refine ⟨ht.1.block b hb fun hS => ?_, ?_⟩
  · rcases hS with e | e | e
    · exact h1 e
    · exact h2 e
    · exact h3 e.symm
  · rcases ht.2 with e | ⟨q, e, hq⟩
    · rw [e]; exact h3
    · rw [e]; intro e2; cases e2; omega
theorem P3.turn (h : P3 w0 W j g M bR r bj K br L u n cap) (hn : Jn w0 W' j g M r' bj' K') (ht : TurnJ j g r r' W W') : P3 w0 W' j g M bR r' bj' K' br L u n cap := by
  have hb := turn_block ht (lt_of_heap h.box) h.apart.1 h.apart.2.1 h.apart.2.2.1
  refine ⟨hn, hb.1.trans h.box, ?_, h.len, h.cap_, h.apart.1, h.apart.2.1, hb.2, h.apart.2.2.2⟩
  rcases h.ls with e | ⟨b, off, e, ⟨a1, a2, a3, a4⟩, hlt, hc⟩
  · exact .inl e
  · have hb2 := turn_block ht hlt a1 a2 a3
    exact .inr ⟨b, off, e, ⟨a1, a2, hb2.2, a4⟩, Nat.lt_of_lt_of_le hlt ht.1.size, fun i hi => (World.cell?_of_block (a := ⟨b, off + i, none⟩) hb2.1).trans (hc i hi)⟩
theorem SB.turn (h : SB W j g bR r bs t nn x) (ht : TurnJ j g r r' W W') : SB W' j g bR r' bs t nn x := by
  have hb := turn_block ht (lt_of_heap h.at_) h.apart.1 h.apart.2.1 h.apart.2.2.1
  exact ⟨hb.1.trans h.at_, h.apart.1, h.apart.2.1, hb.2, h.apart.2.2.2⟩
theorem P3.seen (h : P3 w0 W j g M bR r bj K br L u n cap) (hb : Below W.heap.size W W') : P3 w0 W' j g M bR r bj K br L u n cap := by
  refine ⟨h.jn.up hb, (hb.block _ (lt_of_heap h.box)).trans h.box, ?_, h.len, h.cap_, h.apart⟩
  rcases h.ls with e | ⟨b, off, e, a, hlt, hc⟩
  · exact .inl e
  · exact .inr ⟨b, off, e, a, Nat.lt_of_lt_of_le hlt hb.size, fun i hi => (World.cell?_of_block (a := ⟨b, off + i, none⟩) (hb.block b hlt)).trans (hc i hi)⟩
theorem SB.seen (h : SB W j g bR r bs t nn x) (hb : Below W.heap.size W W') : SB W' j g bR r bs t nn x := ⟨(hb.block _ (lt_of_heap h.at_)).trans h.at_, h.apart⟩
theorem P3.drewN (h : P3 w0 W j g M bR r bj K br L u n cap) (q : Nat) : P3 w0 (W.drewN q) j g M bR r bj K br L u n cap := h.seen (below_drewN (Below.refl _ _) q)
theorem SB.drewN (h : SB W j g bR r bs t nn x) (q : Nat) : SB (W.drewN q) j g bR r bs t nn x := h.seen (below_drewN (Below.refl _ _) q)

/-- A value is laid into the reference's box. -/
def laid (W : World) (bR : Nat) (u : Option Addr) (n cap : Nat) (br most : Int) : World := ((W.setCell ⟨bR, 0, none⟩ (.slice u n cap)).setCell ⟨bR, 1, none⟩ (.int .i64 br)).setCell ⟨bR, 2, none⟩ (.int .i64 most)
theorem laid_block (W : World) (bR : Nat) (u : Option Addr) (n cap : Nat) (br most : Int) (b : Nat) (h : b ≠ bR) : (laid W bR u n cap br most).heap[b]? = W.heap[b]? :=
  ((Below.heap_setCell _ _ _ b h).trans (Below.heap_setCell _ _ _ b h)).trans (Below.heap_setCell _ _ _ b h)
theorem laid_size (W : World) (bR : Nat) (u : Option Addr) (n cap : Nat) (br most : Int) : (laid W bR u n cap br most).heap.size = W.heap.size := by simp [laid]
theorem laid_below {B : Nat} (W : World) (bR : Nat) (u : Option Addr) (n cap : Nat) (br most : Int) (h : B ≤ bR) (hb : Below B w0 W) : Below B w0 (laid W bR u n cap br most) :=
  ((hb.setCell (p := ⟨bR, 0, none⟩) h _).setCell (p := ⟨bR, 1, none⟩) h _).setCell (p := ⟨bR, 2, none⟩) h _
theorem P3.lay (h : P3 w0 W j g M bR r bj K br L u n cap) (hl : LsA W j g bR r u' L') (hn : L'.length = n') (hc : n' ≤ cap') : P3 w0 (laid W bR u' n' cap' (br' : Int) (M : Int)) j g M bR r bj K br' L' u' n' cap' := by
  have hj := h.jn.1
  refine ⟨⟨⟨hj.1, (laid_block W bR u' n' cap' _ _ j (Ne.symm h.apart.1)).trans hj.2.1, hj.2.2.same (laid_block W bR u' n' cap' _ _ g (Ne.symm h.apart.2.1)) fun q hq => laid_block W bR u' n' cap' _ _ q fun e => h.apart.2.2.1 (e ▸ hq)⟩, laid_below W bR u' n' cap' _ _ h.apart.2.2.2 h.jn.2⟩, rset h.box, ?_, hn, hc, h.apart⟩
  rcases hl with e | ⟨b, off, e, a, hlt, hc⟩
  · exact .inl e
  · exact .inr ⟨b, off, e, a, by rw [laid_size]; exact hlt, fun i hi => (World.cell?_of_block (a := ⟨b, off + i, none⟩) (laid_block W bR u' n' cap' _ _ b a.2.2.2)).trans (hc i hi)⟩
theorem SB.lay (h : SB W j g bR r bs t nn x) (u' : Option Addr) (n' cap' : Nat) (b m : Int) : SB (laid W bR u' n' cap' b m) j g bR r bs t nn x := ⟨(laid_block W bR u' n' cap' b m bs h.apart.2.2.2).trans h.at_, h.apart⟩

/-- What a step is asked of the journal, and of the reference. -/
theorem P3.trims (k : Nat) (h : P3 w0 W j g M bR r bj K br L u n cap) (s : SB W j g bR r bs t nn x) (hb : bj ≤ 1000000) (h1 : 1 ≤ k) (h2 : k ≤ K.length) :
    Calls Try.prog 8 #[.pointer (some ⟨j, 0, none⟩), .int .i64 ((bj + k : Nat) : Int)] W fun e W' => e = .returned (.int .i64 (k : Int)) ∧ P3 w0 W' j g M bR r (bj + k) (K.drop k) br L u n cap ∧ SB W' j g bR r bs t nn x := by
  refine (trim_some k h.jn.1 hb h1 (by rw [List.length_map]; exact h2)).mono ?_
  rintro e W' ⟨he, hj, ht⟩
  exact ⟨he, h.turn (h.jn.turn (by rw [List.map_drop]; exact hj) ht) ht, s.turn ht⟩
theorem P3.trimsNot (rev : Int) (h : P3 w0 W j g M bR r bj K br L u n cap) (s : SB W j g bR r bs t nn x) (hb : bj ≤ 1000000) (hn : rev ≤ bj ∨ (bj + K.length : Nat) < rev) :
    Calls Try.prog 8 #[.pointer (some ⟨j, 0, none⟩), .int .i64 rev] W fun e W' => e = .returned (.int .i64 0) ∧ P3 w0 W' j g M bR r bj K br L u n cap ∧ SB W' j g bR r bs t nn x := by
  refine (trim_none rev h.jn.1 hb (by rw [List.length_map]; exact hn)).mono ?_
  rintro e W' ⟨he, q, rfl⟩
  exact ⟨he, h.drewN q, s.drewN q⟩
theorem P3.appends (y : ByteArray) (h : P3 w0 W j g M bR r bj K br L u n cap) (s : SB W j g bR r bs t nn x) (hb : bj ≤ 1000000) (hl : K.length < M) :
    Calls Try.prog 10 #[.pointer (some ⟨j, 0, none⟩), .string y] W fun e W' => e = .returned (.tuple #[.int .i64 ((bj + K.length + 1 : Nat) : Int), .int .i64 0]) ∧ ∃ r', P3 w0 W' j g M bR r' bj (K ++ [y]) br L u n cap ∧ SB W' j g bR r' bs t nn x := by
  refine (append_ok y h.jn.1 h.jn.2.size hb (by rw [List.length_map]; exact hl)).mono ?_
  rintro e W' ⟨he, r', hj, ht⟩
  rw [List.length_map] at he
  exact ⟨he, r', h.turn (h.jn.turn (by rw [List.map_append]; exact hj) ht) ht, s.turn ht⟩
theorem P3.appendsNot (y : ByteArray) (h : P3 w0 W j g M bR r bj K br L u n cap) (s : SB W j g bR r bs t nn x) (hl : K.length = M) :
    Calls Try.prog 10 #[.pointer (some ⟨j, 0, none⟩), .string y] W fun e W' => e = .returned (.tuple #[.int .i64 0, .int .i64 31]) ∧ P3 w0 W' j g M bR r bj K br L u n cap ∧ SB W' j g bR r bs t nn x := by
  refine (append_full y h.jn.1 (by rw [List.length_map]; exact hl)).mono ?_
  rintro e W' ⟨he, q, rfl⟩
  exact ⟨he, h.drewN q, s.drewN q⟩
theorem P3.rappends (y : ByteArray) (h : P3 w0 W j g M bR r bj K br L u n cap) (hn : n ≤ 1000) (hb : br ≤ n) (hf : ¬ (M : Int) ≤ (n : Int) - (br : Int)) :
    Calls Try.prog 11 #[.agg #[.slice u n cap, .int .i64 (br : Int), .int .i64 (M : Int)], .string y] W fun e W' => (∃ u' c', e = .returned (.tuple #[.agg #[.slice u' (n + 1) c', .int .i64 (br : Int), .int .i64 (M : Int)], .int .i64 ((n + 1 : Nat) : Int), .int .i64 0]) ∧ n + 1 ≤ c' ∧ LsA W' j g bR r u' (L ++ [y])) ∧ Below W.heap.size W W' := by
  refine (rappend_ok y u L n cap br M W h.len h.ls.ls hn hb hf).mono ?_
  rintro e W' ⟨⟨u', c', he, hc, hl⟩, hb⟩
  exact ⟨⟨u', c', he, hc, hl.lsA h.jn.1.lt h.jn.1.2.2.lt.2 (lt_of_heap h.box) fun q hq => (h.jn.1.2.2.room q hq).2⟩, hb⟩
end
end Go.Proofs.Ytolidhjffminkaa.J
