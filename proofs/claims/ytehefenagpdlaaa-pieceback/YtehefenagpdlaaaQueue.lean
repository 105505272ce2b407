/- RingQueues: what holds between the rounds. -/
import Derived.Test.YtehefenagpdlaaaLives
import Derived.Test.YtehefenagpdlaaaStrB
namespace Go.Proofs.Ytehefenagpdlaaa
open Go.RowKit Go.By Go.Shelf
set_option linter.unusedVariables false

abbrev strs (l : List ByteArray) : List Value := l.map Value.string

/-- The ring has xs; 'in' is I, 'out' is O; none of these share a block; what went in is what came out and what is there. -/
structure QInv (w W : World) (g m : Nat) (r : Option Nat) (iv ov : Value) (I O xs : List ByteArray) : Prop where
  ring : RingIs 82 9 W w.heap.size g m r (strs xs)
  inn : W.ownsRow w.heap.size 9 1 iv I.length (strs I)
  out : W.ownsRow w.heap.size 9 1 ov O.length (strs O)
  sepI : ∀ k, iv.ownBlock = some k → some k ≠ r
  sepO : ∀ k, ov.ownBlock = some k → some k ≠ r
  sepIO : ∀ k, iv.ownBlock = some k → some k ≠ ov.ownBlock
  all : I = O ++ xs
  below : Below w.heap.size w W

theorem row_ne {w : World} {B T E g n : Nat} {v : Value} {l : List Value} {r : Option Nat} {most : Nat} {xs : List Value} (hr : RingIs T E w B g most r xs) (hTE : T ≠ E) (h : w.ownsRow B E 1 v n l) : ∀ k, v.ownBlock = some k → k ≠ g := by
  obtain ⟨_, v', f, junk, hg, _⟩ := hr
  intro k hk e
  subst e
  exact ownBlock_ne h hg hTE hk.symm

theorem QInv.drewN {w W : World} {g m : Nat} {r : Option Nat} {iv ov : Value} {I O xs : List ByteArray} (h : QInv w W g m r iv ov I O xs) (q : Nat) : QInv w (W.drewN q) g m r iv ov I O xs :=
  ⟨h.ring, h.inn, h.out, h.sepI, h.sepO, h.sepIO, h.all, ⟨h.below.os, h.below.tape, h.below.output, h.below.size, h.below.block⟩⟩

/-- Behind an operation of the ring. -/
theorem QInv.turn {w W W2 : World} {g m : Nat} {r r' : Option Nat} {iv ov : Value} {I O xs : List ByteArray} {ys : List Value} (h : QInv w W g m r iv ov I O xs) (h2 : RingIs 82 9 W2 w.heap.size g m r' ys) (ht : Turned g r r' W W2) :
    W2.ownsRow w.heap.size 9 1 iv I.length (strs I) ∧ W2.ownsRow w.heap.size 9 1 ov O.length (strs O) ∧ (∀ k, iv.ownBlock = some k → some k ≠ r') ∧ (∀ k, ov.ownBlock = some k → some k ≠ r') ∧ Below w.heap.size w W2 := by
  have hi := row_ne h.ring (by decide) h.inn
  have ho := row_ne h.ring (by decide) h.out
  refine ⟨ownsRow_same h.inn fun k hk => ht.1.block k (ownBlock_lt h.inn hk).2 (fun e => e.elim (hi k hk) (h.sepI k hk)), ownsRow_same h.out fun k hk => ht.1.block k (ownBlock_lt h.out hk).2 (fun e => e.elim (ho k hk) (h.sepO k hk)), ?_, ?_, h.below.trans (h.ring.turned_below ht h.below.size)⟩
  · intro k hk
    rcases ht.2 with rfl | ⟨j, rfl, hj⟩
    · exact h.sepI k hk
    · intro e; cases e; have := (ownBlock_lt h.inn hk).2; omega
  · intro k hk
    rcases ht.2 with rfl | ⟨j, rfl, hj⟩
    · exact h.sepO k hk
    · intro e; cases e; have := (ownBlock_lt h.out hk).2; omega

/-- What an append to a row of one's own turned. -/
theorem only_app {W W' : World} {o : Obj} {row : Option Nat} (hg : (W.alloc o).grownBy W' row) : Only (fun k => some k = row) W W' :=
  (Only.alloc _ W o).trans (Only.grown hg fun k hk => hk.symm)

theorem QInv.appIn {w W W2 : World} {g m k cap : Nat} {r : Option Nat} {iv ov : Value} {I O xs : List ByteArray} {s : ByteArray} {o : Obj}
    (hr : RingIs 82 9 W w.heap.size g m r (strs (xs ++ [s]))) (hin : W.ownsRow w.heap.size 9 1 iv I.length (strs I)) (hout : W.ownsRow w.heap.size 9 1 ov O.length (strs O)) (s1 : ∀ k, iv.ownBlock = some k → some k ≠ r) (s2 : ∀ k, ov.ownBlock = some k → some k ≠ r) (s3 : ∀ k, iv.ownBlock = some k → some k ≠ ov.ownBlock) (ha : I = O ++ xs) (hb : Below w.heap.size w W)
    (hin2 : W2.ownsRow w.heap.size 9 1 (.slice (some ⟨k, 0, none⟩) (I.length + 1) cap) (I.length + 1) (strs I ++ [.string s])) (hg : (W.alloc o).grownBy W2 iv.ownBlock) (hk : iv.ownBlock = some k ∨ k = W.heap.size + 1) :
    QInv w W2 g m r (.slice (some ⟨k, 0, none⟩) (I.length + 1) cap) ov (I ++ [s]) O (xs ++ [s]) := by
  have ho := only_app hg
  have hbk : ∀ j, iv.ownBlock = some j → w.heap.size ≤ j := fun j hj => (ownBlock_lt hin hj).1
  refine ⟨hr.only ho (fun e => row_ne hr (by decide) hin g e.symm rfl) (fun j hj e => s1 j e.symm hj.symm), by simpa using hin2, ownsRow_same hout (fun j hj => ho.block j (ownBlock_lt hout hj).2 (fun e => s3 j e.symm hj.symm)), ?_, s2, ?_, by rw [ha, List.append_assoc], hb.trans (ho.below hb.size fun i hi => hbk i hi.symm)⟩
  · intro j hj
    obtain rfl : k = j := by simpa [Value.ownBlock] using hj
    rcases hk with hk | hk
    · exact s1 k hk
    · intro e; have := (hr.room k e.symm).2; omega
  · intro j hj
    obtain rfl : k = j := by simpa [Value.ownBlock] using hj
    rcases hk with hk | hk
    · exact s3 k hk
    · intro e; have := (ownBlock_lt hout e.symm).2; omega

theorem QInv.appOut {w W W2 : World} {g m k cap : Nat} {r : Option Nat} {iv ov : Value} {I O xs : List ByteArray} {s : ByteArray} {o : Obj}
    (hr : RingIs 82 9 W w.heap.size g m r (strs xs)) (hin : W.ownsRow w.heap.size 9 1 iv I.length (strs I)) (hout : W.ownsRow w.heap.size 9 1 ov O.length (strs O)) (s1 : ∀ k, iv.ownBlock = some k → some k ≠ r) (s2 : ∀ k, ov.ownBlock = some k → some k ≠ r) (s3 : ∀ k, iv.ownBlock = some k → some k ≠ ov.ownBlock) (ha : I = O ++ s :: xs) (hb : Below w.heap.size w W)
    (hout2 : W2.ownsRow w.heap.size 9 1 (.slice (some ⟨k, 0, none⟩) (O.length + 1) cap) (O.length + 1) (strs O ++ [.string s])) (hg : (W.alloc o).grownBy W2 ov.ownBlock) (hk : ov.ownBlock = some k ∨ k = W.heap.size + 1) :
    QInv w W2 g m r iv (.slice (some ⟨k, 0, none⟩) (O.length + 1) cap) I (O ++ [s]) xs := by
  have ho := only_app hg
  have hbk : ∀ j, ov.ownBlock = some j → w.heap.size ≤ j := fun j hj => (ownBlock_lt hout hj).1
  refine ⟨hr.only ho (fun e => row_ne hr (by decide) hout g e.symm rfl) (fun j hj e => s2 j e.symm hj.symm), ownsRow_same hin (fun j hj => ho.block j (ownBlock_lt hin hj).2 (fun e => s3 j hj e)), by simpa using hout2, s1, ?_, ?_, by rw [ha]; simp, hb.trans (ho.below hb.size fun i hi => hbk i hi.symm)⟩
  · intro j hj
    obtain rfl : k = j := by simpa [Value.ownBlock] using hj
    rcases hk with hk | hk
    · exact s2 k hk
    · intro e; have := (hr.room k e.symm).2; omega
  · intro j hj e
    have e' : j = k := by simpa [Value.ownBlock] using e
    subst e'
    rcases hk with hk | hk
    · exact s3 j hj hk.symm
    · have := (ownBlock_lt hin hj).2; omega

/-- A row's cells. -/
theorem row_cells {W : World} {B n : Nat} {v : Value} {l : List ByteArray} (h : W.ownsRow B 9 1 v l.length (strs l)) :
    ∃ a cap, v = .slice a l.length cap ∧ l.length ≤ cap ∧ (a = none → l = [] ∧ cap = 0) ∧ ∀ x, a = some x → ∃ k, x = ⟨k, 0, none⟩ ∧ k < W.heap.size ∧ ∀ i, i < l.length → W.cell? ⟨k, i, none⟩ = some (.string (l.getD i ⟨#[]⟩)) := by
  rcases h.2 with ⟨rfl, h0⟩ | ⟨k, cap, cur, rfl, hb, hh, hn, hm, hs, ht⟩
  · have hx : l = [] := List.length_eq_zero_iff.1 h0
    subst hx
    exact ⟨none, 0, rfl, by simp, fun _ => ⟨rfl, rfl⟩, by simp⟩
  · refine ⟨_, cap, rfl, hn, by simp, fun x hx => ?_⟩
    cases hx
    refine ⟨k, rfl, lt_of_heap hh, fun i hi => ?_⟩
    rw [Joins.cell_of_block hh]
    have e1 : cur[i]? = (cur.toList.take (l.length * 1))[i]? := by rw [List.getElem?_take_of_lt (by omega)]; simp
    rw [e1, ht]
    simp [List.getD, hi]

/-- The texts and the bytes that came in. -/
def CameTx (B : Nat) (w : World) (a : Option Addr) (l : List ByteArray) : Prop :=
  l = [] ∨ ∃ b off, a = some ⟨b, off, none⟩ ∧ b < B ∧ ∀ i, i < l.length → w.cell? ⟨b, off + i, none⟩ = some (.string (l.getD i ⟨#[]⟩))

theorem CameTx.below {B : Nat} {w w' : World} {a : Option Addr} {l : List ByteArray} (h : CameTx B w a l) (hb : Below B w w') : CameTx B w' a l :=
  h.elim .inl fun ⟨b, off, e, hlt, hc⟩ => .inr ⟨b, off, e, hlt, fun i hi => (hb.cell (p := ⟨b, off + i, none⟩) hlt).trans (hc i hi)⟩

def CameBy (B : Nat) (w : World) (a : Option Addr) (l : List Nat) : Prop :=
  (∀ c ∈ l, c < 256) ∧ (l = [] ∨ ∃ b off, a = some ⟨b, off, none⟩ ∧ b < B ∧ ∀ i, i < l.length → w.cell? ⟨b, off + i, none⟩ = some (.int .u8 ((l.getD i 0 : Nat) : Int)))

theorem CameBy.below {B : Nat} {w w' : World} {a : Option Addr} {l : List Nat} (h : CameBy B w a l) (hb : Below B w w') : CameBy B w' a l :=
  ⟨h.1, h.2.elim .inl fun ⟨b, off, e, hlt, hc⟩ => .inr ⟨b, off, e, hlt, fun i hi => (hb.cell (p := ⟨b, off + i, none⟩) hlt).trans (hc i hi)⟩⟩

set_option maxRecDepth 20000 in
set_option maxHeartbeats 2000000 in
theorem new_str (m : Int) (w : World) (hm : 1 ≤ m) (hm2 : m ≤ 65536) :
    Calls Try.prog 23 #[.int .i64 m] w fun e w' => e = .returned (.pointer (some ⟨w.heap.size, 0, none⟩)) ∧ w' = w.alloc (.cells #[.int .i64 m, .slice none 0 0, .int .i64 0] 82) := by
  go_enter Try.func23, Try.ntmps23
  go_wp2
  go_ret
  exact ⟨rfl, rfl⟩

end Go.Proofs.Ytehefenagpdlaaa
