/- RingPlays: what holds between the steps. -/
import Derived.Test.YtehefenagpdlaaaLives
namespace Go.Proofs.Ytehefenagpdlaaa
open Go.RowKit Go.By Go.Shelf
set_option linter.unusedVariables false

/-- The steps that came in. -/
def CameSt (B : Nat) (w : World) (a : Option Addr) (ss : List (Int × Int × Int)) : Prop :=
  ss = [] ∨ ∃ b off, a = some ⟨b, off, none⟩ ∧ b < B ∧ ∀ i, i < ss.length → w.cell? ⟨b, off + i * 3, none⟩ = some (.int .i64 (ss.getD i (0, 0, 0)).1) ∧ w.cell? ⟨b, off + i * 3 + 1, none⟩ = some (.int .i64 (ss.getD i (0, 0, 0)).2.1) ∧ w.cell? ⟨b, off + i * 3 + 2, none⟩ = some (.int .i64 (ss.getD i (0, 0, 0)).2.2)

def Apart (lv : Value) (g : Nat) (r : Option Nat) : Prop := ∀ k, lv.ownBlock = some k → k ≠ g ∧ some k ≠ r

abbrev ints (l : List Int) : List Value := l.map (Value.int .i64)

/-- Between two steps: the ring has the elements l, and so has the reference's list. -/
def Inv (w W : World) (g most : Nat) (r : Option Nat) (lv : Value) (l : List Int) : Prop :=
  RingIs 54 3 W w.heap.size g most r (ints l) ∧ Lst W lv l ∧ Apart lv g r ∧ Below w.heap.size w W

theorem Inv.len {w W : World} {g most : Nat} {r : Option Nat} {lv : Value} {l : List Int} (h : Inv w W g most r lv l) : l.length ≤ most ∧ most ≤ 65536 := by
  obtain ⟨hr, _⟩ := h
  obtain ⟨_, v, f, junk, _, _, _, _, _, _, _, h1, h2⟩ := hr
  simp at h2
  exact ⟨h2, h1⟩

theorem Inv.grow {w W W' : World} {g most : Nat} {r : Option Nat} {lv : Value} {l : List Int} (h : Inv w W g most r lv l) (hb : Below W.heap.size W W') : Inv w W' g most r lv l := by
  obtain ⟨h1, h2, h3, h4⟩ := h
  exact ⟨h1.same (hb.block g h1.lt.2) (fun k hk => hb.block k (h1.room k hk).2), h2.below hb, h3, h4.trans (hb.mono h4.size)⟩

theorem Inv.alloc {w W : World} {g most : Nat} {r : Option Nat} {lv : Value} {l : List Int} (h : Inv w W g most r lv l) (o : Obj) : Inv w (W.alloc o) g most r lv l := h.grow ((Below.refl _ W).alloc (Nat.le_refl _) o)

theorem Inv.drewN {w W : World} {g most : Nat} {r : Option Nat} {lv : Value} {l : List Int} (h : Inv w W g most r lv l) (q : Nat) : Inv w (W.drewN q) g most r lv l := h.grow ⟨rfl, rfl, rfl, Nat.le_refl _, fun _ _ => rfl⟩

/-- Behind an operation of the ring, ahead of the reference's. -/
theorem Inv.half {w W W2 : World} {g most : Nat} {r r' : Option Nat} {lv : Value} {l : List Int} {xs : List Value} (h : Inv w W g most r lv l) (h2 : RingIs 54 3 W2 w.heap.size g most r' xs) (ht : Turned g r r' W W2) :
    Lst W2 lv l ∧ Apart lv g r' ∧ Below w.heap.size w W2 := by
  obtain ⟨h1, hl, ha, hb⟩ := h
  refine ⟨hl.same ht.1.size fun k hk => ht.1.block k (hl.lt k hk) (fun e => e.elim (ha k hk).1 (ha k hk).2), fun k hk => ⟨(ha k hk).1, ?_⟩, hb.trans (h1.turned_below ht hb.size)⟩
  rcases ht.2 with rfl | ⟨j, rfl, hj⟩
  · exact (ha k hk).2
  · intro e; cases e
    have := hl.lt k hk
    omega

theorem Inv.fresh {w W2 W3 : World} {g most : Nat} {r' : Option Nat} {v' : Value} {l2 : List Int} (h2 : RingIs 54 3 W2 w.heap.size g most r' (ints l2)) (hb : Below w.heap.size w W2) (hr : W3.ownsRow W2.heap.size 3 1 v' l2.length (ints l2)) (hb3 : Below W2.heap.size W2 W3) : Inv w W3 g most r' v' l2 := by
  refine ⟨h2.same (hb3.block g h2.lt.2) (fun k hk => hb3.block k (h2.room k hk).2), lst_of_row hr, fun k hk => ?_, hb.trans (hb3.mono hb.size)⟩
  have h1 := (ownBlock_lt hr hk).1
  have h3 := h2.lt.2
  refine ⟨by omega, fun e => ?_⟩
  have := (h2.room k e.symm).2
  omega

theorem Inv.kept {w W2 : World} {g most : Nat} {r' : Option Nat} {lv v' : Value} {l2 : List Int} (h2 : RingIs 54 3 W2 w.heap.size g most r' (ints l2)) (hb : Below w.heap.size w W2) (hl : Lst W2 v' l2) (ha : Apart lv g r') (hv : v'.ownBlock = lv.ownBlock) : Inv w W2 g most r' v' l2 :=
  ⟨h2, hl, fun k hk => ha k (hv ▸ hk), hb⟩

/-- The step's own block lies on. -/
theorem step_kept {w W W2 : World} {g most bs : Nat} {r r' : Option Nat} {lv : Value} {l : List Int} {o : Obj} (h : Inv w W g most r lv l) (ht : Turned g r r' W W2) (hs : W.heap[bs]? = some o) (h1 : bs ≠ g) (h2 : some bs ≠ r) : W2.heap[bs]? = some o :=
  (ht.1.block bs (lt_of_heap hs) (fun e => e.elim h1 h2)).trans hs

theorem CameSt.below {B : Nat} {w w' : World} {a : Option Addr} {ss : List (Int × Int × Int)} (h : CameSt B w a ss) (hb : Below B w w') : CameSt B w' a ss :=
  h.elim .inl fun ⟨b, off, e, hlt, hc⟩ => .inr ⟨b, off, e, hlt, fun i hi => ⟨(hb.cell (p := ⟨b, off + i * 3, none⟩) hlt).trans (hc i hi).1, (hb.cell (p := ⟨b, off + i * 3 + 1, none⟩) hlt).trans (hc i hi).2.1, (hb.cell (p := ⟨b, off + i * 3 + 2, none⟩) hlt).trans (hc i hi).2.2⟩⟩

end Go.Proofs.Ytehefenagpdlaaa
