/- The ring: all of its elements. -/
import Derived.Test.YtolidhjffminkaaRing4
import Derived.RangeFuncNested
import Derived.RangeFuncBound
import Derived.RangeFuncCalls
import Derived.RangeFuncLeaves
import Derived.Shelf.Abstract
import Derived.Shelf.RegionOpen
import Derived.OwnWalkIn
import Derived.TacticsInMore
import Derived.LoopNIn
import Derived.LoopIn
import Derived.Maps.AppendAt
import Derived.Stop.RegionWithIn
import Derived.Sort.CutIn
import Derived.BigRegionIn
namespace Go.Proofs.Ytolidhjffminkaa
open Go.RowKit Go.By Go.Shelf
set_option linter.unusedVariables false
attribute [local go_sem] Oper.semAt_some

/-- What each$1 reads: the ring's first cells and its row, in blocks below n₀. -/
def Seen (n₀ : Nat) (W : World) (g : Nat) (xs : List Value) : Prop :=
  g < n₀ ∧ ∃ (a : Option Addr) (f cap : Nat), W.cell? ⟨g, 1, none⟩ = some (.slice a (f + xs.length) cap) ∧ W.cell? ⟨g, 2, none⟩ = some (.int .i64 (f : Int)) ∧ f + xs.length < 1000000 ∧
    (a = none → xs = []) ∧ ∀ b, a = some b → ∃ k, b = ⟨k, 0, none⟩ ∧ k < n₀ ∧ ∀ i z, i < xs.length → W.cell? ⟨k, f + i, none⟩ = some (xs.getD i z)

theorem Seen.below {n₀ : Nat} {W W' : World} {g : Nat} {xs : List Value} (h : Seen n₀ W g xs) (hb : Below n₀ W W') : Seen n₀ W' g xs := by
  obtain ⟨hg, a, f, cap, c1, c2, hl, hn, hs⟩ := h
  refine ⟨hg, a, f, cap, (hb.cell (p := ⟨g, 1, none⟩) hg).trans c1, (hb.cell (p := ⟨g, 2, none⟩) hg).trans c2, hl, hn, fun b hb' => ?_⟩
  obtain ⟨k, rfl, hk, hc⟩ := hs b hb'
  exact ⟨k, rfl, hk, fun i z hi => (hb.cell (p := ⟨k, f + i, none⟩) hk).trans (hc i z hi)⟩

theorem RingIs.seen {T E : TypeId} {w : World} {B g most : Nat} {r : Option Nat} {xs : List Value} (h : RingIs T E w B g most r xs) : Seen w.heap.size w g xs := by
  have hlt := h.lt.2
  have hrm := h.room
  obtain ⟨a, f, cap, c0, c1, c2, hf, hm, h1, h2, hc, hc2, hn, hs⟩ := h.cells
  refine ⟨hlt, a, f, cap, c1, c2, by omega, hn, fun b hb => ?_⟩
  obtain ⟨k, rfl, hk⟩ := hs b hb
  refine ⟨k, rfl, ?_, hk⟩
  obtain ⟨_, v, f', junk, hg, hr, _, _, hv, _⟩ := h
  rw [Joins.cell_of_block hg] at c1
  have hv' : v = .slice a (f + xs.length) cap := by simpa using c1
  refine (hrm k ?_).2
  rw [← hv, hv', hb]; rfl

theorem grownBy_drewN (W : World) (n : Nat) : W.grownBy (W.drewN n) none := ⟨rfl, rfl, rfl, Nat.le_refl _, fun _ _ _ => rfl⟩

/-- What a round keeps: all below n₀, and the block of the captured variable. -/
def KeepB (n₀ Bn : Nat) (W W' : World) : Prop := Below n₀ W W' ∧ W'.heap[Bn]? = W.heap[Bn]?

theorem KeepB.refl (n₀ Bn : Nat) (W : World) : KeepB n₀ Bn W W := ⟨Below.refl _ W, rfl⟩
theorem KeepB.trans {n₀ Bn : Nat} {A B C : World} (h : KeepB n₀ Bn A B) (k : KeepB n₀ Bn B C) : KeepB n₀ Bn A C := ⟨h.1.trans k.1, k.2.trans h.2⟩
theorem KeepB.drew {n₀ Bn : Nat} {A B : World} (k : KeepB n₀ Bn A.drew B) : KeepB n₀ Bn A B := ⟨⟨k.1.os, k.1.tape, k.1.output, k.1.size, k.1.block⟩, k.2⟩
theorem keepB_b {n₀ Bn : Nat} {w : World} (hn : n₀ ≤ w.heap.size) (hB : Bn < w.heap.size) (W : World) (l : Nat) (o o' : Obj) (hl : w.heap.size ≤ l) (h : W.heap[l]? = some o) (h1 : o.isCells = false) (h2 : o.isWalk = false) : KeepB n₀ Bn W (W.putObj l o') :=
  ⟨belowK_b hn W l o o' hl h h1 h2, World.putObj_heap_other (by omega)⟩

/-- How a round ended. -/
def Went (n₀ Bn : Nat) (W : World) (G Gx : World → Prop) (b : Bool) (W' : World) : Prop := (b = true ∧ G W' ∧ KeepB n₀ Bn W W') ∨ (b = false ∧ Gx W')

theorem went_of {n₀ Bn : Nat} {W : World} {G Gx : World → Prop} {e : Ending} {W' : World} (h : (e = .returned (.bool true) ∧ G W' ∧ KeepB n₀ Bn W W') ∨ (e = .returned (.bool false) ∧ Gx W')) : ∃ b, e = .returned (.bool b) ∧ Went n₀ Bn W G Gx b W' :=
  h.elim (fun h => ⟨true, h.1, .inl ⟨rfl, h.2⟩⟩) fun h => ⟨false, h.1, .inr ⟨rfl, h.2⟩⟩

end Go.Proofs.Ytolidhjffminkaa
