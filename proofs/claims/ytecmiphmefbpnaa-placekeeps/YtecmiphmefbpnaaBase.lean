/- What the texts of this seat share: the library's texts that they need; what a range over a function keeps. -/
import Derived.Test.YtecmiphmefbpnaaChecked
import Derived.Test.YtecmiphmefbpnaaOwn
import Derived.BigQuiet
import Derived.BigRegionIn
import Derived.Deep.CutRange
import Derived.Deep.QuietTactic
import Derived.Deep.RegionLaw
import Derived.LoopIn
import Derived.LoopNIn
import Derived.Maps.AppendAt
import Derived.OwnWalkIn
import Derived.RangeFuncBound
import Derived.RangeFuncBox
import Derived.RangeFuncCalls
import Derived.RangeFuncLeaves
import Derived.RangeFuncNested
import Derived.Shelf.Abstract
import Derived.Shelf.RegionOpen
import Derived.Shelf.Spec.SlicesInsert
import Derived.Shelf.Spec.SlicesInsertGrow
import Derived.Sort.CutIn
import Derived.Stop.RegionWithIn
import Derived.TacticsInMore
namespace Go.Proofs.Ytecmiphmefbpnaa
open Go.RowKit Go.By Go.Shelf
set_option linter.unusedVariables false

theorem Try.info9 : (Try.prog.info? 9).map (fun i => (i.zero, i.size, i.bytes)) = some (some (.string ⟨#[]⟩), 1, 16) := by kernel_rfl
abbrev strs (l : List ByteArray) : List Value := l.map Value.string
theorem grownBy_drewN (W : World) (n : Nat) : W.grownBy (W.drewN n) none := ⟨rfl, rfl, rfl, Nat.le_refl _, fun _ _ _ => rfl⟩

/-- What a round keeps: all below n₀, and the block of the captured variable. -/
def KeepB (n₀ Bn : Nat) (W W' : World) : Prop := Below n₀ W W' ∧ W'.heap[Bn]? = W.heap[Bn]?

theorem KeepB.refl (n₀ Bn : Nat) (W : World) : KeepB n₀ Bn W W := ⟨Below.refl _ W, rfl⟩
theorem KeepB.trans {n₀ Bn : Nat} {A B C : World} (h : KeepB n₀ Bn A B) (k : KeepB n₀ Bn B C) : KeepB n₀ Bn A C := ⟨h.1.trans k.1, k.2.trans h.2⟩
theorem KeepB.drew {n₀ Bn : Nat} {A B : World} (k : KeepB n₀ Bn A.drew B) : KeepB n₀ Bn A B := ⟨⟨k.1.os, k.1.tape, k.1.output, k.1.size, k.1.block⟩, k.2⟩
theorem keepB_b {n₀ Bn : Nat} {w : World} (hn : n₀ ≤ w.heap.size) (hB : Bn < w.heap.size) (W : World) (l : Nat) (o o' : Obj) (hl : w.heap.size ≤ l) (h : W.heap[l]? = some o) (h1 : o.isCells = false) (h2 : o.isWalk = false) : KeepB n₀ Bn W (W.putObj l o') :=
  ⟨belowK_b hn W l o o' hl h h1 h2, World.putObj_heap_other (by omega)⟩

/-- How a round ended. -/
def Went (n₀ Bn : Nat) (W : World) (G Gx : World → Prop) (b : Bool) (W' : World) : Prop := (b = true ∧ G W' ∧ KeepB n₀ Bn W W') ∨ (b = false ∧ Gx W')

theorem went_of {n₀ Bn : Nat} {W : World} {G Gx : World → Prop} {e : Ending} {W' : World} (h : (e = .returned (.bool true) ∧ G W' ∧ KeepB n₀ Bn W W') ∨ (e = .returned (.bool false) ∧ Gx W')) : ∃ b, e = .returned (.bool b) ∧ Went n₀ Bn W G Gx b W' :=
  h.elim (fun h => ⟨true, h.1, .inl ⟨rfl, h.2⟩⟩) fun h => ⟨false, h.1, .inr ⟨rfl, h.2⟩⟩

set_option maxRecDepth 100000 in
theorem drew2 (w : World) (a b : Nat) : ∃ q, (w.drewN a).drewN b = w.drewN q := ⟨_, World.drewN_drewN ..⟩

end Go.Proofs.Ytecmiphmefbpnaa
