/- The ring: all of its elements. -/
import Derived.Test.YtehefenagpdlaaaRing4
import Derived.RangeFuncNested
import Derived.RangeFuncBound
import Derived.RangeFuncCalls
import Derived.RangeFuncLeaves
import Derived.Shelf.Abstract
import Derived.Shelf.RegionOpen
import Derived.OwnWalkIn
import Derived.TacticsInMore
import Derived.LoopNIn
import Derived.LoopIn
import Derived.Maps.AppendAt
import Derived.Stop.RegionWithIn
import Derived.Sort.CutIn
import Derived.BigRegionIn
namespace Go.Proofs.Ytehefenagpdlaaa
open Go.RowKit Go.By Go.Shelf
set_option linter.unusedVariables false
attribute [local go_sem] Oper.semAt_some

/-- What each$1 reads: the ring's first cells and its row, in blocks below n₀. -/
def Seen (n₀ : Nat) (W : World) (g : Nat) (xs : List Value) : Prop :=
  g < n₀ ∧ ∃ (a : Option Addr) (f cap : Nat), W.cell? ⟨g, 1, none⟩ = some (.slice a (f + xs.length) cap) ∧ W.cell? ⟨g, 2, none⟩ = some (.int .i64 (f : Int)) ∧ f + xs.length < 1000000 ∧
    (a = none → xs = []) ∧ ∀ b, a = some b → ∃ k, b = ⟨k, 0, none⟩ ∧ k < n₀ ∧ ∀ i z, i < xs.length → W.cell? ⟨k, f + i, none⟩ = some (xs.getD i z)

theorem Seen.below {n₀ : Nat} {W W' : World} {g : Nat} {xs : List Value} (h : Seen n₀ W g xs) (hb : Below n₀ W W') : Seen n₀ W' g xs := by
  obtain ⟨hg, a, f, cap, c1, c2, hl, hn, hs⟩ := h
  refine ⟨hg, a, f, cap, (hb.cell (p := ⟨g, 1, none⟩) hg).trans c1, (hb.cell (p := ⟨g, 2, none⟩) hg).trans c2, hl, hn, fun b hb' => ?_⟩
  obtain ⟨k, rfl, hk, hc⟩ := hs b hb'
  exact ⟨k, rfl, hk, fun i z hi => (hb.cell (p := ⟨k, f + i, none⟩) hk).trans (hc i z hi)⟩

theorem RingIs.seen {T E : TypeId} {w : World} {B g most : Nat} {r : Option Nat} {xs : List Value} (h : RingIs T E w B g most r xs) : Seen w.heap.size w g xs := by
  have hlt := h.lt.2
  have hrm := h.room
  obtain ⟨a, f, cap, c0, c1, c2, hf, hm, h1, h2, hc, hc2, hn, hs⟩ := h.cells
  refine ⟨hlt, a, f, cap, c1, c2, by omega, hn, fun b hb => ?_⟩
  obtain ⟨k, rfl, hk⟩ := hs b hb
  refine ⟨k, rfl, ?_, hk⟩
  obtain ⟨_, v, f', junk, hg, hr, _, _, hv, _⟩ := h
  rw [Joins.cell_of_block hg] at c1
  have hv' : v = .slice a (f + xs.length) cap := by simpa using c1
  refine (hrm k ?_).2
  rw [← hv, hv', hb]; rfl

theorem grownBy_drewN (W : World) (n : Nat) : W.grownBy (W.drewN n) none := ⟨rfl, rfl, rfl, Nat.le_refl _, fun _ _ _ => rfl⟩

/-- What a round keeps: all below n₀, and the block of the captured variable. -/
def KeepB (n₀ Bn : Nat) (W W' : World) : Prop := Below n₀ W W' ∧ W'.heap[Bn]? = W.heap[Bn]?

theorem KeepB.refl (n₀ Bn : Nat) (W : World) : KeepB n₀ Bn W W := ⟨Below.refl _ W, rfl⟩
theorem KeepB.trans {n₀ Bn : Nat} {A B C : World} (h : KeepB n₀ Bn A B) (k : KeepB n₀ Bn B C) : KeepB n₀ Bn A C := ⟨h.1.trans k.1, k.2.trans h.2⟩
theorem KeepB.drew {n₀ Bn : Nat} {A B : World} (k : KeepB n₀ Bn A.drew B) : KeepB n₀ Bn A B := ⟨⟨k.1.os, k.1.tape, k.1.output, k.1.size, k.1.block⟩, k.2⟩
theorem keepB_b {n₀ Bn : Nat} {w : World} (hn : n₀ ≤ w.heap.size) (hB : Bn < w.heap.size) (W : World) (l : Nat) (o o' : Obj) (hl : w.heap.size ≤ l) (h : W.heap[l]? = some o) (h1 : o.isCells = false) (h2 : o.isWalk = false) : KeepB n₀ Bn W (W.putObj l o') :=
  ⟨belowK_b hn W l o o' hl h h1 h2, World.putObj_heap_other (by omega)⟩

/-- How a round ended. -/
def Went (n₀ Bn : Nat) (W : World) (G Gx : World → Prop) (b : Bool) (W' : World) : Prop := (b = true ∧ G W' ∧ KeepB n₀ Bn W W') ∨ (b = false ∧ Gx W')

theorem went_of {n₀ Bn : Nat} {W : World} {G Gx : World → Prop} {e : Ending} {W' : World} (h : (e = .returned (.bool true) ∧ G W' ∧ KeepB n₀ Bn W W') ∨ (e = .returned (.bool false) ∧ Gx W')) : ∃ b, e = .returned (.bool b) ∧ Went n₀ Bn W G Gx b W' :=
  h.elim (fun h => ⟨true, h.1, .inl ⟨rfl, h.2⟩⟩) fun h => ⟨false, h.1, .inr ⟨rfl, h.2⟩⟩

set_option maxRecDepth 100000 in
set_option maxHeartbeats 2000000 in
theorem each1_int (n : Nat) (hn : 1 ≤ n) (l Bn g n₀ : Nat) (ys : List Int) (J Jx : List Int → World → Prop)
    (hJ : ∀ s W q, J s W → J s (W.drewN q))
    (hY : ∀ pre x W, J pre W → pre.length < ys.length → YieldAt Fence.wide (n - 1) Try.prog l #[.int .i64 x] W fun e W' =>
      (e = .returned (.bool true) ∧ J (pre ++ [x]) W' ∧ KeepB n₀ Bn W W') ∨ (e = .returned (.bool false) ∧ Jx (pre ++ [x]) W'))
    (W : World) (hc : W.cell? ⟨Bn, 0, none⟩ = some (.pointer (some ⟨g, 0, none⟩))) (hS : Seen n₀ W g (ys.map (Value.int .i64))) (h0 : J [] W) :
    CallsIn Fence.wide n Try.prog 53 #[.func (.yield l) #[] #[], .pointer (some ⟨Bn, 0, none⟩)] W fun e W' => (∃ v, e = .returned v) ∧
      ((∃ zs, zs = ys ∧ J zs W') ∨ (∃ pre, pre <+: ys ∧ Jx pre W')) := by
  have hro : Fence.wide.round = none := rfl
  have h53 : Fence.wide.fn 53 := trivial
  have h20 : Fence.wide.fn 20 := trivial
  obtain ⟨hg, a, f, cap, c1, c2, hlen, hnil, hs⟩ := hS
  rw [List.length_map] at hlen c1
  have hL : CallsIn Fence.wide (n - 1) Try.prog 20 #[.pointer (some ⟨g, 0, none⟩)] W fun e w' => e = .returned (.int .i64 (ys.length : Int)) ∧ ∃ q, w' = W.drewN q := callsIn_wide.2 (len_cells_int g f ys.length cap a W c1 c2 (by omega))
  refine callsIn_of_wp Try.func53 rfl h53 ?_ hro
  simp only [Try.ntmps53, List.size_toArray, List.length_cons, List.length_nil, Nat.reduceAdd, Nat.reduceSub, Array.replicate_succ, Array.replicate_zero, List.push_toArray, List.append_toArray, List.nil_append, List.cons_append]
  gi_wp2_with (gi_at_call 20; refine hL.mono ?_; rintro e w' ⟨rfl, q, rfl⟩)
  gi_loopw [6] (fun i wr => ∃ k : Nat, k ≤ ys.length ∧ i = .int .i64 k ∧ J (ys.take k) wr ∧ KeepB n₀ Bn W wr)
    (fun i _ => ys.length - (intOf i).toNat)
  case atStart => exact ⟨0, Nat.zero_le _, rfl, hJ _ _ q (by simpa using h0), ⟨⟨rfl, rfl, rfl, Nat.le_refl _, fun _ _ => rfl⟩, rfl⟩⟩
  case round =>
    obtain ⟨k, hk, rfl, hJs, hnx⟩ := hrel
    by_cases hlt : k < ys.length
    · obtain ⟨fn, tmps, assign, body, hy, hR⟩ := hY (ys.take k) (ys.getD k 0) wr.drew (hJ _ _ 1 hJs) (by simp; omega)
      obtain ⟨b, rfl⟩ : ∃ b, a = some b := by
        cases a with
        | none => have := hnil rfl; simp at this; subst this; simp at hlt
        | some b => exact ⟨b, rfl⟩
      obtain ⟨kb, rfl, hkb, hck⟩ := hs b rfl
      have d0 : wr.cell? ⟨Bn, 0, none⟩ = some (.pointer (some ⟨g, 0, none⟩)) := (World.cell?_of_block (a := ⟨Bn, 0, none⟩) hnx.2).trans hc
      have d1 : wr.cell? ⟨g, 1, none⟩ = some (.slice (some ⟨kb, 0, none⟩) (f + ys.length) cap) := (hnx.1.cell (p := ⟨g, 1, none⟩) hg).trans c1
      have d2 : wr.cell? ⟨g, 2, none⟩ = some (.int .i64 (f : Int)) := (hnx.1.cell (p := ⟨g, 2, none⟩) hg).trans c2
      have d3 : wr.cell? ⟨kb, f + k, none⟩ = some (.int .i64 (ys.getD k 0)) := by
        have := (hnx.1.cell (p := ⟨kb, f + k, none⟩) hkb).trans (hck k (.int .i64 0) (by simpa using hlt))
        simpa [List.getD, hlt] using this
      have hsn : ys.take (k + 1) = ys.take k ++ [ys.getD k 0] := by rw [List.take_succ_eq_append_getElem hlt]; simp [List.getD, hlt]
      generalize ys.getD k 0 = y at hy hR d3 hsn
      have HSN := hide hsn
      clear hsn
      have hb1 : (f : Int) + (k : Int) < ((f + ys.length : Nat) : Int) := by push_cast; omega
      have hb2 : ((f : Int) + (k : Int)).toNat = f + k := by omega
      have hlt' : (k : Int) < (ys.length : Int) := by omega
      have hb3 : (f : Int) + (k : Int) < (f : Int) + (ys.length : Int) := by omega
      have hb4 : IntKind.i64.wrap ((f : Int) + (k : Int)) = (f : Int) + (k : Int) := by rw [IntKind.wrap_i64]; omega
      have hb5 : (0 : Int) ≤ (f : Int) + (k : Int) := by omega
      have HJ := hide hJs
      clear hs hck hL hY hJs
      have hR' := hR.mono fun e W' h => went_of h
      clear hR
      gi_wp2
      gi_region_with (refine hR'.mono ?_; rintro e W3 ⟨bb, rfl, hwent⟩)
      all_goals
        rcases hwent with ⟨rfl, hJ3, hk3⟩ | ⟨rfl, hJx3⟩
        · gi_wp2
          go_roundw
          case rel => exact ⟨k + 1, by omega, by simp, by rw [HSN.out]; exact hJ3, hnx.trans hk3.drew⟩
          case measure => simp [intOf]; omega
        · gi_wp2
          refine bodyPost_ret (results_none rfl _ _ _) rfl ?_
          exact ⟨⟨_, rfl⟩, .inr ⟨_, ⟨ys.drop (k + 1), by rw [← HSN.out, List.take_append_drop]⟩, hJx3⟩⟩
    · obtain rfl : k = ys.length := by omega
      gi_wp2
      go_end0
      exact ⟨⟨_, rfl⟩, .inl ⟨_, rfl, by simpa using hJs⟩⟩

set_option maxHeartbeats 1000000 in
/-- **r.each()**: the receiver is boxed; the function value captures the box. -/
theorem each_int (n : Nat) (g : Nat) (w : World) :
    CallsIn Fence.wide n Try.prog 39 #[.pointer (some ⟨g, 0, none⟩)] w fun e w' => e = .returned (.func (.func 53) #[] #[.pointer (some ⟨w.heap.size, 0, none⟩)]) ∧ w' = w.alloc (.cells #[.pointer (some ⟨g, 0, none⟩)] 24) := by
  refine callsIn_of_wp Try.func39 rfl trivial ?_ rfl
  simp only [Try.ntmps39, List.size_toArray, List.length_cons, List.length_nil, Nat.reduceAdd, Nat.reduceSub, Array.replicate_succ, Array.replicate_zero, List.push_toArray, List.append_toArray, List.nil_append, List.cons_append]
  gi_wp2
  go_ret
  exact ⟨rfl, rfl⟩

theorem each_stops_int (n : Nat) (hn : 1 ≤ n) (Bn n₀ g : Nat) (ys : List Int) (w : World) (hBn : Bn < w.heap.size) (hn₀ : n₀ ≤ w.heap.size)
    (hc : w.cell? ⟨Bn, 0, none⟩ = some (.pointer (some ⟨g, 0, none⟩))) (hS : Seen n₀ w g (ys.map (Value.int .i64))) :
    SeqStopsK Fence.wide n Try.prog 53 #[.pointer (some ⟨Bn, 0, none⟩)] (fun x : Int => #[Value.int .i64 x]) (KeepB n₀ Bn) (fun zs => zs = ys) (fun pre => pre <+: ys) ys.length w := fun l J Jx W hW hJ _ hY h0 =>
  each1_int n hn l Bn g n₀ ys J Jx (fun s W q hs => hJ s W _ none hs (grownBy_drewN W q) (fun r e => by cases e)) hY W ((hW.cell (p := ⟨Bn, 0, none⟩) hBn).trans hc) (hS.below (hW.mono hn₀)) h0

end Go.Proofs.Ytehefenagpdlaaa
