/- The ring: all of its elements, told as a slice of the call's own. -/
import Derived.Test.YtehefenagpdlaaaRing5
namespace Go.Proofs.Ytehefenagpdlaaa
open Go.RowKit Go.By Go.Shelf
set_option linter.unusedVariables false
attribute [local go_sem] Oper.semAt_some

set_option maxRecDepth 100000 in
set_option maxHeartbeats 2000000 in
theorem all_int (B g most : Nat) (r : Option Nat) (ys : List Int) (w : World) (h : RingIs 54 3 w B g most r (ys.map (Value.int .i64))) :
    Calls Try.prog 22 #[.pointer (some ⟨g, 0, none⟩)] w fun e W' => ∃ v, e = .returned v ∧ W'.ownsRow w.heap.size 3 1 v ys.length (ys.map (Value.int .i64)) ∧ Below w.heap.size w W' := by
  have h1 : 1 ≤ 3 := by omega
  have hl65 : ys.length ≤ 65536 := by
    obtain ⟨a, f, cap, c0, c1, c2, hf, hm, h1, h2, _⟩ := h.cells
    rw [List.length_map] at hm; omega
  have hro : Fence.wide.round = none := rfl
  have h22 : Fence.wide.fn 22 := trivial
  have h20 : Fence.wide.fn 20 := trivial
  have h39 : Fence.wide.fn 39 := trivial
  have h53 : Fence.wide.fn 53 := trivial
  obtain ⟨i0, hi, hz0, hz1, hz2⟩ := info_parts Try.info3
  have hL : CallsIn Fence.wide (3 - 1) Try.prog 20 #[.pointer (some ⟨g, 0, none⟩)] w fun e w' => e = .returned (.int .i64 (ys.length : Int)) ∧ ∃ q, w' = w.drewN q := callsIn_wide.2 (by simpa using len_int B g most r _ w h)
  have hSeen := h.seen
  refine (callsIn_wide (n := 3)).1 ?_
  refine callsIn_of_wp_marks Try.func22 rfl h22 ?_ hro
  simp only [Try.ntmps22, List.size_toArray, List.length_cons, List.length_nil, Nat.reduceAdd, Nat.reduceSub, Array.replicate_succ, Array.replicate_zero, List.push_toArray, List.append_toArray, List.nil_append, List.cons_append]
  gi_wp2_with (first
    | (gi_at_call 20; refine hL.mono ?_; rintro e w' ⟨rfl, q, rfl⟩; obtain ⟨wm, hmk, hown, hgr⟩ := run_make_own (P := Try.prog) (w.drewN q) w.heap.size 27 3 i0 (.int .i64 0) 1 Try.underlying27 hi hz0 hz1 .i64 .i64 ys.length (by rw [hz2]; omega) (by unfold maxLen; omega) (Nat.le_refl _); have HO := hide hown; have HGR := hide hgr; clear hown hgr)
    | (gi_at_call 39; refine (each_int (3 - 1) g _).mono ?_; rintro e w' ⟨rfl, rfl⟩))
  obtain ⟨vm, hvm⟩ : ∃ vm : Value, vm = .slice (some ⟨w.heap.size, 0, none⟩) 0 ys.length := ⟨_, rfl⟩
  rw [show (w.drewN q).heap.size = w.heap.size from rfl] at HO
  have hwm : w.heap.size < wm.heap.size := (ownBlock_lt HO.out rfl).2
  have hBm : Below w.heap.size w wm := ⟨HGR.out.os, HGR.out.tape, HGR.out.output, HGR.out.size, fun k hk => HGR.out.block k hk (by simp)⟩
  have bO := Boxed.new wm 27 (.slice (some ⟨w.heap.size, 0, none⟩) 0 ys.length)
  have bN := Boxed.new (wm.alloc (.cells #[.slice (some ⟨w.heap.size, 0, none⟩) 0 ys.length] 27)) 24 (.pointer (some ⟨g, 0, none⟩))
  rw [World.size_alloc] at bN
  have hB0 : Below w.heap.size w ((wm.alloc (.cells #[.slice (some ⟨w.heap.size, 0, none⟩) 0 ys.length] 27)).alloc (.cells #[.pointer (some ⟨g, 0, none⟩)] 24)) := (hBm.alloc (Nat.le_of_lt hwm) _).alloc (by simp; omega) _
  refine wpIn_rangeFunc_ownG hro h1 (gf := 53) (lb := #[.pointer (some ⟨wm.heap.size + 1, 0, none⟩)]) rfl h53 (enters_of Try.func53 (by kernel_rfl) rfl)
    (each_stops_int (3 - 1) (by omega) (wm.heap.size + 1) w.heap.size g ys _ (by simp) (by simp; omega) bN.cell (hSeen.below hB0)) KeepB.trans (keepB_b (by simp; omega) (by simp)) (Below.refl _ _) (fun _ => rfl)
    (fun pre W => (∃ v, Boxed W wm.heap.size 27 v ∧ W.ownsRow w.heap.size 3 1 v pre.length (pre.map (Value.int .i64)) ∧ True) ∧ Boxed W (wm.heap.size + 1) 24 (.pointer (some ⟨g, 0, none⟩)) ∧ Below w.heap.size w W)
    (fun _ _ _ => False)
    (OwnFrom.and (Own.from (holdsRow_own w.heap.size wm.heap.size 27 3 1 (fun pre : List Int => pre.length) (fun pre => pre.map (Value.int .i64)) (fun pre v => True)) _) (OwnFrom.and (Own.from (boxed_own (wm.heap.size + 1) 24 (fun _ => .pointer (some ⟨g, 0, none⟩))) _) (ownFrom_below (Nat.le_refl _) (by simp; omega))))
    (fun _ _ _ _ _ hs _ _ => hs)
    ⟨⟨_, bO.alloc _, (HO.out.alloc _).alloc _, trivial⟩, bN, hB0⟩
    (fun x => { tmps := #[.pointer (some ⟨g, 0, none⟩), undef, .slice none 0 0, .pointer (some ⟨wm.heap.size, 0, none⟩), .int .i64 x, .pointer (some ⟨g, 0, none⟩), .int .i64 ys.length, .slice (some ⟨w.heap.size, 0, none⟩) 0 ys.length, .pointer (some ⟨g, 0, none⟩), .func (.func 53) #[] #[.pointer (some ⟨wm.heap.size + 1, 0, none⟩)], .int .i64 x, undef, undef, undef, undef, undef], defers := [] }) ?assign ?body ?done ?stop
  case assign =>
    intro l x W K hK
    gi_wp2
    exact hK
  case body =>
    rintro l pre x W ⟨⟨v, hv, hrow, _⟩, hbn, hB⟩ hlt
    have HBN := hide hbn
    clear hbn
    have hc := hv.cell
    gi_wp2_with (gi_at_builtin; refine wpListIn_append_own _ rfl _ _ 27 rfl w.heap.size 3 i0 (.int .i64 0) 1 8 Try.underlying27 hi hz0 hz1 hz2 rfl (by decide) _ _ _ rfl (hrow.alloc _) ⟨W.heap.size, 0, none⟩ 1 1 [.int .i64 x] rfl rfl (cell_one_new _ _ _) (by simp [Value.oneCell']) (by unfold maxLen; omega) (by omega) (by have := hB.size; simp; omega) ?_; intro v' w1 hown' hgrow _; obtain ⟨g', cap', rfl⟩ := ownsRow_succ hown'; obtain ⟨hv1, hv2, hr2, hk2, hb2⟩ := hv.appended (by decide) hrow hB.size (Nat.le_of_lt hwm) hown' hgrow; have hc1 := hv1.cell; have hf1 := hv1.frozen)
    have hne : wm.heap.size + 1 ≠ wm.heap.size := by omega
    have hbn2 : Boxed (w1.setCell ⟨wm.heap.size, 0, none⟩ (.slice (some ⟨g', 0, none⟩) (pre.length + 1) cap')) (wm.heap.size + 1) 24 (.pointer (some ⟨g, 0, none⟩)) :=
      Boxed.other ((HBN.out.alloc _).kept hgrow (HBN.out.not_row (by decide) hrow)) hne _
    exact ⟨hk2.from _, ⟨hb2, hbn2.trans HBN.out.symm⟩, ⟨_, hv2, by simpa using hr2, trivial⟩, hbn2, hB.trans hb2⟩
  case done =>
    rintro D ys W hD rfl ⟨⟨v, hv, hrow, _⟩, _, hB⟩ hK
    have hc := hv.cell
    gi_wp2
    refine ⟨by simp, .inl ⟨_, _, rfl, run_takeDeferred hK, ?_⟩⟩
    exact ⟨_, results_tmp rfl _ _ _, v, rfl, ownsRow_putObj hrow _ hK rfl, hB.trans (belowK_b (w := w) (Nat.le_refl _) W D _ _ (by simp at hD; omega) hK rfl rfl)⟩
  case stop =>
    rintro D c pre W _ _ h _
    exact h.elim

end Go.Proofs.Ytehefenagpdlaaa
