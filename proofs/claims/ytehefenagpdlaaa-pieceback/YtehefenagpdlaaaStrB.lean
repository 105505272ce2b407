/- The ring of texts: all of its elements. -/
import Derived.Test.YtehefenagpdlaaaStrA
import Derived.Test.YtehefenagpdlaaaRing6
namespace Go.Proofs.Ytehefenagpdlaaa
open Go.RowKit Go.By Go.Shelf
set_option linter.unusedVariables false
attribute [local go_sem] Oper.semAt_some

set_option maxRecDepth 100000 in
set_option maxHeartbeats 2000000 in
theorem each1_str (n : Nat) (hn : 1 ≤ n) (l Bn g n₀ : Nat) (ys : List ByteArray) (J Jx : List ByteArray → World → Prop)
    (hJ : ∀ s W q, J s W → J s (W.drewN q))
    (hY : ∀ pre x W, J pre W → pre.length < ys.length → YieldAt Fence.wide (n - 1) Try.prog l #[.string x] W fun e W' =>
      (e = .returned (.bool true) ∧ J (pre ++ [x]) W' ∧ KeepB n₀ Bn W W') ∨ (e = .returned (.bool false) ∧ Jx (pre ++ [x]) W'))
    (W : World) (hc : W.cell? ⟨Bn, 0, none⟩ = some (.pointer (some ⟨g, 0, none⟩))) (hS : Seen n₀ W g (ys.map (Value.string))) (h0 : J [] W) :
    CallsIn Fence.wide n Try.prog 55 #[.func (.yield l) #[] #[], .pointer (some ⟨Bn, 0, none⟩)] W fun e W' => (∃ v, e = .returned v) ∧
      ((∃ zs, zs = ys ∧ J zs W') ∨ (∃ pre, pre <+: ys ∧ Jx pre W')) := by
  have hro : Fence.wide.round = none := rfl
  have h53 : Fence.wide.fn 55 := trivial
  have h20 : Fence.wide.fn 41 := trivial
  obtain ⟨hg, a, f, cap, c1, c2, hlen, hnil, hs⟩ := hS
  rw [List.length_map] at hlen c1
  have hL : CallsIn Fence.wide (n - 1) Try.prog 41 #[.pointer (some ⟨g, 0, none⟩)] W fun e w' => e = .returned (.int .i64 (ys.length : Int)) ∧ ∃ q, w' = W.drewN q := callsIn_wide.2 (len_cells_str g f ys.length cap a W c1 c2 (by omega))
  refine callsIn_of_wp Try.func55 rfl h53 ?_ hro
  simp only [Try.ntmps55, List.size_toArray, List.length_cons, List.length_nil, Nat.reduceAdd, Nat.reduceSub, Array.replicate_succ, Array.replicate_zero, List.push_toArray, List.append_toArray, List.nil_append, List.cons_append]
  gi_wp2_with (gi_at_call 41; refine hL.mono ?_; rintro e w' ⟨rfl, q, rfl⟩)
  gi_loopw [6] (fun i wr => ∃ k : Nat, k ≤ ys.length ∧ i = .int .i64 k ∧ J (ys.take k) wr ∧ KeepB n₀ Bn W wr)
    (fun i _ => ys.length - (intOf i).toNat)
  case atStart => exact ⟨0, Nat.zero_le _, rfl, hJ _ _ q (by simpa using h0), ⟨⟨rfl, rfl, rfl, Nat.le_refl _, fun _ _ => rfl⟩, rfl⟩⟩
  case round =>
    obtain ⟨k, hk, rfl, hJs, hnx⟩ := hrel
    by_cases hlt : k < ys.length
    · obtain ⟨fn, tmps, assign, body, hy, hR⟩ := hY (ys.take k) (ys.getD k ⟨#[]⟩) wr.drew (hJ _ _ 1 hJs) (by simp; omega)
      obtain ⟨b, rfl⟩ : ∃ b, a = some b := by
        cases a with
        | none => have := hnil rfl; simp at this; subst this; simp at hlt
        | some b => exact ⟨b, rfl⟩
      obtain ⟨kb, rfl, hkb, hck⟩ := hs b rfl
      have d0 : wr.cell? ⟨Bn, 0, none⟩ = some (.pointer (some ⟨g, 0, none⟩)) := (World.cell?_of_block (a := ⟨Bn, 0, none⟩) hnx.2).trans hc
      have d1 : wr.cell? ⟨g, 1, none⟩ = some (.slice (some ⟨kb, 0, none⟩) (f + ys.length) cap) := (hnx.1.cell (p := ⟨g, 1, none⟩) hg).trans c1
      have d2 : wr.cell? ⟨g, 2, none⟩ = some (.int .i64 (f : Int)) := (hnx.1.cell (p := ⟨g, 2, none⟩) hg).trans c2
      have d3 : wr.cell? ⟨kb, f + k, none⟩ = some (.string (ys.getD k ⟨#[]⟩)) := by
        have := (hnx.1.cell (p := ⟨kb, f + k, none⟩) hkb).trans (hck k (.string ⟨#[]⟩) (by simpa using hlt))
        simpa [List.getD, hlt] using this
      have hsn : ys.take (k + 1) = ys.take k ++ [ys.getD k ⟨#[]⟩] := by rw [List.take_succ_eq_append_getElem hlt]; simp [List.getD, hlt]
      generalize ys.getD k ⟨#[]⟩ = y at hy hR d3 hsn
      have HSN := hide hsn
      clear hsn
      have hb1 : (f : Int) + (k : Int) < ((f + ys.length : Nat) : Int) := by push_cast; omega
      have hb2 : ((f : Int) + (k : Int)).toNat = f + k := by omega
      have hlt' : (k : Int) < (ys.length : Int) := by omega
      have hb3 : (f : Int) + (k : Int) < (f : Int) + (ys.length : Int) := by omega
      have hb4 : IntKind.i64.wrap ((f : Int) + (k : Int)) = (f : Int) + (k : Int) := by rw [IntKind.wrap_i64]; omega
      have hb5 : (0 : Int) ≤ (f : Int) + (k : Int) := by omega
      have HJ := hide hJs
      clear hs hck hL hY hJs
      have hR' := hR.mono fun e W' h => went_of h
      clear hR
      gi_wp2
      gi_region_with (refine hR'.mono ?_; rintro e W3 ⟨bb, rfl, hwent⟩)
      all_goals
        rcases hwent with ⟨rfl, hJ3, hk3⟩ | ⟨rfl, hJx3⟩
        · gi_wp2
          go_roundw
          case rel => exact ⟨k + 1, by omega, by simp, by rw [HSN.out]; exact hJ3, hnx.trans hk3.drew⟩
          case measure => simp [intOf]; omega
        · gi_wp2
          refine bodyPost_ret (results_none rfl _ _ _) rfl ?_
          exact ⟨⟨_, rfl⟩, .inr ⟨_, ⟨ys.drop (k + 1), by rw [← HSN.out, List.take_append_drop]⟩, hJx3⟩⟩
    · obtain rfl : k = ys.length := by omega
      gi_wp2
      go_end0
      exact ⟨⟨_, rfl⟩, .inl ⟨_, rfl, by simpa using hJs⟩⟩

set_option maxHeartbeats 1000000 in
/-- **r.each()**: the receiver is boxed; the function value captures the box. -/
theorem each_str (n : Nat) (g : Nat) (w : World) :
    CallsIn Fence.wide n Try.prog 44 #[.pointer (some ⟨g, 0, none⟩)] w fun e w' => e = .returned (.func (.func 55) #[] #[.pointer (some ⟨w.heap.size, 0, none⟩)]) ∧ w' = w.alloc (.cells #[.pointer (some ⟨g, 0, none⟩)] 45) := by
  refine callsIn_of_wp Try.func44 rfl trivial ?_ rfl
  simp only [Try.ntmps44, List.size_toArray, List.length_cons, List.length_nil, Nat.reduceAdd, Nat.reduceSub, Array.replicate_succ, Array.replicate_zero, List.push_toArray, List.append_toArray, List.nil_append, List.cons_append]
  gi_wp2
  go_ret
  exact ⟨rfl, rfl⟩

theorem each_stops_str (n : Nat) (hn : 1 ≤ n) (Bn n₀ g : Nat) (ys : List ByteArray) (w : World) (hBn : Bn < w.heap.size) (hn₀ : n₀ ≤ w.heap.size)
    (hc : w.cell? ⟨Bn, 0, none⟩ = some (.pointer (some ⟨g, 0, none⟩))) (hS : Seen n₀ w g (ys.map (Value.string))) :
    SeqStopsK Fence.wide n Try.prog 55 #[.pointer (some ⟨Bn, 0, none⟩)] (fun x : ByteArray => #[Value.string x]) (KeepB n₀ Bn) (fun zs => zs = ys) (fun pre => pre <+: ys) ys.length w := fun l J Jx W hW hJ _ hY h0 =>
  each1_str n hn l Bn g n₀ ys J Jx (fun s W q hs => hJ s W _ none hs (grownBy_drewN W q) (fun r e => by cases e)) hY W ((hW.cell (p := ⟨Bn, 0, none⟩) hBn).trans hc) (hS.below (hW.mono hn₀)) h0

set_option maxRecDepth 100000 in
set_option maxHeartbeats 2000000 in
theorem all_str (B g most : Nat) (r : Option Nat) (ys : List ByteArray) (w : World) (h : RingIs 82 9 w B g most r (ys.map (Value.string))) :
    Calls Try.prog 26 #[.pointer (some ⟨g, 0, none⟩)] w fun e W' => ∃ v, e = .returned v ∧ W'.ownsRow w.heap.size 9 1 v ys.length (ys.map (Value.string)) ∧ Below w.heap.size w W' := by
  have h1 : 1 ≤ 3 := by omega
  have hl65 : ys.length ≤ 65536 := by
    obtain ⟨a, f, cap, c0, c1, c2, hf, hm, h1, h2, _⟩ := h.cells
    rw [List.length_map] at hm; omega
  have hro : Fence.wide.round = none := rfl
  have h22 : Fence.wide.fn 26 := trivial
  have h20 : Fence.wide.fn 41 := trivial
  have h39 : Fence.wide.fn 44 := trivial
  have h53 : Fence.wide.fn 55 := trivial
  obtain ⟨i0, hi, hz0, hz1, hz2⟩ := info_parts Try.info9
  have hL : CallsIn Fence.wide (3 - 1) Try.prog 41 #[.pointer (some ⟨g, 0, none⟩)] w fun e w' => e = .returned (.int .i64 (ys.length : Int)) ∧ ∃ q, w' = w.drewN q := callsIn_wide.2 (by simpa using len_str B g most r _ w h)
  have hSeen := h.seen
  refine (callsIn_wide (n := 3)).1 ?_
  refine callsIn_of_wp_marks Try.func26 rfl h22 ?_ hro
  simp only [Try.ntmps26, List.size_toArray, List.length_cons, List.length_nil, Nat.reduceAdd, Nat.reduceSub, Array.replicate_succ, Array.replicate_zero, List.push_toArray, List.append_toArray, List.nil_append, List.cons_append]
  gi_wp2_with (first
    | (gi_at_call 41; refine hL.mono ?_; rintro e w' ⟨rfl, q, rfl⟩; obtain ⟨wm, hmk, hown, hgr⟩ := run_make_own (P := Try.prog) (w.drewN q) w.heap.size 43 9 i0 (.string ⟨#[]⟩) 1 Try.underlying43 hi hz0 hz1 .i64 .i64 ys.length (by rw [hz2]; omega) (by unfold maxLen; omega) (Nat.le_refl _); have HO := hide hown; have HGR := hide hgr; clear hown hgr)
    | (gi_at_call 44; refine (each_str (3 - 1) g _).mono ?_; rintro e w' ⟨rfl, rfl⟩))
  obtain ⟨vm, hvm⟩ : ∃ vm : Value, vm = .slice (some ⟨w.heap.size, 0, none⟩) 0 ys.length := ⟨_, rfl⟩
  rw [show (w.drewN q).heap.size = w.heap.size from rfl] at HO
  have hwm : w.heap.size < wm.heap.size := (ownBlock_lt HO.out rfl).2
  have hBm : Below w.heap.size w wm := ⟨HGR.out.os, HGR.out.tape, HGR.out.output, HGR.out.size, fun k hk => HGR.out.block k hk (by simp)⟩
  have bO := Boxed.new wm 43 (.slice (some ⟨w.heap.size, 0, none⟩) 0 ys.length)
  have bN := Boxed.new (wm.alloc (.cells #[.slice (some ⟨w.heap.size, 0, none⟩) 0 ys.length] 43)) 45 (.pointer (some ⟨g, 0, none⟩))
  rw [World.size_alloc] at bN
  have hB0 : Below w.heap.size w ((wm.alloc (.cells #[.slice (some ⟨w.heap.size, 0, none⟩) 0 ys.length] 43)).alloc (.cells #[.pointer (some ⟨g, 0, none⟩)] 45)) := (hBm.alloc (Nat.le_of_lt hwm) _).alloc (by simp; omega) _
  refine wpIn_rangeFunc_ownG hro h1 (gf := 55) (lb := #[.pointer (some ⟨wm.heap.size + 1, 0, none⟩)]) rfl h53 (enters_of Try.func55 (by kernel_rfl) rfl)
    (each_stops_str (3 - 1) (by omega) (wm.heap.size + 1) w.heap.size g ys _ (by simp) (by simp; omega) bN.cell (hSeen.below hB0)) KeepB.trans (keepB_b (by simp; omega) (by simp)) (Below.refl _ _) (fun _ => rfl)
    (fun pre W => (∃ v, Boxed W wm.heap.size 43 v ∧ W.ownsRow w.heap.size 9 1 v pre.length (pre.map (Value.string)) ∧ True) ∧ Boxed W (wm.heap.size + 1) 45 (.pointer (some ⟨g, 0, none⟩)) ∧ Below w.heap.size w W)
    (fun _ _ _ => False)
    (OwnFrom.and (Own.from (holdsRow_own w.heap.size wm.heap.size 43 9 1 (fun pre : List ByteArray => pre.length) (fun pre => pre.map (Value.string)) (fun pre v => True)) _) (OwnFrom.and (Own.from (boxed_own (wm.heap.size + 1) 45 (fun _ => .pointer (some ⟨g, 0, none⟩))) _) (ownFrom_below (Nat.le_refl _) (by simp; omega))))
    (fun _ _ _ _ _ hs _ _ => hs)
    ⟨⟨_, bO.alloc _, (HO.out.alloc _).alloc _, trivial⟩, bN, hB0⟩
    (fun x => { tmps := #[.pointer (some ⟨g, 0, none⟩), undef, .slice none 0 0, .pointer (some ⟨wm.heap.size, 0, none⟩), .string x, .pointer (some ⟨g, 0, none⟩), .int .i64 ys.length, .slice (some ⟨w.heap.size, 0, none⟩) 0 ys.length, .pointer (some ⟨g, 0, none⟩), .func (.func 55) #[] #[.pointer (some ⟨wm.heap.size + 1, 0, none⟩)], .string x, undef, undef, undef, undef, undef], defers := [] }) ?assign ?body ?done ?stop
  case assign =>
    intro l x W K hK
    gi_wp2
    exact hK
  case body =>
    rintro l pre x W ⟨⟨v, hv, hrow, _⟩, hbn, hB⟩ hlt
    have HBN := hide hbn
    clear hbn
    have hc := hv.cell
    gi_wp2_with (gi_at_builtin; refine wpListIn_append_own _ rfl _ _ 43 rfl w.heap.size 9 i0 (.string ⟨#[]⟩) 1 16 Try.underlying43 hi hz0 hz1 hz2 rfl (by decide) _ _ _ rfl (hrow.alloc _) ⟨W.heap.size, 0, none⟩ 1 1 [.string x] rfl rfl (cell_one_new _ _ _) (by simp [Value.oneCell']) (by unfold maxLen; omega) (by omega) (by have := hB.size; simp; omega) ?_; intro v' w1 hown' hgrow _; obtain ⟨g', cap', rfl⟩ := ownsRow_succ hown'; obtain ⟨hv1, hv2, hr2, hk2, hb2⟩ := hv.appended (by decide) hrow hB.size (Nat.le_of_lt hwm) hown' hgrow; have hc1 := hv1.cell; have hf1 := hv1.frozen)
    have hne : wm.heap.size + 1 ≠ wm.heap.size := by omega
    have hbn2 : Boxed (w1.setCell ⟨wm.heap.size, 0, none⟩ (.slice (some ⟨g', 0, none⟩) (pre.length + 1) cap')) (wm.heap.size + 1) 45 (.pointer (some ⟨g, 0, none⟩)) :=
      Boxed.other ((HBN.out.alloc _).kept hgrow (HBN.out.not_row (by decide) hrow)) hne _
    exact ⟨hk2.from _, ⟨hb2, hbn2.trans HBN.out.symm⟩, ⟨_, hv2, by simpa using hr2, trivial⟩, hbn2, hB.trans hb2⟩
  case done =>
    rintro D ys W hD rfl ⟨⟨v, hv, hrow, _⟩, _, hB⟩ hK
    have hc := hv.cell
    gi_wp2
    refine ⟨by simp, .inl ⟨_, _, rfl, run_takeDeferred hK, ?_⟩⟩
    exact ⟨_, results_tmp rfl _ _ _, v, rfl, ownsRow_putObj hrow _ hK rfl, hB.trans (belowK_b (w := w) (Nat.le_refl _) W D _ _ (by simp at hD; omega) hK rfl rfl)⟩
  case stop =>
    rintro D c pre W _ _ h _
    exact h.elim

end Go.Proofs.Ytehefenagpdlaaa
