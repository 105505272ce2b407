/- journal: what is told since a revision. -/
import Derived.Test.YtolidhjffminkaaJC
namespace Go.Proofs.Ytolidhjffminkaa.J
open Go.Proofs.Ytolidhjffminkaa Go.RowKit Go.By Go.Shelf
set_option linter.unusedVariables false
attribute [local go_sem] Oper.semAt_some

set_option maxHeartbeats 1000000 in
theorem behind_j (n : Nat) (j : Nat) (rev : Int) (w : World) :
    CallsIn Fence.wide n Try.prog 22 #[.pointer (some ⟨j, 0, none⟩), .int .i64 rev] w fun e w' => e = .returned (.func (.func 25) #[] #[.pointer (some ⟨w.heap.size + 1, 0, none⟩), .pointer (some ⟨w.heap.size, 0, none⟩)]) ∧ w' = (w.alloc (.cells #[.pointer (some ⟨j, 0, none⟩)] 24)).alloc (.cells #[.int .i64 rev] 3) := by
  refine callsIn_of_wp Try.func22 rfl trivial ?_ rfl
  simp only [Try.ntmps22, List.size_toArray, List.length_cons, List.length_nil, Nat.reduceAdd, Nat.reduceSub, Array.replicate_succ, Array.replicate_zero, List.push_toArray, List.append_toArray, List.nil_append, List.cons_append]
  gi_wp2
  go_ret
  exact ⟨rfl, rfl⟩

theorem keep2_b {n₀ Bj Br : Nat} {w : World} (hn : n₀ ≤ w.heap.size) (hj : Bj < w.heap.size) (hr : Br < w.heap.size) (W : World) (l : Nat) (o o' : Obj) (hl : w.heap.size ≤ l) (h : W.heap[l]? = some o) (h1 : o.isCells = false) (h2 : o.isWalk = false) : Keep2 n₀ Bj Br W (W.putObj l o') :=
  ⟨keepB_b hn hj W l o o' hl h h1 h2, World.putObj_heap_other (by omega)⟩

theorem behind_stops (n : Nat) (hn : 1 ≤ n) (Bj Br n₀ B j g most base i0 : Nat) (r : Option Nat) (tx : List ByteArray) (w : World) (hBj : Bj < w.heap.size) (hBr : Br < w.heap.size) (hn₀ : n₀ ≤ w.heap.size)
    (hj : w.heap[Bj]? = some (.cells #[.pointer (some ⟨j, 0, none⟩)] 24 (0, 0))) (hr : w.heap[Br]? = some (.cells #[.int .i64 ((base + i0 : Nat) : Int)] 3 (0, 0))) (hS : SeenJ n₀ w B j g most r base (tx.map (Value.string))) (hi0 : i0 ≤ tx.length) (hb : base ≤ 1000000) :
    SeqStopsK Fence.wide n Try.prog 25 #[.pointer (some ⟨Br, 0, none⟩), .pointer (some ⟨Bj, 0, none⟩)] (fun x : ByteArray => #[Value.string x]) (Keep2 n₀ Bj Br) (fun zs => zs = tx.drop i0) (fun pre => pre <+: tx.drop i0) (tx.drop i0).length w := fun l J Jx W hW hJ _ hY h0 =>
  behind1 n hn l Bj Br n₀ B j g most base i0 r tx J Jx (fun s W q hs => hJ s W _ none hs (grownBy_drewN W q) (fun r e => by cases e)) hY W ((hW.block Bj hBj).trans hj) ((hW.block Br hBr).trans hr) (hS.below (hW.mono hn₀)) hi0 hb h0

theorem since_old {w : World} {B j g most : Nat} {r : Option Nat} {base : Nat} {xs : List Value} (n : Int) (h : JIs w B j g most r base xs) (hn : n < base) :
    Calls Try.prog 14 #[.pointer (some ⟨j, 0, none⟩), .int .i64 n] w fun e W' => e = .returned (.tuple #[.slice none 0 0, .int .i64 160]) ∧ W' = w := by
  obtain ⟨c0, c1⟩ := h.cells
  have HN := hide (none_j h)
  clear h
  go_enter Try.func14, Try.ntmps14
  go_wp2_with (go_at_call 19; refine HN.out.mono ?_; rintro e W1 ⟨rfl, hw⟩; subst hw; clear HN)
  go_ret2
  exact ⟨rfl, rfl⟩
theorem since_ahead {w : World} {B j g most : Nat} {r : Option Nat} {base : Nat} {xs : List Value} (n : Int) (h : JIs w B j g most r base xs) (hb : base ≤ 1000000) (hn : (base + xs.length : Nat) < n) :
    Calls Try.prog 14 #[.pointer (some ⟨j, 0, none⟩), .int .i64 n] w fun e W' => e = .returned (.tuple #[.slice none 0 0, .int .i64 161]) ∧ ∃ q, W' = w.drewN q := by
  obtain ⟨c0, c1⟩ := h.cells
  have HN := hide (none_j h)
  have HH := hide (head_j h hb)
  have h1 : ¬ n < (base : Int) := by omega
  clear h
  generalize base + xs.length = hd at *
  go_enter Try.func14, Try.ntmps14
  go_wp2_with (first
    | (go_at_call 19; refine HN.out.mono ?_; rintro e W1 ⟨rfl, hw⟩; subst hw; clear HN)
    | (go_at_call 13; refine HH.out.mono ?_; rintro e W1 ⟨rfl, q, rfl⟩))
  go_ret2
  exact ⟨rfl, q, rfl⟩

set_option maxRecDepth 100000 in
set_option maxHeartbeats 2000000 in
theorem since_ok {w : World} {B j g most : Nat} {r : Option Nat} {base : Nat} {tx : List ByteArray} (i0 : Nat) (h : JIs w B j g most r base (tx.map (Value.string))) (hb : base ≤ 1000000) (hi0 : i0 ≤ tx.length) :
    Calls Try.prog 14 #[.pointer (some ⟨j, 0, none⟩), .int .i64 ((base + i0 : Nat) : Int)] w fun e W' => ∃ v, e = .returned (.tuple #[v, .int .i64 0]) ∧ W'.ownsRow w.heap.size 9 1 v (tx.drop i0).length ((tx.drop i0).map (Value.string)) ∧ Below w.heap.size w W' := by
  have h1 : 1 ≤ 3 := by omega
  have hlm : tx.length ≤ 65536 := by obtain ⟨_, _, _, _, _, _, _, _, _, _, _, h2, h3⟩ := h.2.2; rw [List.length_map] at h3; omega
  have hro : Fence.wide.round = none := rfl
  have h14 : Fence.wide.fn 14 := trivial
  have h19 : Fence.wide.fn 19 := trivial
  have h13 : Fence.wide.fn 13 := trivial
  have h22 : Fence.wide.fn 22 := trivial
  have h25 : Fence.wide.fn 25 := trivial
  obtain ⟨c0, c1⟩ := h.cells
  obtain ⟨i0', hi, hz0, hz1, hz2⟩ := info_parts Try.info9
  have hHd : ∀ q, CallsIn Fence.wide (3 - 1) Try.prog 13 #[.pointer (some ⟨j, 0, none⟩)] (w.drewN q) fun e w' => e = .returned (.int .i64 ((base + tx.length : Nat) : Int)) ∧ ∃ q2, w' = (w.drewN q).drewN q2 := fun q => callsIn_wide.2 (by simpa using head_j (h.drewN q) hb)
  have HHd := hide hHd
  have HHd0 : Hid (CallsIn Fence.wide (3 - 1) Try.prog 13 #[.pointer (some ⟨j, 0, none⟩)] w fun e w' => e = .returned (.int .i64 ((base + tx.length : Nat) : Int)) ∧ ∃ q2, w' = w.drewN q2) := hide (callsIn_wide.2 (by simpa using head_j h hb))
  have HN := hide (callsIn_wide (n := 3 - 1).2 (none_j h))
  have hSeen := hide h.seen
  have hlen : (tx.drop i0).length = tx.length - i0 := List.length_drop
  have HLN := hide hlen
  have g1 : ¬ ((base + i0 : Nat) : Int) < (base : Int) := by omega
  have g2 : ¬ ((base + tx.length : Nat) : Int) < ((base + i0 : Nat) : Int) := by omega
  have g3 : IntKind.i64.wrap (((base + tx.length : Nat) : Int) - ((base + i0 : Nat) : Int)) = ((tx.length - i0 : Nat) : Int) := by rw [IntKind.wrap_i64]; omega
  generalize hm : tx.length - i0 = m at *
  have HM := hide hm
  have hm' : m ≤ 65536 := by omega
  generalize hR : base + i0 = R at *
  generalize hHh : base + tx.length = Hh at *
  clear h hlen hm hHd
  refine (callsIn_wide (n := 3)).1 ?_
  refine callsIn_of_wp_marks Try.func14 rfl h14 ?_ hro
  simp only [Try.ntmps14, List.size_toArray, List.length_cons, List.length_nil, Nat.reduceAdd, Nat.reduceSub, Array.replicate_succ, Array.replicate_zero, List.push_toArray, List.append_toArray, List.nil_append, List.cons_append]
  gi_wp2_with (first
    | (gi_at_call 19; refine HN.out.mono ?_; rintro e W1 ⟨rfl, hw⟩; subst hw; clear HN)
    | (gi_at_call 13; refine HHd0.out.mono ?_; rintro e w1 ⟨rfl, q1, rfl⟩; clear HHd0)
    | (gi_at_call 13; refine (HHd.out q1).mono ?_; rintro e w1 ⟨rfl, q2, rfl⟩; rw [World.drewN_drewN]; generalize q1 + q2 = q; obtain ⟨wm, hmk, hown, hgr⟩ := run_make_own (P := Try.prog) (W1.drewN q) W1.heap.size 26 9 i0' (.string ⟨#[]⟩) 1 Try.underlying26 hi hz0 hz1 .i64 .i64 m (by rw [hz2]; omega) (by unfold maxLen; omega) (Nat.le_refl _); have HO := hide hown; have HGR := hide hgr; clear hown hgr HHd)
    | (gi_at_call 22; refine (behind_j (3 - 1) j _ _).mono ?_; rintro e w' ⟨rfl, rfl⟩))
  rw [show (W1.drewN q).heap.size = W1.heap.size from rfl] at HO
  have hwm : W1.heap.size < wm.heap.size := (ownBlock_lt HO.out rfl).2
  have hBm : Below W1.heap.size W1 wm := ⟨HGR.out.os, HGR.out.tape, HGR.out.output, HGR.out.size, fun k hk => HGR.out.block k hk (by simp)⟩
  have bO := Boxed.new wm 26 (.slice (some ⟨W1.heap.size, 0, none⟩) 0 m)
  have bJ := Boxed.new (wm.alloc (.cells #[.slice (some ⟨W1.heap.size, 0, none⟩) 0 m] 26)) 24 (.pointer (some ⟨j, 0, none⟩))
  have bR := Boxed.new ((wm.alloc (.cells #[.slice (some ⟨W1.heap.size, 0, none⟩) 0 m] 26)).alloc (.cells #[.pointer (some ⟨j, 0, none⟩)] 24)) 3 (.int .i64 (R : Int))
  rw [World.size_alloc] at bJ
  rw [World.size_alloc, World.size_alloc] at bR
  have hB0 : Below W1.heap.size W1 (((wm.alloc (.cells #[.slice (some ⟨W1.heap.size, 0, none⟩) 0 m] 26)).alloc (.cells #[.pointer (some ⟨j, 0, none⟩)] 24)).alloc (.cells #[.int .i64 (R : Int)] 3)) := ((hBm.alloc (Nat.le_of_lt hwm) _).alloc (by simp; omega) _).alloc (by simp; omega) _
  have hst := behind_stops (3 - 1) (by omega) (wm.heap.size + 1) (wm.heap.size + 1 + 1) W1.heap.size B j g most base i0 r tx (((wm.alloc (.cells #[.slice (some ⟨W1.heap.size, 0, none⟩) 0 m] 26)).alloc (.cells #[.pointer (some ⟨j, 0, none⟩)] 24)).alloc (.cells #[.int .i64 (R : Int)] 3)) (by simp) (by simp) (by simp; omega) (bJ.alloc _) (by rw [hR]; exact bR) (hSeen.out.below hB0) hi0 hb
  rw [HLN.out] at hst
  refine wpIn_rangeFunc_ownG hro h1 (gf := 25) (lb := #[.pointer (some ⟨wm.heap.size + 1 + 1, 0, none⟩), .pointer (some ⟨wm.heap.size + 1, 0, none⟩)]) rfl h25 (enters_of Try.func25 (by kernel_rfl) rfl)
    hst Keep2.trans (keep2_b (by simp; omega) (by simp) (by simp)) (Below.refl _ _) (fun _ => rfl)
    (fun pre W => (∃ v, Boxed W wm.heap.size 26 v ∧ W.ownsRow W1.heap.size 9 1 v pre.length (pre.map (Value.string)) ∧ True) ∧ Boxed W (wm.heap.size + 1) 24 (.pointer (some ⟨j, 0, none⟩)) ∧ Boxed W (wm.heap.size + 1 + 1) 3 (.int .i64 (R : Int)) ∧ Below W1.heap.size W1 W)
    (fun _ _ _ => False)
    (OwnFrom.and (Own.from (holdsRow_own W1.heap.size wm.heap.size 26 9 1 (fun pre : List ByteArray => pre.length) (fun pre => pre.map (Value.string)) (fun pre v => True)) _) (OwnFrom.and (Own.from (boxed_own (wm.heap.size + 1) 24 (fun _ => .pointer (some ⟨j, 0, none⟩))) _) (OwnFrom.and (Own.from (boxed_own (wm.heap.size + 1 + 1) 3 (fun _ => .int .i64 (R : Int))) _) (ownFrom_below (Nat.le_refl _) (by simp; omega)))))
    (fun _ _ _ _ _ hs _ _ => hs)
    ⟨⟨_, (bO.alloc _).alloc _, ((HO.out.alloc _).alloc _).alloc _, trivial⟩, bJ.alloc _, bR, hB0⟩
    (fun x => { tmps := #[.pointer (some ⟨j, 0, none⟩), .int .i64 (R : Int), undef, undef, .slice none 0 0, .int .i64 0, .pointer (some ⟨wm.heap.size, 0, none⟩), .string x, .bool false, .pointer (some ⟨j, 0, none⟩), .bool false, .bool false, .int .i64 (R : Int), .pointer (some ⟨j, 0, none⟩), .pointer (some ⟨j, 0, none⟩), .pointer (some ⟨j, 1, none⟩), .int .i64 (base : Int), .bool false, .bool false, .int .i64 (R : Int), .pointer (some ⟨j, 0, none⟩), .int .i64 (Hh : Int), .bool false, .pointer (some ⟨j, 0, none⟩), .int .i64 (Hh : Int), .int .i64 (R : Int), .int .i64 (m : Int), .slice (some ⟨W1.heap.size, 0, none⟩) 0 m, .pointer (some ⟨j, 0, none⟩), .int .i64 (R : Int), .func (.func 25) #[] #[.pointer (some ⟨wm.heap.size + 1 + 1, 0, none⟩), .pointer (some ⟨wm.heap.size + 1, 0, none⟩)], .string x, undef, undef, undef, undef, undef], defers := [] }) ?assign ?body ?done ?stop
  case assign =>
    intro l x W K hK
    gi_wp2
    exact hK
  case body =>
    rintro l pre x W ⟨⟨v, hv, hrow, _⟩, hbj, hbr, hB⟩ hlt
    have HBJ := hide hbj
    have HBR := hide hbr
    clear hbj hbr
    have hc := hv.cell
    gi_wp2_with (gi_at_builtin; refine wpListIn_append_own _ rfl _ _ 26 rfl W1.heap.size 9 i0' (.string ⟨#[]⟩) 1 16 Try.underlying26 hi hz0 hz1 hz2 rfl (by decide) _ _ _ rfl (hrow.alloc _) ⟨W.heap.size, 0, none⟩ 1 1 [.string x] rfl rfl (cell_one_new _ _ _) (by simp [Value.oneCell']) (by unfold maxLen; omega) (by omega) (by have := hB.size; simp; omega) ?_; intro v' w1 hown' hgrow _; obtain ⟨g', cap', rfl⟩ := ownsRow_succ hown'; obtain ⟨hv1, hv2, hr2, hk2, hb2⟩ := hv.appended (by decide) hrow hB.size (Nat.le_of_lt hwm) hown' hgrow; have hc1 := hv1.cell; have hf1 := hv1.frozen)
    have hne : wm.heap.size + 1 ≠ wm.heap.size := by omega
    have hne2 : wm.heap.size + 1 + 1 ≠ wm.heap.size := by omega
    have hbj2 : Boxed (w1.setCell ⟨wm.heap.size, 0, none⟩ (.slice (some ⟨g', 0, none⟩) (pre.length + 1) cap')) (wm.heap.size + 1) 24 (.pointer (some ⟨j, 0, none⟩)) :=
      Boxed.other ((HBJ.out.alloc _).kept hgrow (HBJ.out.not_row (by decide) hrow)) hne _
    have hbr2 : Boxed (w1.setCell ⟨wm.heap.size, 0, none⟩ (.slice (some ⟨g', 0, none⟩) (pre.length + 1) cap')) (wm.heap.size + 1 + 1) 3 (.int .i64 (R : Int)) :=
      Boxed.other ((HBR.out.alloc _).kept hgrow (HBR.out.not_row (by decide) hrow)) hne2 _
    exact ⟨hk2.from _, ⟨⟨hb2, hbj2.trans HBJ.out.symm⟩, hbr2.trans HBR.out.symm⟩, ⟨_, hv2, by simpa using hr2, trivial⟩, hbj2, hbr2, hB.trans hb2⟩
  case done =>
    rintro D ys W hD rfl ⟨⟨v, hv, hrow, _⟩, _, _, hB⟩ hK
    have hc := hv.cell
    gi_wp2
    refine ⟨by simp, .inl ⟨_, _, rfl, run_takeDeferred hK, ?_⟩⟩
    exact ⟨_, results_tmp2 rfl _ _ _, v, rfl, ownsRow_putObj hrow _ hK rfl, hB.trans (belowK_b (w := W1) (Nat.le_refl _) W D _ _ (by simp at hD; omega) hK rfl rfl)⟩
  case stop =>
    rintro D c pre W _ _ h _
    exact h.elim
end Go.Proofs.Ytolidhjffminkaa.J
