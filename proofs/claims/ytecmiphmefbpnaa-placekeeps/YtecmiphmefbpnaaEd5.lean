/- Runs, measured. -/
import Derived.Test.YtecmiphmefbpnaaEd4
namespace Go.Proofs.Ytecmiphmefbpnaa.E
open Go.Proofs.Ytecmiphmefbpnaa Go.RowKit Go.By Go.Shelf
set_option linter.unusedVariables false
attribute [local go_sem] Oper.semAt_some

/-- What measure tells. -/
def meas (rs : List Rn) : Option Ms := if rs.length ≤ 65536 then mscan rs else none
def measV : Option Ms → Value
  | none => .tuple #[.agg #[.int .i64 0, .int .i64 0], .bool false]
  | some s => .tuple #[.agg #[.int .i64 s.1, .int .i64 s.2.1], .bool true]

theorem KeepsFrom.of_below {B : Nat} {W W' : World} (h : Below W.heap.size W W') : KeepsFrom B W W' := ⟨h.size, fun k o _ hk _ => (h.block k (lt_of_heap hk)).trans hk⟩

/-- The two results. -/
structure RB (W : World) (H : Nat) (x y v : Value) : Prop where
  b2 : W.heap[H]? = some (.cells #[x, y] 86 (0, 0))
  b3 : Boxed W (H + 1) 4 v

theorem rb_own {β : Type} (H : Nat) (x y v : Value) : Own (fun (_ : β) W => RB W H x y v) := fun b X Y row h hg hrow => ⟨cells_keep h.b2 hg hrow, cells_keep h.b3 hg hrow⟩

theorem RB.put {W : World} {H : Nat} {x y v : Value} (h : RB W H x y v) (x' y' v' : Value) : RB (((W.setCell ⟨H, 0, none⟩ x').setCell ⟨H, 1, none⟩ y').setCell ⟨H + 1, 0, none⟩ v') H x' y' v' := by
  have a1 := heap_setCell (i := 0) h.b2 x'
  have a2 := heap_setCell (i := 1) a1 y'
  refine ⟨?_, ?_⟩
  · rw [heap_setCell_ne _ (by omega)]; simpa using a2
  · have c1 : ((W.setCell ⟨H, 0, none⟩ x').setCell ⟨H, 1, none⟩ y').heap[H + 1]? = some (.cells #[v] 4 (0, 0)) := by
      rw [heap_setCell_ne _ (by omega), heap_setCell_ne _ (by omega)]; exact h.b3
    have c2 := heap_setCell (i := 0) c1 v'
    show _ = _
    simpa using c2

theorem RB.cells {W : World} {H : Nat} {x y v : Value} (h : RB W H x y v) : W.cell? ⟨H, 0, none⟩ = some x ∧ W.cell? ⟨H, 1, none⟩ = some y ∧ W.cell? ⟨H + 1, 0, none⟩ = some v ∧ W.frozen? ⟨H, 0, none⟩ = false ∧ W.frozen? ⟨H, 1, none⟩ = false ∧ W.frozen? ⟨H + 1, 0, none⟩ = false := by
  refine ⟨?_, ?_, h.b3.cell, ?_, ?_, h.b3.frozen⟩
  · rw [Joins.cell_of_block h.b2]; rfl
  · rw [Joins.cell_of_block h.b2]; rfl
  · simp [World.frozen?, h.b2]
  · simp [World.frozen?, h.b2]

/-- Where measure stands in a round. -/
def MA (a : Option Addr) (n cap H : Nat) (x : Rn) (q : Nat) : Act := { tmps := #[.slice a n cap, undef, .pointer (some ⟨H, 0, none⟩), .pointer (some ⟨H + 1, 0, none⟩), .pointer (some ⟨H + 1 + 1, 0, none⟩), .pointer (some ⟨H + 1 + 1 + 1, 0, none⟩), .int .i64 (kind x : Int), .pointer (some ⟨q, 0, none⟩), .slice a n cap, .int .i64 (n : Int), .bool false, undef, .slice a n cap, .func (.func 55) #[] #[.pointer (some ⟨H + 1 + 1 + 1 + 1, 0, none⟩)], .int .i64 (kind x : Int), .agg #[.int .i64 x.keep, .string x.add, .int .i64 x.drop], undef, undef, undef, undef, undef, undef, undef, undef, undef, undef, undef, undef, undef, undef, undef, undef, undef, undef, undef, undef, undef, undef, undef], defers := [] }
def MAx (a : Option Addr) (n cap H : Nat) (x : Rn) (a' : Act) (W : World) : Prop := ∃ q, a' = MA a n cap H x q ∧ W.heap[q]? = some (.cells #[.int .i64 x.keep, .string x.add, .int .i64 x.drop] 51 (0, 0))

theorem max_own (a : Option Addr) (n cap H : Nat) (x : Rn) (a' : Act) : Own (fun (_ : Unit) W => MAx a n cap H x a' W) := fun b X Y row h hg hrow => by
  obtain ⟨q, e, hq⟩ := h
  exact ⟨q, e, cells_keep hq hg hrow⟩

/-- What grow put. -/
def Grew (b : Nat) (x y : Int) (W W' : World) : Prop := W'.heap[b]? = some (.cells #[.int .i64 x, .int .i64 y] 86 (0, 0)) ∧ Only (fun k => k = b) W W'

def okM (rs : List Rn) : Prop := ∃ s, mscan rs = some s ∧ (0 ≤ s.1 ∧ s.1 ≤ 16777216) ∧ (0 ≤ s.2.1 ∧ s.2.1 ≤ 16777216) ∧ s.2.2 ≤ 3

set_option maxRecDepth 100000 in
set_option maxHeartbeats 4000000 in
theorem measure_any (a : Option Addr) (cap : Nat) (rs : List Rn) (w : World) (hS : CameR w.heap.size w a rs) (hl : rs.length ≤ 1000000) :
    Calls Try.prog 43 #[.slice a rs.length cap] w fun e W' => e = .returned (measV (meas rs)) ∧ Below w.heap.size w W' := by
  have h1 : 1 ≤ 3 := by omega
  have hro : Fence.wide.round = none := rfl
  have h99 : Fence.wide.fn 43 := trivial
  have h102 : Fence.wide.fn 52 := trivial
  have h103 : Fence.wide.fn 53 := trivial
  have h132 : Fence.wide.fn 55 := trivial
  refine (callsIn_wide (n := 3)).1 ?_
  refine callsIn_of_wp_marks Try.func43 rfl h99 ?_ hro
  simp only [Try.ntmps43, List.size_toArray, List.length_cons, List.length_nil, Nat.reduceAdd, Nat.reduceSub, Array.replicate_succ, Array.replicate_zero, List.push_toArray, List.append_toArray, List.nil_append, List.cons_append]
  by_cases hle : rs.length ≤ 65536
  · have hle' : ¬ (65536 : Int) < (rs.length : Int) := by omega
    gi_wp2_with (gi_at_call 52; refine (each_any (3 - 1) _ _ _ _).mono ?_; rintro e w' ⟨rfl, rfl⟩)
    obtain ⟨W0, hW0⟩ : ∃ W0, W0 = (((((w.alloc (.cells #[.int .i64 0, .int .i64 0] 86)).alloc (.cells #[.bool false] 4)).alloc (.cells #[.int .i64 0, .int .i64 0] 86)).alloc (.cells #[.int .i64 0] 3)).alloc (.cells #[.slice a rs.length cap] 22)) := ⟨_, rfl⟩
    have hsz : W0.heap.size = w.heap.size + 5 := by rw [hW0]; simp
    have n0 := World.alloc_heap_new w (.cells #[.int .i64 0, .int .i64 0] 86)
    have n1 := World.alloc_heap_new (w.alloc (.cells #[.int .i64 0, .int .i64 0] 86)) (.cells #[.bool false] 4)
    have n2 := World.alloc_heap_new ((w.alloc (.cells #[.int .i64 0, .int .i64 0] 86)).alloc (.cells #[.bool false] 4)) (.cells #[.int .i64 0, .int .i64 0] 86)
    have n3 := World.alloc_heap_new (((w.alloc (.cells #[.int .i64 0, .int .i64 0] 86)).alloc (.cells #[.bool false] 4)).alloc (.cells #[.int .i64 0, .int .i64 0] 86)) (.cells #[.int .i64 0] 3)
    have n4 := World.alloc_heap_new ((((w.alloc (.cells #[.int .i64 0, .int .i64 0] 86)).alloc (.cells #[.bool false] 4)).alloc (.cells #[.int .i64 0, .int .i64 0] 86)).alloc (.cells #[.int .i64 0] 3)) (.cells #[.slice a rs.length cap] 22)
    simp only [World.size_alloc] at n1 n2 n3 n4
    have up : ∀ (X : World) (o o' : Obj) (k : Nat), X.heap[k]? = some o → (X.alloc o').heap[k]? = some o := fun X o o' k h => (Below.heap_alloc X o' k (lt_of_heap h)).trans h
    have hmb : MB W0 w.heap.size (0, 0, 0) := by
      rw [hW0]
      exact ⟨up _ _ _ _ (up _ _ _ _ (up _ _ _ _ (up _ _ _ _ n0))), up _ _ _ _ (up _ _ _ _ (up _ _ _ _ n1)), up _ _ _ _ (up _ _ _ _ n2), up _ _ _ _ n3⟩
    have hbn : Boxed W0 (w.heap.size + 1 + 1 + 1 + 1) 22 (.slice a rs.length cap) := by rw [hW0]; exact n4
    have hB0 : Below w.heap.size w W0 := by
      rw [hW0]
      exact (((((Below.refl _ w).alloc (Nat.le_refl _) _).alloc (by simp) _).alloc (by simp; omega) _).alloc (by simp; omega) _).alloc (by simp; omega) _
    rw [← hW0]
    clear hW0 n0 n1 n2 n3 n4 up
    refine wpIn_rangeFunc_ownH hro h1 (gf := 55) (lb := #[.pointer (some ⟨w.heap.size + 1 + 1 + 1 + 1, 0, none⟩)]) rfl h132 (enters_of Try.func55 (by kernel_rfl) rfl)
      (runs_stops (3 - 1) (by omega) (w.heap.size + 1 + 1 + 1 + 1) w.heap.size a cap rs W0 (by omega) (by omega) hbn.cell (hS.below hB0) (by omega)) belowK_t (belowK_b (by omega)) (Below.refl _ _) (fun _ => rfl)
      (fun pre W => MB W w.heap.size ((mscan pre).getD (0, 0, 0)) ∧ okM pre ∧ Below w.heap.size w W)
      (fun cc pre W => RB W w.heap.size (.int .i64 0) (.int .i64 0) (.bool false) ∧ (cc = .ret ∧ mscan pre = none) ∧ Below w.heap.size w W)
      (OwnFrom.and (Own.from (mb_own w.heap.size (fun pre : List Rn => (mscan pre).getD (0, 0, 0))) _) (OwnFrom.and (ownFrom_pure _ _) (ownFrom_below (Nat.le_refl _) (by omega))))
      (fun cc => OwnFrom.and (Own.from (rb_own w.heap.size _ _ _) _) (OwnFrom.and (ownFrom_pure _ _) (ownFrom_below (Nat.le_refl _) (by omega))))
      ⟨hmb, ⟨_, rfl, by decide, by decide, by decide⟩, hB0⟩
      (MAx a rs.length cap w.heap.size) (fun x a' => Own.from (max_own a rs.length cap w.heap.size x a') _) ?assign ?body ?done ?stop
    case assign =>
      rintro l pre x W K ⟨hm, hok, hB⟩ hK
      have hal : Below W.heap.size W (W.alloc (.cells #[.int .i64 x.keep, .string x.add, .int .i64 x.drop] 51)) := (Below.refl _ _).alloc (Nat.le_refl _) _
      have HZ := hide (hK (MA a rs.length cap w.heap.size x W.heap.size) _ (KeepsFrom.of_below hal) (hal.mono hB.size) ⟨hm.below hal, hok, hB.trans (hal.mono hB.size)⟩ ⟨_, rfl, World.alloc_heap_new W _⟩)
      clear hm hok hB hK hal
      unfold encR
      gi_wp2
      exact HZ.out
    case body =>
      rintro l pre x a' W hl0 ⟨rr, hr⟩ ⟨hm, ⟨s, hs, hi, ho, hs3⟩, hB⟩ ⟨q, rfl, hq⟩ hlt
      rw [hs, Option.getD_some] at hm
      obtain ⟨i, o, h⟩ := s
      obtain ⟨xk, xa, xd⟩ := x
      replace hi : 0 ≤ i ∧ i ≤ 16777216 := hi
      replace ho : 0 ≤ o ∧ o ≤ 16777216 := ho
      replace hs3 : h ≤ 3 := hs3
      have c5 : W.cell? ⟨w.heap.size + 1 + 1 + 1, 0, none⟩ = some (.int .i64 (h : Int)) := hm.b5.cell
      have f5 := hm.b5.frozen
      have k0 : W.cell? ⟨q, 0, none⟩ = some (.int .i64 xk) := by rw [Joins.cell_of_block hq]; rfl
      have k1 : W.cell? ⟨q, 1, none⟩ = some (.string xa) := by rw [Joins.cell_of_block hq]; rfl
      have k2 : W.cell? ⟨q, 2, none⟩ = some (.int .i64 xd) := by rw [Joins.cell_of_block hq]; rfl
      obtain ⟨r0, r1, r2, g0, g1, g2⟩ := (RB.mk hm.b2 hm.b3).cells
      have hkf := @kind_facts ⟨xk, xa, xd⟩
      have hbadN : ∀ hb : mbad (i, o, h) ⟨xk, xa, xd⟩, mscan (pre ++ [⟨xk, xa, xd⟩]) = none := fun hb => mscan_bad hs hb
      have hgoodN : ∀ hb : ¬ mbad (i, o, h) ⟨xk, xa, xd⟩, mscan (pre ++ [⟨xk, xa, xd⟩]) = some (mnext (i, o, h) ⟨xk, xa, xd⟩) := fun hb => mscan_good hs hb
      unfold MA
      dsimp only
      obtain ⟨kx, hkx⟩ : ∃ kx, kx = kind ⟨xk, xa, xd⟩ := ⟨_, rfl⟩
      rw [← hkx]
      have HM := hide hm
      have HBB := hide hB
      have HKX := hide hkx
      have HBAD := hide hbadN
      have HGOOD := hide hgoodN
      have HKF := hide hkf
      have hZ : ∀ B W1, Below W.heap.size W W1 → mscan (pre ++ [⟨xk, xa, xd⟩]) = none → KeepsFrom B W (((W1.setCell ⟨w.heap.size, 0, none⟩ (.int .i64 0)).setCell ⟨w.heap.size, 1, none⟩ (.int .i64 0)).setCell ⟨w.heap.size + 1, 0, none⟩ (.bool false)) ∧ RB (((W1.setCell ⟨w.heap.size, 0, none⟩ (.int .i64 0)).setCell ⟨w.heap.size, 1, none⟩ (.int .i64 0)).setCell ⟨w.heap.size + 1, 0, none⟩ (.bool false)) w.heap.size (.int .i64 0) (.int .i64 0) (.bool false) ∧ Below w.heap.size w (((W1.setCell ⟨w.heap.size, 0, none⟩ (.int .i64 0)).setCell ⟨w.heap.size, 1, none⟩ (.int .i64 0)).setCell ⟨w.heap.size + 1, 0, none⟩ (.bool false)) := fun B W1 hb1 hno => by
        have hm1 := hm.below hb1
        refine ⟨(KeepsFrom.of_below hb1).trans ((((KeepsOthers.setCell _ _ _).trans (KeepsOthers.setCell _ _ _)).trans (KeepsOthers.setCell _ _ _)).from _), (RB.mk hm1.b2 hm1.b3).put _ _ _, ?_⟩
        exact (((hB.trans (hb1.mono hB.size)).setCell (p := ⟨w.heap.size, 0, none⟩) (Nat.le_refl _) _).setCell (p := ⟨w.heap.size, 1, none⟩) (Nat.le_refl _) _).setCell (p := ⟨w.heap.size + 1, 0, none⟩) (Nat.le_succ _) _
      have HZ := hide hZ
      clear hm hB hkx hbadN hgoodN hkf hs hq hr hlt hZ
      by_cases a0 : kx = 0
      · have HQ := hide (HBAD.out (.inl (by rw [← HKX.out]; exact a0)))
        subst a0
        gi_wp2
        exact ⟨(HZ.out _ W (Below.refl _ _) HQ.out).1, (HZ.out 0 W (Below.refl _ _) HQ.out).2.1, ⟨rfl, HQ.out⟩, (HZ.out 0 W (Below.refl _ _) HQ.out).2.2⟩
      have a0' : ((kx : Int) == 0) = false := by simp; omega
      by_cases a1 : kx = h
      · have HQ := hide (HBAD.out (.inr (.inl (by rw [← HKX.out]; exact a1))))
        subst a1
        gi_wp2
        exact ⟨(HZ.out _ W (Below.refl _ _) HQ.out).1, (HZ.out 0 W (Below.refl _ _) HQ.out).2.1, ⟨rfl, HQ.out⟩, (HZ.out 0 W (Below.refl _ _) HQ.out).2.2⟩
      have a1' : ((kx : Int) == (h : Int)) = false := by simp; omega
      by_cases a2 : kx = 2 ∧ h = 3
      · have HQ := hide (HBAD.out (.inr (.inr (.inl ⟨by rw [← HKX.out]; exact a2.1, a2.2⟩))))
        obtain ⟨rfl, rfl⟩ := a2
        gi_wp2
        exact ⟨(HZ.out _ W (Below.refl _ _) HQ.out).1, (HZ.out 0 W (Below.refl _ _) HQ.out).2.1, ⟨rfl, HQ.out⟩, (HZ.out 0 W (Below.refl _ _) HQ.out).2.2⟩
      have hk0 : kind ⟨xk, xa, xd⟩ ≠ 0 := by rw [← HKX.out]; exact a0
      obtain ⟨hxk, hxd, _, _⟩ := HKF.out hk0
      replace hxk : 0 ≤ xk := hxk
      replace hxd : 0 ≤ xd := hxd
      by_cases a3 : max xk xd ≤ 16777216 - i ∧ max xk (xa.size : Int) ≤ 16777216 - o
      · have hgd : ¬ mbad (i, o, h) ⟨xk, xa, xd⟩ := by
          rintro (hh | hh | hh | hh)
          · exact hk0 hh
          · exact a1 (HKX.out.trans hh)
          · exact a2 ⟨HKX.out.trans hh.1, hh.2⟩
          · exact hh a3
        have hgr : CallsIn Fence.wide (3 - 1 - 1 - 1) Try.prog 53 #[.pointer (some ⟨w.heap.size + 1 + 1, 0, none⟩), .agg #[.int .i64 xk, .string xa, .int .i64 xd]] W fun e W' => e = .returned (.bool true) ∧ Grew (w.heap.size + 1 + 1) (i + (xk + xd)) (o + (xk + (xa.size : Int))) W W' :=
          callsIn_wide.2 (grow_yes HM.out.b4 hi ho hxk hxd a3)
        have HQ := hide (HGOOD.out hgd)
        have HBD := hide (mnext_bounds (s := (i, o, h)) (x := ⟨xk, xa, xd⟩) hi ho hgd)
        have HG : ∀ W1, Grew (w.heap.size + 1 + 1) (i + (xk + xd)) (o + (xk + (xa.size : Int))) W W1 → W1.frozen? ⟨w.heap.size + 1 + 1 + 1, 0, none⟩ = false ∧ (∃ v, W1.cell? ⟨w.heap.size + 1 + 1 + 1, 0, none⟩ = some v) ∧
            (KeepsFrom W0.heap.size W (W1.setCell ⟨w.heap.size + 1 + 1 + 1, 0, none⟩ (.int .i64 (kx : Int))) ∧ Below w.heap.size W (W1.setCell ⟨w.heap.size + 1 + 1 + 1, 0, none⟩ (.int .i64 (kx : Int))) ∧
              MB (W1.setCell ⟨w.heap.size + 1 + 1 + 1, 0, none⟩ (.int .i64 (kx : Int))) w.heap.size ((mscan (pre ++ [⟨xk, xa, xd⟩])).getD (0, 0, 0)) ∧ okM (pre ++ [⟨xk, xa, xd⟩]) ∧ Below w.heap.size w (W1.setCell ⟨w.heap.size + 1 + 1 + 1, 0, none⟩ (.int .i64 (kx : Int)))) := fun W1 hG => by
          have hm := HM.out
          have l2 := lt_of_heap hm.b2
          have l3 := lt_of_heap hm.b3
          have l5 := lt_of_heap hm.b5
          have e5 := (hG.2.block _ l5 (by omega)).trans hm.b5
          have hbw : Below w.heap.size W W1 := hG.2.below HBB.out.size (fun i hi => by omega)
          have hbs : Below w.heap.size W (W1.setCell ⟨w.heap.size + 1 + 1 + 1, 0, none⟩ (.int .i64 (kx : Int))) := hbw.setCell (p := ⟨w.heap.size + 1 + 1 + 1, 0, none⟩) (by show w.heap.size ≤ w.heap.size + 1 + 1 + 1; omega) _
          refine ⟨Boxed.frozen e5, ⟨_, Boxed.cell e5⟩, ?_, hbs, ?_, ?_, HBB.out.trans hbs⟩
          · refine KeepsFrom.trans ⟨hG.2.size, fun k o _ hk hc => (hG.2.block k (lt_of_heap hk) (fun e => ?_)).trans hk⟩ ((KeepsOthers.setCell _ _ _).from _)
            rw [e, hm.b4] at hk; cases hk; cases hc
          · rw [HQ.out, Option.getD_some]
            refine ⟨?_, ?_, ?_, ?_⟩
            · rw [heap_setCell_ne _ (by omega), hG.2.block _ l2 (by omega)]; exact hm.b2
            · show _ = _
              rw [heap_setCell_ne _ (by omega), hG.2.block _ l3 (by omega)]; exact hm.b3
            · rw [heap_setCell_ne _ (by omega)]; exact hG.1
            · have := heap_setCell (i := 0) e5 (.int .i64 (kx : Int))
              rw [HKX.out] at this ⊢
              show _ = _
              simpa [mnext] using this
          · exact ⟨_, HQ.out, HBD.out⟩
        have HGG := hide HG
        clear HG hgd a3
        by_cases a4 : kx = 2
        · have a5 : ((h : Int) == 3) = false := by simp; omega
          subst a4
          have a6 : ((2 : Int) == (h : Int)) = false := by simp; omega
          clear a1'
          gi_wp2_with (gi_at_call 53; refine (CallsIn.inRound l hgr).mono ?_; rintro e W1 ⟨rfl, hG⟩; obtain ⟨z0, ⟨z1, z2⟩, z3⟩ := HGG.out W1 hG; have HZ3 := hide z3; clear z3 hG)
          exact HZ3.out
        · have a5 : ((kx : Int) == 2) = false := by simp; omega
          gi_wp2_with (gi_at_call 53; refine (CallsIn.inRound l hgr).mono ?_; rintro e W1 ⟨rfl, hG⟩; obtain ⟨z0, ⟨z1, z2⟩, z3⟩ := HGG.out W1 hG; have HZ3 := hide z3; clear z3 hG)
          exact HZ3.out
      · have HQ := hide (HBAD.out (.inr (.inr (.inr a3))))
        have hgr : CallsIn Fence.wide (3 - 1 - 1 - 1) Try.prog 53 #[.pointer (some ⟨w.heap.size + 1 + 1, 0, none⟩), .agg #[.int .i64 xk, .string xa, .int .i64 xd]] W fun e W' => e = .returned (.bool false) ∧ Below W.heap.size W W' :=
          callsIn_wide.2 (grow_no HM.out.b4 hi ho a3)
        clear a3
        by_cases a4 : kx = 2
        · have a5 : ((h : Int) == 3) = false := by simp; omega
          subst a4
          have a6 : ((2 : Int) == (h : Int)) = false := by simp; omega
          clear a1'
          gi_wp2_with (gi_at_call 53; refine (CallsIn.inRound l hgr).mono ?_; rintro e W1 ⟨rfl, hG⟩; obtain ⟨z0, z1, z2, y0, y1, y2⟩ := (RB.mk (HM.out.below hG).b2 (HM.out.below hG).b3).cells; have HZ3 := hide (HZ.out W0.heap.size W1 hG HQ.out); clear hG)
          exact ⟨HZ3.out.1, HZ3.out.2.1, ⟨rfl, HQ.out⟩, HZ3.out.2.2⟩
        · have a5 : ((kx : Int) == 2) = false := by simp; omega
          gi_wp2_with (gi_at_call 53; refine (CallsIn.inRound l hgr).mono ?_; rintro e W1 ⟨rfl, hG⟩; obtain ⟨z0, z1, z2, y0, y1, y2⟩ := (RB.mk (HM.out.below hG).b2 (HM.out.below hG).b3).cells; have HZ3 := hide (HZ.out W0.heap.size W1 hG HQ.out); clear hG)
          exact ⟨HZ3.out.1, HZ3.out.2.1, ⟨rfl, HQ.out⟩, HZ3.out.2.2⟩
    case done =>
      rintro D ys W hD rfl ⟨hm, ⟨s, hs, hi, ho, _⟩, hB⟩ hK
      rw [hs, Option.getD_some] at hm
      obtain ⟨i, o, h⟩ := s
      have v0 : W.cell? ⟨w.heap.size + 1 + 1, 0, none⟩ = some (.int .i64 i) := by rw [Joins.cell_of_block hm.b4]; rfl
      have v1 : W.cell? ⟨w.heap.size + 1 + 1, 1, none⟩ = some (.int .i64 o) := by rw [Joins.cell_of_block hm.b4]; rfl
      have hrb := RB.mk hm.b2 hm.b3
      obtain ⟨r0, r1, r2, g0, g1, g2⟩ := hrb.cells
      have hmv : meas ys = some (i, o, h) := by rw [meas, if_pos hle, hs]
      have HRB := hide (hrb.put (.int .i64 i) (.int .i64 o) (.bool true))
      have HK2 := hide ((((KeepsOthers.setCell W ⟨w.heap.size, 0, none⟩ (.int .i64 i)).trans (KeepsOthers.setCell _ ⟨w.heap.size, 1, none⟩ (.int .i64 o))).trans (KeepsOthers.setCell _ ⟨w.heap.size + 1, 0, none⟩ (.bool true))).same D _ hK rfl)
      have HB2 := hide (((hB.setCell (p := ⟨w.heap.size, 0, none⟩) (Nat.le_refl _) (.int .i64 i)).setCell (p := ⟨w.heap.size, 1, none⟩) (Nat.le_refl _) (.int .i64 o)).setCell (p := ⟨w.heap.size + 1, 0, none⟩) (Nat.le_succ _) (.bool true))
      have HMV := hide hmv
      clear hm hs hi ho hB hrb hmv hK
      gi_wp2
      refine ⟨by simp, .inl ⟨_, _, rfl, run_takeDeferred HK2.out, ?_⟩⟩
      obtain ⟨q0, q1, q2, _⟩ := (rb_own w.heap.size _ _ _ () _ _ _ HRB.out (grownBy_putObj' _ D (.deferred none)) (fun r e => by cases e; exact ⟨_, HK2.out, rfl⟩) : RB _ w.heap.size (.int .i64 i) (.int .i64 o) (.bool true)).cells
      refine ⟨measV (some (i, o, h)), ?_, by rw [HMV.out], HB2.out.trans (belowK_b (w := w) (Nat.le_refl _) _ D _ _ (by omega) HK2.out rfl rfl)⟩
      simp [measV, results, Try.f43, go_sem, q0, q1, q2]
    case stop =>
      rintro D cc pre W hD hpre ⟨hrb, ⟨rfl, hnone⟩, hB⟩ hK
      gi_wp2
      refine ⟨by simp, .inl ⟨_, _, rfl, run_takeDeferred hK, ?_⟩⟩
      have hgr := hrb
      obtain ⟨q0, q1, q2, _⟩ := (show RB (W.putObj D (.deferred none)) w.heap.size (.int .i64 0) (.int .i64 0) (.bool false) from rb_own w.heap.size _ _ _ () W _ _ hrb (grownBy_putObj' _ D (.deferred none)) (fun r e => by cases e; exact ⟨_, hK, rfl⟩)).cells
      refine ⟨measV none, ?_, by rw [meas, if_pos hle, mscan_none hpre hnone], hB.trans (belowK_b (w := w) (Nat.le_refl _) W D _ _ (by omega) hK rfl rfl)⟩
      simp [measV, results, Try.f43, go_sem, q0, q1, q2]
  · have hle' : (65536 : Int) < (rs.length : Int) := by omega
    gi_wp2
    have hm : meas rs = none := by rw [meas, if_neg hle]
    rw [hm]
    refine ⟨measV none, ?_, rfl, ((Below.refl _ w).alloc (Nat.le_refl _) _).alloc (by simp) _⟩
    simp [measV, results, Try.f43, go_sem]

end Go.Proofs.Ytecmiphmefbpnaa.E
