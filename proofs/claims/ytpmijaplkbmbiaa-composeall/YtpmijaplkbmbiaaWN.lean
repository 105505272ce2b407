/- Norm's runs lie in a slice that has room for them. -/
import Derived.Test.YtpmijaplkbmbiaaWM
import Derived.Test.YtpmijaplkbmbiaaX4
namespace Go.Proofs.Ytpmijaplkbmbiaa.E
open Go.Proofs.Ytpmijaplkbmbiaa Go.RowKit Go.By Go.Shelf
set_option linter.unusedVariables false
set_option linter.unusedSimpArgs false
attribute [local go_sem] Oper.semAt_some

def GivesC (n₀ : Nat) (w : World) (rs : List Rn) (e : Ending) (W' : World) : Prop := ∃ a cap, e = .returned (.slice a rs.length cap) ∧ CameR W'.heap.size W' a rs ∧ rs.length ≤ cap ∧ Below n₀ w W'
theorem OwnR.cap {W : World} {B : Nat} {a : Option Addr} {n c : Nat} {rs : List Rn} (h : OwnR W B (.slice a n c) rs) : rs.length ≤ c := by
  rcases h.2 with ⟨_, h0⟩ | ⟨g, cap', cur, hv, hb, hg, h1, _⟩
  · omega
  · cases hv
    exact h1

set_option maxRecDepth 100000 in
set_option maxHeartbeats 8000000 in
theorem norm_cap (a : Option Addr) (cap : Nat) (rs : List Rn) (w : World) (hS : CameR w.heap.size w a rs) (hl : rs.length ≤ 1000000) :
    Calls Try.prog 60 #[.slice a rs.length cap] w fun e W' => GivesC w.heap.size w (normR rs) e W' := by
  have h1 : 1 ≤ 3 := by omega
  have hro : Fence.wide.round = none := rfl
  have h60 : Fence.wide.fn 60 := trivial
  have h102 : Fence.wide.fn 102 := trivial
  have h103 : Fence.wide.fn 103 := trivial
  have h104 : Fence.wide.fn 104 := trivial
  have h105 : Fence.wide.fn 105 := trivial
  have h106 : Fence.wide.fn 106 := trivial
  have h132 : Fence.wide.fn 132 := trivial
  refine (callsIn_wide (n := 3)).1 ?_
  refine callsIn_of_wp_marks Try.func60 rfl h60 ?_ hro
  simp only [Try.ntmps60, List.size_toArray, List.length_cons, List.length_nil, Nat.reduceAdd, Nat.reduceSub, Array.replicate_succ, Array.replicate_zero, List.push_toArray, List.append_toArray, List.nil_append, List.cons_append]
  gi_wp2_with (gi_at_call 102; refine (each_any (3 - 1) _ _ _ _).mono ?_; rintro e w' ⟨rfl, rfl⟩)
  obtain ⟨W0, hW0⟩ : ∃ W0, W0 = (((((w.alloc (.cells #[.slice none 0 0] 77)).alloc (.cells #[.slice none 0 0] 77)).alloc (.cells #[.int .i64 0, .int .i64 0] 125)).alloc (.cells #[.int .i64 0, .slice none 0 0, .int .i64 0] 131)).alloc (.cells #[.slice a rs.length cap] 77)) := ⟨_, rfl⟩
  have hsz : W0.heap.size = w.heap.size + 5 := by rw [hW0]; simp
  have n0 := World.alloc_heap_new w (.cells #[.slice none 0 0] 77)
  have n1 := World.alloc_heap_new (w.alloc (.cells #[.slice none 0 0] 77)) (.cells #[.slice none 0 0] 77)
  have n2 := World.alloc_heap_new ((w.alloc (.cells #[.slice none 0 0] 77)).alloc (.cells #[.slice none 0 0] 77)) (.cells #[.int .i64 0, .int .i64 0] 125)
  have n3 := World.alloc_heap_new (((w.alloc (.cells #[.slice none 0 0] 77)).alloc (.cells #[.slice none 0 0] 77)).alloc (.cells #[.int .i64 0, .int .i64 0] 125)) (.cells #[.int .i64 0, .slice none 0 0, .int .i64 0] 131)
  have n4 := World.alloc_heap_new ((((w.alloc (.cells #[.slice none 0 0] 77)).alloc (.cells #[.slice none 0 0] 77)).alloc (.cells #[.int .i64 0, .int .i64 0] 125)).alloc (.cells #[.int .i64 0, .slice none 0 0, .int .i64 0] 131)) (.cells #[.slice a rs.length cap] 77)
  simp only [World.size_alloc] at n1 n2 n3 n4
  have up : ∀ (X : World) (o o' : Obj) (k : Nat), X.heap[k]? = some o → (X.alloc o').heap[k]? = some o := fun X o o' k h => (Below.heap_alloc X o' k (lt_of_heap h)).trans h
  have hnj : NJ w.heap.size [] W0 := by
    refine ⟨by decide, by decide, .slice none 0 0, none, 0, 0, [], ?_, by simp⟩
    rw [hW0]
    exact ⟨up _ _ _ _ (up _ _ _ _ (up _ _ _ _ (up _ _ _ _ n0))), up _ _ _ _ (up _ _ _ _ (up _ _ _ _ n1)), up _ _ _ _ (up _ _ _ _ n2), up _ _ _ _ n3, OwnR.nil _ _, World.ownsRow_nil _ _ _ _, rfl, by simp⟩
  have hbn : Boxed W0 (w.heap.size + 1 + 1 + 1 + 1) 77 (.slice a rs.length cap) := by rw [hW0]; exact n4
  have hB0 : Below w.heap.size w W0 := by
    rw [hW0]
    exact (((((Below.refl _ w).alloc (Nat.le_refl _) _).alloc (by simp) _).alloc (by simp; omega) _).alloc (by simp; omega) _).alloc (by simp; omega) _
  rw [← hW0]
  clear hW0 n0 n1 n2 n3 n4 up
  refine wpIn_rangeFunc_ownH hro h1 (gf := 132) (lb := #[.pointer (some ⟨w.heap.size + 1 + 1 + 1 + 1, 0, none⟩)]) rfl h132 (enters_of Try.func132 (by kernel_rfl) rfl)
    (runs_stops (3 - 1) (by omega) (w.heap.size + 1 + 1 + 1 + 1) w.heap.size a cap rs W0 (by omega) (by omega) hbn.cell (hS.below hB0) (by omega)) belowK_t (belowK_b (by omega)) (Below.refl _ _) (fun _ => rfl)
    (fun pre W => NJ w.heap.size pre W ∧ Below w.heap.size w W)
    (fun cc pre W => Boxed W w.heap.size 77 (.slice none 0 0) ∧ (cc = .ret ∧ ¬ (tIn (expand pre) ≤ 16777216 ∧ tOut (expand pre) ≤ 16777216)) ∧ Below w.heap.size w W)
    (OwnFrom.and (Own.from (nj_own w.heap.size) _) (ownFrom_below (Nat.le_refl _) (by omega)))
    (fun cc => OwnFrom.and (Own.from (fun b X Y row h hg hrow => cells_keep h hg hrow) _) (OwnFrom.and (ownFrom_pure _ _) (ownFrom_below (Nat.le_refl _) (by omega))))
    ⟨hnj, hB0⟩
    (NAx a rs.length cap w.heap.size) (fun x a' => Own.from (nax_own a rs.length cap w.heap.size x a') _) ?assign ?body ?done ?stop
  case assign =>
    rintro l pre x W K ⟨hj, hB⟩ hK
    have hal : Below W.heap.size W (W.alloc (.cells #[.int .i64 x.keep, .string x.add, .int .i64 x.drop] 91)) := (Below.refl _ _).alloc (Nat.le_refl _) _
    have hj' := hj
    obtain ⟨g1, g2, vop, av, n, cv, A, hn, hAl⟩ := hj'
    have HZ := hide (hK (NA a rs.length cap w.heap.size x W.heap.size) _ (KeepsFrom.of_below hal) (hal.mono hB.size) ⟨⟨g1, g2, vop, av, n, cv, A, hn.below hal, hAl⟩, hB.trans (hal.mono hB.size)⟩ ⟨_, vop, rfl, World.alloc_heap_new W _, (hn.below hal).opb, fun e => absurd (hn.op.lt e).2 (Nat.lt_irrefl _)⟩)
    clear hj hB hK hal hn
    unfold encR
    gi_wp2
    exact HZ.out
  case body =>
    rintro l pre x a' W hl0 ⟨rr, hr⟩ ⟨⟨g1, g2, vop, av, n, cv, A, hn, hAl⟩, hB⟩ ⟨q, v, rfl, hq, hv, hvq⟩ hlt
    obtain rfl : vop = v := by have e := hn.opb.cell; rw [hv.cell] at e; cases e; rfl
    obtain ⟨ao, mo, co, rfl⟩ := form3 hn.op
    obtain ⟨xk, xa, xd⟩ := x
    have k0 : W.cell? ⟨q, 0, none⟩ = some (.int .i64 xk) := by rw [Joins.cell_of_block hq]; rfl
    have k1 : W.cell? ⟨q, 1, none⟩ = some (.string xa) := by rw [Joins.cell_of_block hq]; rfl
    have k2 : W.cell? ⟨q, 2, none⟩ = some (.int .i64 xd) := by rw [Joins.cell_of_block hq]; rfl
    unfold NA
    dsimp only
    obtain ⟨kx, hkx⟩ : ∃ kx, kx = kind ⟨xk, xa, xd⟩ := ⟨_, rfl⟩
    rw [← hkx]
    by_cases a0 : kx = 0
    · have hk0 : kind ⟨xk, xa, xd⟩ = 0 := by rw [← hkx]; exact a0
      have e1 : expand (pre ++ [⟨xk, xa, xd⟩]) = expand pre := by rw [expand_snoc, toks_right _ hk0, List.append_nil]
      have HQ : Hid (KeepsFrom W0.heap.size W W ∧ Below w.heap.size W W ∧ NJ w.heap.size (pre ++ [⟨xk, xa, xd⟩]) W ∧ Below w.heap.size w W) := by
        refine ⟨KeepsFrom.refl _ _, Below.refl _ _, ?_, hB⟩
        rw [NJ, e1]
        exact ⟨g1, g2, .slice ao mo co, av, n, cv, A, hn, by simp; omega⟩
      subst a0
      clear hn hB hq hv hvq hr hlt hkx hk0 e1 k0 k1 k2 hAl
      gi_wp2
      exact HQ.out
    have hk0 : kind ⟨xk, xa, xd⟩ ≠ 0 := by rw [← hkx]; exact a0
    have a0' : ((kx : Int) == 0) = false := by simp; omega
    obtain ⟨hxk, hxd, _, _⟩ := kind_facts hk0
    replace hxk : 0 ≤ xk := hxk
    replace hxd : 0 ≤ xd := hxd
    have hpl : pre.length ≤ rs.length := Nat.le_of_lt hlt
    have hHW : w.heap.size ≤ W.heap.size := hB.size
    by_cases a3 : max xk xd ≤ 16777216 - (tIn (expand pre) : Int) ∧ max xk (xa.size : Int) ≤ 16777216 - (tOut (expand pre) : Int)
    · have hfit := (fits_iff (pre := pre) hk0).1 a3
      obtain ⟨s1, s2⟩ := size_snoc (pre := pre) hk0
      replace s1 : ((tIn (expand (pre ++ [⟨xk, xa, xd⟩])) : Nat) : Int) = (tIn (expand pre) : Int) + (xk + xd) := s1
      replace s2 : ((tOut (expand (pre ++ [⟨xk, xa, xd⟩])) : Nat) : Int) = (tOut (expand pre) : Int) + (xk + (xa.size : Int)) := s2
      obtain ⟨b1, b2, b3⟩ := scan_bounds (expand pre)
      have b4 := op_len (expand pre)
      have hgr : CallsIn Fence.wide (3 - 1 - 1 - 1) Try.prog 103 #[.pointer (some ⟨w.heap.size + 1 + 1, 0, none⟩), .agg #[.int .i64 xk, .string xa, .int .i64 xd]] W fun e W' => e = .returned (.bool true) ∧ Hid (Mid W0.heap.size w.heap.size q (tIn (expand (pre ++ [⟨xk, xa, xd⟩]))) (tOut (expand (pre ++ [⟨xk, xa, xd⟩]))) ⟨xk, xa, xd⟩ W (nscan (expand pre)) (.slice ao mo co) av n cv A W') :=
        callsIn_wide.2 ((grow_yes hn.siz ⟨by omega, by omega⟩ ⟨by omega, by omega⟩ hxk hxd a3).mono fun e W' ⟨he, hG⟩ => ⟨he, mid_grew hn hq hHW (by rw [s1, s2]; exact hG)⟩)
      have htake : ∀ (S : Ns) (vop' : Value) (a' : Option Addr) (n' cap' : Nat) (A' : List ByteArray) (W1 : World), Mid W0.heap.size w.heap.size q (tIn (expand (pre ++ [⟨xk, xa, xd⟩]))) (tOut (expand (pre ++ [⟨xk, xa, xd⟩]))) ⟨xk, xa, xd⟩ W S vop' a' n' cap' A' W1 →
          nscan (expand (pre ++ [⟨xk, xa, xd⟩])) = ⟨S.op, S.k + xk.toNat, S.a ++ xa.data.toList, S.d + xd.toNat⟩ → A'.length ≤ pre.length →
          CallsIn Fence.wide (3 - 1 - 1 - 1) Try.prog 106 #[.pointer (some ⟨w.heap.size + 1 + 1 + 1, 0, none⟩), .agg #[.int .i64 xk, .string xa, .int .i64 xd]] W1 fun e W' => e = .returned (.tuple #[]) ∧ Hid (KeepsFrom W0.heap.size W W' ∧ Below w.heap.size W W' ∧ NJ w.heap.size (pre ++ [⟨xk, xa, xd⟩]) W' ∧ Below w.heap.size w W') := fun S vop' a' n' cap' A' W1 hM hS hA' => by
        have sb := scan_bounds (expand (pre ++ [⟨xk, xa, xd⟩]))
        rw [hS] at sb
        replace sb : S.k + xk.toNat ≤ tIn (expand (pre ++ [⟨xk, xa, xd⟩])) ∧ S.d + xd.toNat ≤ tIn (expand (pre ++ [⟨xk, xa, xd⟩])) ∧ _ := sb
        refine callsIn_wide.2 ((take_any hM.nb.grp hM.nb.ad (Nat.le_trans hHW hM.kf.size) ⟨by omega, by omega⟩ ⟨by omega, by omega⟩ (by omega)).mono fun e W' ⟨he, hT⟩ => ⟨he, ?_⟩)
        obtain ⟨f1, f2, f3⟩ := mid_took hM hHW ⟨hxk, hxd⟩ hT hS hfit.1 hfit.2 hA'
        exact ⟨f1, f2, f3, hB.trans f2⟩
      have HTAKE := hide htake
      have HR : ∀ (S : Ns) (vop' : Value) (a' : Option Addr) (n' cap' : Nat) (A' : List ByteArray) (W1 : World), Mid W0.heap.size w.heap.size q (tIn (expand (pre ++ [⟨xk, xa, xd⟩]))) (tOut (expand (pre ++ [⟨xk, xa, xd⟩]))) ⟨xk, xa, xd⟩ W S vop' a' n' cap' A' W1 →
          W1.cell? ⟨q, 0, none⟩ = some (.int .i64 xk) ∧ W1.cell? ⟨q, 1, none⟩ = some (.string xa) ∧ W1.cell? ⟨q, 2, none⟩ = some (.int .i64 xd) ∧ W1.cell? ⟨w.heap.size + 1, 0, none⟩ = some vop' := fun S vop' a' n' cap' A' W1 hM =>
        ⟨by rw [Joins.cell_of_block hM.run]; rfl, by rw [Joins.cell_of_block hM.run]; rfl, by rw [Joins.cell_of_block hM.run]; rfl, hM.nb.opb.cell⟩
      have HRR := hide HR
      have HAL := hide hAl
      by_cases a1 : kx = 1
      · have hk1 : kind ⟨xk, xa, xd⟩ = 1 := by rw [← hkx]; exact a1
        have hch : ∀ W1, Mid W0.heap.size w.heap.size q (tIn (expand (pre ++ [⟨xk, xa, xd⟩]))) (tOut (expand (pre ++ [⟨xk, xa, xd⟩]))) ⟨xk, xa, xd⟩ W (nscan (expand pre)) (.slice ao mo co) av n cv A W1 → CallsIn Fence.wide (3 - 1 - 1 - 1) Try.prog 104 #[.pointer (some ⟨w.heap.size + 1 + 1 + 1, 0, none⟩)] W1 fun e W' => e = .returned (.bool (decide (¬ ((nscan (expand pre)).a = [] ∧ (nscan (expand pre)).d = 0)))) ∧ W' = W1 := fun W1 hM =>
          callsIn_wide.2 ((changes_any hM.nb.grp).mono fun e W' ⟨he, hw⟩ => ⟨by
            rw [he]
            have := hM.nb.adds.2
            congr 2
            apply decide_eq_decide.2
            rw [this]
            by_cases z : (nscan (expand pre)).a = [] <;> simp [z] <;> omega, hw⟩)
        have HCH := hide hch
        by_cases hs : (nscan (expand pre)).a = [] ∧ (nscan (expand pre)).d = 0
        · have HS := hide (took_step hk0 (fun _ => hs))
          have hd : decide (¬ ((nscan (expand pre)).a = [] ∧ (nscan (expand pre)).d = 0)) = false := by simp [hs]
          have HHD := hide hd
          subst a1
          have hch0 : ∀ W1, Mid W0.heap.size w.heap.size q (tIn (expand (pre ++ [⟨xk, xa, xd⟩]))) (tOut (expand (pre ++ [⟨xk, xa, xd⟩]))) ⟨xk, xa, xd⟩ W (nscan (expand pre)) (.slice ao mo co) av n cv A W1 → CallsIn Fence.wide (3 - 1 - 1 - 1) Try.prog 104 #[.pointer (some ⟨w.heap.size + 1 + 1 + 1, 0, none⟩)] W1 fun e W' => e = .returned (.bool false) ∧ W' = W1 := fun W1 hM => (hch W1 hM).mono fun e W' ⟨he, hw⟩ => ⟨by rw [he, hd], hw⟩
          have HCH0 := hide hch0
          clear hn hB hq hv hvq hr hlt hkx hk0 hAl a3 hfit s1 s2 b1 b2 b3 b4 htake HR hch hs hd hk1 g1 g2 hch0
          gi_wp2_with (gi_at_call 103; refine (CallsIn.inRound l hgr).mono ?_; rintro e W1 ⟨rfl, HM⟩; obtain ⟨z0, z1, z2, z3⟩ := HRR.out _ _ _ _ _ _ _ HM.out)
          gi_wp2_with (gi_at_call 104; refine (CallsIn.inRound l (HCH0.out _ HM.out)).mono ?_; rintro e W2 ⟨rfl, rfl⟩)
          gi_wp2_with (gi_at_call 106; refine (CallsIn.inRound l (HTAKE.out _ _ _ _ _ _ _ HM.out HS.out HAL.out)).mono ?_; rintro e W3 ⟨rfl, HZ⟩)
          exact HZ.out
        · have HS := hide (flush_step hk1 hs)
          have hd : decide (¬ ((nscan (expand pre)).a = [] ∧ (nscan (expand pre)).d = 0)) = true := by simp only [decide_eq_true_eq]; exact hs
          subst a1
          have hch1 : ∀ W1, Mid W0.heap.size w.heap.size q (tIn (expand (pre ++ [⟨xk, xa, xd⟩]))) (tOut (expand (pre ++ [⟨xk, xa, xd⟩]))) ⟨xk, xa, xd⟩ W (nscan (expand pre)) (.slice ao mo co) av n cv A W1 → CallsIn Fence.wide (3 - 1 - 1 - 1) Try.prog 104 #[.pointer (some ⟨w.heap.size + 1 + 1 + 1, 0, none⟩)] W1 fun e W' => e = .returned (.bool true) ∧ W' = W1 := fun W1 hM => (hch W1 hM).mono fun e W' ⟨he, hw⟩ => ⟨by rw [he, hd], hw⟩
          have HCH1 := hide hch1
          have hbe : ∀ W1, Mid W0.heap.size w.heap.size q (tIn (expand (pre ++ [⟨xk, xa, xd⟩]))) (tOut (expand (pre ++ [⟨xk, xa, xd⟩]))) ⟨xk, xa, xd⟩ W (nscan (expand pre)) (.slice ao mo co) av n cv A W1 → CallsIn Fence.wide (3 - 1 - 1 - 1) Try.prog 105 #[.pointer (some ⟨w.heap.size + 1 + 1 + 1, 0, none⟩), .slice ao mo co] W1 fun e W' => ∃ a' m' c', e = .returned (.slice a' m' c') ∧
              Hid (Mid W0.heap.size w.heap.size q (tIn (expand (pre ++ [⟨xk, xa, xd⟩]))) (tOut (expand (pre ++ [⟨xk, xa, xd⟩]))) ⟨xk, xa, xd⟩ W ⟨(nscan (expand pre)).op ++ flush (nscan (expand pre)).k (nscan (expand pre)).a (nscan (expand pre)).d, 0, [], 0⟩ (.slice a' m' c') none 0 0 [] ((((W'.setCell ⟨w.heap.size + 1, 0, none⟩ (.slice a' m' c')).setCell ⟨w.heap.size + 1 + 1 + 1, 0, none⟩ (.int .i64 0)).setCell ⟨w.heap.size + 1 + 1 + 1, 1, none⟩ (.slice none 0 0)).setCell ⟨w.heap.size + 1 + 1 + 1, 2, none⟩ (.int .i64 0))) ∧
              (W'.frozen? ⟨w.heap.size + 1, 0, none⟩ = false ∧ W'.cell? ⟨w.heap.size + 1, 0, none⟩ = some (.slice ao mo co)) ∧ Grp W' (w.heap.size + 1 + 1 + 1) ((nscan (expand pre)).k : Int) (.slice av n cv) ((nscan (expand pre)).d : Int) ∧ q ≠ w.heap.size + 1 ∧ q ≠ w.heap.size + 1 + 1 + 1 := fun W1 hM => by
            refine callsIn_wide.2 ((behind_any hM.nb.grp hM.nb.ad hM.nb.op (Nat.le_trans hHW hM.kf.size) (by omega) (by rw [← length_text, hM.nb.tx]; omega) (by omega)).mono ?_)
            rintro e W' ⟨v', rfl, ho, hon, _⟩
            obtain ⟨a', m', c', rfl⟩ := form3 ho
            obtain ⟨m1, m2, m3, m4, m5, m6⟩ := mid_flushed hM hHW hvq ho hon
            exact ⟨a', m', c', rfl, m1, m2, m3, m5, m6⟩
          have HBE := hide hbe
          clear hn hB hq hv hvq hr hlt hkx hk0 hAl a3 hfit s1 s2 b1 b2 b3 b4 htake HR hch hs hd hk1 g1 g2 hch1 hbe
          gi_wp2_with (gi_at_call 103; refine (CallsIn.inRound l hgr).mono ?_; rintro e W1 ⟨rfl, HM⟩; obtain ⟨z0, z1, z2, z3⟩ := HRR.out _ _ _ _ _ _ _ HM.out)
          gi_wp2_with (gi_at_call 104; refine (CallsIn.inRound l (HCH1.out _ HM.out)).mono ?_; rintro e W2 ⟨rfl, rfl⟩)
          gi_wp2_with (gi_at_call 105; refine (CallsIn.inRound l (HBE.out _ HM.out)).mono ?_; rintro e W2 ⟨a', m', c', rfl, HM2, ⟨y0, y1⟩, hgp, n1, n3⟩; obtain ⟨p0, p1, p2, p3, p4, p5⟩ := hgp.cells; obtain ⟨x0, x1, x2, x3⟩ := HRR.out _ _ _ _ _ _ _ HM2.out; clear hgp)
          gi_wp2_with (gi_at_call 106; refine (CallsIn.inRound l (HTAKE.out _ _ _ _ _ _ _ HM2.out HS.out (Nat.zero_le _))).mono ?_; rintro e W3 ⟨rfl, HZ⟩)
          exact HZ.out
      · have HS := hide (took_step (pre := pre) hk0 (fun h => absurd (hkx.trans h) a1))
        have a1' : ((kx : Int) == 1) = false := by simp; omega
        clear hn hB hq hv hvq hr hlt hkx hk0 hAl a3 hfit s1 s2 b1 b2 b3 b4 htake HR g1 g2
        gi_wp2_with (gi_at_call 103; refine (CallsIn.inRound l hgr).mono ?_; rintro e W1 ⟨rfl, HM⟩; obtain ⟨z0, z1, z2, z3⟩ := HRR.out _ _ _ _ _ _ _ HM.out)
        gi_wp2_with (gi_at_call 106; refine (CallsIn.inRound l (HTAKE.out _ _ _ _ _ _ _ HM.out HS.out HAL.out)).mono ?_; rintro e W3 ⟨rfl, HZ⟩)
        exact HZ.out
    · have hfit : ¬ (tIn (expand (pre ++ [⟨xk, xa, xd⟩])) ≤ 16777216 ∧ tOut (expand (pre ++ [⟨xk, xa, xd⟩])) ≤ 16777216) := fun h => a3 ((fits_iff (pre := pre) hk0).2 h)
      have hgr : CallsIn Fence.wide (3 - 1 - 1 - 1) Try.prog 103 #[.pointer (some ⟨w.heap.size + 1 + 1, 0, none⟩), .agg #[.int .i64 xk, .string xa, .int .i64 xd]] W fun e W' => e = .returned (.bool false) ∧ Below W.heap.size W W' :=
        callsIn_wide.2 (grow_no hn.siz ⟨by omega, by omega⟩ ⟨by omega, by omega⟩ a3)
      have HN := hide hn
      have HBB := hide hB
      have HF := hide hfit
      clear hn hB hq hv hvq hr hlt hkx hk0 hAl a3 hfit
      gi_wp2_with (gi_at_call 103; refine (CallsIn.inRound l hgr).mono ?_; rintro e W1 ⟨rfl, hG⟩; have z0 := (HN.out.below hG).res.cell; have z1 := (HN.out.below hG).res.frozen; have HG := hide hG; clear hG)
      refine ⟨(KeepsFrom.of_below HG.out).trans ((KeepsOthers.setCell _ _ _).from _), (HN.out.below HG.out).res.set _, ⟨rfl, HF.out⟩, ?_⟩
      exact (HBB.out.trans (HG.out.mono HBB.out.size)).setCell (p := ⟨w.heap.size, 0, none⟩) (Nat.le_refl _) _
  case done =>
    rintro D ys W hD rfl ⟨⟨g1, g2, vop, av, n, cv, A, hn, hAl⟩, hB⟩ hK
    obtain ⟨ao, mo, co, rfl⟩ := form3 hn.op
    obtain ⟨b1, b2, b3⟩ := scan_bounds (expand ys)
    have b4 := op_len (expand ys)
    have hHW : w.heap.size ≤ W.heap.size := hB.size
    have hb105 : CallsIn Fence.wide (3 - 1) Try.prog 105 #[.pointer (some ⟨w.heap.size + 1 + 1 + 1, 0, none⟩), .slice ao mo co] W fun e W' => ∃ a' m' c', e = .returned (.slice a' m' c') ∧ Hid (OwnR W' w.heap.size (.slice a' m' c') (normT (expand ys))) ∧ Hid (Below w.heap.size w W') ∧ Hid (Boxed W' (w.heap.size + 1) 77 (.slice ao mo co)) ∧ Hid (Boxed W' w.heap.size 77 (.slice none 0 0)) ∧ Hid (W'.heap[D]? = some (Obj.deferred (some []))) := by
      refine callsIn_wide.2 ((behind_any hn.grp hn.ad hn.op hHW (by omega) (by rw [← length_text, hn.tx]; omega) (by omega)).mono ?_)
      rintro e W' ⟨v', rfl, ho, hon, _⟩
      obtain ⟨a', m', c', rfl⟩ := form3 ho
      have key : ∀ (k : Nat) (o : Obj), W.heap[k]? = some o → (∀ c, o ≠ .cells c 91 (0, 0)) → W'.heap[k]? = some o := fun k o e ht => by
        rw [hon.block k (lt_of_heap e) (fun hq => ?_), e]
        obtain ⟨cur, e2⟩ := hn.op.typ hq.symm
        rw [e2] at e; cases e; exact ht _ rfl
      refine ⟨a', m', c', rfl, by rw [hn.tx] at ho; exact ho, hB.trans (hon.below hHW fun k hk => hn.base k (by simp [hk])), key _ _ hn.opb (fun c e => ?_), key _ _ hn.res (fun c e => ?_), key _ _ hK (fun c e => by cases e)⟩
      · injection e with e1 e2; exact absurd e2 (by decide)
      · injection e with e1 e2; exact absurd e2 (by decide)
    have z0 := hn.opb.cell
    have HG := hide (And.intro g1 g2)
    clear hn hAl hB b1 b2 b3 b4 hK g1 g2
    by_cases hlen : (normT (expand ys)).length ≤ 65536
    · have HL := hide hlen
      clear hlen
      gi_wp2_with (gi_at_call 105; refine hb105.mono ?_; rintro e W1 ⟨a', m', c', rfl, HO, HB, HX, HR, HD⟩; have y0 := HX.out.cell; have y1 := HX.out.frozen; have y2 := HR.out.cell; have y3 := HR.out.frozen; have hm : ¬ (65536 : Int) < (m' : Int) := by (have := HL.out; obtain ⟨_, _, e⟩ := HO.out.form; cases e; omega))
      obtain ⟨f1, f2, f3, f4⟩ := norm_end (v := .slice a' m' c') HB.out HR.out HX.out HO.out HD.out (by omega)
      refine ⟨by simp, .inl ⟨_, _, rfl, run_takeDeferred f1, ?_⟩⟩
      obtain ⟨_, _, e⟩ := HO.out.form
      cases e
      have hnr : normR ys = normT (expand ys) := by rw [normR, if_pos ⟨HG.out.1, HG.out.2, HL.out⟩]
      refine ⟨.slice a' (normT (expand ys)).length c', ?_, a', c', by rw [hnr], by rw [hnr]; exact f3.came, by rw [hnr]; exact f3.cap, f4⟩
      simp [results, Try.f60, go_sem, f2]
    · have HL := hide hlen
      clear hlen
      gi_wp2_with (gi_at_call 105; refine hb105.mono ?_; rintro e W1 ⟨a', m', c', rfl, HO, HB, HX, HR, HD⟩; have y0 := HX.out.cell; have y1 := HX.out.frozen; have y2 := HR.out.cell; have y3 := HR.out.frozen; have hm : (65536 : Int) < (m' : Int) := by (have := HL.out; obtain ⟨_, _, e⟩ := HO.out.form; cases e; omega))
      obtain ⟨f1, f2, f3, f4⟩ := norm_end2 (v := .slice a' m' c') HB.out HR.out HX.out HD.out (by omega)
      refine ⟨by simp, .inl ⟨_, _, rfl, run_takeDeferred f1, ?_⟩⟩
      have hnr : normR ys = [] := by rw [normR, if_neg (fun h => HL.out h.2.2)]
      refine ⟨.slice none 0 0, ?_, none, 0, by rw [hnr]; rfl, by rw [hnr]; exact .inl rfl, by rw [hnr]; exact Nat.le_refl _, f4⟩
      simp [results, Try.f60, go_sem, f2]
  case stop =>
    rintro D cc pre W hD hpre ⟨hrb, ⟨rfl, hno⟩, hB⟩ hK
    gi_wp2
    refine ⟨by simp, .inl ⟨_, _, rfl, run_takeDeferred hK, ?_⟩⟩
    have f2 : (W.putObj D (.deferred none)).cell? ⟨w.heap.size, 0, none⟩ = some (.slice none 0 0) := Boxed.cell (show Boxed (W.putObj D (.deferred none)) w.heap.size 77 (.slice none 0 0) from cells_keep hrb (grownBy_putObj' _ D (.deferred none)) (fun r e => by cases e; exact ⟨_, hK, rfl⟩))
    have hnr : normR rs = [] := by
      obtain ⟨t, rfl⟩ := hpre
      rw [normR, if_neg]
      rw [expand_append, tIn_append, tOut_append]
      omega
    refine ⟨.slice none 0 0, ?_, none, 0, by rw [hnr]; rfl, by rw [hnr]; exact .inl rfl, by rw [hnr]; exact Nat.le_refl _, hB.trans (belowK_b (w := w) (Nat.le_refl _) W D _ _ (by omega) hK rfl rfl)⟩
    simp [results, Try.f60, go_sem, f2]


end Go.Proofs.Ytpmijaplkbmbiaa.E
