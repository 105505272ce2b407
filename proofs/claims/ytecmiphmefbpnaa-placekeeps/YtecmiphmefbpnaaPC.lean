/- An edit's runs, each where it stands: yielded one by one. -/
import Derived.Test.YtecmiphmefbpnaaPB
namespace Go.Proofs.Ytecmiphmefbpnaa.E
open Go.Proofs.Ytecmiphmefbpnaa Go.RowKit Go.By Go.Shelf
set_option linter.unusedVariables false
set_option linter.unusedSimpArgs false

theorem passing_any (W : World) : Calls Try.prog 47 #[] W fun e W' => e = .returned (.func (.func 54) #[] #[.pointer (some ⟨W.heap.size, 0, none⟩), .pointer (some ⟨W.heap.size + 1, 0, none⟩)]) ∧
    W'.heap[W.heap.size]? = some (.cells #[.int .i64 0] 3 (0, 0)) ∧ W'.heap[W.heap.size + 1]? = some (.cells #[.int .i64 0] 3 (0, 0)) ∧ Below W.heap.size W W' := by
  have h0 := World.alloc_heap_new W (.cells #[.int .i64 0] 3)
  have h1 := World.alloc_heap_new (W.alloc (.cells #[.int .i64 0] 3)) (.cells #[.int .i64 0] 3)
  rw [World.size_alloc] at h1
  have h2 : ((W.alloc (.cells #[.int .i64 0] 3)).alloc (.cells #[.int .i64 0] 3)).heap[W.heap.size]? = some (.cells #[.int .i64 0] 3 (0, 0)) := (Below.heap_alloc _ _ _ (by simp)).trans h0
  have HA := hide (And.intro h2 h1)
  clear h0 h1 h2
  go_enter Try.func47, Try.ntmps47
  go_wp2
  go_ret
  exact ⟨rfl, HA.out.1, HA.out.2, ((Below.refl _ W).alloc (Nat.le_refl _) _).alloc (by simp) _⟩

/-- What a round keeps. -/
def KeepS (n₀ : Nat) (X Y : World) : Prop := Below n₀ X Y ∧ ∀ (k : Nat) (cs : Array Value), X.heap[k]? = some (.cells cs 3 (0, 0)) → Y.heap[k]? = some (.cells cs 3 (0, 0))
theorem KeepS.refl (n₀ : Nat) (X : World) : KeepS n₀ X X := ⟨Below.refl _ _, fun _ _ h => h⟩
theorem KeepS.trans {n₀ : Nat} {X Y Z : World} (h : KeepS n₀ X Y) (h' : KeepS n₀ Y Z) : KeepS n₀ X Z := ⟨h.1.trans h'.1, fun k cs e => h'.2 k cs (h.2 k cs e)⟩
theorem KeepS.of_below {n₀ : Nat} {X Y : World} (hn : n₀ ≤ X.heap.size) (h : Below X.heap.size X Y) : KeepS n₀ X Y := ⟨h.mono hn, fun k cs e => (h.block k (lt_of_heap e)).trans e⟩
theorem KeepS.put {n₀ : Nat} {w : World} (hn : n₀ ≤ w.heap.size) (W : World) (l : Nat) (o o' : Obj) (hl : w.heap.size ≤ l) (h : W.heap[l]? = some o) (hc : o.isCells = false) (hw : o.isWalk = false) : KeepS n₀ W (W.putObj l o') := by
  have hp := KeepP.put (n₀ := n₀) (N₀ := n₀) hn W l o o' hl h hc hw
  refine ⟨hp.1, fun k cs hk => ?_⟩
  by_cases e : k = l
  · subst e; rw [h] at hk; cases hk; cases hc
  · exact (World.putObj_heap_other e).trans hk
def WentS (n₀ : Nat) (W : World) (G Gx : World → Prop) (b : Bool) (W' : World) : Prop := (b = true ∧ G W' ∧ KeepS n₀ W W') ∨ (b = false ∧ Gx W')
theorem wentS_of {n₀ : Nat} {W : World} {G Gx : World → Prop} {e : Ending} {W' : World} (h : (e = .returned (.bool true) ∧ G W' ∧ KeepS n₀ W W') ∨ (e = .returned (.bool false) ∧ Gx W')) : ∃ b, e = .returned (.bool b) ∧ WentS n₀ W G Gx b W' :=
  h.elim (fun h => ⟨true, h.1, .inl ⟨rfl, h.2⟩⟩) fun h => ⟨false, h.1, .inr ⟨rfl, h.2⟩⟩

def encS (x : Pl) : Array Value := #[.agg #[.int .i64 x.2.2.keep, .string x.2.2.add, .int .i64 x.2.2.drop, .int .i64 x.1, .int .i64 x.2.1]]

/-- Two boxes written, one behind the other. -/
theorem minds_two {β : Type} {B : Nat} {J : β → World → Prop} (hJ : Minds 3 B J) {X Y : World} {p q : Nat} {s : β} {cp cq cp' cq' : Array Value} (hpB : B ≤ p) (hqB : B ≤ q) (hne : ¬ p = q) (hp : X.heap[p]? = some (.cells cp 3 (0, 0))) (hq : X.heap[q]? = some (.cells cq 3 (0, 0)))
    (hp' : Y.heap[p]? = some (.cells cp' 3 (0, 0))) (hq' : Y.heap[q]? = some (.cells cq' 3 (0, 0))) (ho : Only (fun b => b = p ∨ b = q) X Y) (h : J s X) : J s Y := by
  have hz : (X.putObj p (.cells cp' 3)).heap[p]? = some (.cells cp' 3 (0, 0)) := World.putObj_heap_same (lt_of_heap hp)
  have hzn : ∀ k, ¬ k = p → (X.putObj p (.cells cp' 3)).heap[k]? = X.heap[k]? := fun k hk => World.putObj_heap_other hk
  have hsz : (X.putObj p (.cells cp' 3)).heap.size = X.heap.size := by simp [World.putObj]
  have h1 : J s (X.putObj p (.cells cp' 3)) := hJ s X _ h (.inr ⟨p, cp, hpB, hp, ⟨rfl, rfl, rfl, by rw [hsz]; exact Nat.le_refl _, fun k hk hn => hzn k hn⟩⟩)
  refine hJ s _ Y h1 (.inr ⟨q, cq, hqB, (hzn q (fun e => hne e.symm)).trans hq, ⟨ho.os, ho.tape, ho.output, by rw [hsz]; exact ho.size, fun k hk hn => ?_⟩⟩)
  by_cases e : k = p
  · rw [e, hz, hp']
  · rw [hzn k e]; exact ho.block k (by rw [hsz] at hk; exact hk) (fun h => h.elim e hn)

set_option maxRecDepth 100000 in
set_option maxHeartbeats 4000000 in
theorem stands1 (n : Nat) (hn : 1 ≤ n) (l Bn n₀ : Nat) (a : Option Addr) (cap : Nat) (rs : List Rn) (J Jx : List Pl → World → Prop) (W : World) (hJ : Minds 3 W.heap.size J)
    (hK : ∀ x ∈ rs, kind x ≠ 0) (hsI : sI rs ≤ 16777216) (hsO : sO rs ≤ 16777216)
    (hY : ∀ pre x W, J pre W → pre ++ [x] <+: plc rs → YieldAt Fence.wide (n - 1) Try.prog l (encS x) W fun e W' =>
      (e = .returned (.bool true) ∧ J (pre ++ [x]) W' ∧ KeepS n₀ W W') ∨ (e = .returned (.bool false) ∧ Jx (pre ++ [x]) W'))
    (hn₀ : n₀ ≤ W.heap.size) (hc : W.cell? ⟨Bn, 0, none⟩ = some (.slice a rs.length cap)) (hBn : Bn < W.heap.size) (hS : CameR n₀ W a rs) (hlen : rs.length ≤ 1000000) (h0 : J [] W) :
    CallsIn Fence.wide n Try.prog 46 #[.func (.yield l) #[] #[], .pointer (some ⟨Bn, 0, none⟩)] W fun e W' => (∃ v, e = .returned v) ∧
      ((∃ zs, zs = plc rs ∧ J zs W') ∨ (∃ pre, pre <+: plc rs ∧ Jx pre W')) := by
  have hro : Fence.wide.round = none := rfl
  have h47 : Fence.wide.fn 47 := trivial
  have h54 : Fence.wide.fn 54 := trivial
  refine callsIn_of_wp Try.func46 rfl trivial ?_ rfl
  simp only [Try.ntmps46, List.size_toArray, List.length_cons, List.length_nil, Nat.reduceAdd, Nat.reduceSub, Array.replicate_succ, Array.replicate_zero, List.push_toArray, List.append_toArray, List.nil_append, List.cons_append]
  have hps := passing_any W
  have HJ := hide hJ
  have HC := hide hc
  clear hc
  gi_wp2_with (gi_at_call 47; refine (callsIn_wide.2 hps).mono ?_; rintro e W0 ⟨rfl, hp0, hq0, hb0⟩; have hc := (hb0.cell (p := ⟨Bn, 0, none⟩) hBn).trans HC.out; have HP0 := hide (And.intro hp0 (And.intro hq0 hb0)); clear hp0 hq0 hb0)
  gi_loopw [9] (fun i wr => ∃ k : Nat, k ≤ rs.length ∧ i = .int .i64 k ∧ J ((plc rs).take k) wr ∧ Below n₀ W wr ∧ W.heap.size + 1 < wr.heap.size ∧ Hid (wr.heap[W.heap.size]? = some (.cells #[.int .i64 (sI (rs.take k))] 3 (0, 0)) ∧ wr.heap[W.heap.size + 1]? = some (.cells #[.int .i64 (sO (rs.take k))] 3 (0, 0))))
    (fun i _ => rs.length - (intOf i).toNat)
  case atStart =>
    refine ⟨0, Nat.zero_le _, rfl, by simpa using HJ.out _ _ _ h0 (.inl HP0.out.2.2), HP0.out.2.2.mono hn₀, lt_of_heap HP0.out.2.1, ?_⟩
    exact hide ⟨HP0.out.1, HP0.out.2.1⟩
  case round =>
    obtain ⟨k, hk, rfl, hJs, hnx, hszw, HP⟩ := hrel
    by_cases hlt : k < rs.length
    · obtain ⟨b, off, rfl, hbl, hcell⟩ : ∃ b off, a = some ⟨b, off, none⟩ ∧ b < n₀ ∧ _ := by
        rcases hS.below hnx with rfl | h
        · simp at hlt
        · exact h
      obtain ⟨s0, s1, s2⟩ := hcell k hlt
      have hsn := plc_take hlt
      have hr1 : rs.take (k + 1) = rs.take k ++ [rs.getD k rn0] := by rw [List.take_succ_eq_append_getElem hlt]; simp [List.getD, hlt]
      have hkx : kind (rs.getD k rn0) ≠ 0 := hK _ (by simp [List.getD, hlt])
      have st1 := sums_take hK k
      have st2 := sums_take hK (k + 1)
      rw [hr1, sI_snoc, sO_snoc] at st2
      have eI : sI (rs.take (k + 1)) = sI (rs.take k) + ((rs.getD k rn0).keep + (rs.getD k rn0).drop) := by rw [hr1, sI_snoc]
      have eO : sO (rs.take (k + 1)) = sO (rs.take k) + ((rs.getD k rn0).keep + ((rs.getD k rn0).add.size : Int)) := by rw [hr1, sO_snoc]
      obtain ⟨x, hx⟩ : ∃ x, x = rs.getD k rn0 := ⟨_, rfl⟩
      rw [← hx] at s0 s1 s2 hsn hkx eI eO st2
      obtain ⟨xk, xa, xd⟩ := x
      obtain ⟨f1, f2, _, _⟩ := kind_facts hkx
      replace f1 : 0 ≤ xk := f1
      replace f2 : 0 ≤ xd := f2
      replace s0 : wr.cell? ⟨b, off + k * 3, none⟩ = some (.int .i64 xk) := s0
      replace s1 : wr.cell? ⟨b, off + k * 3 + 1, none⟩ = some (.string xa) := s1
      replace s2 : wr.cell? ⟨b, off + k * 3 + 2, none⟩ = some (.int .i64 xd) := s2
      replace eI : sI (rs.take (k + 1)) = sI (rs.take k) + (xk + xd) := eI
      replace eO : sO (rs.take (k + 1)) = sO (rs.take k) + (xk + (xa.size : Int)) := eO
      obtain ⟨i, hi⟩ : ∃ i, i = sI (rs.take k) := ⟨_, rfl⟩
      obtain ⟨o, ho⟩ : ∃ o, o = sO (rs.take k) := ⟨_, rfl⟩
      rw [← hi] at hsn HP eI st1 st2
      rw [← ho] at hsn HP eO st1 st2
      have hbi : 0 ≤ i ∧ i + (xk + xd) ≤ 16777216 := ⟨st1.1.1, by have := st2.1.2; show i + (xk + xd) ≤ 16777216; exact Int.le_trans this hsI⟩
      have hbo : 0 ≤ o ∧ o + (xk + (xa.size : Int)) ≤ 16777216 := ⟨st1.2.1, by have := st2.2.2; exact Int.le_trans this hsO⟩
      have hlt' : (k : Int) < (rs.length : Int) := by omega
      have hba : Below wr.heap.size wr (wr.alloc (.cells #[.int .i64 xk, .string xa, .int .i64 xd] 51)) := (Below.refl _ _).alloc (Nat.le_refl _) _
      have hJk : (plc rs).take k ++ [(i, o, ⟨xk, xa, xd⟩)] <+: plc rs := by rw [← hsn]; exact List.take_prefix _ _
      have z1 := (hba.block _ (lt_of_heap HP.out.1)).trans HP.out.1
      have z2 := (hba.block _ (lt_of_heap HP.out.2)).trans HP.out.2
      have hpa := pass_any (a := xa) z1 z2 (by omega) f1 f2 hbi hbo
      have hnw : n₀ ≤ wr.heap.size := Nat.le_trans hn₀ (Nat.le_of_lt (Nat.lt_of_succ_lt hszw))
      obtain ⟨y0, y1, y2⟩ := cels3 (World.alloc_heap_new wr (.cells #[.int .i64 xk, .string xa, .int .i64 xd] 51))
      have HYY := hide hY
      have HS2 := hide (And.intro hsn (And.intro eI eO))
      have HJS := hide (HJ.out _ _ _ hJs (.inl hba))
      have HJK := hide hJk
      have HZ := hide (And.intro z1 z2)
      have HBA := hide hba
      have NB : Hid (∀ W1, Only (fun b => b = W.heap.size ∨ b = W.heap.size + 1) (wr.alloc (.cells #[.int .i64 xk, .string xa, .int .i64 xd] 51)) W1 → Below n₀ W W1) := hide fun W1 o1 => (hnx.trans (hba.mono hnw)).trans (o1.below (Nat.le_trans hnw hba.size) fun i hi => by rcases hi with rfl | rfl <;> omega)
      clear hcell hx hsn hba hJs hY hr1 st1 st2 eI eO hi ho hJk hbi hbo hkx z1 z2 hnx
      have hYW : ∀ W1, W1.heap[W.heap.size]? = some (.cells #[.int .i64 (i + (xk + xd))] 3 (0, 0)) → W1.heap[W.heap.size + 1]? = some (.cells #[.int .i64 (o + (xk + (xa.size : Int)))] 3 (0, 0)) → Only (fun b => b = W.heap.size ∨ b = W.heap.size + 1) (wr.alloc (.cells #[.int .i64 xk, .string xa, .int .i64 xd] 51)) W1 →
          YieldAt Fence.wide (n - 1) Try.prog l #[.agg #[.int .i64 xk, .string xa, .int .i64 xd, .int .i64 i, .int .i64 o]] W1 fun e W' => ∃ b, e = .returned (.bool b) ∧ WentS n₀ W1 (J ((plc rs).take (k + 1))) (Jx ((plc rs).take (k + 1))) b W' := fun W1 p1 q1 o1 => by
        obtain ⟨fn, tmps, assign, body, hy, hR⟩ := HYY.out _ _ W1 (minds_two HJ.out (Nat.le_refl _) (Nat.le_succ _) (by omega) HZ.out.1 HZ.out.2 p1 q1 o1 HJS.out) HJK.out
        rw [← HS2.out.1] at hR
        exact ⟨fn, tmps, assign, body, hy, hR.mono fun e W' h => wentS_of h⟩
      have HYW := hide hYW
      clear hYW
      gi_wp2_with (gi_at_call 54; refine (callsIn_wide.2 hpa).mono ?_; rintro e W1 ⟨rfl, p1, q1, o1⟩; obtain ⟨fn, tmps, assign, body, hy, hR⟩ := HYW.out W1 p1 q1 o1; have HP1 := hide (And.intro p1 (And.intro q1 o1)); clear p1 q1 o1)
      refine hR.mono ?_
      rintro e W3 ⟨bb, rfl, hW3⟩
      have hb1 : Below n₀ W W1 := NB.out W1 HP1.out.2.2
      rcases hW3 with ⟨rfl, hJ3, hk3⟩ | ⟨rfl, hJx3⟩
      · have p3 := hk3.2 _ _ HP1.out.1
        have q3 := hk3.2 _ _ HP1.out.2.1
        have HG3 := hide (And.intro hJ3 (And.intro (hb1.trans hk3.1) (And.intro p3 q3)))
        clear hJ3 hk3 p3 q3 hb1
        gi_wp2
        go_roundw
        case rel => exact ⟨k + 1, by omega, by simp, HG3.out.1, HG3.out.2.1, lt_of_heap HG3.out.2.2.2, hide ⟨by rw [HS2.out.2.1]; exact HG3.out.2.2.1, by rw [HS2.out.2.2]; exact HG3.out.2.2.2⟩⟩
        case measure => simp [intOf]; omega
      · gi_wp2
        refine bodyPost_ret (results_none rfl _ _ _) rfl ?_
        exact ⟨⟨_, rfl⟩, .inr ⟨_, List.take_prefix _ _, hJx3⟩⟩
    · obtain rfl : k = rs.length := by omega
      have hw : (plc rs).take rs.length = plc rs := by rw [← length_plc rs, List.take_length]
      rw [hw] at hJs
      gi_wp2
      go_end0
      exact ⟨⟨_, rfl⟩, .inl ⟨_, rfl, hJs⟩⟩

set_option maxHeartbeats 1000000 in
theorem stands_any (n : Nat) (a : Option Addr) (m cap : Nat) (w : World) :
    CallsIn Fence.wide n Try.prog 39 #[.slice a m cap] w fun e w' => e = .returned (.func (.func 46) #[] #[.pointer (some ⟨w.heap.size, 0, none⟩)]) ∧ w' = w.alloc (.cells #[.slice a m cap] 22) := by
  refine callsIn_of_wp Try.func39 rfl trivial ?_ rfl
  simp only [Try.ntmps39, List.size_toArray, List.length_cons, List.length_nil, Nat.reduceAdd, Nat.reduceSub, Array.replicate_succ, Array.replicate_zero, List.push_toArray, List.append_toArray, List.nil_append, List.cons_append]
  gi_wp2
  go_ret
  exact ⟨rfl, rfl⟩

theorem stands_stops (n : Nat) (hn : 1 ≤ n) (Bn n₀ : Nat) (a : Option Addr) (cap : Nat) (rs : List Rn) (w : World) (hK : ∀ x ∈ rs, kind x ≠ 0) (hsI : sI rs ≤ 16777216) (hsO : sO rs ≤ 16777216)
    (hBn : Bn < w.heap.size) (hn₀ : n₀ ≤ w.heap.size) (hc : w.cell? ⟨Bn, 0, none⟩ = some (.slice a rs.length cap)) (hS : CameR n₀ w a rs) (hlen : rs.length ≤ 1000000) :
    SeqT 3 Fence.wide n Try.prog 46 #[.pointer (some ⟨Bn, 0, none⟩)] encS (KeepS n₀) (fun zs => zs = plc rs) (fun pre => pre <+: plc rs) (fun pre x => pre ++ [x] <+: plc rs) w := fun l J Jx W hW hJ _ hY h0 =>
  stands1 n hn l Bn n₀ a cap rs J Jx W hJ hK hsI hsO hY (Nat.le_trans hn₀ hW.size) ((hW.cell (p := ⟨Bn, 0, none⟩) hBn).trans hc) (Nat.lt_of_lt_of_le hBn hW.size) (hS.below (hW.mono hn₀)) hlen h0

end Go.Proofs.Ytecmiphmefbpnaa.E
