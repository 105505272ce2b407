/- A ring that no call made: nil, or one of zero values. -/
import Derived.Test.YtehefenagpdlaaaRing6
namespace Go.Proofs.Ytehefenagpdlaaa
open Go.RowKit Go.By Go.Shelf
set_option linter.unusedVariables false

def Nob (p : Option Addr) (w : World) : Prop :=
  p = none ∨ ∃ g, p = some ⟨g, 0, none⟩ ∧ w.heap[g]? = some (.cells #[.int .i64 0, .slice none 0 0, .int .i64 0] 54 (0, 0))

theorem Nob.below {p : Option Addr} {w w' : World} (h : Nob p w) (hb : Below w.heap.size w w') : Nob p w' :=
  h.elim .inl fun ⟨g, e, hg⟩ => .inr ⟨g, e, (hb.block g (lt_of_heap hg)).trans hg⟩

set_option maxHeartbeats 1000000 in
theorem len_nob (p : Option Addr) (w : World) (h : Nob p w) : Calls Try.prog 20 #[.pointer p] w fun e w' => e = .returned (.int .i64 0) ∧ ∃ q, w' = w.drewN q := by
  rcases h with rfl | ⟨g, rfl, hg⟩
  · go_enter Try.func20, Try.ntmps20
    go_wp2
    go_ret
    exact ⟨rfl, 0, rfl⟩
  · exact len_cells_int g 0 0 0 none w (by rw [Joins.cell_of_block hg]; rfl) (by rw [Joins.cell_of_block hg]; rfl) (by omega)

set_option maxHeartbeats 1000000 in
theorem most_nob (p : Option Addr) (w : World) (h : Nob p w) : Calls Try.prog 11 #[.pointer p] w fun e w' => e = .returned (.int .i64 0) ∧ w' = w := by
  rcases h with rfl | ⟨g, rfl, hg⟩
  · go_enter Try.func11, Try.ntmps11
    go_wp2
    go_ret
    exact ⟨rfl, rfl⟩
  · have c0 : w.cell? ⟨g, 0, none⟩ = some (.int .i64 0) := by rw [Joins.cell_of_block hg]; rfl
    clear hg
    go_enter Try.func11, Try.ntmps11
    go_wp2
    go_ret
    exact ⟨rfl, rfl⟩

set_option maxHeartbeats 1000000 in
theorem at_nob (p : Option Addr) (i : Int) (w : World) (h : Nob p w) : Calls Try.prog 19 #[.pointer p, .int .i64 i] w fun e w' => e = .returned (.tuple #[.int .i64 0, .bool false]) ∧ ∃ q, w' = w.drewN q := by
  have hl := len_nob p w h
  by_cases h0 : i < 0
  · go_enter Try.func19, Try.ntmps19
    go_wp2
    go_ret2
    exact ⟨rfl, 0, rfl⟩
  · have h0' : 0 ≤ i := by omega
    go_enter Try.func19, Try.ntmps19
    go_wp2_with (go_at_call 20; refine hl.mono ?_; rintro e w' ⟨rfl, q, rfl⟩)
    go_ret2
    exact ⟨rfl, q, rfl⟩

set_option maxHeartbeats 1000000 in
theorem push_nob (p : Option Addr) (x : Int) (w : World) (h : Nob p w) : Calls Try.prog 12 #[.pointer p, .int .i64 x] w fun e w' => e = .returned (.int .i64 1) ∧ w' = w := by
  have hm := most_nob p w h
  go_enter Try.func12, Try.ntmps12
  go_wp2_with (go_at_call 11; refine hm.mono ?_; rintro e w' ⟨rfl, hw'⟩; subst hw')
  go_ret
  exact ⟨rfl, rfl⟩

set_option maxHeartbeats 1000000 in
theorem set_nob (p : Option Addr) (i x : Int) (w : World) (h : Nob p w) : Calls Try.prog 16 #[.pointer p, .int .i64 i, .int .i64 x] w fun e w' => e = .returned (.int .i64 1) ∧ w' = w := by
  have hm := most_nob p w h
  go_enter Try.func16, Try.ntmps16
  go_wp2_with (go_at_call 11; refine hm.mono ?_; rintro e w' ⟨rfl, hw'⟩; subst hw')
  go_ret
  exact ⟨rfl, rfl⟩

set_option maxHeartbeats 1000000 in
theorem skip_nob (p : Option Addr) (m : Int) (w : World) (h : Nob p w) : Calls Try.prog 18 #[.pointer p, .int .i64 m] w fun e w' => e = .returned (.int .i64 0) ∧ ∃ q, w' = w.drewN q := by
  have hL := len_nob p w h
  go_enter Try.func18, Try.ntmps18
  go_wp2_with (go_at_call 20; refine hL.mono ?_; rintro e w' ⟨rfl, q, rfl⟩)
  all_goals first
    | (go_ret; exact ⟨rfl, _, rfl⟩)
    | (exfalso; omega)

set_option maxHeartbeats 1000000 in
theorem take_nob (p : Option Addr) (w : World) (h : Nob p w) : Calls Try.prog 14 #[.pointer p] w fun e w' => e = .returned (.tuple #[.int .i64 0, .bool false]) ∧ ∃ q, w' = w.drewN q := by
  have hat := at_nob p 0 w h
  have hsk : ∀ n, Calls Try.prog 18 #[.pointer p, .int .i64 1] (w.drewN n) fun e w' => e = .returned (.int .i64 0) ∧ ∃ q, w' = (w.drewN n).drewN q := fun n => skip_nob p 1 (w.drewN n) h
  go_enter Try.func14, Try.ntmps14
  go_wp2_with (first | (go_at_call 19; refine hat.mono ?_; rintro e w' ⟨rfl, q, rfl⟩) | (go_at_call 18; refine (hsk _).mono ?_; rintro e w' ⟨rfl, q2, rfl⟩; clear hsk))
  go_ret2
  exact ⟨rfl, _, rfl⟩

section
attribute [local go_sem] Oper.semAt_some
set_option maxHeartbeats 1000000 in
theorem each_nob (n : Nat) (p : Option Addr) (w : World) :
    CallsIn Fence.wide n Try.prog 39 #[.pointer p] w fun e w' => e = .returned (.func (.func 53) #[] #[.pointer (some ⟨w.heap.size, 0, none⟩)]) ∧ w' = w.alloc (.cells #[.pointer p] 24) := by
  refine callsIn_of_wp Try.func39 rfl trivial ?_ rfl
  simp only [Try.ntmps39, List.size_toArray, List.length_cons, List.length_nil, Nat.reduceAdd, Nat.reduceSub, Array.replicate_succ, Array.replicate_zero, List.push_toArray, List.append_toArray, List.nil_append, List.cons_append]
  gi_wp2
  go_ret
  exact ⟨rfl, rfl⟩

set_option maxRecDepth 100000 in
set_option maxHeartbeats 2000000 in
theorem each1_nob (n : Nat) (hn : 1 ≤ n) (l Bn : Nat) (p : Option Addr) (J : List Int → World → Prop) (hJ : ∀ s W q, J s W → J s (W.drewN q))
    (W : World) (hc : W.cell? ⟨Bn, 0, none⟩ = some (.pointer p)) (hN : Nob p W) (h0 : J [] W) :
    CallsIn Fence.wide n Try.prog 53 #[.func (.yield l) #[] #[], .pointer (some ⟨Bn, 0, none⟩)] W fun e W' => (∃ v, e = .returned v) ∧ J [] W' := by
  have hL : CallsIn Fence.wide (n - 1) Try.prog 20 #[.pointer p] W fun e w' => e = .returned (.int .i64 0) ∧ ∃ q, w' = W.drewN q := callsIn_wide.2 (len_nob p W hN)
  have h20 : Fence.wide.fn 20 := trivial
  refine callsIn_of_wp Try.func53 rfl trivial ?_ rfl
  simp only [Try.ntmps53, List.size_toArray, List.length_cons, List.length_nil, Nat.reduceAdd, Nat.reduceSub, Array.replicate_succ, Array.replicate_zero, List.push_toArray, List.append_toArray, List.nil_append, List.cons_append]
  gi_wp2_with (gi_at_call 20; refine hL.mono ?_; rintro e w' ⟨rfl, q, rfl⟩)
  gi_loopw [6] (fun i wr => i = .int .i64 0 ∧ J [] wr) (fun i _ => 0)
  case atStart => exact ⟨rfl, hJ _ _ q h0⟩
  case round =>
    obtain ⟨rfl, hJs⟩ := hrel
    gi_wp2
    go_end0
    exact ⟨⟨_, rfl⟩, hJs⟩

set_option maxRecDepth 100000 in
set_option maxHeartbeats 2000000 in
theorem all_nob (p : Option Addr) (w : World) (h : Nob p w) :
    Calls Try.prog 22 #[.pointer p] w fun e W' => ∃ v, e = .returned v ∧ W'.ownsRow w.heap.size 3 1 v 0 [] ∧ Below w.heap.size w W' := by
  have h1 : 1 ≤ 3 := by omega
  have hro : Fence.wide.round = none := rfl
  have h22 : Fence.wide.fn 22 := trivial
  have h20 : Fence.wide.fn 20 := trivial
  have h39 : Fence.wide.fn 39 := trivial
  have h53 : Fence.wide.fn 53 := trivial
  obtain ⟨i0, hi, hz0, hz1, hz2⟩ := info_parts Try.info3
  have hL : CallsIn Fence.wide (3 - 1) Try.prog 20 #[.pointer p] w fun e w' => e = .returned (.int .i64 0) ∧ ∃ q, w' = w.drewN q := callsIn_wide.2 (len_nob p w h)
  refine (callsIn_wide (n := 3)).1 ?_
  refine callsIn_of_wp_marks Try.func22 rfl h22 ?_ hro
  simp only [Try.ntmps22, List.size_toArray, List.length_cons, List.length_nil, Nat.reduceAdd, Nat.reduceSub, Array.replicate_succ, Array.replicate_zero, List.push_toArray, List.append_toArray, List.nil_append, List.cons_append]
  gi_wp2_with (first
    | (gi_at_call 20; refine hL.mono ?_; rintro e w' ⟨rfl, q, rfl⟩; obtain ⟨wm, hmk, hown, hgr⟩ := run_make_own (P := Try.prog) (w.drewN q) w.heap.size 27 3 i0 (.int .i64 0) 1 Try.underlying27 hi hz0 hz1 .i64 .i64 0 (by omega) (by unfold maxLen; omega) (Nat.le_refl _); have HO := hide hown; have HGR := hide hgr; clear hown hgr; replace hmk : (Instr.makeSlice 27 (.int .i64 0) (.int .i64 0)).run Try.prog (w.drewN q) = .ok (.slice (some ⟨w.heap.size, 0, none⟩) 0 0) wm := hmk)
    | (gi_at_call 39; refine (each_nob (3 - 1) p _).mono ?_; rintro e w' ⟨rfl, rfl⟩))
  rw [show (w.drewN q).heap.size = w.heap.size from rfl] at HO
  have hwm : w.heap.size < wm.heap.size := (ownBlock_lt HO.out rfl).2
  have hBm : Below w.heap.size w wm := ⟨HGR.out.os, HGR.out.tape, HGR.out.output, HGR.out.size, fun k hk => HGR.out.block k hk (by simp)⟩
  have bO := Boxed.new wm 27 (.slice (some ⟨w.heap.size, 0, none⟩) 0 0)
  have bN := Boxed.new (wm.alloc (.cells #[.slice (some ⟨w.heap.size, 0, none⟩) 0 0] 27)) 24 (.pointer p)
  rw [World.size_alloc] at bN
  have hB0 : Below w.heap.size w ((wm.alloc (.cells #[.slice (some ⟨w.heap.size, 0, none⟩) 0 0] 27)).alloc (.cells #[.pointer p] 24)) := (hBm.alloc (Nat.le_of_lt hwm) _).alloc (by simp; omega) _
  have hseq : SeqStopsK Fence.wide (3 - 1) Try.prog 53 #[.pointer (some ⟨wm.heap.size + 1, 0, none⟩)] (fun x : Int => #[Value.int .i64 x]) (Below w.heap.size) (fun zs => zs = []) (fun pre => False) 0 ((wm.alloc (.cells #[.slice (some ⟨w.heap.size, 0, none⟩) 0 0] 27)).alloc (.cells #[.pointer p] 24)) := fun l J Jx W hW hJ _ hY h0 =>
    (each1_nob (3 - 1) (by omega) l (wm.heap.size + 1) p J (fun s W q hs => hJ s W _ none hs (grownBy_drewN W q) (fun r e => by cases e)) W ((hW.cell (p := ⟨wm.heap.size + 1, 0, none⟩) (by simp)).trans bN.cell) ((h.below hB0).below hW) h0).mono fun e W' ⟨h1, h2⟩ => ⟨h1, .inl ⟨[], rfl, h2⟩⟩
  refine wpIn_rangeFunc_ownG hro h1 (gf := 53) (lb := #[.pointer (some ⟨wm.heap.size + 1, 0, none⟩)]) rfl h53 (enters_of Try.func53 (by kernel_rfl) rfl)
    hseq belowK_t (belowK_b (by simp; omega)) (Below.refl _ _) (fun _ => rfl)
    (fun pre W => (∃ v, Boxed W wm.heap.size 27 v ∧ W.ownsRow w.heap.size 3 1 v 0 [] ∧ True) ∧ Below w.heap.size w W)
    (fun _ _ _ => False)
    (OwnFrom.and (Own.from (holdsRow_own w.heap.size wm.heap.size 27 3 1 (fun pre : List Int => 0) (fun pre => []) (fun pre v => True)) _) (ownFrom_below (Nat.le_refl _) (by simp; omega)))
    (fun _ _ _ _ _ hs _ _ => hs)
    ⟨⟨_, bO.alloc _, (HO.out.alloc _).alloc _, trivial⟩, hB0⟩
    (fun x => { tmps := #[.pointer p, undef, .slice none 0 0, .pointer (some ⟨wm.heap.size, 0, none⟩), .int .i64 x, .pointer p, .int .i64 0, .slice (some ⟨w.heap.size, 0, none⟩) 0 0, .pointer p, .func (.func 53) #[] #[.pointer (some ⟨wm.heap.size + 1, 0, none⟩)], .int .i64 x, undef, undef, undef, undef, undef], defers := [] }) ?assign ?body ?done ?stop
  case assign =>
    intro l x W K hK
    gi_wp2
    exact hK
  case body =>
    rintro l pre x W _ hlt
    exact absurd hlt (Nat.not_lt_zero _)
  case done =>
    rintro D ys W hD rfl ⟨⟨v, hv, hrow, _⟩, hB⟩ hK
    have hc := hv.cell
    gi_wp2
    refine ⟨by simp, .inl ⟨_, _, rfl, run_takeDeferred hK, ?_⟩⟩
    exact ⟨_, results_tmp rfl _ _ _, v, rfl, ownsRow_putObj hrow _ hK rfl, hB.trans (belowK_b (w := w) (Nat.le_refl _) W D _ _ (by simp at hD; omega) hK rfl rfl)⟩
  case stop =>
    rintro D c pre W _ _ h _
    exact h.elim
end

end Go.Proofs.Ytehefenagpdlaaa
