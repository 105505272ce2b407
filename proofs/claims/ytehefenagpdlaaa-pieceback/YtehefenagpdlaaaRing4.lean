/- The ring: what is skipped and taken. -/
import Derived.Test.YtehefenagpdlaaaRing3
namespace Go.Proofs.Ytehefenagpdlaaa
open Go.RowKit Go.By
set_option linter.unusedVariables false

set_option maxRecDepth 20000 in
set_option maxHeartbeats 4000000 in
theorem skip_some_int (B g most : Nat) (r : Option Nat) (xs : List Value) (m : Int) (j : Nat) (w : World) (h : RingIs 54 3 w B g most r xs) (hj : 1 ≤ j) (hm : (j : Int) = if m ≤ (xs.length : Int) then m else (xs.length : Int)) :
    Calls Try.prog 18 #[.pointer (some ⟨g, 0, none⟩), .int .i64 m] w fun e w' => e = .returned (.int .i64 (j : Int)) ∧ RingIs 54 3 w' B g most r (xs.drop j) ∧ Turned g r r w w' := by
  have hL := len_int B g most r xs w h
  have hjl : j ≤ xs.length := by split at hm <;> omega
  obtain ⟨k, cap, f, rfl, hf, hlo⟩ := h.loose (fun e => by subst e; simp at hjl; omega)
  have hlo' := hlo
  obtain ⟨hg, hk, hh, cur, hc, hl, hfit, hmx, hx, h1, h2', h3', h4, h5⟩ := hlo'
  have hgk : g ≠ k := fun e => by rw [e, hc] at hh; cases hh
  have c1 : w.cell? ⟨g, 1, none⟩ = some (.slice (some ⟨k, 0, none⟩) (f + xs.length) cap) := by rw [Joins.cell_of_block hh]; rfl
  have c2 : w.cell? ⟨g, 2, none⟩ = some (.int .i64 (f : Int)) := by rw [Joins.cell_of_block hh]; rfl
  have f2 : w.frozen? ⟨g, 2, none⟩ = false := by simp [World.frozen?, hh]
  have hb1 : (f : Int) + (j : Int) ≤ (f : Int) + (xs.length : Int) := by omega
  have hb2 : ((f : Int) + (j : Int)).toNat = f + j := by omega
  have hb3 : (f : Int) ≤ (f : Int) + (j : Int) := by omega
  have hb4 : (f : Int) + (j : Int) ≤ (cap : Int) := by omega
  have hwr : IntKind.i64.wrap ((f : Int) + (j : Int)) = (f : Int) + (j : Int) := by rw [IntKind.wrap_i64]; omega
  have hp0 : (0 : Int) ≤ (f : Int) + (j : Int) := by omega
  have hb6 : f + j - f = j := by omega
  have hb5 : f + j ≤ cap := by omega
  have hne : ¬ cap = f := by omega
  have hj1 : (1 : Int) ≤ (j : Int) := by omega
  have hd1 : decide ((j : Int) < 1) = false := decide_eq_false (by omega)
  have HH := hide hh
  have HC := hide hc
  have HX := hide hx
  have H1 := hide h1
  have HLO := hide hlo
  have HM := hide hm
  clear hh hc hx h1 h hlo hm
  go_enter Try.func18, Try.ntmps18
  go_upto_region 1 with fail
  go_cut [1] from 5 to 43 (fun s wc => s = .int .i64 (j : Int) ∧ ∃ q, wc = w.drewN q)
  case first =>
    go_wp2_with (go_at_call 20; refine hL.mono ?_; rintro e w' ⟨rfl, q, rfl⟩)
    all_goals (go_meet; refine ⟨?_, q, rfl⟩; have hm := HM.out; simp only [Value.int.injEq, true_and]; split at hm <;> omega)
  case rest =>
    obtain ⟨rfl, q, rfl⟩ := hcut
    clear hL
    go_wp2_with fail
    go_cut [] from 5 to 43 (fun wc => wc.heap[k]? = some (.cells (splice cur f (List.replicate j (.int .i64 0))).toArray 3 (0, 0)) ∧ Only (fun i => i = k) w wc)
    case first =>
      go_region_law (refine step_clear_row rfl (.tmp 25) 27 rfl 3 (.int .i64 0) Try.underlying27 Try.zeroValue3 rfl rfl k f j (cap - f) (by simp [Act.eval, Act.put]) (by omega) cur.toArray 3 HC.out (by simp; omega) ?_; intro w2 hk2 ho2)
      all_goals (go_wp2_with fail; go_meet; exact ⟨by simpa using hk2, (Only.drewN _ w _).trans ho2⟩)
    case rest =>
      obtain ⟨hk2, ho2⟩ := hcut
      have hgc : wc.heap[g]? = w.heap[g]? := ho2.block g (lt_of_heap HH.out) hgk
      have d1 : wc.cell? ⟨g, 1, none⟩ = some (.slice (some ⟨k, 0, none⟩) (f + xs.length) cap) := (World.cell?_of_block (a := ⟨g, 1, none⟩) hgc).trans c1
      have d2 : wc.cell? ⟨g, 2, none⟩ = some (.int .i64 (f : Int)) := (World.cell?_of_block (a := ⟨g, 2, none⟩) hgc).trans c2
      have g2 : wc.frozen? ⟨g, 2, none⟩ = false := (World.frozen?_of_block (a := ⟨g, 2, none⟩) hgc).trans f2
      obtain ⟨k1, k2⟩ := HLO.out.skipped (T := 54) (E := 3) (by decide) HC.out hjl hk2 ho2
      have ecast : ((f + j : Nat) : Int) = (f : Int) + (j : Int) := by push_cast; rfl
      rw [ecast] at k1 k2
      have d1' : (wc.setCell ⟨g, 2, none⟩ (.int .i64 ((f : Int) + (j : Int)))).cell? ⟨g, 1, none⟩ = some (.slice (some ⟨k, 0, none⟩) (f + j + (xs.drop j).length) cap) := by
        have := k1.2.2.1
        rw [Joins.cell_of_block this]; rfl
      have d2' : (wc.setCell ⟨g, 2, none⟩ (.int .i64 ((f : Int) + (j : Int)))).cell? ⟨g, 2, none⟩ = some (.int .i64 ((f + j : Nat) : Int)) := by
        have := k1.2.2.1
        rw [Joins.cell_of_block this]; rfl
      have hL2 : ∀ n, Calls Try.prog 20 #[.pointer (some ⟨g, 0, none⟩)] ((wc.setCell ⟨g, 2, none⟩ (.int .i64 ((f : Int) + (j : Int)))).drewN n) fun e w' => e = .returned (.int .i64 ((xs.drop j).length : Int)) ∧ ∃ q, w' = ((wc.setCell ⟨g, 2, none⟩ (.int .i64 ((f : Int) + (j : Int)))).drewN n).drewN q :=
        fun n => len_cells_int g (f + j) (xs.drop j).length cap (some ⟨k, 0, none⟩) _ d1' d2' (by simp; omega)
      have hdl : ((xs.drop j).length : Int) = (xs.length : Int) - (j : Int) := by simp; omega
      generalize hn2 : (xs.drop j).length = n2 at hL2 hdl
      have HK1 := hide k1
      have HT := hide k2
      have HN2 := hide hn2
      clear hk2 ho2 hgc k1 k2 d1' d2' hn2 ecast
      by_cases hge : n2 ≤ f + j
      · have hmv : ∀ n, Calls Try.prog 38 #[.pointer (some ⟨g, 0, none⟩)] ((wc.setCell ⟨g, 2, none⟩ (.int .i64 ((f : Int) + (j : Int)))).drewN n) fun e w' => e = .returned (.tuple #[]) ∧ Loose 54 3 w' B g most k cap 0 (xs.drop j) ∧ Turned g (some k) (some k) ((wc.setCell ⟨g, 2, none⟩ (.int .i64 ((f : Int) + (j : Int)))).drewN n) w' :=
          fun n => moveAhead_int B g most k cap (f + j) (xs.drop j) _ HK1.out (by have := HN2.out; omega) (by omega)
        have hge' : (n2 : Int) ≤ (f : Int) + (j : Int) := by omega
        go_wp2_with fail
        go_quiet ((go_at_call 20; exact Calls.quiet_of (hL2 _)))
        clear hL2
        go_wp2_with (go_at_call 38; refine (hmv _).mono ?_; rintro e w4 ⟨rfl, hl4, ht4⟩; clear hmv)
        go_ret
        exact ⟨rfl, hl4.ring (by omega), (HT.out.trans (Turned.drewN g _ _ _)).trans ht4⟩
      · have hge' : ¬ (n2 : Int) ≤ (f : Int) + (j : Int) := by omega
        have hge2 : decide ((n2 : Int) ≤ (f : Int) + (j : Int)) = false := decide_eq_false hge'
        go_wp2_with fail
        go_quiet ((go_at_call 20; exact Calls.quiet_of (hL2 _)))
        clear hL2
        go_wp2
        go_ret
        exact ⟨rfl, (show Loose 54 3 _ B g most k cap (f + j) (xs.drop j) from HK1.out).ring (by have := HN2.out; omega), HT.out.trans (Turned.drewN g _ _ _)⟩

set_option maxRecDepth 20000 in
set_option maxHeartbeats 2000000 in
theorem take_none_int (B g most : Nat) (r : Option Nat) (w : World) (h : RingIs 54 3 w B g most r []) :
    Calls Try.prog 14 #[.pointer (some ⟨g, 0, none⟩)] w fun e w' => e = .returned (.tuple #[.int .i64 0, .bool false]) ∧ ∃ q, w' = w.drewN q := by
  have hat := at_out_int B g most r [] 0 w h (by simp)
  have hsk : ∀ n, Calls Try.prog 18 #[.pointer (some ⟨g, 0, none⟩), .int .i64 1] (w.drewN n) fun e w' => e = .returned (.int .i64 0) ∧ ∃ q, w' = (w.drewN n).drewN q := fun n => skip_none_int B g most r [] 1 (w.drewN n) h (.inr rfl)
  go_enter Try.func14, Try.ntmps14
  go_wp2_with (first | (go_at_call 19; refine hat.mono ?_; rintro e w' ⟨rfl, q, rfl⟩) | (go_at_call 18; refine (hsk _).mono ?_; rintro e w' ⟨rfl, q2, rfl⟩; clear hsk))
  go_ret2
  exact ⟨rfl, _, rfl⟩

set_option maxRecDepth 20000 in
set_option maxHeartbeats 2000000 in
theorem take_some_int (B g most : Nat) (r : Option Nat) (x : Value) (xs : List Value) (w : World) (h : RingIs 54 3 w B g most r (x :: xs)) :
    Calls Try.prog 14 #[.pointer (some ⟨g, 0, none⟩)] w fun e w' => e = .returned (.tuple #[x, .bool true]) ∧ RingIs 54 3 w' B g most r xs ∧ Turned g r r w w' := by
  have hat := at_in_int B g most r (x :: xs) 0 w h (by simp) (.bool true)
  have hsk : ∀ n, Calls Try.prog 18 #[.pointer (some ⟨g, 0, none⟩), .int .i64 1] (w.drewN n) fun e w' => e = .returned (.int .i64 1) ∧ RingIs 54 3 w' B g most r xs ∧ Turned g r r (w.drewN n) w' := fun n => skip_some_int B g most r (x :: xs) 1 1 (w.drewN n) h (by omega) (by simp; omega)
  go_enter Try.func14, Try.ntmps14
  go_wp2_with (first | (go_at_call 19; refine hat.mono ?_; rintro e w' ⟨rfl, q, rfl⟩) | (go_at_call 18; refine (hsk _).mono ?_; rintro e w' ⟨rfl, hr', ht'⟩; clear hsk))
  go_ret2
  exact ⟨rfl, hr', (Turned.drewN g r w q).trans ht'⟩

end Go.Proofs.Ytehefenagpdlaaa
