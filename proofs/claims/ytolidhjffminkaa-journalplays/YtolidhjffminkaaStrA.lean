/- The ring of texts: its contracts, as those of the ring of numbers. -/
import Derived.Test.YtolidhjffminkaaRing4
namespace Go.Proofs.Ytolidhjffminkaa
open Go.RowKit Go.By
set_option linter.unusedVariables false

set_option maxHeartbeats 1000000 in
theorem len_cells_str (g f n cap : Nat) (a : Option Addr) (w : World) (c1 : w.cell? ⟨g, 1, none⟩ = some (.slice a (f + n) cap)) (c2 : w.cell? ⟨g, 2, none⟩ = some (.int .i64 (f : Int))) (hn : f + n < 9000000000000000000) :
    Calls Try.prog 21 #[.pointer (some ⟨g, 0, none⟩)] w fun e w' => e = .returned (.int .i64 (n : Int)) ∧ ∃ q, w' = w.drewN q := by
  go_enter Try.func21, Try.ntmps21
  go_wp2_with fail
  go_quiet (fail)
  go_wp2
  go_ret
  exact ⟨ret_int (by have e : ((↑(f + n) : Int) - (f : Int)) = n := by push_cast; omega
                     omega), _, rfl⟩

theorem len_str (B g most : Nat) (r : Option Nat) (xs : List Value) (w : World) (h : RingIs 60 9 w B g most r xs) :
    Calls Try.prog 21 #[.pointer (some ⟨g, 0, none⟩)] w fun e w' => e = .returned (.int .i64 (xs.length : Int)) ∧ ∃ q, w' = w.drewN q := by
  obtain ⟨a, f, cap, c0, c1, c2, hf, hm, h1, h2, hc, hc2, _, _⟩ := h.cells
  exact len_cells_str g f xs.length cap a w c1 c2 (by omega)

set_option maxHeartbeats 1000000 in
theorem most_str (B g most : Nat) (r : Option Nat) (xs : List Value) (w : World) (h : RingIs 60 9 w B g most r xs) :
    Calls Try.prog 24 #[.pointer (some ⟨g, 0, none⟩)] w fun e w' => e = .returned (.int .i64 (most : Int)) ∧ w' = w := by
  obtain ⟨a, f, cap, c0, c1, c2, hf, hm, h1, h2, hc, hc2, _, _⟩ := h.cells
  go_enter Try.func24, Try.ntmps24
  go_wp2
  go_ret
  exact ⟨rfl, rfl⟩

set_option maxHeartbeats 1000000 in
theorem at_out_str (B g most : Nat) (r : Option Nat) (xs : List Value) (i : Int) (w : World) (h : RingIs 60 9 w B g most r xs) (hi : ¬ (0 ≤ i ∧ i < xs.length)) :
    Calls Try.prog 26 #[.pointer (some ⟨g, 0, none⟩), .int .i64 i] w fun e w' => e = .returned (.tuple #[.string ⟨#[]⟩, .bool false]) ∧ ∃ q, w' = w.drewN q := by
  have hl := len_str B g most r xs w h
  by_cases h0 : i < 0
  · go_enter Try.func26, Try.ntmps26
    go_wp2
    go_ret2
    exact ⟨rfl, 0, rfl⟩
  · have h0' : 0 ≤ i := by omega
    have h1 : (xs.length : Int) ≤ i := by omega
    go_enter Try.func26, Try.ntmps26
    go_wp2_with (go_at_call 21; refine hl.mono ?_; rintro e w' ⟨rfl, q, rfl⟩)
    go_ret2
    exact ⟨rfl, q, rfl⟩

set_option maxHeartbeats 1000000 in
theorem at_in_str (B g most : Nat) (r : Option Nat) (xs : List Value) (i : Nat) (w : World) (h : RingIs 60 9 w B g most r xs) (hi : i < xs.length) (z : Value) :
    Calls Try.prog 26 #[.pointer (some ⟨g, 0, none⟩), .int .i64 (i : Int)] w fun e w' => e = .returned (.tuple #[xs.getD i z, .bool true]) ∧ ∃ q, w' = w.drewN q := by
  have hl := len_str B g most r xs w h
  obtain ⟨a, f, cap, c0, c1, c2, hf, hm, h1, h2, hc, hc2, hn, hs⟩ := h.cells
  obtain ⟨b, rfl⟩ : ∃ b, a = some b := by
    cases a with
    | none => have := hn rfl; subst this; simp at hi
    | some b => exact ⟨b, rfl⟩
  obtain ⟨k, rfl, hk⟩ := hs b rfl
  have ci := hk i z hi
  generalize xs.getD i z = y at ci ⊢
  have hi' : (i : Int) < (xs.length : Int) := by omega
  have hb : (f : Int) + (i : Int) < ((f + xs.length : Nat) : Int) := by push_cast; omega
  have hb2 : ((f : Int) + (i : Int)).toNat = f + i := by omega
  clear hn hs hk
  go_enter Try.func26, Try.ntmps26
  go_wp2_with (go_at_call 21; refine hl.mono ?_; rintro e w' ⟨rfl, q, rfl⟩)
  go_quiet (fail)
  go_wp2
  go_ret2
  exact ⟨rfl, _, by rw [World.drewN_drewN]⟩

set_option maxRecDepth 20000 in
set_option maxHeartbeats 2000000 in
theorem push_ok_str (B g most : Nat) (r : Option Nat) (xs : List Value) (x : ByteArray) (w : World) (h : RingIs 60 9 w B g most r xs) (hB : B ≤ w.heap.size) (hl : xs.length < most) :
    Calls Try.prog 20 #[.pointer (some ⟨g, 0, none⟩), .string x] w fun e w' => e = .returned (.int .i64 0) ∧ ∃ r', RingIs 60 9 w' B g most r' (xs ++ [.string x]) ∧ Turned g r r' w w' := by
  have hm := most_str B g most r xs w h
  have hL : ∀ n, Calls Try.prog 21 #[.pointer (some ⟨g, 0, none⟩)] (w.drewN n) fun e w' => e = .returned (.int .i64 (xs.length : Int)) ∧ ∃ q, w' = (w.drewN n).drewN q := fun n => len_str B g most r xs (w.drewN n) h
  obtain ⟨a, f, cap, c0, c1, c2, hf, hm1, h1, h2, hc, hc2, hn, hs⟩ := h.cells
  obtain ⟨i0, hi, hz0, hz1, hz2⟩ := info_parts Try.info9
  obtain ⟨hBg, v, f', junk, hg, hr, hj, hf', hv, h1', hmm, hmm2, hlm⟩ := h
  obtain rfl : v = .slice a (f + xs.length) cap := by rw [Joins.cell_of_block hg] at c1; simpa using c1
  obtain rfl : f' = f := by
    rw [Joins.cell_of_block hg] at c2
    have : (f' : Int) = f := by simpa using c2
    omega
  have hfz : w.frozen? ⟨g, 1, none⟩ = false := by simp [World.frozen?, hg]
  have hmne : ¬ (most : Int) = 0 := by omega
  have hlne : ¬ ((xs.length : Int) = (most : Int)) := by omega
  have hd1 : decide ((most : Int) = 0) = false := decide_eq_false hmne
  have hd2 : ((xs.length : Int) == (most : Int)) = false := by simpa using hlne
  have HR := hide hr
  have HG := hide hg
  have HV := hide hv
  have H1 := hide h1'
  clear hr hg hv h1' hn hs
  go_enter Try.func20, Try.ntmps20
  go_wp2_with (go_at_call 24; refine hm.mono ?_; rintro e w' ⟨rfl, hw'⟩; subst hw')
  go_quiet ((go_at_call 21; exact Calls.quiet_of (hL _)))
  go_wp2_with (at_builtin; refine wpList_append_lies _ rfl _ _ 26 rfl B 9 i0 (.string ⟨#[]⟩) 1 16 Try.underlying26 hi hz0 hz1 hz2 rfl (by decide) (.slice a (f' + xs.length) cap) (f' + xs.length) (junk ++ xs) rfl (World.ownsRow.alloc HR.out _) ⟨w'.heap.size, 0, none⟩ 1 1 [.string x] rfl rfl (cell_one_new _ _ _) (by simp [Value.oneCell']) (by omega) (by unfold maxLen; omega) (by omega) (by simp; omega) (w'.heap.size + 1) (by simp) ?_; intro k cap' w1 hr' hgr hk hlt; have hg1 : w1.heap[g]? = w'.heap[g]? := (hgr.block g (by simp; have := lt_of_heap HG.out; omega) (ownBlock_ne HR.out HG.out (by decide))).trans (Below.heap_alloc w' _ g (lt_of_heap HG.out)); have c1' : w1.cell? ⟨g, 1, none⟩ = some (Value.slice a (f' + xs.length) cap) := (World.cell?_of_block (a := ⟨g, 1, none⟩) hg1).trans c1; have fz' : w1.frozen? ⟨g, 1, none⟩ = false := (World.frozen?_of_block (a := ⟨g, 1, none⟩) hg1).trans hfz; have HR' := hide hr'; have HGR := hide hgr; have HK := hide hk; have HG1 := hide hg1; clear hr' hgr hk hg1)
  go_ret
  obtain ⟨k1, k2⟩ := RingIs.pushed (T := 60) (E := 9) (w := w'.drewN nq) (by decide) hBg HG.out HR.out hj hf' H1.out (x := .string x) rfl h1 h2 hl HR'.out HGR.out HK.out
  exact ⟨rfl, _, k1, (Turned.drewN g r w' nq).trans (HV.out ▸ k2)⟩

set_option maxRecDepth 20000 in
set_option maxHeartbeats 2000000 in
theorem push_full_str (B g most : Nat) (r : Option Nat) (xs : List Value) (x : ByteArray) (w : World) (h : RingIs 60 9 w B g most r xs) (hl : xs.length = most) :
    Calls Try.prog 20 #[.pointer (some ⟨g, 0, none⟩), .string x] w fun e w' => e = .returned (.int .i64 31) ∧ ∃ q, w' = w.drewN q := by
  have hm := most_str B g most r xs w h
  have hL : ∀ n, Calls Try.prog 21 #[.pointer (some ⟨g, 0, none⟩)] (w.drewN n) fun e w' => e = .returned (.int .i64 (xs.length : Int)) ∧ ∃ q, w' = (w.drewN n).drewN q := fun n => len_str B g most r xs (w.drewN n) h
  obtain ⟨a, f, cap, c0, c1, c2, hf, hm1, h1, h2, hc, hc2, hn, hs⟩ := h.cells
  have hmne : ¬ (most : Int) = 0 := by omega
  have hd1 : decide ((most : Int) = 0) = false := decide_eq_false hmne
  rw [hl] at hL
  clear hn hs
  go_enter Try.func20, Try.ntmps20
  go_wp2_with (go_at_call 24; refine hm.mono ?_; rintro e w' ⟨rfl, hw'⟩; subst hw')
  go_quiet ((go_at_call 21; exact Calls.quiet_of (hL _)))
  go_wp2
  go_ret
  exact ⟨rfl, _, rfl⟩

set_option maxRecDepth 20000 in
set_option maxHeartbeats 2000000 in
theorem moveAhead_str (B g most k cap f : Nat) (xs : List Value) (w : World) (h : Loose 60 9 w B g most k cap f xs) (hf : xs.length ≤ f) (hf1 : 0 < f) :
    Calls Try.prog 23 #[.pointer (some ⟨g, 0, none⟩)] w fun e w' => e = .returned (.tuple #[]) ∧ Loose 60 9 w' B g most k cap 0 xs ∧ Turned g (some k) (some k) w w' := by
  obtain ⟨hg, hk, hh, cur, hc, hl, hfit, hm, hx, h1, h2', h3', h4, h5⟩ := h
  have hgk : g ≠ k := fun e => by rw [e, hc] at hh; cases hh
  have c1 : w.cell? ⟨g, 1, none⟩ = some (.slice (some ⟨k, 0, none⟩) (f + xs.length) cap) := by rw [Joins.cell_of_block hh]; rfl
  have c2 : w.cell? ⟨g, 2, none⟩ = some (.int .i64 (f : Int)) := by rw [Joins.cell_of_block hh]; rfl
  have f1 : w.frozen? ⟨g, 1, none⟩ = false := by simp [World.frozen?, hh]
  have f2 : w.frozen? ⟨g, 2, none⟩ = false := by simp [World.frozen?, hh]
  have hcell : ∀ j, j < xs.length → w.cell? ⟨k, f + j, none⟩ = xs[j]? := fun j hj => by
    rw [Joins.cell_of_block hc]
    conv => rhs; rw [← hx, List.getElem?_drop, List.getElem?_take_of_lt (by omega)]
    simp
  have hcp : f ≤ cap := by omega
  have hcp2 : (f : Int) ≤ (f : Int) + (xs.length : Int) := by omega
  have hcp3 : xs.length ≤ cap := by omega
  obtain ⟨A, hA, hsrc⟩ : ∃ A : Addr, (if cap = f then some (⟨k, 0, none⟩ : Addr) else some ⟨k, f, none⟩) = some A ∧ Hid (∀ j v, xs[j]? = some v → w.cell? (A.add j) = some v) := by
    by_cases h : cap = f
    · refine ⟨⟨k, 0, none⟩, by simp [h], fun t u hu => ?_⟩
      have h0 : xs.length = 0 := by omega
      rw [List.length_eq_zero_iff.1 h0] at hu
      simp at hu
    · refine ⟨⟨k, f, none⟩, by simp [h], fun t u hu => ?_⟩
      rw [Addr.add_lit, hcell t (List.getElem?_eq_some_iff.1 hu).1, hu]
  have HH := hide hh
  have HC := hide hc
  have HX := hide hx
  have H1 := hide h1
  clear hh hc hx h1 hcell
  go_enter Try.func23, Try.ntmps23
  go_wp2_with fail
  go_cut [2] from 3 to 34 (fun s wc => s = .int .i64 (xs.length : Int) ∧ wc.heap[k]? = some (.cells (splice cur 0 xs).toArray 9 (0, 0)) ∧ Only (fun j => j = k) w wc)
  case first =>
    go_region_law (refine step_copy_row rfl (.tmp 6) (.tmp 15) 26 26 rfl 9 Try.underlying26 (by kernel_rfl) (some ⟨k, 0, none⟩) (some A) (f + xs.length) cap xs.length (cap - f) (by simp [Act.eval, Act.put]) (by simp [Act.eval, Act.put]) k 0 cur 9 HC.out xs (by simp) (fun _ => ⟨rfl, A, rfl, hsrc.out⟩) (by simp; omega) H1.out ?_; intro w2 hk2 ho2)
    all_goals (go_wp2_with fail; go_meet; exact ⟨rfl, hk2, (Only.drewN _ w 1).trans ho2⟩)
  case rest =>
    obtain ⟨rfl, hk2, ho2⟩ := hcut
    have hgc : wc.heap[g]? = w.heap[g]? := ho2.block g (lt_of_heap HH.out) hgk
    have d1 : wc.cell? ⟨g, 1, none⟩ = some (.slice (some ⟨k, 0, none⟩) (f + xs.length) cap) := (World.cell?_of_block (a := ⟨g, 1, none⟩) hgc).trans c1
    have hne : ¬ cap = xs.length := by omega
    have HK2 := hide hk2
    have HO2 := hide ho2
    have HGC := hide hgc
    clear hk2 ho2 hgc
    obtain ⟨w3, hclr, hk3, ho3⟩ := clear_row (P := Try.prog) wc 26 9 (.string ⟨#[]⟩) Try.underlying26 Try.zeroValue9 rfl rfl k xs.length f (cap - xs.length) hf1 _ 9 HK2.out (by rw [List.size_toArray, length_splice cur 0 xs (by omega)]; omega)
    have hg3 : w3.heap[g]? = wc.heap[g]? := ho3.block g (by have := HH.out; rw [← HGC.out] at this; exact lt_of_heap this) hgk
    have e1 : w3.cell? ⟨g, 1, none⟩ = some (.slice (some ⟨k, 0, none⟩) (f + xs.length) cap) := (World.cell?_of_block (a := ⟨g, 1, none⟩) hg3).trans d1
    have fe1 : w3.frozen? ⟨g, 1, none⟩ = false := (World.frozen?_of_block (a := ⟨g, 1, none⟩) (hg3.trans HGC.out)).trans f1
    have e2 : w3.cell? ⟨g, 2, none⟩ = some (.int .i64 (f : Int)) := (World.cell?_of_block (a := ⟨g, 2, none⟩) (hg3.trans HGC.out)).trans c2
    have fe2 : w3.frozen? ⟨g, 2, none⟩ = false := (World.frozen?_of_block (a := ⟨g, 2, none⟩) (hg3.trans HGC.out)).trans f2
    have HK3 := hide hk3
    have HO3 := hide ho3
    have HG3 := hide hg3
    clear hk3 ho3 hg3
    go_wp2
    go_end0
    refine ⟨rfl, ?_, ?_⟩
    · have hg3 := (HG3.out.trans HGC.out).trans HH.out
      have h3 := heap_setCell (i := 2) (heap_setCell (i := 1) hg3 (.slice (some ⟨k, 0, none⟩) xs.length cap)) (.int .i64 0)
      refine ⟨hg, hk, by simpa using h3, splice (splice cur 0 xs) xs.length (List.replicate f (.string ⟨#[]⟩)), ?_, ?_, by omega, hm, ?_, H1.out, h2', h3', by omega, h5⟩
      · rw [heap_setCell_ne _ (Ne.symm hgk), heap_setCell_ne _ (Ne.symm hgk)]; simpa using HK3.out
      · have e0 := length_splice cur 0 xs (by omega)
        rw [length_splice _ _ _ (by rw [e0]; simp; omega), e0, hl]
      · have e0 := length_splice cur 0 xs (by omega)
        rw [List.drop_zero, Nat.zero_add, splice_take _ _ _ (by rw [e0]; simp; omega)]
        simp [splice]
    · refine ⟨?_, .inl rfl⟩
      have o2 : Only (fun j => j = g ∨ some j = some k) w w3 := (HO2.out.trans HO3.out).mono fun i _ hi => .inr (by rw [hi])
      exact (o2.trans (Only.setCell _ _ _ (.inl rfl))).trans (Only.setCell _ _ _ (.inl rfl))

set_option maxRecDepth 20000 in
set_option maxHeartbeats 2000000 in
theorem skip_none_str (B g most : Nat) (r : Option Nat) (xs : List Value) (m : Int) (w : World) (h : RingIs 60 9 w B g most r xs) (hm : m < 1 ∨ xs = []) :
    Calls Try.prog 18 #[.pointer (some ⟨g, 0, none⟩), .int .i64 m] w fun e w' => e = .returned (.int .i64 0) ∧ ∃ q, w' = w.drewN q := by
  have hL := len_str B g most r xs w h
  have hmin : m < 1 ∨ (xs.length : Int) < 1 := by
    rcases hm with hm | rfl
    · exact .inl hm
    · exact .inr (by simp)
  have HM := hide hmin
  clear hm hmin
  go_enter Try.func18, Try.ntmps18
  go_wp2_with (go_at_call 21; refine hL.mono ?_; rintro e w' ⟨rfl, q, rfl⟩)
  all_goals (first
    | (go_ret; exact ⟨rfl, _, rfl⟩)
    | (have := HM.out; exfalso; omega))

set_option maxRecDepth 20000 in
set_option maxHeartbeats 4000000 in
theorem skip_some_str (B g most : Nat) (r : Option Nat) (xs : List Value) (m : Int) (j : Nat) (w : World) (h : RingIs 60 9 w B g most r xs) (hj : 1 ≤ j) (hm : (j : Int) = if m ≤ (xs.length : Int) then m else (xs.length : Int)) :
    Calls Try.prog 18 #[.pointer (some ⟨g, 0, none⟩), .int .i64 m] w fun e w' => e = .returned (.int .i64 (j : Int)) ∧ RingIs 60 9 w' B g most r (xs.drop j) ∧ Turned g r r w w' := by
  have hL := len_str B g most r xs w h
  have hjl : j ≤ xs.length := by split at hm <;> omega
  obtain ⟨k, cap, f, rfl, hf, hlo⟩ := h.loose (fun e => by subst e; simp at hjl; omega)
  have hlo' := hlo
  obtain ⟨hg, hk, hh, cur, hc, hl, hfit, hmx, hx, h1, h2', h3', h4, h5⟩ := hlo'
  have hgk : g ≠ k := fun e => by rw [e, hc] at hh; cases hh
  have c1 : w.cell? ⟨g, 1, none⟩ = some (.slice (some ⟨k, 0, none⟩) (f + xs.length) cap) := by rw [Joins.cell_of_block hh]; rfl
  have c2 : w.cell? ⟨g, 2, none⟩ = some (.int .i64 (f : Int)) := by rw [Joins.cell_of_block hh]; rfl
  have f2 : w.frozen? ⟨g, 2, none⟩ = false := by simp [World.frozen?, hh]
  have hb1 : (f : Int) + (j : Int) ≤ (f : Int) + (xs.length : Int) := by omega
  have hb2 : ((f : Int) + (j : Int)).toNat = f + j := by omega
  have hb3 : (f : Int) ≤ (f : Int) + (j : Int) := by omega
  have hb4 : (f : Int) + (j : Int) ≤ (cap : Int) := by omega
  have hwr : IntKind.i64.wrap ((f : Int) + (j : Int)) = (f : Int) + (j : Int) := by rw [IntKind.wrap_i64]; omega
  have hp0 : (0 : Int) ≤ (f : Int) + (j : Int) := by omega
  have hb6 : f + j - f = j := by omega
  have hb5 : f + j ≤ cap := by omega
  have hne : ¬ cap = f := by omega
  have hj1 : (1 : Int) ≤ (j : Int) := by omega
  have hd1 : decide ((j : Int) < 1) = false := decide_eq_false (by omega)
  have HH := hide hh
  have HC := hide hc
  have HX := hide hx
  have H1 := hide h1
  have HLO := hide hlo
  have HM := hide hm
  clear hh hc hx h1 h hlo hm
  go_enter Try.func18, Try.ntmps18
  go_upto_region 1 with fail
  go_cut [1] from 5 to 43 (fun s wc => s = .int .i64 (j : Int) ∧ ∃ q, wc = w.drewN q)
  case first =>
    go_wp2_with (go_at_call 21; refine hL.mono ?_; rintro e w' ⟨rfl, q, rfl⟩)
    all_goals (go_meet; refine ⟨?_, q, rfl⟩; have hm := HM.out; simp only [Value.int.injEq, true_and]; split at hm <;> omega)
  case rest =>
    obtain ⟨rfl, q, rfl⟩ := hcut
    clear hL
    go_wp2_with fail
    go_cut [] from 5 to 43 (fun wc => wc.heap[k]? = some (.cells (splice cur f (List.replicate j (.string ⟨#[]⟩))).toArray 9 (0, 0)) ∧ Only (fun i => i = k) w wc)
    case first =>
      go_region_law (refine step_clear_row rfl (.tmp 25) 26 rfl 9 (.string ⟨#[]⟩) Try.underlying26 Try.zeroValue9 rfl rfl k f j (cap - f) (by simp [Act.eval, Act.put]) (by omega) cur.toArray 9 HC.out (by simp; omega) ?_; intro w2 hk2 ho2)
      all_goals (go_wp2_with fail; go_meet; exact ⟨by simpa using hk2, (Only.drewN _ w _).trans ho2⟩)
    case rest =>
      obtain ⟨hk2, ho2⟩ := hcut
      have hgc : wc.heap[g]? = w.heap[g]? := ho2.block g (lt_of_heap HH.out) hgk
      have d1 : wc.cell? ⟨g, 1, none⟩ = some (.slice (some ⟨k, 0, none⟩) (f + xs.length) cap) := (World.cell?_of_block (a := ⟨g, 1, none⟩) hgc).trans c1
      have d2 : wc.cell? ⟨g, 2, none⟩ = some (.int .i64 (f : Int)) := (World.cell?_of_block (a := ⟨g, 2, none⟩) hgc).trans c2
      have g2 : wc.frozen? ⟨g, 2, none⟩ = false := (World.frozen?_of_block (a := ⟨g, 2, none⟩) hgc).trans f2
      obtain ⟨k1, k2⟩ := HLO.out.skipped (T := 60) (E := 9) (by decide) HC.out hjl hk2 ho2
      have ecast : ((f + j : Nat) : Int) = (f : Int) + (j : Int) := by push_cast; rfl
      rw [ecast] at k1 k2
      have d1' : (wc.setCell ⟨g, 2, none⟩ (.int .i64 ((f : Int) + (j : Int)))).cell? ⟨g, 1, none⟩ = some (.slice (some ⟨k, 0, none⟩) (f + j + (xs.drop j).length) cap) := by
        have := k1.2.2.1
        rw [Joins.cell_of_block this]; rfl
      have d2' : (wc.setCell ⟨g, 2, none⟩ (.int .i64 ((f : Int) + (j : Int)))).cell? ⟨g, 2, none⟩ = some (.int .i64 ((f + j : Nat) : Int)) := by
        have := k1.2.2.1
        rw [Joins.cell_of_block this]; rfl
      have hL2 : ∀ n, Calls Try.prog 21 #[.pointer (some ⟨g, 0, none⟩)] ((wc.setCell ⟨g, 2, none⟩ (.int .i64 ((f : Int) + (j : Int)))).drewN n) fun e w' => e = .returned (.int .i64 ((xs.drop j).length : Int)) ∧ ∃ q, w' = ((wc.setCell ⟨g, 2, none⟩ (.int .i64 ((f : Int) + (j : Int)))).drewN n).drewN q :=
        fun n => len_cells_str g (f + j) (xs.drop j).length cap (some ⟨k, 0, none⟩) _ d1' d2' (by simp; omega)
      have hdl : ((xs.drop j).length : Int) = (xs.length : Int) - (j : Int) := by simp; omega
      generalize hn2 : (xs.drop j).length = n2 at hL2 hdl
      have HK1 := hide k1
      have HT := hide k2
      have HN2 := hide hn2
      clear hk2 ho2 hgc k1 k2 d1' d2' hn2 ecast
      by_cases hge : n2 ≤ f + j
      · have hmv : ∀ n, Calls Try.prog 23 #[.pointer (some ⟨g, 0, none⟩)] ((wc.setCell ⟨g, 2, none⟩ (.int .i64 ((f : Int) + (j : Int)))).drewN n) fun e w' => e = .returned (.tuple #[]) ∧ Loose 60 9 w' B g most k cap 0 (xs.drop j) ∧ Turned g (some k) (some k) ((wc.setCell ⟨g, 2, none⟩ (.int .i64 ((f : Int) + (j : Int)))).drewN n) w' :=
          fun n => moveAhead_str B g most k cap (f + j) (xs.drop j) _ HK1.out (by have := HN2.out; omega) (by omega)
        have hge' : (n2 : Int) ≤ (f : Int) + (j : Int) := by omega
        go_wp2_with fail
        go_quiet ((go_at_call 21; exact Calls.quiet_of (hL2 _)))
        clear hL2
        go_wp2_with (go_at_call 23; refine (hmv _).mono ?_; rintro e w4 ⟨rfl, hl4, ht4⟩; clear hmv)
        go_ret
        exact ⟨rfl, hl4.ring (by omega), (HT.out.trans (Turned.drewN g _ _ _)).trans ht4⟩
      · have hge' : ¬ (n2 : Int) ≤ (f : Int) + (j : Int) := by omega
        have hge2 : decide ((n2 : Int) ≤ (f : Int) + (j : Int)) = false := decide_eq_false hge'
        go_wp2_with fail
        go_quiet ((go_at_call 21; exact Calls.quiet_of (hL2 _)))
        clear hL2
        go_wp2
        go_ret
        exact ⟨rfl, (show Loose 60 9 _ B g most k cap (f + j) (xs.drop j) from HK1.out).ring (by have := HN2.out; omega), HT.out.trans (Turned.drewN g _ _ _)⟩

end Go.Proofs.Ytolidhjffminkaa
