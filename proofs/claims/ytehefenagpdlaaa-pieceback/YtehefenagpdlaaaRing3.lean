/- The ring: a full one; what is set; what is skipped. -/
import Derived.Test.YtehefenagpdlaaaRing2
import Derived.Deep.CutRange
namespace Go.Proofs.Ytehefenagpdlaaa
open Go.RowKit Go.By
set_option linter.unusedVariables false

set_option maxRecDepth 20000 in
set_option maxHeartbeats 2000000 in
theorem push_full_int (B g most : Nat) (r : Option Nat) (xs : List Value) (x : Int) (w : World) (h : RingIs 54 3 w B g most r xs) (hl : xs.length = most) :
    Calls Try.prog 12 #[.pointer (some ⟨g, 0, none⟩), .int .i64 x] w fun e w' => e = .returned (.int .i64 31) ∧ ∃ q, w' = w.drewN q := by
  have hm := most_int B g most r xs w h
  have hL : ∀ n, Calls Try.prog 20 #[.pointer (some ⟨g, 0, none⟩)] (w.drewN n) fun e w' => e = .returned (.int .i64 (xs.length : Int)) ∧ ∃ q, w' = (w.drewN n).drewN q := fun n => len_int B g most r xs (w.drewN n) h
  obtain ⟨a, f, cap, c0, c1, c2, hf, hm1, h1, h2, hc, hc2, hn, hs⟩ := h.cells
  have hmne : ¬ (most : Int) = 0 := by omega
  have hd1 : decide ((most : Int) = 0) = false := decide_eq_false hmne
  rw [hl] at hL
  clear hn hs
  go_enter Try.func12, Try.ntmps12
  go_wp2_with (go_at_call 11; refine hm.mono ?_; rintro e w' ⟨rfl, hw'⟩; subst hw')
  go_quiet ((go_at_call 20; exact Calls.quiet_of (hL _)))
  go_wp2
  go_ret
  exact ⟨rfl, _, rfl⟩

set_option maxRecDepth 20000 in
set_option maxHeartbeats 2000000 in
theorem set_out_int (B g most : Nat) (r : Option Nat) (xs : List Value) (i x : Int) (w : World) (h : RingIs 54 3 w B g most r xs) (hi : ¬ (0 ≤ i ∧ i < xs.length)) :
    Calls Try.prog 16 #[.pointer (some ⟨g, 0, none⟩), .int .i64 i, .int .i64 x] w fun e w' => e = .returned (.int .i64 30) ∧ ∃ q, w' = w.drewN q := by
  have hm := most_int B g most r xs w h
  have hL := len_int B g most r xs w h
  obtain ⟨a, f, cap, c0, c1, c2, hf, hm1, h1, h2, hc, hc2, hn, hs⟩ := h.cells
  have hmne : ¬ (most : Int) = 0 := by omega
  have hd1 : decide ((most : Int) = 0) = false := decide_eq_false hmne
  clear hn hs
  by_cases h0 : i < 0
  · go_enter Try.func16, Try.ntmps16
    go_wp2_with (go_at_call 11; refine hm.mono ?_; rintro e w' ⟨rfl, hw'⟩; subst hw')
    go_ret
    exact ⟨rfl, 0, rfl⟩
  · have h0' : 0 ≤ i := by omega
    have h1 : (xs.length : Int) ≤ i := by omega
    go_enter Try.func16, Try.ntmps16
    go_wp2_with (first | (go_at_call 11; refine hm.mono ?_; rintro e w' ⟨rfl, hw'⟩; subst hw') | (go_at_call 20; refine hL.mono ?_; rintro e w' ⟨rfl, q, rfl⟩))
    go_ret
    exact ⟨rfl, _, rfl⟩

theorem ownsRow_set {w : World} {B : Nat} {E : TypeId} {k n cap i : Nat} {l : List Value} (h : w.ownsRow B E 1 (.slice (some ⟨k, 0, none⟩) n cap) n l) (x : Value) (hi : i < n) :
    (w.setCell ⟨k, i, none⟩ x).ownsRow B E 1 (.slice (some ⟨k, 0, none⟩) n cap) n (l.set i x) := by
  refine ⟨by simpa using h.1, ?_⟩
  rcases h.2 with ⟨h0, _⟩ | ⟨g, c, cur, hv, hb, hh, hn, hm, hs, ht⟩
  · cases h0
  · cases hv
    refine .inr ⟨k, cap, _, rfl, hb, heap_setCell hh x, hn, hm, by simpa using hs, ?_⟩
    rw [← ht]
    simp [List.take_set]

theorem RingIs.setted {T E : TypeId} (hTE : T ≠ E) {w : World} {B g most f cap k i : Nat} {junk xs : List Value} {x : Value} (hB : B ≤ g)
    (hg : w.heap[g]? = some (.cells #[.int .i64 (most : Int), .slice (some ⟨k, 0, none⟩) (f + xs.length) cap, .int .i64 (f : Int)] T (0, 0))) (hr : w.ownsRow B E 1 (.slice (some ⟨k, 0, none⟩) (f + xs.length) cap) (f + xs.length) (junk ++ xs)) (hj : junk.length = f) (hf : f ≤ xs.length)
    (h1 : ∀ u ∈ xs, u.oneCell' = true) (hx : x.oneCell' = true) (hm : 1 ≤ most) (hm2 : most ≤ 65536) (hl : xs.length ≤ most) (hi : i < xs.length) :
    RingIs T E (w.setCell ⟨k, f + i, none⟩ x) B g most (some k) (xs.set i x) ∧ Turned g (some k) (some k) w (w.setCell ⟨k, f + i, none⟩ x) := by
  have hne : g ≠ k := fun e => ownBlock_ne hr hg hTE (by rw [e]; rfl)
  have hs := ownsRow_set hr x (i := f + i) (by omega)
  refine ⟨⟨hB, .slice (some ⟨k, 0, none⟩) (f + xs.length) cap, f, junk, ?_, ?_, hj, by simpa using hf, rfl, ?_, hm, hm2, by simpa using hl⟩, Only.setCell _ _ _ (.inr rfl), .inl rfl⟩
  · rw [heap_setCell_ne _ hne, hg]; try simp
  · have e : junk ++ xs.set i x = (junk ++ xs).set (f + i) x := by rw [List.set_append_right _ _ (by omega)]; simp [hj]
    rw [e]; simpa using hs
  · intro u hu
    rcases List.mem_or_eq_of_mem_set hu with hu | rfl
    · exact h1 u hu
    · exact hx

set_option maxRecDepth 20000 in
set_option maxHeartbeats 2000000 in
theorem set_ok_int (B g most : Nat) (r : Option Nat) (xs : List Value) (i : Nat) (x : Int) (w : World) (h : RingIs 54 3 w B g most r xs) (hi : i < xs.length) :
    Calls Try.prog 16 #[.pointer (some ⟨g, 0, none⟩), .int .i64 (i : Int), .int .i64 x] w fun e w' => e = .returned (.int .i64 0) ∧ RingIs 54 3 w' B g most r (xs.set i (.int .i64 x)) ∧ Turned g r r w w' := by
  have hm := most_int B g most r xs w h
  have hL := len_int B g most r xs w h
  obtain ⟨hBg, v, f, junk, hg, hr, hj, hf, hv, h1', hmm, hmm2, hlm⟩ := h
  obtain ⟨k, cap, cur, rfl, hb, hh, hn, hcm, hs, ht⟩ : ∃ k cap cur, v = .slice (some ⟨k, 0, none⟩) (f + xs.length) cap ∧ B ≤ k ∧ w.heap[k]? = some (.cells cur 3 (0, 0)) ∧ f + xs.length ≤ cap ∧ cap ≤ maxLen ∧ cur.size = cap * 1 ∧ cur.toList.take ((f + xs.length) * 1) = junk ++ xs := by
    rcases hr.2 with ⟨_, h0⟩ | h
    · omega
    · exact h
  have c0 : w.cell? ⟨g, 0, none⟩ = some (.int .i64 (most : Int)) := by rw [Joins.cell_of_block hg]; rfl
  have c1 : w.cell? ⟨g, 1, none⟩ = some (.slice (some ⟨k, 0, none⟩) (f + xs.length) cap) := by rw [Joins.cell_of_block hg]; rfl
  have c2 : w.cell? ⟨g, 2, none⟩ = some (.int .i64 (f : Int)) := by rw [Joins.cell_of_block hg]; rfl
  have ck : ∃ y, w.cell? ⟨k, f + i, none⟩ = some y := ⟨cur[f + i]'(by omega), by rw [Joins.cell_of_block hh]; simp⟩
  obtain ⟨y, ck⟩ := ck
  have fk : w.frozen? ⟨k, f + i, none⟩ = false := by simp [World.frozen?, hh]
  have hmne : ¬ (most : Int) = 0 := by omega
  have hd1 : decide ((most : Int) = 0) = false := decide_eq_false hmne
  have hi' : (i : Int) < (xs.length : Int) := by omega
  have hb1 : (f : Int) + (i : Int) < ((f + xs.length : Nat) : Int) := by push_cast; omega
  have hb2 : ((f : Int) + (i : Int)).toNat = f + i := by omega
  have HR := hide hr
  have HG := hide hg
  have HV := hide hv
  have H1 := hide h1'
  have HT := hide ht
  have HH := hide hh
  clear hr hg hv h1' ht hh
  go_enter Try.func16, Try.ntmps16
  go_wp2_with (first | (go_at_call 11; refine hm.mono ?_; rintro e w' ⟨rfl, hw'⟩; subst hw') | (go_at_call 20; refine hL.mono ?_; rintro e w' ⟨rfl, q, rfl⟩))
  go_region
  go_wp2
  go_ret
  obtain ⟨k1, k2⟩ := RingIs.setted (T := 54) (E := 3) (w := w'.drewN (q + 1)) (by decide) hBg HG.out HR.out hj hf H1.out (x := .int .i64 x) rfl hmm hmm2 hlm hi
  have hv : some k = r := HV.out
  subst hv
  exact ⟨rfl, k1, (Turned.drewN g (some k) w' (q + 1)).trans k2⟩

/-- The ring while its first place is moved on: where that is, is not bounded by how many there are. -/
def Loose (T E : TypeId) (w : World) (B g most k cap f : Nat) (xs : List Value) : Prop :=
  B ≤ g ∧ B ≤ k ∧ w.heap[g]? = some (.cells #[.int .i64 (most : Int), .slice (some ⟨k, 0, none⟩) (f + xs.length) cap, .int .i64 (f : Int)] T (0, 0)) ∧
  ∃ cur : List Value, w.heap[k]? = some (.cells cur.toArray E (0, 0)) ∧ cur.length = cap ∧ f + xs.length ≤ cap ∧ cap ≤ maxLen ∧ (cur.take (f + xs.length)).drop f = xs ∧ (∀ u ∈ xs, u.oneCell' = true) ∧
    1 ≤ most ∧ most ≤ 65536 ∧ f + xs.length ≤ 131072 ∧ xs.length ≤ most

theorem Loose.ring {T E : TypeId} {w : World} {B g most k cap f : Nat} {xs : List Value} (h : Loose T E w B g most k cap f xs) (hf : f ≤ xs.length) : RingIs T E w B g most (some k) xs := by
  obtain ⟨hg, hk, hh, cur, hc, hl, hfit, hm, hx, h1, h2, h3, h4, h5⟩ := h
  refine ⟨hg, _, f, cur.take f, hh, ⟨by simp; omega, .inr ⟨k, cap, _, rfl, hk, hc, hfit, hm, by simpa using hl, ?_⟩⟩, by simp; omega, hf, rfl, h1, h2, h3, h5⟩
  conv => rhs; rhs; rw [← hx]
  simp only [Nat.mul_one]
  rw [show cur.take f = (cur.take (f + xs.length)).take f by rw [List.take_take]; congr 1; omega, List.take_append_drop]

theorem RingIs.loose {T E : TypeId} {w : World} {B g most : Nat} {r : Option Nat} {xs : List Value} (h : RingIs T E w B g most r xs) (hx : xs ≠ []) : ∃ k cap f, r = some k ∧ f ≤ xs.length ∧ Loose T E w B g most k cap f xs := by
  obtain ⟨hB, v, f, junk, hg, hr, hj, hf, hv, h1, h2, h3, h4⟩ := h
  rcases hr.2 with ⟨_, h0⟩ | ⟨k, cap, cur, rfl, hb, hh, hn, hm, hs, ht⟩
  · exact absurd (List.length_eq_zero_iff.1 (by omega)) hx
  · refine ⟨k, cap, f, hv.symm, hf, hB, hb, hg, cur.toList, by simpa using hh, by simpa using hs, hn, hm, ?_, h1, h2, h3, by omega, h4⟩
    rw [Nat.mul_one] at ht
    rw [ht, ← hj, List.drop_left]

set_option maxRecDepth 20000 in
set_option maxHeartbeats 2000000 in
theorem moveAhead_int (B g most k cap f : Nat) (xs : List Value) (w : World) (h : Loose 54 3 w B g most k cap f xs) (hf : xs.length ≤ f) (hf1 : 0 < f) :
    Calls Try.prog 38 #[.pointer (some ⟨g, 0, none⟩)] w fun e w' => e = .returned (.tuple #[]) ∧ Loose 54 3 w' B g most k cap 0 xs ∧ Turned g (some k) (some k) w w' := by
  obtain ⟨hg, hk, hh, cur, hc, hl, hfit, hm, hx, h1, h2', h3', h4, h5⟩ := h
  have hgk : g ≠ k := fun e => by rw [e, hc] at hh; cases hh
  have c1 : w.cell? ⟨g, 1, none⟩ = some (.slice (some ⟨k, 0, none⟩) (f + xs.length) cap) := by rw [Joins.cell_of_block hh]; rfl
  have c2 : w.cell? ⟨g, 2, none⟩ = some (.int .i64 (f : Int)) := by rw [Joins.cell_of_block hh]; rfl
  have f1 : w.frozen? ⟨g, 1, none⟩ = false := by simp [World.frozen?, hh]
  have f2 : w.frozen? ⟨g, 2, none⟩ = false := by simp [World.frozen?, hh]
  have hcell : ∀ j, j < xs.length → w.cell? ⟨k, f + j, none⟩ = xs[j]? := fun j hj => by
    rw [Joins.cell_of_block hc]
    conv => rhs; rw [← hx, List.getElem?_drop, List.getElem?_take_of_lt (by omega)]
    simp
  have hcp : f ≤ cap := by omega
  have hcp2 : (f : Int) ≤ (f : Int) + (xs.length : Int) := by omega
  have hcp3 : xs.length ≤ cap := by omega
  obtain ⟨A, hA, hsrc⟩ : ∃ A : Addr, (if cap = f then some (⟨k, 0, none⟩ : Addr) else some ⟨k, f, none⟩) = some A ∧ Hid (∀ j v, xs[j]? = some v → w.cell? (A.add j) = some v) := by
    by_cases h : cap = f
    · refine ⟨⟨k, 0, none⟩, by simp [h], fun t u hu => ?_⟩
      have h0 : xs.length = 0 := by omega
      rw [List.length_eq_zero_iff.1 h0] at hu
      simp at hu
    · refine ⟨⟨k, f, none⟩, by simp [h], fun t u hu => ?_⟩
      rw [Addr.add_lit, hcell t (List.getElem?_eq_some_iff.1 hu).1, hu]
  have HH := hide hh
  have HC := hide hc
  have HX := hide hx
  have H1 := hide h1
  clear hh hc hx h1 hcell
  go_enter Try.func38, Try.ntmps38
  go_wp2_with fail
  go_cut [2] from 3 to 34 (fun s wc => s = .int .i64 (xs.length : Int) ∧ wc.heap[k]? = some (.cells (splice cur 0 xs).toArray 3 (0, 0)) ∧ Only (fun j => j = k) w wc)
  case first =>
    go_region_law (refine step_copy_row rfl (.tmp 6) (.tmp 15) 27 27 rfl 3 Try.underlying27 (by kernel_rfl) (some ⟨k, 0, none⟩) (some A) (f + xs.length) cap xs.length (cap - f) (by simp [Act.eval, Act.put]) (by simp [Act.eval, Act.put]) k 0 cur 3 HC.out xs (by simp) (fun _ => ⟨rfl, A, rfl, hsrc.out⟩) (by simp; omega) H1.out ?_; intro w2 hk2 ho2)
    all_goals (go_wp2_with fail; go_meet; exact ⟨rfl, hk2, (Only.drewN _ w 1).trans ho2⟩)
  case rest =>
    obtain ⟨rfl, hk2, ho2⟩ := hcut
    have hgc : wc.heap[g]? = w.heap[g]? := ho2.block g (lt_of_heap HH.out) hgk
    have d1 : wc.cell? ⟨g, 1, none⟩ = some (.slice (some ⟨k, 0, none⟩) (f + xs.length) cap) := (World.cell?_of_block (a := ⟨g, 1, none⟩) hgc).trans c1
    have hne : ¬ cap = xs.length := by omega
    have HK2 := hide hk2
    have HO2 := hide ho2
    have HGC := hide hgc
    clear hk2 ho2 hgc
    obtain ⟨w3, hclr, hk3, ho3⟩ := clear_row (P := Try.prog) wc 27 3 (.int .i64 0) Try.underlying27 Try.zeroValue3 rfl rfl k xs.length f (cap - xs.length) hf1 _ 3 HK2.out (by rw [List.size_toArray, length_splice cur 0 xs (by omega)]; omega)
    have hg3 : w3.heap[g]? = wc.heap[g]? := ho3.block g (by have := HH.out; rw [← HGC.out] at this; exact lt_of_heap this) hgk
    have e1 : w3.cell? ⟨g, 1, none⟩ = some (.slice (some ⟨k, 0, none⟩) (f + xs.length) cap) := (World.cell?_of_block (a := ⟨g, 1, none⟩) hg3).trans d1
    have fe1 : w3.frozen? ⟨g, 1, none⟩ = false := (World.frozen?_of_block (a := ⟨g, 1, none⟩) (hg3.trans HGC.out)).trans f1
    have e2 : w3.cell? ⟨g, 2, none⟩ = some (.int .i64 (f : Int)) := (World.cell?_of_block (a := ⟨g, 2, none⟩) (hg3.trans HGC.out)).trans c2
    have fe2 : w3.frozen? ⟨g, 2, none⟩ = false := (World.frozen?_of_block (a := ⟨g, 2, none⟩) (hg3.trans HGC.out)).trans f2
    have HK3 := hide hk3
    have HO3 := hide ho3
    have HG3 := hide hg3
    clear hk3 ho3 hg3
    go_wp2
    go_end0
    refine ⟨rfl, ?_, ?_⟩
    · have hg3 := (HG3.out.trans HGC.out).trans HH.out
      have h3 := heap_setCell (i := 2) (heap_setCell (i := 1) hg3 (.slice (some ⟨k, 0, none⟩) xs.length cap)) (.int .i64 0)
      refine ⟨hg, hk, by simpa using h3, splice (splice cur 0 xs) xs.length (List.replicate f (.int .i64 0)), ?_, ?_, by omega, hm, ?_, H1.out, h2', h3', by omega, h5⟩
      · rw [heap_setCell_ne _ (Ne.symm hgk), heap_setCell_ne _ (Ne.symm hgk)]; simpa using HK3.out
      · have e0 := length_splice cur 0 xs (by omega)
        rw [length_splice _ _ _ (by rw [e0]; simp; omega), e0, hl]
      · have e0 := length_splice cur 0 xs (by omega)
        rw [List.drop_zero, Nat.zero_add, splice_take _ _ _ (by rw [e0]; simp; omega)]
        simp [splice]
    · refine ⟨?_, .inl rfl⟩
      have o2 : Only (fun j => j = g ∨ some j = some k) w w3 := (HO2.out.trans HO3.out).mono fun i _ hi => .inr (by rw [hi])
      exact (o2.trans (Only.setCell _ _ _ (.inl rfl))).trans (Only.setCell _ _ _ (.inl rfl))

/-- Behind a clearing of the first j elements, and the store of the new first place. -/
theorem Loose.skipped {T E : TypeId} (hTE : T ≠ E) {w w1 : World} {B g most k cap f j : Nat} {xs : List Value} {z : Value} {cur : List Value} (h : Loose T E w B g most k cap f xs) (hc : w.heap[k]? = some (.cells cur.toArray E (0, 0)))
    (hj : j ≤ xs.length) (h1 : w1.heap[k]? = some (.cells (splice cur f (List.replicate j z)).toArray E (0, 0))) (ho : Only (fun i => i = k) w w1) :
    Loose T E (w1.setCell ⟨g, 2, none⟩ (.int .i64 ((f + j : Nat) : Int))) B g most k cap (f + j) (xs.drop j) ∧ Turned g (some k) (some k) w (w1.setCell ⟨g, 2, none⟩ (.int .i64 ((f + j : Nat) : Int))) := by
  obtain ⟨hg, hk, hh, cur', hc', hl, hfit, hm, hx, h1', h2, h3, h4, h5⟩ := h
  obtain rfl : cur' = cur := by rw [hc] at hc'; cases hc'; rfl
  have hgk : g ≠ k := fun e => by rw [e, hc] at hh; cases hh; exact hTE rfl
  have hg1 : w1.heap[g]? = some (.cells #[.int .i64 (most : Int), .slice (some ⟨k, 0, none⟩) (f + xs.length) cap, .int .i64 (f : Int)] T (0, 0)) := (ho.block g (lt_of_heap hh) hgk).trans hh
  have hlen : f + j + (xs.drop j).length = f + xs.length := by simp; omega
  have hfit2 : f + (List.replicate j z).length ≤ cur'.length := by simp; omega
  refine ⟨⟨hg, hk, ?_, splice cur' f (List.replicate j z), ?_, ?_, by omega, hm, ?_, fun u hu => h1' u (List.mem_of_mem_drop hu), h2, h3, by omega, by simp; omega⟩, ?_, .inl rfl⟩
  · rw [hlen]; simpa using heap_setCell (i := 2) hg1 (.int .i64 ((f + j : Nat) : Int))
  · rw [heap_setCell_ne _ (Ne.symm hgk)]; exact h1
  · rw [length_splice _ _ _ hfit2, hl]
  · rw [hlen]
    have e := splice_drop cur' f (List.replicate j z) hfit2
    rw [List.length_replicate] at e
    rw [List.drop_take, e]
    conv => rhs; rw [← hx]
    rw [List.drop_take, List.drop_take, List.drop_drop]
    congr 1
    omega
  · exact (ho.mono fun i _ hi => .inr (by rw [hi])).trans (Only.setCell _ _ _ (.inl rfl))

set_option maxRecDepth 20000 in
set_option maxHeartbeats 2000000 in
theorem skip_none_int (B g most : Nat) (r : Option Nat) (xs : List Value) (m : Int) (w : World) (h : RingIs 54 3 w B g most r xs) (hm : m < 1 ∨ xs = []) :
    Calls Try.prog 18 #[.pointer (some ⟨g, 0, none⟩), .int .i64 m] w fun e w' => e = .returned (.int .i64 0) ∧ ∃ q, w' = w.drewN q := by
  have hL := len_int B g most r xs w h
  have hmin : m < 1 ∨ (xs.length : Int) < 1 := by
    rcases hm with hm | rfl
    · exact .inl hm
    · exact .inr (by simp)
  have HM := hide hmin
  clear hm hmin
  go_enter Try.func18, Try.ntmps18
  go_wp2_with (go_at_call 20; refine hL.mono ?_; rintro e w' ⟨rfl, q, rfl⟩)
  all_goals (first
    | (go_ret; exact ⟨rfl, _, rfl⟩)
    | (have := HM.out; exfalso; omega))

end Go.Proofs.Ytehefenagpdlaaa
