/- Move, Span: walked. -/
import Derived.Test.YtecmiphmefbpnaaPH
namespace Go.Proofs.Ytecmiphmefbpnaa.E
open Go.Proofs.Ytecmiphmefbpnaa Go.RowKit Go.By Go.Shelf
set_option linter.unusedVariables false
set_option linter.unusedSimpArgs false

theorem mover_bad (a : Option Addr) (cap : Nat) (rs : List Rn) (w : World) (hS : CameR w.heap.size w a rs) (hl : rs.length ≤ 1000000) (hg : isG rs = false) :
    Calls Try.prog 26 #[.slice a rs.length cap] w fun e W' => e = .returned (.agg #[.slice none 0 0, .int .i64 (-1)]) ∧ Below w.heap.size w W' :=
  (mover_any a cap rs w hS hl).mono fun e W' ⟨v, he, hv, hb⟩ => by
    rcases hv with ⟨_, rfl⟩ | ⟨h, _⟩
    · exact ⟨he, hb⟩
    · rw [hg] at h; cases h
theorem mover_good (a : Option Addr) (cap : Nat) (rs : List Rn) (w : World) (hS : CameR w.heap.size w a rs) (hl : rs.length ≤ 1000000) (hg : isG rs = true) :
    Calls Try.prog 26 #[.slice a rs.length cap] w fun e W' => ∃ g, e = .returned (.agg #[.slice (some ⟨g, 0, none⟩) rs.length rs.length, .int .i64 (sI rs)]) ∧ StandsAt W'.heap.size W' g (plc rs) ∧ Below w.heap.size w W' :=
  (mover_any a cap rs w hS hl).mono fun e W' ⟨v, he, hv, hb⟩ => by
    rcases hv with ⟨h, _⟩ | ⟨_, g, rfl, hs⟩
    · rw [hg] at h; cases h
    · exact ⟨g, he, hs, hb⟩
theorem StandsAt.up {W W' : World} {g : Nat} {l : List Pl} (h : StandsAt W.heap.size W g l) (hb : Below W.heap.size W W') : StandsAt W'.heap.size W' g l := (h.below hb).mono hb.size

def moveB (rs : List Rn) (p : Int) : Bool := isG rs && decide (0 ≤ p ∧ p ≤ sI rs)
def moveN (rs : List Rn) (p : Int) (b : Bool) : Int := if moveB rs p = true then ((tMv (expand rs) p.toNat b : Nat) : Int) else 0

set_option maxRecDepth 20000 in
set_option maxHeartbeats 4000000 in
theorem move_any (a : Option Addr) (cap : Nat) (rs : List Rn) (p : Int) (b : Bool) (w : World) (hS : CameR w.heap.size w a rs) (hl : rs.length ≤ 1000000) :
    Calls Try.prog 9 #[.slice a rs.length cap, .int .i64 p, .bool b] w fun e W' => e = .returned (.tuple #[.int .i64 (moveN rs p b), .bool (moveB rs p)]) ∧ Below w.heap.size w W' := by
  by_cases hg : isG rs = true
  · have hm := mover_good a cap rs w hS hl hg
    by_cases h0 : 0 ≤ p ∧ p ≤ sI rs
    · have hB : moveB rs p = true := by rw [moveB, hg, decide_eq_true h0]; rfl
      have HN : Hid (moveN rs p b = ((tMv (expand rs) p.toNat b : Nat) : Int) ∧ moveB rs p = true) := hide ⟨by rw [moveN, if_pos hB], hB⟩
      obtain ⟨n, rfl⟩ := Int.eq_ofNat_of_zero_le h0.1
      rw [Int.toNat_natCast] at HN
      have hk := good_kinds hg
      have hn : n ≤ tIn (expand rs) := by have := (sums_tok hk).1; omega
      have HPL : Hid (∀ (W : World) (g : Nat), StandsAt W.heap.size W g (plc rs) → Calls Try.prog 27 #[.agg #[.slice (some ⟨g, 0, none⟩) rs.length rs.length, .int .i64 (sI rs)], .int .i64 (n : Int), .bool b] W fun e W' => e = .returned (.int .i64 ((tMv (expand rs) n b : Nat) : Int)) ∧ Below W.heap.size W W') := hide fun W g hs =>
        place_any (sI rs) hg hn hs
      have h1 : ¬ (n : Int) < 0 := by omega
      have h2 : ¬ sI rs < (n : Int) := by omega
      clear hS hg hk hB h0
      go_enter Try.func9, Try.ntmps9
      go_wp2_with (first
        | (go_at_call 26; refine hm.mono ?_; rintro e W1 ⟨g, rfl, hs, hb⟩; have HS1 := hide (hs.up ((Below.refl _ W1).alloc (Nat.le_refl _) (.cells #[.slice (some ⟨g, 0, none⟩) rs.length rs.length, .int .i64 (sI rs)] 55))); have HB1 := hide (hb.alloc hb.size (.cells #[.slice (some ⟨g, 0, none⟩) rs.length rs.length, .int .i64 (sI rs)] 55)); clear hs hb hm)
        | (go_at_call 27; refine (HPL.out _ _ HS1.out).mono ?_; rintro e W2 ⟨rfl, hb⟩; have HB2 := hide (HB1.out.trans (hb.mono HB1.out.size)); clear hb))
      go_ret2
      exact ⟨by rw [HN.out.1, HN.out.2]; rfl, HB2.out⟩
    · have hB : moveB rs p = false := by rw [moveB, hg, decide_eq_false h0]; rfl
      have HN : Hid (moveN rs p b = 0 ∧ moveB rs p = false) := hide ⟨by rw [moveN, if_neg (by rw [hB]; simp)], hB⟩
      clear hS hg hB
      go_enter Try.func9, Try.ntmps9
      by_cases h1 : p < 0
      · go_wp2_with (go_at_call 26; refine hm.mono ?_; rintro e W1 ⟨g, rfl, hs, hb⟩; have HB1 := hide (hb.alloc hb.size (.cells #[.slice (some ⟨g, 0, none⟩) rs.length rs.length, .int .i64 (sI rs)] 55)); clear hs hb)
        go_ret2
        exact ⟨by rw [HN.out.1, HN.out.2]; rfl, HB1.out⟩
      · have h2 : sI rs < p := by omega
        go_wp2_with (go_at_call 26; refine hm.mono ?_; rintro e W1 ⟨g, rfl, hs, hb⟩; have HB1 := hide (hb.alloc hb.size (.cells #[.slice (some ⟨g, 0, none⟩) rs.length rs.length, .int .i64 (sI rs)] 55)); clear hs hb)
        go_ret2
        exact ⟨by rw [HN.out.1, HN.out.2]; rfl, HB1.out⟩
  · have hg' : isG rs = false := by simpa using hg
    have hm := mover_bad a cap rs w hS hl hg'
    have hB : moveB rs p = false := by rw [moveB, hg']; rfl
    have HN : Hid (moveN rs p b = 0 ∧ moveB rs p = false) := hide ⟨by rw [moveN, if_neg (by rw [hB]; simp)], hB⟩
    clear hS hg hg' hB
    go_enter Try.func9, Try.ntmps9
    by_cases h1 : p < 0
    · go_wp2_with (go_at_call 26; refine hm.mono ?_; rintro e W1 ⟨rfl, hb⟩; have HB1 := hide (hb.alloc hb.size (.cells #[.slice none 0 0, .int .i64 (-1)] 55)); clear hb)
      go_ret2
      exact ⟨by rw [HN.out.1, HN.out.2]; rfl, HB1.out⟩
    · have h2 : -1 < p := by omega
      go_wp2_with (go_at_call 26; refine hm.mono ?_; rintro e W1 ⟨rfl, hb⟩; have HB1 := hide (hb.alloc hb.size (.cells #[.slice none 0 0, .int .i64 (-1)] 55)); clear hb)
      go_ret2
      exact ⟨by rw [HN.out.1, HN.out.2]; rfl, HB1.out⟩

theorem lspan_any (f t : Int) (w : World) : Calls Try.prog 25 #[.int .i64 f, .int .i64 t] w fun e W' => e = .returned (.agg #[.int .i64 f, .int .i64 t]) ∧ Below w.heap.size w W' := by
  go_enter Try.func25, Try.ntmps25
  go_wp2
  exact bodyPost_ret (results_cell_row rfl _ _ w.heap.size 24 _ (0, 0) _ rfl (World.alloc_heap_new w _) Try.underlying24 rfl (by kernel_rfl)) rfl ⟨rfl, (Below.refl _ w).alloc (Nat.le_refl _) _⟩

def spanB (rs : List Rn) (f t : Int) : Bool := isG rs && decide (0 ≤ f ∧ f ≤ t ∧ t ≤ sI rs)
def spanP (rs : List Rn) (f t : Int) : Int × Int := if spanB rs f t = true then spV rs f.toNat t.toNat else (0, 0)
def spanV (rs : List Rn) (f t : Int) : Value := .tuple #[.agg #[.int .i64 (spanP rs f t).1, .int .i64 (spanP rs f t).2], .bool (spanB rs f t)]

/-- What the mover's span tells. -/
theorem mspan_good {w : World} {g : Nat} {rs : List Rn} {f t : Int} (hg : isG rs = true) (hS : StandsAt w.heap.size w g (plc rs)) :
    Calls Try.prog 28 #[.agg #[.slice (some ⟨g, 0, none⟩) rs.length rs.length, .int .i64 (sI rs)], .agg #[.int .i64 f, .int .i64 t]] w fun e W' => e = .returned (spanV rs f t) ∧ Below w.heap.size w W' := by
  by_cases h0 : 0 ≤ f ∧ f ≤ t ∧ t ≤ sI rs
  · have hB : spanB rs f t = true := by rw [spanB, hg, decide_eq_true h0]; rfl
    have hV : spanV rs f t = .tuple #[.agg #[.int .i64 (spV rs f.toNat t.toNat).1, .int .i64 (spV rs f.toNat t.toNat).2], .bool true] := by rw [spanV, spanP, if_pos hB, hB]
    rw [hV]
    obtain ⟨fn, rfl⟩ := Int.eq_ofNat_of_zero_le h0.1
    obtain ⟨tn, rfl⟩ := Int.eq_ofNat_of_zero_le (Int.le_trans h0.1 h0.2.1)
    have hk := (sums_tok (good_kinds hg)).1
    exact span_ok hg (by have := h0.2.1; omega) (by have := h0.2.2; omega) hS
  · have hB : spanB rs f t = false := by rw [spanB, hg, decide_eq_false h0]; rfl
    have hV : spanV rs f t = .tuple #[.agg #[.int .i64 0, .int .i64 0], .bool false] := by rw [spanV, spanP, if_neg (by rw [hB]; simp), hB]
    rw [hV]
    exact span_no h0
theorem mspan_bad {w : World} {rs : List Rn} {f t : Int} (hg : isG rs = false) :
    Calls Try.prog 28 #[.agg #[.slice none 0 0, .int .i64 (-1)], .agg #[.int .i64 f, .int .i64 t]] w fun e W' => e = .returned (spanV rs f t) ∧ Below w.heap.size w W' := by
  have hB : spanB rs f t = false := by rw [spanB, hg]; rfl
  have hV : spanV rs f t = .tuple #[.agg #[.int .i64 0, .int .i64 0], .bool false] := by rw [spanV, spanP, if_neg (by rw [hB]; simp), hB]
  rw [hV]
  exact span_no (by omega)
/-- A mover of it, and what its span tells: as one. -/
theorem mover_span (a : Option Addr) (cap : Nat) (rs : List Rn) (w : World) (hS : CameR w.heap.size w a rs) (hl : rs.length ≤ 1000000) :
    Calls Try.prog 26 #[.slice a rs.length cap] w fun e W' => ∃ va vn vc vi, e = .returned (.agg #[.slice va vn vc, .int .i64 vi]) ∧ Below w.heap.size w W' ∧
      Hid (∀ (Y : World) (f t : Int), Below W'.heap.size W' Y → Calls Try.prog 28 #[.agg #[.slice va vn vc, .int .i64 vi], .agg #[.int .i64 f, .int .i64 t]] Y fun e Y' => e = .returned (spanV rs f t) ∧ Below Y.heap.size Y Y') := by
  by_cases hg : isG rs = true
  · exact (mover_good a cap rs w hS hl hg).mono fun e W' ⟨g, he, hs, hb⟩ => ⟨_, _, _, _, he, hb, hide fun Y f t hy => mspan_good hg (hs.up hy)⟩
  · have hg' : isG rs = false := by simpa using hg
    exact (mover_bad a cap rs w hS hl hg').mono fun e W' ⟨he, hb⟩ => ⟨_, _, _, _, he, hb, hide fun Y f t hy => mspan_bad hg'⟩

set_option maxRecDepth 20000 in
set_option maxHeartbeats 4000000 in
theorem span_any (a : Option Addr) (cap : Nat) (rs : List Rn) (f t : Int) (w : World) (hS : CameR w.heap.size w a rs) (hl : rs.length ≤ 1000000) :
    Calls Try.prog 11 #[.slice a rs.length cap, .agg #[.int .i64 f, .int .i64 t]] w fun e W' => e = .returned (spanV rs f t) ∧ Below w.heap.size w W' := by
  obtain ⟨X, hX⟩ : ∃ X, X = (w.alloc (.cells #[.int .i64 f, .int .i64 t] 24)).alloc (.cells #[.int .i64 0, .int .i64 0] 24) := ⟨_, rfl⟩
  have h0 : X.heap[w.heap.size]? = some (.cells #[.int .i64 f, .int .i64 t] 24 (0, 0)) := by rw [hX]; exact (Below.heap_alloc _ _ _ (by simp)).trans (World.alloc_heap_new w _)
  have h1 : X.heap[w.heap.size + 1]? = some (.cells #[.int .i64 0, .int .i64 0] 24 (0, 0)) := by
    have := World.alloc_heap_new (w.alloc (.cells #[.int .i64 f, .int .i64 t] 24)) (.cells #[.int .i64 0, .int .i64 0] 24)
    rw [World.size_alloc] at this; rw [hX]; exact this
  have hB : Below w.heap.size w X := by rw [hX]; exact ((Below.refl _ w).alloc (Nat.le_refl _) _).alloc (by simp) _
  have hm := mover_span a cap rs X.drew (came_up (W := w) hS (below_drw hB)) hl
  have HF : Hid (∀ W, Below X.heap.size X.drew W → Below w.heap.size w W ∧ W.heap[w.heap.size]? = some (.cells #[.int .i64 f, .int .i64 t] 24 (0, 0)) ∧ W.heap[w.heap.size + 1]? = some (.cells #[.int .i64 0, .int .i64 0] 24 (0, 0))) := hide fun W hb =>
    ⟨(below_drw hB).trans (hb.mono hB.size), (hb.block _ (lt_of_heap h0)).trans h0, (hb.block _ (lt_of_heap h1)).trans h1⟩
  have c0 : X.drew.cell? ⟨w.heap.size, 0, none⟩ = some (.int .i64 f) := by show X.cell? _ = _; rw [Joins.cell_of_block h0]; rfl
  have c1 : X.drew.cell? ⟨w.heap.size, 1, none⟩ = some (.int .i64 t) := by show X.cell? _ = _; rw [Joins.cell_of_block h0]; rfl
  obtain ⟨r1, hr1⟩ : ∃ r1, r1 = (spanP rs f t).1 := ⟨_, rfl⟩
  obtain ⟨r2, hr2⟩ : ∃ r2, r2 = (spanP rs f t).2 := ⟨_, rfl⟩
  obtain ⟨ok, hok⟩ : ∃ ok, ok = spanB rs f t := ⟨_, rfl⟩
  have hV : spanV rs f t = .tuple #[.agg #[.int .i64 r1, .int .i64 r2], .bool ok] := by rw [hr1, hr2, hok]; rfl
  have HV := hide hV
  rw [hV]
  clear h0 h1 hB hS hV hr1 hr2 hok
  subst hX
  go_enter Try.func11, Try.ntmps11
  go_wp2_with fail
  go_region_with (first
    | (go_at_call 26; (with_reducible refine hm.mono ?_); rintro e W1 ⟨va, vn, vc, vi, rfl, hb, HSP⟩; have hf := HF.out W1 hb; have d0 : W1.cell? ⟨w.heap.size, 0, none⟩ = some (.int .i64 f) := (by rw [Joins.cell_of_block hf.2.1]; rfl); have d1 : W1.cell? ⟨w.heap.size, 1, none⟩ = some (.int .i64 t) := (by rw [Joins.cell_of_block hf.2.1]; rfl); have HB1 := hide hb; clear hf hb)
    | (go_at_call 28; (with_reducible refine (HSP.out _ f t (Below.refl _ _)).mono ?_); rintro e W2 ⟨he, hb⟩; rw [HV.out] at he; subst he; have hf := HF.out W2 (HB1.out.trans (hb.mono HB1.out.size)); have e0 : W2.cell? ⟨w.heap.size + 1, 0, none⟩ = some (.int .i64 0) := (by rw [Joins.cell_of_block hf.2.2]; rfl); have e1 : W2.cell? ⟨w.heap.size + 1, 1, none⟩ = some (.int .i64 0) := (by rw [Joins.cell_of_block hf.2.2]; rfl); have g0 := unfroz (i := 0) hf.2.2; have g1 := unfroz (i := 1) hf.2.2; have HR := hide hf; clear hf hb))
  all_goals go_wp2
  all_goals
    have a0 := heap_setCell (i := 0) HR.out.2.2 (.int .i64 r1)
    have a1 := heap_setCell (i := 1) a0 (.int .i64 r2)
    refine bodyPost_ret (results_ct (P := Try.prog) (p := 4) (u := 5) (ty := 24) rfl _ _ (w.heap.size + 1) 24 #[.int .i64 r1, .int .i64 r2] (0, 0) _ (by rfl) (by simpa using a1) Try.underlying24 rfl (by kernel_rfl)) (by rfl) ⟨by rfl, ?_⟩
    exact (HR.out.1.setCell (p := ⟨w.heap.size + 1, 0, none⟩) (by show w.heap.size ≤ w.heap.size + 1; omega) _).setCell (p := ⟨w.heap.size + 1, 1, none⟩) (by show w.heap.size ≤ w.heap.size + 1; omega) _

end Go.Proofs.Ytecmiphmefbpnaa.E
