/- A place, a span: walked. -/
import Derived.Test.YtecmiphmefbpnaaPG
import Derived.Test.YtecmiphmefbpnaaX6
namespace Go.By
open Go.RowKit
theorem any_next {P : Program} {ops : Array Oper} {Q : Exit → Act → World → Prop} {md : Region.Mode} {i : Nat} {o : Oper} {m : Nat} {listed : Array Bool} {a : Act} {w : World} (hr : Region.ready md ops listed = [i]) (ho : ops[i]? = some o)
    (hw : Region.wanted o (yielded ops a.tmps) = true)
    (h : Oper.wp P o a w (wpAny P md ops Q m (listed.setIfInBounds i true)) Q) : wpAny P md ops Q (m + 1) listed a w := by
  refine ⟨fun e => (by rw [hr] at e; cases e), ?_⟩
  rw [hr]
  intro j hj
  obtain rfl : j = i := by simpa using hj
  unfold wpOp
  rw [ho]
  dsimp only
  rw [if_pos hw]
  exact .inl h
end Go.By
namespace Go.Proofs.Ytecmiphmefbpnaa.E
open Go.Proofs.Ytecmiphmefbpnaa Go.RowKit Go.By Go.Shelf
set_option linter.unusedVariables false
set_option linter.unusedSimpArgs false

set_option maxRecDepth 20000 in
set_option maxHeartbeats 4000000 in
theorem place_any {w : World} {g n : Nat} {rs : List Rn} {b : Bool} (I : Int) (hg : isG rs = true) (hn : n ≤ tIn (expand rs)) (hS : StandsAt w.heap.size w g (plc rs)) :
    Calls Try.prog 27 #[.agg #[.slice (some ⟨g, 0, none⟩) rs.length rs.length, .int .i64 I], .int .i64 (n : Int), .bool b] w fun e W' => e = .returned (.int .i64 ((tMv (expand rs) n b : Nat) : Int)) ∧ Below w.heap.size w W' := by
  obtain ⟨e1, _, e3, e4, e5, hk⟩ := good_sums hg
  have hB : Below w.heap.size w (w.alloc (.cells #[.slice (some ⟨g, 0, none⟩) rs.length rs.length, .int .i64 I] 55)) := (Below.refl _ w).alloc (Nat.le_refl _) _
  have hlast := last_any (w := w.alloc (.cells #[.slice (some ⟨g, 0, none⟩) rs.length rs.length, .int .i64 I] 55)) (I := I) (at' := n) (b := b) hk (by omega) ((hS.below hB).mono hB.size)
  have hp := place_tok hk n b hn
  have hbd := lastP_bounds hg n b
  have hti := (sums_tok hk).1
  have hnI : (n : Int) ≤ 16777216 := by omega
  have HB := hide hB
  generalize lastP rs n b = L at hlast hp hbd
  obtain ⟨li, lo, ⟨lk, la, ld⟩⟩ := L
  unfold placeV at hp
  dsimp only at hp hbd
  obtain ⟨⟨b1, b2⟩, ⟨b3, b4⟩, ⟨b5, b6⟩, b7, b8⟩ := hbd
  have hs : (0 : Int) ≤ (la.size : Int) := Int.natCast_nonneg _
  have w1 : IntKind.i64.wrap ((n : Int) - li) = (n : Int) - li := by rw [IntKind.wrap_i64]; omega
  have w2 : IntKind.i64.wrap (lo + min ((n : Int) - li) lk) = lo + min ((n : Int) - li) lk := by rw [IntKind.wrap_i64]; omega
  have w3 : IntKind.i64.wrap (lo + min ((n : Int) - li) lk + (la.size : Int)) = lo + min ((n : Int) - li) lk + (la.size : Int) := by rw [IntKind.wrap_i64]; omega
  have w4 : IntKind.i64.wrap (lo + ((n : Int) - li)) = lo + ((n : Int) - li) := by rw [IntKind.wrap_i64]; omega
  have w5 : IntKind.i64.wrap (lo + ((n : Int) - li) + (la.size : Int)) = lo + ((n : Int) - li) + (la.size : Int) := by rw [IntKind.wrap_i64]; omega
  have w6 : IntKind.i64.wrap (lo + lk) = lo + lk := by rw [IntKind.wrap_i64]; omega
  have w7 : IntKind.i64.wrap (lo + lk + (la.size : Int)) = lo + lk + (la.size : Int) := by rw [IntKind.wrap_i64]; omega
  have HP := hide hp
  clear hp hB hti e1 hk hS hg
  unfold stV at hlast
  dsimp only at hlast
  go_enter Try.func27, Try.ntmps27
  go_wp2_with (go_at_call 40; refine hlast.mono ?_; rintro e W1 ⟨rfl, hb⟩; have HB1 := hide (HB.out.trans (hb.mono HB.out.size)); clear hb)
  go_ret
  exact ⟨by rw [HP.out]; rfl, HB1.out.alloc HB1.out.size _⟩

theorem results_ct {P : Program} {fn : Func} {p u : Tmp} {ty : TypeId} (h : fn.results = #[.cell p ty, .tmp u]) (tmps : Array Value) (w : World) (g : Nat) (t : TypeId) (cs : Array Value) (fr : Nat × Nat) (d : TypeDesc)
    (hp : tmps.getD p undef = .pointer (some ⟨g, 0, none⟩)) (hg : w.heap[g]? = some (.cells cs t fr))
    (hu : P.underlying ty = some d) (hd : (match d with | .struct _ | .array _ _ => true | _ => false) = true) (hi : (P.info? ty).map (·.size) = some cs.size) :
    (results fn tmps).run P w = .ok (.tuple #[.agg cs, tmps.getD u undef]) w := by
  rw [results_cell_tmp h, hp]
  simp [asAddr, run_loadVar_row w g t ty cs fr d hg hu hd hi, Result.andThen]

def SpB (s g n : Nat) (I f t a b : Int) (W : World) : Prop := W.heap[s]? = some (.cells #[.slice (some ⟨g, 0, none⟩) n n, .int .i64 I] 55 (0, 0)) ∧ W.heap[s + 1]? = some (.cells #[.int .i64 f, .int .i64 t] 24 (0, 0)) ∧
  W.heap[s + 1 + 1]? = some (.cells #[.int .i64 0, .int .i64 0] 24 (0, 0)) ∧ W.heap[s + 1 + 1 + 1]? = some (.cells #[.int .i64 a, .int .i64 b] 84 (0, 0))
theorem SpB.below {s g n : Nat} {I f t a b : Int} {W Y : World} (h : SpB s g n I f t a b W) (hb : Below W.heap.size W Y) : SpB s g n I f t a b Y :=
  ⟨(hb.block _ (lt_of_heap h.1)).trans h.1, (hb.block _ (lt_of_heap h.2.1)).trans h.2.1, (hb.block _ (lt_of_heap h.2.2.1)).trans h.2.2.1, (hb.block _ (lt_of_heap h.2.2.2)).trans h.2.2.2⟩
theorem SpB.drew {s g n : Nat} {I f t a b : Int} {W : World} (h : SpB s g n I f t a b W) : SpB s g n I f t a b W.drew := h
theorem SpB.alloc {s g n : Nat} {I f t a b : Int} {W : World} (h : SpB s g n I f t a b W) (o : Obj) : SpB s g n I f t a b (W.alloc o) := h.below ((Below.refl _ W).alloc (Nat.le_refl _) o)
theorem SpB.set0 {s g n : Nat} {I f t a b : Int} {W : World} (h : SpB s g n I f t a b W) (a' : Int) : SpB s g n I f t a' b (W.setCell ⟨s + 1 + 1 + 1, 0, none⟩ (.int .i64 a')) := by
  have h2 := heap_setCell (i := 0) h.2.2.2 (.int .i64 a')
  exact ⟨(heap_setCell_ne _ (by omega)).trans h.1, (heap_setCell_ne _ (by omega)).trans h.2.1, (heap_setCell_ne _ (by omega)).trans h.2.2.1, by simpa using h2⟩
theorem SpB.set1 {s g n : Nat} {I f t a b : Int} {W : World} (h : SpB s g n I f t a b W) (b' : Int) : SpB s g n I f t a b' (W.setCell ⟨s + 1 + 1 + 1, 1, none⟩ (.int .i64 b')) := by
  have h2 := heap_setCell (i := 1) h.2.2.2 (.int .i64 b')
  exact ⟨(heap_setCell_ne _ (by omega)).trans h.1, (heap_setCell_ne _ (by omega)).trans h.2.1, (heap_setCell_ne _ (by omega)).trans h.2.2.1, by simpa using h2⟩
theorem SpB.cells {s g n : Nat} {I f t a b : Int} {W : World} (h : SpB s g n I f t a b W) : W.cell? ⟨s, 0, none⟩ = some (.slice (some ⟨g, 0, none⟩) n n) ∧ W.cell? ⟨s, 1, none⟩ = some (.int .i64 I) ∧ W.cell? ⟨s + 1, 0, none⟩ = some (.int .i64 f) ∧ W.cell? ⟨s + 1, 1, none⟩ = some (.int .i64 t) ∧
    W.cell? ⟨s + 1 + 1 + 1, 0, none⟩ = some (.int .i64 a) ∧ W.cell? ⟨s + 1 + 1 + 1, 1, none⟩ = some (.int .i64 b) ∧ W.frozen? ⟨s + 1 + 1 + 1, 0, none⟩ = false ∧ W.frozen? ⟨s + 1 + 1 + 1, 1, none⟩ = false ∧
    W.cell? ⟨s + 1 + 1, 0, none⟩ = some (.int .i64 0) ∧ W.cell? ⟨s + 1 + 1, 1, none⟩ = some (.int .i64 0) ∧ W.frozen? ⟨s + 1 + 1, 0, none⟩ = false ∧ W.frozen? ⟨s + 1 + 1, 1, none⟩ = false :=
  ⟨by rw [Joins.cell_of_block h.1]; rfl, by rw [Joins.cell_of_block h.1]; rfl, by rw [Joins.cell_of_block h.2.1]; rfl, by rw [Joins.cell_of_block h.2.1]; rfl, by rw [Joins.cell_of_block h.2.2.2]; rfl, by rw [Joins.cell_of_block h.2.2.2]; rfl, unfroz h.2.2.2, unfroz h.2.2.2,
   by rw [Joins.cell_of_block h.2.2.1]; rfl, by rw [Joins.cell_of_block h.2.2.1]; rfl, unfroz h.2.2.1, unfroz h.2.2.1⟩
/-- The same, and nothing below was written. -/
def SpW (w : World) (g n : Nat) (I f t a b : Int) (W : World) : Prop := SpB w.heap.size g n I f t a b W ∧ Below w.heap.size w W
theorem SpW.below {w : World} {g n : Nat} {I f t a b : Int} {W Y : World} (h : SpW w g n I f t a b W) (hb : Below W.heap.size W Y) : SpW w g n I f t a b Y := ⟨h.1.below hb, h.2.trans (hb.mono h.2.size)⟩
theorem SpW.lo {w : World} {g n : Nat} {I f t a b : Int} {W : World} (h : SpW w g n I f t a b W) : Below w.heap.size w W := h.2
theorem SpW.drew {w : World} {g n : Nat} {I f t a b : Int} {W : World} (h : SpW w g n I f t a b W) : SpW w g n I f t a b W.drew := ⟨h.1, below_drw h.2⟩
theorem SpW.alloc {w : World} {g n : Nat} {I f t a b : Int} {W : World} (h : SpW w g n I f t a b W) (o : Obj) : SpW w g n I f t a b (W.alloc o) := h.below ((Below.refl _ W).alloc (Nat.le_refl _) o)
theorem SpW.set0 {w : World} {g n : Nat} {I f t a b : Int} {W : World} (h : SpW w g n I f t a b W) (a' : Int) : SpW w g n I f t a' b (W.setCell ⟨w.heap.size + 1 + 1 + 1, 0, none⟩ (.int .i64 a')) := ⟨h.1.set0 a', h.2.setCell (p := ⟨w.heap.size + 1 + 1 + 1, 0, none⟩) (by show w.heap.size ≤ w.heap.size + 1 + 1 + 1; omega) _⟩
theorem SpW.set1 {w : World} {g n : Nat} {I f t a b : Int} {W : World} (h : SpW w g n I f t a b W) (b' : Int) : SpW w g n I f t a b' (W.setCell ⟨w.heap.size + 1 + 1 + 1, 1, none⟩ (.int .i64 b')) := ⟨h.1.set1 b', h.2.setCell (p := ⟨w.heap.size + 1 + 1 + 1, 1, none⟩) (by show w.heap.size ≤ w.heap.size + 1 + 1 + 1; omega) _⟩
/-- The result is stored. -/
theorem SpW.res {w : World} {g n : Nat} {I f t a b : Int} {W : World} (h : SpW w g n I f t a b W) (x y : Int) :
    ((W.setCell ⟨w.heap.size + 1 + 1, 0, none⟩ (.int .i64 x)).setCell ⟨w.heap.size + 1 + 1, 1, none⟩ (.int .i64 y)).heap[w.heap.size + 1 + 1]? = some (.cells #[.int .i64 x, .int .i64 y] 24 (0, 0)) ∧
      Below w.heap.size w ((W.setCell ⟨w.heap.size + 1 + 1, 0, none⟩ (.int .i64 x)).setCell ⟨w.heap.size + 1 + 1, 1, none⟩ (.int .i64 y)) := by
  have a0 := heap_setCell (i := 0) h.1.2.2.1 (.int .i64 x)
  have a1 := heap_setCell (i := 1) a0 (.int .i64 y)
  exact ⟨by simpa using a1, (h.2.setCell (p := ⟨w.heap.size + 1 + 1, 0, none⟩) (by show w.heap.size ≤ w.heap.size + 1 + 1; omega) _).setCell (p := ⟨w.heap.size + 1 + 1, 1, none⟩) (by show w.heap.size ≤ w.heap.size + 1 + 1; omega) _⟩
theorem spb_new (w : World) (g n : Nat) (I f t : Int) :
    let X := (((w.alloc (.cells #[.slice (some ⟨g, 0, none⟩) n n, .int .i64 I] 55)).alloc (.cells #[.int .i64 f, .int .i64 t] 24)).alloc (.cells #[.int .i64 0, .int .i64 0] 24)).alloc (.cells #[.int .i64 f, .int .i64 t] 84)
    SpB w.heap.size g n I f t f t X ∧ Below w.heap.size w X := by
  intro X
  have h0 := World.alloc_heap_new w (.cells #[.slice (some ⟨g, 0, none⟩) n n, .int .i64 I] 55)
  have h1 := World.alloc_heap_new (w.alloc (.cells #[.slice (some ⟨g, 0, none⟩) n n, .int .i64 I] 55)) (.cells #[.int .i64 f, .int .i64 t] 24)
  have h2 := World.alloc_heap_new ((w.alloc (.cells #[.slice (some ⟨g, 0, none⟩) n n, .int .i64 I] 55)).alloc (.cells #[.int .i64 f, .int .i64 t] 24)) (.cells #[.int .i64 0, .int .i64 0] 24)
  have h3 := World.alloc_heap_new (((w.alloc (.cells #[.slice (some ⟨g, 0, none⟩) n n, .int .i64 I] 55)).alloc (.cells #[.int .i64 f, .int .i64 t] 24)).alloc (.cells #[.int .i64 0, .int .i64 0] 24)) (.cells #[.int .i64 f, .int .i64 t] 84)
  rw [World.size_alloc] at h1
  rw [World.size_alloc, World.size_alloc] at h2
  rw [World.size_alloc, World.size_alloc, World.size_alloc] at h3
  refine ⟨⟨?_, ?_, ?_, h3⟩, ?_⟩
  · exact (Below.heap_alloc _ _ _ (by simp; omega)).trans ((Below.heap_alloc _ _ _ (by simp; omega)).trans ((Below.heap_alloc _ _ _ (by simp)).trans h0))
  · exact (Below.heap_alloc _ _ _ (by simp)).trans ((Below.heap_alloc _ _ _ (by simp)).trans h1)
  · exact (Below.heap_alloc _ _ _ (by simp)).trans h2
  · exact ((((Below.refl _ w).alloc (Nat.le_refl _) _).alloc (by simp) _).alloc (by simp; omega) _).alloc (by simp; omega) _

set_option maxRecDepth 20000 in
set_option maxHeartbeats 4000000 in
theorem span_no {w : World} {a : Option Addr} {n c : Nat} {I f t : Int} (h : ¬ (0 ≤ f ∧ f ≤ t ∧ t ≤ I)) :
    Calls Try.prog 28 #[.agg #[.slice a n c, .int .i64 I], .agg #[.int .i64 f, .int .i64 t]] w fun e W' => e = .returned (.tuple #[.agg #[.int .i64 0, .int .i64 0], .bool false]) ∧ Below w.heap.size w W' := by
  have hz : ((((w.alloc (.cells #[.slice a n c, .int .i64 I] 55)).alloc (.cells #[.int .i64 f, .int .i64 t] 24)).alloc (.cells #[.int .i64 0, .int .i64 0] 24)).heap[w.heap.size + 1 + 1]? = some (.cells #[.int .i64 0, .int .i64 0] 24 (0, 0))) ∧
      Below w.heap.size w (((w.alloc (.cells #[.slice a n c, .int .i64 I] 55)).alloc (.cells #[.int .i64 f, .int .i64 t] 24)).alloc (.cells #[.int .i64 0, .int .i64 0] 24)) := by
    have h2 := World.alloc_heap_new ((w.alloc (.cells #[.slice a n c, .int .i64 I] 55)).alloc (.cells #[.int .i64 f, .int .i64 t] 24)) (.cells #[.int .i64 0, .int .i64 0] 24)
    rw [World.size_alloc, World.size_alloc] at h2
    exact ⟨h2, (((Below.refl _ w).alloc (Nat.le_refl _) _).alloc (by simp) _).alloc (by simp; omega) _⟩
  have HZ := hide hz
  clear hz
  go_enter Try.func28, Try.ntmps28
  by_cases h1 : f < 0
  · go_wp2
    exact bodyPost_ret (results_ct rfl _ _ (w.heap.size + 1 + 1) 24 _ (0, 0) _ rfl HZ.out.1 Try.underlying24 rfl (by kernel_rfl)) rfl ⟨rfl, HZ.out.2⟩
  · by_cases h2 : t < f
    · go_wp2
      exact bodyPost_ret (results_ct rfl _ _ (w.heap.size + 1 + 1) 24 _ (0, 0) _ rfl HZ.out.1 Try.underlying24 rfl (by kernel_rfl)) rfl ⟨rfl, HZ.out.2⟩
    · have h3 : I < t := by omega
      go_wp2
      exact bodyPost_ret (results_ct rfl _ _ (w.heap.size + 1 + 1) 24 _ (0, 0) _ rfl HZ.out.1 Try.underlying24 rfl (by kernel_rfl)) rfl ⟨rfl, HZ.out.2⟩

/-- Where the last kept byte ahead of a place ends, as the program has it. -/
def p1V (rs : List Rn) (t : Nat) : Int := if 0 < (lastP rs t false).2.2.drop then (lastP rs t false).1 else t
theorem p1V_le {rs : List Rn} (h : isG rs = true) (t : Nat) : 0 ≤ p1V rs t ∧ p1V rs t ≤ t := by
  have hb := lastP_bounds h t false
  unfold p1V
  split
  · rename_i hd
    rcases lastP_cases (good_kinds h) t false with ⟨e, _⟩ | ⟨k, hk, e, h1, _⟩
    · rw [e] at hd; exact absurd hd (by decide)
    · refine ⟨hb.1.1, ?_⟩
      rw [e]
      show ((tIn (expand (rs.take k)) : Nat) : Int) ≤ t
      rcases h1 with h1 | h1
      · omega
      · cases h1.2
  · omega
def spV (rs : List Rn) (f t : Nat) : Int × Int := if (f : Int) < p1V rs t then ((tMv (expand rs) f true : Int), (tMv (expand rs) (p1V rs t).toNat false : Int)) else ((tMv (expand rs) f false : Int), (tMv (expand rs) f false : Int))

set_option maxRecDepth 20000 in
set_option maxHeartbeats 4000000 in
theorem span_aa {w : World} {g f t : Nat} {rs : List Rn} (hg : isG rs = true) (hft : f ≤ t) (ht : t ≤ tIn (expand rs)) (hS : StandsAt w.heap.size w g (plc rs)) (hlp : (f : Int) < p1V rs t) (hdp : 0 < (lastP rs t false).2.2.drop) :
    Calls Try.prog 28 #[.agg #[.slice (some ⟨g, 0, none⟩) rs.length rs.length, .int .i64 (sI rs)], .agg #[.int .i64 (f : Int), .int .i64 (t : Int)]] w fun e W' => e = .returned (.tuple #[.agg #[.int .i64 (spV rs f t).1, .int .i64 (spV rs f t).2], .bool true]) ∧ Below w.heap.size w W' := by
  obtain ⟨-, -, e3, e4, e5, hk⟩ := good_sums hg
  have hti := (sums_tok hk).1
  obtain ⟨hX, hBX⟩ := spb_new w g rs.length (sI rs) f t
  obtain ⟨X, hXX⟩ : ∃ X, X = (((w.alloc (.cells #[.slice (some ⟨g, 0, none⟩) rs.length rs.length, .int .i64 (sI rs)] 55)).alloc (.cells #[.int .i64 (f : Int), .int .i64 (t : Int)] 24)).alloc (.cells #[.int .i64 0, .int .i64 0] 24)).alloc (.cells #[.int .i64 (f : Int), .int .i64 (t : Int)] 84) := ⟨_, rfl⟩
  rw [← hXX] at hX hBX
  have HX : Hid (SpW w g rs.length (sI rs) f t f t X) := hide (And.intro hX hBX)
  have hlast := last_any (w := X) (I := sI rs) (at' := t) (b := false) hk (by omega) ((hS.below hBX).mono hBX.size)
  have hp1 := p1V_le hg t
  have HPL : Hid (∀ (W : World) (n : Nat) (b : Bool), Below w.heap.size w W → n ≤ t → Calls Try.prog 27 #[.agg #[.slice (some ⟨g, 0, none⟩) rs.length rs.length, .int .i64 (sI rs)], .int .i64 (n : Int), .bool b] W fun e W' => e = .returned (.int .i64 ((tMv (expand rs) n b : Nat) : Int)) ∧ Below W.heap.size W W') := hide fun W n b hb hn =>
    place_any (sI rs) hg (Nat.le_trans hn ht) ((hS.below hb).mono hb.size)
  have hp1e : p1V rs t = if 0 < (lastP rs t false).2.2.drop then (lastP rs t false).1 else (t : Int) := rfl
  have hsp : spV rs f t = if (f : Int) < p1V rs t then ((tMv (expand rs) f true : Int), (tMv (expand rs) (p1V rs t).toNat false : Int)) else ((tMv (expand rs) f false : Int), (tMv (expand rs) f false : Int)) := rfl
  obtain ⟨p, hp⟩ : ∃ p : Nat, p1V rs t = (p : Int) := Int.eq_ofNat_of_zero_le hp1.1
  rw [hp] at hp1 hp1e hsp hlp
  rw [Int.toNat_natCast] at hsp
  have hpt : p ≤ t := by omega
  have hfi : ¬ (f : Int) < 0 := by omega
  have hft' : ¬ (t : Int) < (f : Int) := by omega
  have htI : ¬ sI rs < (t : Int) := by omega
  generalize spV rs f t = SV at hsp ⊢
  generalize lastP rs t false = L at hlast hp1e hdp
  obtain ⟨li, lo, ⟨lk, la, ld⟩⟩ := L
  dsimp only at hp1e hdp
  unfold stV at hlast
  dsimp only at hlast
  have HSP := hide hsp
  clear hX hBX hp hp1 hti e3 e4 hk hS hg hsp
  subst hXX
  go_enter Try.func28, Try.ntmps28
  have HF : Hid (∀ (W : World) (x y : Int), SpW w g rs.length (sI rs) f t x y W → SV = (x, y) → ∀ tmps : Array Value, tmps.getD 4 undef = .pointer (some ⟨w.heap.size + 1 + 1, 0, none⟩) → tmps.getD 5 undef = .bool true →
      bodyPost Try.prog Try.f28 (fun e W' => e = .returned (.tuple #[.agg #[.int .i64 SV.1, .int .i64 SV.2], .bool true]) ∧ Below w.heap.size w W') .ret { tmps := tmps, defers := [] } ((W.setCell ⟨w.heap.size + 1 + 1, 0, none⟩ (.int .i64 x)).setCell ⟨w.heap.size + 1 + 1, 1, none⟩ (.int .i64 y))) := hide fun W x y h e tmps h4 h5 => by
    obtain ⟨r1, r2⟩ := h.res x y
    refine bodyPost_ret (results_ct rfl _ _ (w.heap.size + 1 + 1) 24 _ (0, 0) _ h4 r1 Try.underlying24 rfl (by kernel_rfl)) rfl ⟨?_, r2⟩
    rw [e, h5]
  have hltI := hlp
  clear hlp
  have HV : Hid (SV = (((tMv (expand rs) f true : Nat) : Int), ((tMv (expand rs) p false : Nat) : Int))) := hide (by rw [HSP.out, if_pos hltI])
  rw [if_pos hdp] at hp1e
  subst hp1e
  go_wp2_with (go_at_call 40; (with_reducible refine hlast.mono ?_); rintro e W1 ⟨rfl, hb⟩; have hs1 := (HX.out.below hb).alloc (.cells #[.int .i64 lk, .string la, .int .i64 ld, .int .i64 (p : Int), .int .i64 lo] 82); obtain ⟨-, -, -, -, c4, c5, f4, f5, -, -, -, -⟩ := hs1.1.cells; obtain ⟨y0, y1, y2, y3, y4, y5, y6, y7, y8, y9, y10, y11⟩ := (hs1.set1 (p : Int)).1.cells; have HS1 := hide (hs1.set1 (p : Int)); clear hs1 hb)
  go_cut [] from 47 to 56 (fun wc => Hid (SpW w g rs.length (sI rs) f t ((tMv (expand rs) f true : Nat) : Int) ((tMv (expand rs) p false : Nat) : Int) wc))
  case first =>
    have HSW := hide HS1.out.drew
    clear HS1 HF HV c4 c5 f4 f5 y0 y1 y2 y3 y4 y5 y6 y7 y8 y9 y10 y11
    refine heldC_startP 3 (S := SpW w g rs.length (sI rs) f t f p) (L := #[true, true, true, true, true, true, true, true, true, false, false, false]) (fuel := 9) (by kernel_rfl) (by kernel_rfl) ?_
    refine heldC_take (i := 0) (oi := { dst := some 47, op := Op.load 55 (Operand.tmp 2), type := 55, pos := _, after := _, guard := none }) (v := _) rfl (by kernel_rfl) (by kernel_rfl) (by kernel_rfl) (fun _ _ _ h => h) (by rfl) (by intro w' hSw; obtain ⟨r0, r1, r2, r3, r4, r5, r6, r7, r8, r9, r10, r11⟩ := hSw.1.cells; go_simp; try with_reducible rfl) HSW.out (by kernel_rfl) ?_
    simp only [Act.put, List.setIfInBounds_toArray, List.set_cons_zero, List.set_cons_succ]
    refine heldC_take (i := 1) (oi := { dst := some 48, op := Op.indexAddr 84 (Operand.tmp 6) (Operand.const (Value.int IntKind.i64 0)), type := 0, pos := _, after := _, guard := none }) (v := _) rfl (by kernel_rfl) (by kernel_rfl) (by kernel_rfl) (fun _ _ _ h => h) (by rfl) (by intro w' hSw; go_simp; try with_reducible rfl) HSW.out (by kernel_rfl) ?_
    simp only [Act.put, List.setIfInBounds_toArray, List.set_cons_zero, List.set_cons_succ]
    refine heldC_take (i := 2) (oi := { dst := some 49, op := Op.load 3 (Operand.tmp 48), type := 3, pos := _, after := _, guard := none }) (v := _) rfl (by kernel_rfl) (by kernel_rfl) (by kernel_rfl) (fun _ _ _ h => h) (by rfl) (by intro w' hSw; obtain ⟨r0, r1, r2, r3, r4, r5, r6, r7, r8, r9, r10, r11⟩ := hSw.1.cells; go_simp; try with_reducible rfl) HSW.out (by kernel_rfl) ?_
    simp only [Act.put, List.setIfInBounds_toArray, List.set_cons_zero, List.set_cons_succ]
    refine heldC_take (i := 4) (oi := { dst := some 51, op := Op.load 55 (Operand.tmp 2), type := 55, pos := _, after := _, guard := none }) (v := _) rfl (by kernel_rfl) (by kernel_rfl) (by kernel_rfl) (fun _ _ _ h => h) (by rfl) (by intro w' hSw; obtain ⟨r0, r1, r2, r3, r4, r5, r6, r7, r8, r9, r10, r11⟩ := hSw.1.cells; go_simp; try with_reducible rfl) HSW.out (by kernel_rfl) ?_
    simp only [Act.put, List.setIfInBounds_toArray, List.set_cons_zero, List.set_cons_succ]
    refine heldC_take (i := 5) (oi := { dst := some 52, op := Op.indexAddr 84 (Operand.tmp 6) (Operand.const (Value.int IntKind.i64 1)), type := 0, pos := _, after := _, guard := none }) (v := _) rfl (by kernel_rfl) (by kernel_rfl) (by kernel_rfl) (fun _ _ _ h => h) (by rfl) (by intro w' hSw; go_simp; try with_reducible rfl) HSW.out (by kernel_rfl) ?_
    simp only [Act.put, List.setIfInBounds_toArray, List.set_cons_zero, List.set_cons_succ]
    refine heldC_take (i := 6) (oi := { dst := some 53, op := Op.load 3 (Operand.tmp 52), type := 3, pos := _, after := _, guard := none }) (v := _) rfl (by kernel_rfl) (by kernel_rfl) (by kernel_rfl) (fun _ _ _ h => h) (by rfl) (by intro w' hSw; obtain ⟨r0, r1, r2, r3, r4, r5, r6, r7, r8, r9, r10, r11⟩ := hSw.1.cells; go_simp; try with_reducible rfl) HSW.out (by kernel_rfl) ?_
    simp only [Act.put, List.setIfInBounds_toArray, List.set_cons_zero, List.set_cons_succ]
    refine heldC_step (i := 3) (o := { dst := some 50, op := Op.call { callee := Callee.value (Operand.func 27), args := #[Operand.tmp 47, Operand.tmp 49, Operand.const (Value.bool true)], argTypes := #[55, 3, 4] }, type := 3, pos := _, after := _, guard := none }) (by kernel_rfl) rfl (by rfl) HSW.out (fun K hK => ?_)
    go_simp
    refine (HPL.out _ f true HSW.out.lo hft).mono ?_
    rintro e W2 ⟨rfl, hb⟩
    replace HSW := hide (HSW.out.below hb)
    clear hb
    refine hK.out _ _ ?_
    clear hK K
    try simp only [Act.put, List.setIfInBounds_toArray, List.set_cons_zero, List.set_cons_succ]
    refine heldC_take (i := 8) (oi := { dst := some 55, op := Op.indexAddr 84 (Operand.tmp 6) (Operand.const (Value.int IntKind.i64 0)), type := 0, pos := _, after := _, guard := none }) (v := _) rfl (by kernel_rfl) (by kernel_rfl) (by kernel_rfl) (fun _ _ _ h => h) (by rfl) (by intro w' hSw; go_simp; try with_reducible rfl) HSW.out (by kernel_rfl) ?_
    simp only [Act.put, List.setIfInBounds_toArray, List.set_cons_zero, List.set_cons_succ]
    refine heldC_step (i := 7) (o := { dst := some 54, op := Op.call { callee := Callee.value (Operand.func 27), args := #[Operand.tmp 51, Operand.tmp 53, Operand.const (Value.bool false)], argTypes := #[55, 3, 4] }, type := 3, pos := _, after := _, guard := none }) (by kernel_rfl) rfl (by rfl) HSW.out (fun K hK => ?_)
    go_simp
    refine (HPL.out _ p false HSW.out.lo hpt).mono ?_
    rintro e W3 ⟨rfl, hb⟩
    replace HSW := hide (HSW.out.below hb)
    clear hb
    refine hK.out _ _ ?_
    clear hK K
    try simp only [Act.put, List.setIfInBounds_toArray, List.set_cons_zero, List.set_cons_succ]
    refine heldC_cut (by kernel_rfl) HSW.out ?_
    obtain ⟨r0, r1, r2, r3, r4, r5, r6, r7, r8, r9, r10, r11⟩ := HSW.out.1.cells
    obtain ⟨v0, v1, v2, v3, v4, v5, v6, v7, v8, v9, v10, v11⟩ := (HSW.out.set0 ((tMv (expand rs) f true : Nat) : Int)).1.cells
    refine any_next (i := 9) (o := { dst := none, op := Op.store 3 (Operand.tmp 55) (Operand.tmp 50), type := 0, pos := _, after := _, guard := none }) (by kernel_rfl) rfl (by rfl) ?_
    go_simp
    refine any_next (i := 10) (o := { dst := some 56, op := Op.indexAddr 84 (Operand.tmp 6) (Operand.const (Value.int IntKind.i64 1)), type := 0, pos := _, after := _, guard := none }) (by kernel_rfl) rfl (by rfl) ?_
    go_simp
    refine any_next (i := 11) (o := { dst := none, op := Op.store 3 (Operand.tmp 56) (Operand.tmp 54), type := 0, pos := _, after := _, guard := none }) (by kernel_rfl) rfl (by rfl) ?_
    go_simp
    refine ⟨by kernel_rfl, ?_⟩
    go_wp2_with fail
    go_meet
    exact (HSW.out.set0 _).set1 _
  case rest =>
    have HC := hcut
    clear hcut
    obtain ⟨z0, z1, z2, z3, z4, z5, z6, z7, z8, z9, z10, z11⟩ := HC.out.1.cells
    go_wp2
    exact HF.out _ _ _ HC.out HV.out _ rfl rfl

set_option maxRecDepth 20000 in
set_option maxHeartbeats 4000000 in
theorem span_ab {w : World} {g f t : Nat} {rs : List Rn} (hg : isG rs = true) (hft : f ≤ t) (ht : t ≤ tIn (expand rs)) (hS : StandsAt w.heap.size w g (plc rs)) (hlp : (f : Int) < p1V rs t) (hdp : ¬ 0 < (lastP rs t false).2.2.drop) :
    Calls Try.prog 28 #[.agg #[.slice (some ⟨g, 0, none⟩) rs.length rs.length, .int .i64 (sI rs)], .agg #[.int .i64 (f : Int), .int .i64 (t : Int)]] w fun e W' => e = .returned (.tuple #[.agg #[.int .i64 (spV rs f t).1, .int .i64 (spV rs f t).2], .bool true]) ∧ Below w.heap.size w W' := by
  obtain ⟨-, -, e3, e4, e5, hk⟩ := good_sums hg
  have hti := (sums_tok hk).1
  obtain ⟨hX, hBX⟩ := spb_new w g rs.length (sI rs) f t
  obtain ⟨X, hXX⟩ : ∃ X, X = (((w.alloc (.cells #[.slice (some ⟨g, 0, none⟩) rs.length rs.length, .int .i64 (sI rs)] 55)).alloc (.cells #[.int .i64 (f : Int), .int .i64 (t : Int)] 24)).alloc (.cells #[.int .i64 0, .int .i64 0] 24)).alloc (.cells #[.int .i64 (f : Int), .int .i64 (t : Int)] 84) := ⟨_, rfl⟩
  rw [← hXX] at hX hBX
  have HX : Hid (SpW w g rs.length (sI rs) f t f t X) := hide (And.intro hX hBX)
  have hlast := last_any (w := X) (I := sI rs) (at' := t) (b := false) hk (by omega) ((hS.below hBX).mono hBX.size)
  have hp1 := p1V_le hg t
  have HPL : Hid (∀ (W : World) (n : Nat) (b : Bool), Below w.heap.size w W → n ≤ t → Calls Try.prog 27 #[.agg #[.slice (some ⟨g, 0, none⟩) rs.length rs.length, .int .i64 (sI rs)], .int .i64 (n : Int), .bool b] W fun e W' => e = .returned (.int .i64 ((tMv (expand rs) n b : Nat) : Int)) ∧ Below W.heap.size W W') := hide fun W n b hb hn =>
    place_any (sI rs) hg (Nat.le_trans hn ht) ((hS.below hb).mono hb.size)
  have hp1e : p1V rs t = if 0 < (lastP rs t false).2.2.drop then (lastP rs t false).1 else (t : Int) := rfl
  have hsp : spV rs f t = if (f : Int) < p1V rs t then ((tMv (expand rs) f true : Int), (tMv (expand rs) (p1V rs t).toNat false : Int)) else ((tMv (expand rs) f false : Int), (tMv (expand rs) f false : Int)) := rfl
  obtain ⟨p, hp⟩ : ∃ p : Nat, p1V rs t = (p : Int) := Int.eq_ofNat_of_zero_le hp1.1
  rw [hp] at hp1 hp1e hsp hlp
  rw [Int.toNat_natCast] at hsp
  have hpt : p ≤ t := by omega
  have hfi : ¬ (f : Int) < 0 := by omega
  have hft' : ¬ (t : Int) < (f : Int) := by omega
  have htI : ¬ sI rs < (t : Int) := by omega
  generalize spV rs f t = SV at hsp ⊢
  generalize lastP rs t false = L at hlast hp1e hdp
  obtain ⟨li, lo, ⟨lk, la, ld⟩⟩ := L
  dsimp only at hp1e hdp
  unfold stV at hlast
  dsimp only at hlast
  have HSP := hide hsp
  clear hX hBX hp hp1 hti e3 e4 hk hS hg hsp
  subst hXX
  go_enter Try.func28, Try.ntmps28
  have HF : Hid (∀ (W : World) (x y : Int), SpW w g rs.length (sI rs) f t x y W → SV = (x, y) → ∀ tmps : Array Value, tmps.getD 4 undef = .pointer (some ⟨w.heap.size + 1 + 1, 0, none⟩) → tmps.getD 5 undef = .bool true →
      bodyPost Try.prog Try.f28 (fun e W' => e = .returned (.tuple #[.agg #[.int .i64 SV.1, .int .i64 SV.2], .bool true]) ∧ Below w.heap.size w W') .ret { tmps := tmps, defers := [] } ((W.setCell ⟨w.heap.size + 1 + 1, 0, none⟩ (.int .i64 x)).setCell ⟨w.heap.size + 1 + 1, 1, none⟩ (.int .i64 y))) := hide fun W x y h e tmps h4 h5 => by
    obtain ⟨r1, r2⟩ := h.res x y
    refine bodyPost_ret (results_ct rfl _ _ (w.heap.size + 1 + 1) 24 _ (0, 0) _ h4 r1 Try.underlying24 rfl (by kernel_rfl)) rfl ⟨?_, r2⟩
    rw [e, h5]
  have hltI := hlp
  clear hlp
  have HV : Hid (SV = (((tMv (expand rs) f true : Nat) : Int), ((tMv (expand rs) p false : Nat) : Int))) := hide (by rw [HSP.out, if_pos hltI])
  rw [if_neg hdp] at hp1e
  obtain rfl : p = t := by omega
  go_wp2_with (go_at_call 40; (with_reducible refine hlast.mono ?_); rintro e W1 ⟨rfl, hb⟩; have hs1 := (HX.out.below hb).alloc (.cells #[.int .i64 lk, .string la, .int .i64 ld, .int .i64 li, .int .i64 lo] 82); obtain ⟨-, -, -, -, c4, c5, f4, f5, -, -, -, -⟩ := hs1.1.cells; obtain ⟨y0, y1, y2, y3, y4, y5, y6, y7, y8, y9, y10, y11⟩ := hs1.1.cells; have HS1 := hide hs1; clear hs1 hb)
  go_cut [] from 47 to 56 (fun wc => Hid (SpW w g rs.length (sI rs) f p ((tMv (expand rs) f true : Nat) : Int) ((tMv (expand rs) p false : Nat) : Int) wc))
  case first =>
    have HSW := hide HS1.out.drew
    clear HS1 HF HV c4 c5 f4 f5 y0 y1 y2 y3 y4 y5 y6 y7 y8 y9 y10 y11
    refine heldC_startP 3 (S := SpW w g rs.length (sI rs) f p f p) (L := #[true, true, true, true, true, true, true, true, true, false, false, false]) (fuel := 9) (by kernel_rfl) (by kernel_rfl) ?_
    refine heldC_take (i := 0) (oi := { dst := some 47, op := Op.load 55 (Operand.tmp 2), type := 55, pos := _, after := _, guard := none }) (v := _) rfl (by kernel_rfl) (by kernel_rfl) (by kernel_rfl) (fun _ _ _ h => h) (by rfl) (by intro w' hSw; obtain ⟨r0, r1, r2, r3, r4, r5, r6, r7, r8, r9, r10, r11⟩ := hSw.1.cells; go_simp; try with_reducible rfl) HSW.out (by kernel_rfl) ?_
    simp only [Act.put, List.setIfInBounds_toArray, List.set_cons_zero, List.set_cons_succ]
    refine heldC_take (i := 1) (oi := { dst := some 48, op := Op.indexAddr 84 (Operand.tmp 6) (Operand.const (Value.int IntKind.i64 0)), type := 0, pos := _, after := _, guard := none }) (v := _) rfl (by kernel_rfl) (by kernel_rfl) (by kernel_rfl) (fun _ _ _ h => h) (by rfl) (by intro w' hSw; go_simp; try with_reducible rfl) HSW.out (by kernel_rfl) ?_
    simp only [Act.put, List.setIfInBounds_toArray, List.set_cons_zero, List.set_cons_succ]
    refine heldC_take (i := 2) (oi := { dst := some 49, op := Op.load 3 (Operand.tmp 48), type := 3, pos := _, after := _, guard := none }) (v := _) rfl (by kernel_rfl) (by kernel_rfl) (by kernel_rfl) (fun _ _ _ h => h) (by rfl) (by intro w' hSw; obtain ⟨r0, r1, r2, r3, r4, r5, r6, r7, r8, r9, r10, r11⟩ := hSw.1.cells; go_simp; try with_reducible rfl) HSW.out (by kernel_rfl) ?_
    simp only [Act.put, List.setIfInBounds_toArray, List.set_cons_zero, List.set_cons_succ]
    refine heldC_take (i := 4) (oi := { dst := some 51, op := Op.load 55 (Operand.tmp 2), type := 55, pos := _, after := _, guard := none }) (v := _) rfl (by kernel_rfl) (by kernel_rfl) (by kernel_rfl) (fun _ _ _ h => h) (by rfl) (by intro w' hSw; obtain ⟨r0, r1, r2, r3, r4, r5, r6, r7, r8, r9, r10, r11⟩ := hSw.1.cells; go_simp; try with_reducible rfl) HSW.out (by kernel_rfl) ?_
    simp only [Act.put, List.setIfInBounds_toArray, List.set_cons_zero, List.set_cons_succ]
    refine heldC_take (i := 5) (oi := { dst := some 52, op := Op.indexAddr 84 (Operand.tmp 6) (Operand.const (Value.int IntKind.i64 1)), type := 0, pos := _, after := _, guard := none }) (v := _) rfl (by kernel_rfl) (by kernel_rfl) (by kernel_rfl) (fun _ _ _ h => h) (by rfl) (by intro w' hSw; go_simp; try with_reducible rfl) HSW.out (by kernel_rfl) ?_
    simp only [Act.put, List.setIfInBounds_toArray, List.set_cons_zero, List.set_cons_succ]
    refine heldC_take (i := 6) (oi := { dst := some 53, op := Op.load 3 (Operand.tmp 52), type := 3, pos := _, after := _, guard := none }) (v := _) rfl (by kernel_rfl) (by kernel_rfl) (by kernel_rfl) (fun _ _ _ h => h) (by rfl) (by intro w' hSw; obtain ⟨r0, r1, r2, r3, r4, r5, r6, r7, r8, r9, r10, r11⟩ := hSw.1.cells; go_simp; try with_reducible rfl) HSW.out (by kernel_rfl) ?_
    simp only [Act.put, List.setIfInBounds_toArray, List.set_cons_zero, List.set_cons_succ]
    refine heldC_step (i := 3) (o := { dst := some 50, op := Op.call { callee := Callee.value (Operand.func 27), args := #[Operand.tmp 47, Operand.tmp 49, Operand.const (Value.bool true)], argTypes := #[55, 3, 4] }, type := 3, pos := _, after := _, guard := none }) (by kernel_rfl) rfl (by rfl) HSW.out (fun K hK => ?_)
    go_simp
    refine (HPL.out _ f true HSW.out.lo hft).mono ?_
    rintro e W2 ⟨rfl, hb⟩
    replace HSW := hide (HSW.out.below hb)
    clear hb
    refine hK.out _ _ ?_
    clear hK K
    try simp only [Act.put, List.setIfInBounds_toArray, List.set_cons_zero, List.set_cons_succ]
    refine heldC_take (i := 8) (oi := { dst := some 55, op := Op.indexAddr 84 (Operand.tmp 6) (Operand.const (Value.int IntKind.i64 0)), type := 0, pos := _, after := _, guard := none }) (v := _) rfl (by kernel_rfl) (by kernel_rfl) (by kernel_rfl) (fun _ _ _ h => h) (by rfl) (by intro w' hSw; go_simp; try with_reducible rfl) HSW.out (by kernel_rfl) ?_
    simp only [Act.put, List.setIfInBounds_toArray, List.set_cons_zero, List.set_cons_succ]
    refine heldC_step (i := 7) (o := { dst := some 54, op := Op.call { callee := Callee.value (Operand.func 27), args := #[Operand.tmp 51, Operand.tmp 53, Operand.const (Value.bool false)], argTypes := #[55, 3, 4] }, type := 3, pos := _, after := _, guard := none }) (by kernel_rfl) rfl (by rfl) HSW.out (fun K hK => ?_)
    go_simp
    refine (HPL.out _ p false HSW.out.lo hpt).mono ?_
    rintro e W3 ⟨rfl, hb⟩
    replace HSW := hide (HSW.out.below hb)
    clear hb
    refine hK.out _ _ ?_
    clear hK K
    try simp only [Act.put, List.setIfInBounds_toArray, List.set_cons_zero, List.set_cons_succ]
    refine heldC_cut (by kernel_rfl) HSW.out ?_
    obtain ⟨r0, r1, r2, r3, r4, r5, r6, r7, r8, r9, r10, r11⟩ := HSW.out.1.cells
    obtain ⟨v0, v1, v2, v3, v4, v5, v6, v7, v8, v9, v10, v11⟩ := (HSW.out.set0 ((tMv (expand rs) f true : Nat) : Int)).1.cells
    refine any_next (i := 9) (o := { dst := none, op := Op.store 3 (Operand.tmp 55) (Operand.tmp 50), type := 0, pos := _, after := _, guard := none }) (by kernel_rfl) rfl (by rfl) ?_
    go_simp
    refine any_next (i := 10) (o := { dst := some 56, op := Op.indexAddr 84 (Operand.tmp 6) (Operand.const (Value.int IntKind.i64 1)), type := 0, pos := _, after := _, guard := none }) (by kernel_rfl) rfl (by rfl) ?_
    go_simp
    refine any_next (i := 11) (o := { dst := none, op := Op.store 3 (Operand.tmp 56) (Operand.tmp 54), type := 0, pos := _, after := _, guard := none }) (by kernel_rfl) rfl (by rfl) ?_
    go_simp
    refine ⟨by kernel_rfl, ?_⟩
    go_wp2_with fail
    go_meet
    exact (HSW.out.set0 _).set1 _
  case rest =>
    have HC := hcut
    clear hcut
    obtain ⟨z0, z1, z2, z3, z4, z5, z6, z7, z8, z9, z10, z11⟩ := HC.out.1.cells
    go_wp2
    exact HF.out _ _ _ HC.out HV.out _ rfl rfl

set_option maxRecDepth 20000 in
set_option maxHeartbeats 4000000 in
theorem span_ba {w : World} {g f t : Nat} {rs : List Rn} (hg : isG rs = true) (hft : f ≤ t) (ht : t ≤ tIn (expand rs)) (hS : StandsAt w.heap.size w g (plc rs)) (hlp : ¬ (f : Int) < p1V rs t) (hdp : 0 < (lastP rs t false).2.2.drop) :
    Calls Try.prog 28 #[.agg #[.slice (some ⟨g, 0, none⟩) rs.length rs.length, .int .i64 (sI rs)], .agg #[.int .i64 (f : Int), .int .i64 (t : Int)]] w fun e W' => e = .returned (.tuple #[.agg #[.int .i64 (spV rs f t).1, .int .i64 (spV rs f t).2], .bool true]) ∧ Below w.heap.size w W' := by
  obtain ⟨-, -, e3, e4, e5, hk⟩ := good_sums hg
  have hti := (sums_tok hk).1
  obtain ⟨hX, hBX⟩ := spb_new w g rs.length (sI rs) f t
  obtain ⟨X, hXX⟩ : ∃ X, X = (((w.alloc (.cells #[.slice (some ⟨g, 0, none⟩) rs.length rs.length, .int .i64 (sI rs)] 55)).alloc (.cells #[.int .i64 (f : Int), .int .i64 (t : Int)] 24)).alloc (.cells #[.int .i64 0, .int .i64 0] 24)).alloc (.cells #[.int .i64 (f : Int), .int .i64 (t : Int)] 84) := ⟨_, rfl⟩
  rw [← hXX] at hX hBX
  have HX : Hid (SpW w g rs.length (sI rs) f t f t X) := hide (And.intro hX hBX)
  have hlast := last_any (w := X) (I := sI rs) (at' := t) (b := false) hk (by omega) ((hS.below hBX).mono hBX.size)
  have hp1 := p1V_le hg t
  have HPL : Hid (∀ (W : World) (n : Nat) (b : Bool), Below w.heap.size w W → n ≤ t → Calls Try.prog 27 #[.agg #[.slice (some ⟨g, 0, none⟩) rs.length rs.length, .int .i64 (sI rs)], .int .i64 (n : Int), .bool b] W fun e W' => e = .returned (.int .i64 ((tMv (expand rs) n b : Nat) : Int)) ∧ Below W.heap.size W W') := hide fun W n b hb hn =>
    place_any (sI rs) hg (Nat.le_trans hn ht) ((hS.below hb).mono hb.size)
  have hp1e : p1V rs t = if 0 < (lastP rs t false).2.2.drop then (lastP rs t false).1 else (t : Int) := rfl
  have hsp : spV rs f t = if (f : Int) < p1V rs t then ((tMv (expand rs) f true : Int), (tMv (expand rs) (p1V rs t).toNat false : Int)) else ((tMv (expand rs) f false : Int), (tMv (expand rs) f false : Int)) := rfl
  obtain ⟨p, hp⟩ : ∃ p : Nat, p1V rs t = (p : Int) := Int.eq_ofNat_of_zero_le hp1.1
  rw [hp] at hp1 hp1e hsp hlp
  rw [Int.toNat_natCast] at hsp
  have hpt : p ≤ t := by omega
  have hfi : ¬ (f : Int) < 0 := by omega
  have hft' : ¬ (t : Int) < (f : Int) := by omega
  have htI : ¬ sI rs < (t : Int) := by omega
  generalize spV rs f t = SV at hsp ⊢
  generalize lastP rs t false = L at hlast hp1e hdp
  obtain ⟨li, lo, ⟨lk, la, ld⟩⟩ := L
  dsimp only at hp1e hdp
  unfold stV at hlast
  dsimp only at hlast
  have HSP := hide hsp
  clear hX hBX hp hp1 hti e3 e4 hk hS hg hsp
  subst hXX
  go_enter Try.func28, Try.ntmps28
  have HF : Hid (∀ (W : World) (x y : Int), SpW w g rs.length (sI rs) f t x y W → SV = (x, y) → ∀ tmps : Array Value, tmps.getD 4 undef = .pointer (some ⟨w.heap.size + 1 + 1, 0, none⟩) → tmps.getD 5 undef = .bool true →
      bodyPost Try.prog Try.f28 (fun e W' => e = .returned (.tuple #[.agg #[.int .i64 SV.1, .int .i64 SV.2], .bool true]) ∧ Below w.heap.size w W') .ret { tmps := tmps, defers := [] } ((W.setCell ⟨w.heap.size + 1 + 1, 0, none⟩ (.int .i64 x)).setCell ⟨w.heap.size + 1 + 1, 1, none⟩ (.int .i64 y))) := hide fun W x y h e tmps h4 h5 => by
    obtain ⟨r1, r2⟩ := h.res x y
    refine bodyPost_ret (results_ct rfl _ _ (w.heap.size + 1 + 1) 24 _ (0, 0) _ h4 r1 Try.underlying24 rfl (by kernel_rfl)) rfl ⟨?_, r2⟩
    rw [e, h5]
  have hltI := hlp
  clear hlp
  have HV : Hid (SV = (((tMv (expand rs) f false : Nat) : Int), ((tMv (expand rs) f false : Nat) : Int))) := hide (by rw [HSP.out, if_neg hltI])
  rw [if_pos hdp] at hp1e
  subst hp1e
  go_wp2_with (first
    | (go_at_call 40; (with_reducible refine hlast.mono ?_); rintro e W1 ⟨rfl, hb⟩; have hs1 := (HX.out.below hb).alloc (.cells #[.int .i64 lk, .string la, .int .i64 ld, .int .i64 (p : Int), .int .i64 lo] 82); obtain ⟨-, -, -, -, c4, c5, f4, f5, -, -, -, -⟩ := hs1.1.cells; obtain ⟨y0, y1, y2, y3, y4, y5, y6, y7, y8, y9, y10, y11⟩ := (hs1.set1 (p : Int)).1.cells; have HS1 := hide (hs1.set1 (p : Int)); clear hs1 hb)
    | (go_at_call 27; refine (HPL.out _ f false HS1.out.lo hft).mono ?_; rintro e W2 ⟨rfl, hb⟩; have hs2 := HS1.out.below hb; obtain ⟨p0, p1, p2, p3, p4, p5, p6, p7, p8, p9, p10, p11⟩ := hs2.1.cells; obtain ⟨r0, r1, r2, r3, r4, r5, r6, r7, r8, r9, r10, r11⟩ := (hs2.set0 ((tMv (expand rs) f false : Nat) : Int)).1.cells; obtain ⟨v0, v1, v2, v3, v4, v5, v6, v7, v8, v9, v10, v11⟩ := ((hs2.set0 ((tMv (expand rs) f false : Nat) : Int)).set1 ((tMv (expand rs) f false : Nat) : Int)).1.cells; have HS2 := hide ((hs2.set0 ((tMv (expand rs) f false : Nat) : Int)).set1 ((tMv (expand rs) f false : Nat) : Int)); clear hs2 hb))
  exact HF.out _ _ _ HS2.out HV.out _ rfl rfl

set_option maxRecDepth 20000 in
set_option maxHeartbeats 4000000 in
theorem span_bb {w : World} {g f t : Nat} {rs : List Rn} (hg : isG rs = true) (hft : f ≤ t) (ht : t ≤ tIn (expand rs)) (hS : StandsAt w.heap.size w g (plc rs)) (hlp : ¬ (f : Int) < p1V rs t) (hdp : ¬ 0 < (lastP rs t false).2.2.drop) :
    Calls Try.prog 28 #[.agg #[.slice (some ⟨g, 0, none⟩) rs.length rs.length, .int .i64 (sI rs)], .agg #[.int .i64 (f : Int), .int .i64 (t : Int)]] w fun e W' => e = .returned (.tuple #[.agg #[.int .i64 (spV rs f t).1, .int .i64 (spV rs f t).2], .bool true]) ∧ Below w.heap.size w W' := by
  obtain ⟨-, -, e3, e4, e5, hk⟩ := good_sums hg
  have hti := (sums_tok hk).1
  obtain ⟨hX, hBX⟩ := spb_new w g rs.length (sI rs) f t
  obtain ⟨X, hXX⟩ : ∃ X, X = (((w.alloc (.cells #[.slice (some ⟨g, 0, none⟩) rs.length rs.length, .int .i64 (sI rs)] 55)).alloc (.cells #[.int .i64 (f : Int), .int .i64 (t : Int)] 24)).alloc (.cells #[.int .i64 0, .int .i64 0] 24)).alloc (.cells #[.int .i64 (f : Int), .int .i64 (t : Int)] 84) := ⟨_, rfl⟩
  rw [← hXX] at hX hBX
  have HX : Hid (SpW w g rs.length (sI rs) f t f t X) := hide (And.intro hX hBX)
  have hlast := last_any (w := X) (I := sI rs) (at' := t) (b := false) hk (by omega) ((hS.below hBX).mono hBX.size)
  have hp1 := p1V_le hg t
  have HPL : Hid (∀ (W : World) (n : Nat) (b : Bool), Below w.heap.size w W → n ≤ t → Calls Try.prog 27 #[.agg #[.slice (some ⟨g, 0, none⟩) rs.length rs.length, .int .i64 (sI rs)], .int .i64 (n : Int), .bool b] W fun e W' => e = .returned (.int .i64 ((tMv (expand rs) n b : Nat) : Int)) ∧ Below W.heap.size W W') := hide fun W n b hb hn =>
    place_any (sI rs) hg (Nat.le_trans hn ht) ((hS.below hb).mono hb.size)
  have hp1e : p1V rs t = if 0 < (lastP rs t false).2.2.drop then (lastP rs t false).1 else (t : Int) := rfl
  have hsp : spV rs f t = if (f : Int) < p1V rs t then ((tMv (expand rs) f true : Int), (tMv (expand rs) (p1V rs t).toNat false : Int)) else ((tMv (expand rs) f false : Int), (tMv (expand rs) f false : Int)) := rfl
  obtain ⟨p, hp⟩ : ∃ p : Nat, p1V rs t = (p : Int) := Int.eq_ofNat_of_zero_le hp1.1
  rw [hp] at hp1 hp1e hsp hlp
  rw [Int.toNat_natCast] at hsp
  have hpt : p ≤ t := by omega
  have hfi : ¬ (f : Int) < 0 := by omega
  have hft' : ¬ (t : Int) < (f : Int) := by omega
  have htI : ¬ sI rs < (t : Int) := by omega
  generalize spV rs f t = SV at hsp ⊢
  generalize lastP rs t false = L at hlast hp1e hdp
  obtain ⟨li, lo, ⟨lk, la, ld⟩⟩ := L
  dsimp only at hp1e hdp
  unfold stV at hlast
  dsimp only at hlast
  have HSP := hide hsp
  clear hX hBX hp hp1 hti e3 e4 hk hS hg hsp
  subst hXX
  go_enter Try.func28, Try.ntmps28
  have HF : Hid (∀ (W : World) (x y : Int), SpW w g rs.length (sI rs) f t x y W → SV = (x, y) → ∀ tmps : Array Value, tmps.getD 4 undef = .pointer (some ⟨w.heap.size + 1 + 1, 0, none⟩) → tmps.getD 5 undef = .bool true →
      bodyPost Try.prog Try.f28 (fun e W' => e = .returned (.tuple #[.agg #[.int .i64 SV.1, .int .i64 SV.2], .bool true]) ∧ Below w.heap.size w W') .ret { tmps := tmps, defers := [] } ((W.setCell ⟨w.heap.size + 1 + 1, 0, none⟩ (.int .i64 x)).setCell ⟨w.heap.size + 1 + 1, 1, none⟩ (.int .i64 y))) := hide fun W x y h e tmps h4 h5 => by
    obtain ⟨r1, r2⟩ := h.res x y
    refine bodyPost_ret (results_ct rfl _ _ (w.heap.size + 1 + 1) 24 _ (0, 0) _ h4 r1 Try.underlying24 rfl (by kernel_rfl)) rfl ⟨?_, r2⟩
    rw [e, h5]
  have hltI := hlp
  clear hlp
  have HV : Hid (SV = (((tMv (expand rs) f false : Nat) : Int), ((tMv (expand rs) f false : Nat) : Int))) := hide (by rw [HSP.out, if_neg hltI])
  rw [if_neg hdp] at hp1e
  obtain rfl : p = t := by omega
  go_wp2_with (first
    | (go_at_call 40; (with_reducible refine hlast.mono ?_); rintro e W1 ⟨rfl, hb⟩; have hs1 := (HX.out.below hb).alloc (.cells #[.int .i64 lk, .string la, .int .i64 ld, .int .i64 li, .int .i64 lo] 82); obtain ⟨-, -, -, -, c4, c5, f4, f5, -, -, -, -⟩ := hs1.1.cells; obtain ⟨y0, y1, y2, y3, y4, y5, y6, y7, y8, y9, y10, y11⟩ := hs1.1.cells; have HS1 := hide hs1; clear hs1 hb)
    | (go_at_call 27; refine (HPL.out _ f false HS1.out.lo hft).mono ?_; rintro e W2 ⟨rfl, hb⟩; have hs2 := HS1.out.below hb; obtain ⟨p0, p1, p2, p3, p4, p5, p6, p7, p8, p9, p10, p11⟩ := hs2.1.cells; obtain ⟨r0, r1, r2, r3, r4, r5, r6, r7, r8, r9, r10, r11⟩ := (hs2.set0 ((tMv (expand rs) f false : Nat) : Int)).1.cells; obtain ⟨v0, v1, v2, v3, v4, v5, v6, v7, v8, v9, v10, v11⟩ := ((hs2.set0 ((tMv (expand rs) f false : Nat) : Int)).set1 ((tMv (expand rs) f false : Nat) : Int)).1.cells; have HS2 := hide ((hs2.set0 ((tMv (expand rs) f false : Nat) : Int)).set1 ((tMv (expand rs) f false : Nat) : Int)); clear hs2 hb))
  exact HF.out _ _ _ HS2.out HV.out _ rfl rfl

theorem span_ok {w : World} {g f t : Nat} {rs : List Rn} (hg : isG rs = true) (hft : f ≤ t) (ht : t ≤ tIn (expand rs)) (hS : StandsAt w.heap.size w g (plc rs)) :
    Calls Try.prog 28 #[.agg #[.slice (some ⟨g, 0, none⟩) rs.length rs.length, .int .i64 (sI rs)], .agg #[.int .i64 (f : Int), .int .i64 (t : Int)]] w fun e W' => e = .returned (.tuple #[.agg #[.int .i64 (spV rs f t).1, .int .i64 (spV rs f t).2], .bool true]) ∧ Below w.heap.size w W' := by
  by_cases h1 : (f : Int) < p1V rs t <;> by_cases h2 : 0 < (lastP rs t false).2.2.drop
  · exact span_aa hg hft ht hS h1 h2
  · exact span_ab hg hft ht hS h1 h2
  · exact span_ba hg hft ht hS h1 h2
  · exact span_bb hg hft ht hS h1 h2

end Go.Proofs.Ytecmiphmefbpnaa.E
