/- A mover, made. -/
import Derived.Test.YtecmiphmefbpnaaPD
import Derived.Deep.RegionLaw
namespace Go.Proofs.Ytecmiphmefbpnaa.E
open Go.Proofs.Ytecmiphmefbpnaa Go.RowKit Go.By Go.Shelf
set_option linter.unusedVariables false
set_option linter.unusedSimpArgs false
attribute [local go_sem] Oper.semAt_some

/-- The mover's own box and row. -/
def MBox (w : World) (B H g : Nat) (rs : List Rn) (l : List Pl) (W : World) : Prop :=
  W.heap[H]? = some (.cells #[.slice (some ⟨g, 0, none⟩) l.length rs.length, .int .i64 (sI rs)] 55 (0, 0)) ∧ W.ownsRow B 82 5 (.slice (some ⟨g, 0, none⟩) l.length rs.length) l.length (cellsP l) ∧
    W.heap[w.heap.size]? = some (.cells #[.slice none 0 0, .int .i64 0] 55 (0, 0)) ∧ Below w.heap.size w W

theorem below_drw {B : Nat} {w X : World} (h : Below B w X) : Below B w X.drew := ⟨h.os, h.tape, h.output, h.size, h.block⟩
/-- A box of a mover, new: it can be written. -/
def NewBox (X : World) (H : Nat) : Prop := X.heap[H]? = some (.cells #[.slice none 0 0, .int .i64 0] 55 (0, 0))
theorem NewBox.facts {X : World} {H : Nat} (h : NewBox X H) : X.cell? ⟨H, 0, none⟩ = some (.slice none 0 0) ∧ X.cell? ⟨H, 1, none⟩ = some (.int .i64 0) ∧ X.frozen? ⟨H, 0, none⟩ = false ∧ X.frozen? ⟨H, 1, none⟩ = false :=
  ⟨by rw [Joins.cell_of_block h]; rfl, by rw [Joins.cell_of_block h]; rfl, unfroz h, unfroz h⟩
theorem newBox_new (X : World) : NewBox (X.alloc (.cells #[.slice none 0 0, .int .i64 0] 55)) X.heap.size := World.alloc_heap_new X _
theorem NewBox.alloc {X : World} {H : Nat} (h : NewBox X H) (o : Obj) : NewBox (X.alloc o) H := (Below.heap_alloc _ _ _ (lt_of_heap h)).trans h
theorem NewBox.below {X Y : World} {H : Nat} (h : NewBox X H) (hb : Below X.heap.size X Y) : NewBox Y H := (hb.block H (lt_of_heap h)).trans h
theorem NewBox.drew {X : World} {H : Nat} (h : NewBox X H) : NewBox X.drew H := h
theorem NewBox.new2 (X : World) (o : Obj) : NewBox ((X.alloc o).alloc (.cells #[.slice none 0 0, .int .i64 0] 55)) (X.heap.size + 1) := by
  have := newBox_new (X.alloc o); rwa [World.size_alloc] at this

/-- Behind the statement that makes it. -/
def RQ (w W1 : World) (a : Option Addr) (cap : Nat) (rs : List Rn) : Exit → Act → World → Prop
  | .normal, act, wc => ∃ (H g : Nat) (u9 u10 u11 u12 u13 u14 : Value), act = { tmps := #[.slice a rs.length cap, undef, .pointer (some ⟨w.heap.size, 0, none⟩), .pointer (some ⟨H, 0, none⟩), undef, .slice a rs.length cap, .bool true, .bool false, undef, u9, u10, u11, u12, u13, u14, undef, undef, undef, undef, undef, undef, undef, undef, undef, undef], defers := [] } ∧
      ¬ H = g ∧ W1.heap.size ≤ H ∧ MBox w W1.heap.size H g rs [] wc
  | _, _, _ => False

/-- The call's result lies there, and nothing below was written. -/
def MB0 (w : World) (B : Nat) (Z : World) : Prop := Z.heap[w.heap.size]? = some (.cells #[.slice none 0 0, .int .i64 0] 55 (0, 0)) ∧ Below w.heap.size w Z ∧ w.heap.size < B ∧ B ≤ Z.heap.size
theorem MB0.alloc {w : World} {B : Nat} {Z : World} (h : MB0 w B Z) (o : Obj) : MB0 w B (Z.alloc o) :=
  ⟨(Below.heap_alloc _ _ _ (lt_of_heap h.1)).trans h.1, h.2.1.alloc (Nat.le_of_lt (lt_of_heap h.1)) o, h.2.2.1, by simp; have := h.2.2.2; omega⟩
theorem MB0.drew {w : World} {B : Nat} {Z : World} (h : MB0 w B Z) : MB0 w B Z.drew := ⟨h.1, below_drw h.2.1, h.2.2⟩
theorem MB0.below {w : World} {B : Nat} {Z Y : World} (h : MB0 w B Z) (hb : Below Z.heap.size Z Y) : MB0 w B Y :=
  ⟨(hb.block _ (lt_of_heap h.1)).trans h.1, h.2.1.trans (hb.mono (Nat.le_of_lt (lt_of_heap h.1))), h.2.2.1, Nat.le_trans h.2.2.2 hb.size⟩
def MB1 (w : World) (B g n : Nat) (Z : World) : Prop := MB0 w B Z ∧ Z.ownsRow B 82 5 (.slice (some ⟨g, 0, none⟩) 0 n) 0 []
theorem MB1.row {w : World} {B g n : Nat} {Z : World} (h : MB1 w B g n Z) : ∃ cur, Z.heap[g]? = some (.cells cur 82 (0, 0)) := by
  rcases h.2.2 with ⟨h1, _⟩ | ⟨g', cap, cur, hv, _, hg, _⟩
  · cases h1
  · cases hv; exact ⟨cur, hg⟩
theorem ownsRow_same5 {w w' : World} {B : Nat} {E : TypeId} {v : Value} {n z : Nat} {l : List Value} (h : w.ownsRow B E z v n l) (hs : ∀ k, v.ownBlock = some k → w'.heap[k]? = w.heap[k]?) : w'.ownsRow B E z v n l := by
  refine ⟨h.1, h.2.imp id ?_⟩
  rintro ⟨g, cap, cur, hv, hb, hg, r⟩
  exact ⟨g, cap, cur, hv, hb, (hs g (by rw [hv]; rfl)).trans hg, r⟩
theorem row_kept {B g n : Nat} {Z Y : World} {k : Nat} {xs : List Value} (h : Z.ownsRow B 82 5 (.slice (some ⟨g, 0, none⟩) k n) k xs) (hk : Y.heap[g]? = Z.heap[g]?) : Y.ownsRow B 82 5 (.slice (some ⟨g, 0, none⟩) k n) k xs :=
  ownsRow_same5 h fun q hq => by
    obtain rfl : g = q := by simpa [Value.ownBlock] using hq
    exact hk
theorem MB1.alloc {w : World} {B g n : Nat} {Z : World} (h : MB1 w B g n Z) (o : Obj) : MB1 w B g n (Z.alloc o) := by
  obtain ⟨cur, hc⟩ := h.row
  exact ⟨h.1.alloc o, row_kept h.2 (Below.heap_alloc _ _ _ (lt_of_heap hc))⟩
theorem MB1.drew {w : World} {B g n : Nat} {Z : World} (h : MB1 w B g n Z) : MB1 w B g n Z.drew := ⟨h.1.drew, row_kept h.2 rfl⟩
theorem MB1.below {w : World} {B g n : Nat} {Z Y : World} (h : MB1 w B g n Z) (hb : Below Z.heap.size Z Y) : MB1 w B g n Y := by
  obtain ⟨cur, hc⟩ := h.row
  exact ⟨h.1.below hb, row_kept h.2 (hb.block _ (lt_of_heap hc))⟩
def Made (w : World) (B H g : Nat) (rs : List Rn) (Z : World) : Prop := ¬ H = g ∧ B ≤ H ∧ MBox w B H g rs [] Z
/-- The box is written at last. -/
theorem made_set {w : World} {B H g : Nat} {rs : List Rn} {Z : World} (h : MB1 w B g rs.length Z) (hn : NewBox Z H) (hB : B ≤ H) :
    Made w B H g rs ((Z.setCell ⟨H, 0, none⟩ (.slice (some ⟨g, 0, none⟩) 0 rs.length)).setCell ⟨H, 1, none⟩ (.int .i64 (sI rs))) := by
  obtain ⟨cur, hc⟩ := h.row
  have hne : ¬ H = g := fun e => by subst e; rw [hn] at hc; cases hc
  have a0 := heap_setCell (i := 0) hn (.slice (some ⟨g, 0, none⟩) 0 rs.length)
  have a1 := heap_setCell (i := 1) a0 (.int .i64 (sI rs))
  have kp : ∀ k, ¬ k = H → ((Z.setCell ⟨H, 0, none⟩ (.slice (some ⟨g, 0, none⟩) 0 rs.length)).setCell ⟨H, 1, none⟩ (.int .i64 (sI rs))).heap[k]? = Z.heap[k]? := fun k hk => (heap_setCell_ne _ hk).trans (heap_setCell_ne _ hk)
  refine ⟨hne, hB, by simpa using a1, row_kept h.2 (kp g (fun e => hne e.symm)), (kp _ (by have := h.1.2.2.1; omega)).trans h.1.1, ?_⟩
  exact h.1.2.1.trans (((Only.setCell (S := fun k => k = H) Z ⟨H, 0, none⟩ _ rfl).trans (Only.setCell (S := fun k => k = H) _ ⟨H, 1, none⟩ _ rfl)).below h.1.2.1.size fun i hi => by have := h.1.2.2.1; omega)
/-- The box is laid at last. -/
theorem made_lay {w : World} {B g : Nat} {rs : List Rn} {Z : World} (h : MB1 w B g rs.length Z) :
    Made w B Z.heap.size g rs (Z.alloc (.cells #[.slice (some ⟨g, 0, none⟩) 0 rs.length, .int .i64 (sI rs)] 55)) := by
  obtain ⟨cur, hc⟩ := h.row
  have := h.alloc (.cells #[.slice (some ⟨g, 0, none⟩) 0 rs.length, .int .i64 (sI rs)] 55)
  exact ⟨fun e => by have := lt_of_heap hc; omega, h.1.2.2.2, World.alloc_heap_new Z _, this.2, this.1.1, this.1.2.1⟩
theorem made_lay1 {w : World} {B g : Nat} {rs : List Rn} {Z : World} {o : Obj} (h : MB1 w B g rs.length (Z.alloc o)) :
    Made w B (Z.heap.size + 1) g rs ((Z.alloc o).alloc (.cells #[.slice (some ⟨g, 0, none⟩) 0 rs.length, .int .i64 (sI rs)] 55)) := by
  have := made_lay h; rwa [World.size_alloc] at this
/-- The row is made at last. -/
theorem made_row {w : World} {B : Nat} {rs : List Rn} {Z : World} {M : Array Value} (h : MB0 w B Z) (hM : ∀ W : World, B ≤ W.heap.size → (W.alloc (.cells M 82)).ownsRow B 82 5 (.slice (some ⟨W.heap.size, 0, none⟩) 0 rs.length) 0 []) :
    Made w B Z.heap.size (Z.heap.size + 1) rs ((Z.alloc (.cells #[.slice (some ⟨Z.heap.size + 1, 0, none⟩) 0 rs.length, .int .i64 (sI rs)] 55)).alloc (.cells M 82)) := by
  have hb := h.alloc (.cells #[.slice (some ⟨Z.heap.size + 1, 0, none⟩) 0 rs.length, .int .i64 (sI rs)] 55)
  have hb2 := hb.alloc (.cells M 82)
  have hr := hM _ hb.2.2.2
  rw [World.size_alloc] at hr
  exact ⟨by omega, h.2.2.2, (Below.heap_alloc _ _ _ (by simp)).trans (World.alloc_heap_new Z _), hr, hb2.1, hb2.2.1⟩

def MAct (a : Option Addr) (n cap : Nat) (h H Bn q : Nat) (x : Pl) (u9 u10 u11 u12 u13 u14 : Value) : Act := { tmps := #[.slice a n cap, undef, .pointer (some ⟨h, 0, none⟩), .pointer (some ⟨H, 0, none⟩), .pointer (some ⟨q, 0, none⟩), .slice a n cap, .bool true, .bool false, undef, u9, u10, u11, u12, u13, u14, .slice a n cap, .func (.func 46) #[] #[.pointer (some ⟨Bn, 0, none⟩)], .agg #[.int .i64 x.2.2.keep, .string x.2.2.add, .int .i64 x.2.2.drop, .int .i64 x.1, .int .i64 x.2.1], undef, undef, undef, undef, undef, undef, undef], defers := [] }
def MActX (a : Option Addr) (n cap : Nat) (h H Bn : Nat) (u9 u10 u11 u12 u13 u14 : Value) (x : Pl) (a' : Act) (W : World) : Prop := ∃ q, a' = MAct a n cap h H Bn q x u9 u10 u11 u12 u13 u14 ∧ W.heap[q]? = some (.cells #[.int .i64 x.2.2.keep, .string x.2.2.add, .int .i64 x.2.2.drop, .int .i64 x.1, .int .i64 x.2.1] 82 (0, 0))
theorem mact_own (a : Option Addr) (n cap : Nat) (h H Bn : Nat) (u9 u10 u11 u12 u13 u14 : Value) (x : Pl) (a' : Act) : Own (fun (_ : Unit) W => MActX a n cap h H Bn u9 u10 u11 u12 u13 u14 x a' W) := fun _ X Y row hh hg hrow => by
  obtain ⟨q, e, h1⟩ := hh
  exact ⟨q, e, cells_keep h1 hg hrow⟩
def MI (w : World) (B H g : Nat) (rs : List Rn) (l : List Pl) (W : World) : Prop :=
  (W.heap[H]? = some (.cells #[.slice (some ⟨g, 0, none⟩) l.length rs.length, .int .i64 (sI rs)] 55 (0, 0)) ∧ W.ownsRow B 82 5 (.slice (some ⟨g, 0, none⟩) l.length rs.length) l.length (cellsP l) ∧
    W.heap[w.heap.size]? = some (.cells #[.slice none 0 0, .int .i64 0] 55 (0, 0))) ∧ Below w.heap.size w W
theorem row_block {B g n : Nat} {Z : World} {k : Nat} {xs : List Value} (h : Z.ownsRow B 82 5 (.slice (some ⟨g, 0, none⟩) k n) k xs) : B ≤ g ∧ ∃ cur, Z.heap[g]? = some (.cells cur 82 (0, 0)) := by
  rcases h.2 with ⟨h1, _⟩ | ⟨g', cap, cur, hv, hb, hg, _⟩
  · cases h1
  · cases hv; exact ⟨hb, cur, hg⟩
theorem mi_own (w : World) (B H g : Nat) (rs : List Rn) (N : Nat) (hN : w.heap.size ≤ N) : OwnT 3 N (MI w B H g rs) :=
  OwnT.and (ownT_of fun l X Y h hk => ⟨hk _ _ _ _ (by decide) h.1, (by
    obtain ⟨_, cur, hc⟩ := row_block h.2.1
    exact row_kept h.2.1 ((hk _ _ _ _ (by decide) hc).trans hc.symm)), hk _ _ _ _ (by decide) h.2.2⟩) (ownT_below (Nat.le_refl _) hN)
theorem mi_below {w : World} {B H g : Nat} {rs : List Rn} {l : List Pl} {W Y : World} (h : MI w B H g rs l W) (hb : Below W.heap.size W Y) : MI w B H g rs l Y := by
  obtain ⟨_, cur, hc⟩ := row_block h.1.2.1
  exact ⟨⟨(hb.block _ (lt_of_heap h.1.1)).trans h.1.1, row_kept h.1.2.1 (hb.block _ (lt_of_heap hc)), (hb.block _ (lt_of_heap h.1.2.2)).trans h.1.2.2⟩, h.2.trans (hb.mono h.2.size)⟩
/-- One more stands there. -/
theorem mi_more {w : World} {B H g : Nat} {rs : List Rn} {l : List Pl} {x : Pl} {W X w3 : World} (h : MI w B H g rs l W) (hHg : ¬ H = g) (hB : w.heap.size < B) (hBH : B ≤ H) (hX : Below W.heap.size W X) (hg : X.grownBy w3 (some g))
    (hr : w3.ownsRow B 82 5 (.slice (some ⟨g, 0, none⟩) (l.length + 1) rs.length) (l.length + 1) (cellsP l ++ cellsP1 x)) (N : Nat) :
    KeepsFrom N W (w3.setCell ⟨H, 0, none⟩ (.slice (some ⟨g, 0, none⟩) (l.length + 1) rs.length)) ∧ KeepS w.heap.size W (w3.setCell ⟨H, 0, none⟩ (.slice (some ⟨g, 0, none⟩) (l.length + 1) rs.length)) ∧
      MI w B H g rs (l ++ [x]) (w3.setCell ⟨H, 0, none⟩ (.slice (some ⟨g, 0, none⟩) (l.length + 1) rs.length)) := by
  obtain ⟨hBg, cur, hc⟩ := row_block h.1.2.1
  have hO : Only (fun k => k = H ∨ k = g) W (w3.setCell ⟨H, 0, none⟩ (.slice (some ⟨g, 0, none⟩) (l.length + 1) rs.length)) :=
    ((⟨hX.os, hX.tape, hX.output, hX.size, fun k hk _ => hX.block k hk⟩ : Only (fun k => k = H ∨ k = g) W X).trans (Only.grown hg fun k hk => .inr (by cases hk; rfl))).trans (Only.setCell w3 ⟨H, 0, none⟩ _ (.inl rfl))
  have h3 : w3.heap[H]? = some (.cells #[.slice (some ⟨g, 0, none⟩) l.length rs.length, .int .i64 (sI rs)] 55 (0, 0)) := (hg.block H (Nat.lt_of_lt_of_le (lt_of_heap h.1.1) hX.size) (fun e => hHg (by cases e; rfl))).trans ((hX.block H (lt_of_heap h.1.1)).trans h.1.1)
  have hlow : ∀ k, (k = H ∨ k = g) → w.heap.size ≤ k := fun k hk => by rcases hk with rfl | rfl <;> omega
  refine ⟨⟨hO.size, fun k o _ hk hco => (hO.block k (lt_of_heap hk) (fun e => ?_)).trans hk⟩, ⟨hO.below h.2.size hlow, fun k cs hk => (hO.block k (lt_of_heap hk) (fun e => ?_)).trans hk⟩, ⟨?_, ?_, ?_⟩, h.2.trans (hO.below h.2.size hlow)⟩
  · rcases e with rfl | rfl
    · rw [h.1.1] at hk; cases hk; cases hco
    · rw [hc] at hk; cases hk; cases hco
  · rcases e with rfl | rfl
    · rw [h.1.1] at hk; cases hk
    · rw [hc] at hk; cases hk
  · have := heap_setCell (i := 0) h3 (.slice (some ⟨g, 0, none⟩) (l.length + 1) rs.length)
    rw [List.length_append]; simpa using this
  · rw [cellsP_append, cellsP_one, List.length_append]
    exact row_kept hr (heap_setCell_ne _ (fun e => hHg e.symm))
  · exact (hO.block _ (lt_of_heap h.1.2.2) (fun e => by rcases e with e | e <;> omega)).trans h.1.2.2

set_option maxRecDepth 100000 in
set_option maxHeartbeats 8000000 in
theorem mover_any (a : Option Addr) (cap : Nat) (rs : List Rn) (w : World) (hS : CameR w.heap.size w a rs) (hl : rs.length ≤ 1000000) :
    Calls Try.prog 26 #[.slice a rs.length cap] w fun e W' => ∃ v, e = .returned v ∧ MoverV W'.heap.size W' rs v ∧ Below w.heap.size w W' := by
  have h1 : 1 ≤ 3 := by omega
  have hro : Fence.wide.round = none := rfl
  have h26 : Fence.wide.fn 26 := trivial
  have h39 : Fence.wide.fn 39 := trivial
  have h46 : Fence.wide.fn 46 := trivial
  obtain ⟨i0, hi, hz0, hz1, hz2⟩ := info_parts (show (Try.prog.info? 82).map (fun i => (i.zero, i.size, i.bytes)) = some (some (.agg #[.int .i64 0, .string ⟨#[]⟩, .int .i64 0, .int .i64 0, .int .i64 0]), 5, 48) by kernel_rfl)
  refine (callsIn_wide (n := 3)).1 ?_
  refine callsIn_of_wp_marks Try.func26 rfl h26 ?_ hro
  simp only [Try.ntmps26, List.size_toArray, List.length_cons, List.length_nil, Nat.reduceAdd, Nat.reduceSub, Array.replicate_succ, Array.replicate_zero, List.push_toArray, List.append_toArray, List.nil_append, List.cons_append]
  have hb0 : Below w.heap.size w (w.alloc (.cells #[.slice none 0 0, .int .i64 0] 55)) := (Below.refl _ w).alloc (Nat.le_refl _) _
  have hgood := good_any a cap rs _ (came_up hS hb0) hl
  have hbox := World.alloc_heap_new w (.cells #[.slice none 0 0, .int .i64 0] 55)
  rw [show (meas rs).isSome = isG rs from rfl] at hgood
  have HS := hide hS
  have HB0 := hide hb0
  have HBOX := hide hbox
  clear hS hb0 hbox
  refine wpIn_wide.2 ?_
  cases hg : isG rs with
  | false =>
    rw [hg] at hgood
    have HG := hide hg
    clear hg
    go_wp2_with (go_at_call 37; refine hgood.mono ?_; rintro e W1 ⟨rfl, hb⟩; have hb1 := (hb.block _ (lt_of_heap HBOX.out)).trans HBOX.out; have HB1 := hide (And.intro hb hb1); have c0 : W1.cell? ⟨w.heap.size, 0, none⟩ = some (.slice none 0 0) := (by rw [Joins.cell_of_block hb1]; rfl); have c1 : W1.cell? ⟨w.heap.size, 1, none⟩ = some (.int .i64 0) := (by rw [Joins.cell_of_block hb1]; rfl); have f0 : W1.frozen? ⟨w.heap.size, 0, none⟩ = false := unfroz hb1; have f1 : W1.frozen? ⟨w.heap.size, 1, none⟩ = false := unfroz hb1; clear hb hb1)
    refine ⟨.agg #[.slice none 0 0, .int .i64 (-1)], ?_, _, rfl, .inl ⟨HG.out, rfl⟩, ?_⟩
    · have a0 := heap_setCell (i := 0) HB1.out.2 (.slice none 0 0)
      have a1 := heap_setCell (i := 1) a0 (.int .i64 (-1))
      exact results_cell_row rfl _ _ w.heap.size 55 _ (0, 0) _ rfl (by simpa using a1) Try.underlying55 rfl (by kernel_rfl)
    · have hb := HB0.out.trans (HB1.out.1.mono HB0.out.size)
      exact hb.trans (((Only.setCell (S := fun k => k = w.heap.size) W1 ⟨w.heap.size, 0, none⟩ _ rfl).trans (Only.setCell (S := fun k => k = w.heap.size) _ ⟨w.heap.size, 1, none⟩ _ rfl)).below hb.size fun i hi => by omega)
  | true =>
    rw [hg] at hgood
    obtain ⟨e1, e2, e3, e4, e5, e6⟩ := good_sums hg
    have HG := hide hg
    clear hg
    have hmk : ∀ W : World, (Instr.makeSlice 53 (.int .i64 0) (.int .i64 (rs.length : Int))).run Try.prog W = .ok (.slice (some ⟨W.heap.size, 0, none⟩) 0 rs.length) (W.alloc (.cells (madeCells (Value.agg #[.int .i64 0, .string ⟨#[]⟩, .int .i64 0, .int .i64 0, .int .i64 0]).cells (rs.length * 5)) 82)) := fun W => by
      have := run_make (P := Try.prog) W 53 82 i0 _ Try.underlying53 hi hz0 .i64 .i64 0 (rs.length : Int) (Int.le_refl _) (by omega) (by rw [hz2]; omega) (by omega)
      rw [hz1] at this
      exact this
    obtain ⟨M, hM⟩ : ∃ M, M = madeCells (Value.agg #[.int .i64 0, .string ⟨#[]⟩, .int .i64 0, .int .i64 0, .int .i64 0]).cells (rs.length * 5) := ⟨_, rfl⟩
    rw [← hM] at hmk
    have HMO : Hid (∀ (B : Nat) (W : World), B ≤ W.heap.size → (W.alloc (.cells M 82)).ownsRow B 82 5 (.slice (some ⟨W.heap.size, 0, none⟩) 0 rs.length) 0 []) := hide fun B W hW => by
      rw [hM]; exact World.ownsRow_made W _ _ hW (by have : rs.length ≤ 65536 := e5; unfold maxLen; omega) (by rw [size_madeCells])
    clear hM
    have HIN : Hid (∀ W, Below w.heap.size w W → Calls Try.prog 38 #[.slice a rs.length cap] W fun e W' => e = .returned (.int .i64 (sI rs)) ∧ Below W.heap.size W W') := hide fun W hW => by rw [← e1]; exact in_any a cap rs W ((HS.out.below hW).mono hW.size) hl
    have HE := hide (And.intro e3 (And.intro e4 (And.intro e5 e6)))
    clear e1 e2 e3 e4 e5 e6
    go_wp2_with (go_at_call 37; refine hgood.mono ?_; rintro e W1 ⟨rfl, hb⟩; have HB1 := hide (HB0.out.trans (hb.mono HB0.out.size)); have HB1b := hide ((hb.block _ (lt_of_heap HBOX.out)).trans HBOX.out); have HLT := hide (And.intro hb (Nat.lt_of_lt_of_le (lt_of_heap HBOX.out) hb.size)); clear hb)
    have hws : w.heap.size < W1.heap.size := HLT.out.2
    have HD : Hid (Below w.heap.size w W1.drew) := hide ⟨HB1.out.os, HB1.out.tape, HB1.out.output, HB1.out.size, HB1.out.block⟩
    have HWS := hide hws
    rename_i K hK
    refine Code.wp_mono (Q := RQ w W1 a cap rs) ?hq ?hreg
    case hq =>
      intro e act wc h
      cases e with
      | normal =>
        obtain ⟨H, g, u9, u10, u11, u12, u13, u14, rfl, hne, hH, hm⟩ := h
        refine hK _ _ ?_
        clear hK hgood hmk
        obtain ⟨hbx, hrow, hres, hlow⟩ := hm
        refine (wpIn_wide (n := 3)).1 ?_
        gi_wp2_with (gi_at_call 39; refine (stands_any (3 - 1) _ _ _ _).mono ?_; rintro e w' ⟨rfl, rfl⟩)
        obtain ⟨W4, hW4⟩ : ∃ W4, W4 = wc.alloc (.cells #[.slice a rs.length cap] 22) := ⟨_, rfl⟩
        have hal : Below wc.heap.size wc W4 := by rw [hW4]; exact (Below.refl _ _).alloc (Nat.le_refl _) _
        have hbn : Boxed W4 wc.heap.size 22 (.slice a rs.length cap) := by rw [hW4]; exact World.alloc_heap_new _ _
        rw [← hW4]
        clear hW4
        have HM4 := hide (mi_below (⟨⟨hbx, hrow, hres⟩, hlow⟩ : MI w W1.heap.size H g rs [] wc) hal)
        have hsz : w.heap.size ≤ W4.heap.size := HM4.out.2.size
        have hstops := stands_stops (3 - 1) (by omega) wc.heap.size w.heap.size a cap rs W4 HE.out.2.2.2 HE.out.1 HE.out.2.1 (lt_of_heap hbn) hsz hbn.cell (HS.out.below HM4.out.2) hl
        have HH := hide (And.intro hne (And.intro HLT.out.2 hH))
        clear hbx hrow hres hlow hal hbn hne hH
        refine rangeFunc_box h1 (gf := 46) (lb := #[.pointer (some ⟨wc.heap.size, 0, none⟩)]) rfl (enters_of Try.func46 (by kernel_rfl) rfl) hstops KeepS.trans (KeepS.put hsz) (Below.refl _ _) (fun _ => rfl)
          (MI w W1.heap.size H g rs) (fun _ _ _ => False) (mi_own w _ _ _ rs _ hsz) (fun c => ownT_pure _ _) HM4.out
          (MActX a rs.length cap w.heap.size H wc.heap.size u9 u10 u11 u12 u13 u14) (fun x a' => Own.from (mact_own a rs.length cap w.heap.size H wc.heap.size u9 u10 u11 u12 u13 u14 x a') _) ?assign ?body ?done ?stop
        case assign =>
          rintro l pre ⟨i, o, xk, xa, xd⟩ W K hI hK
          have hal : Below W.heap.size W (W.alloc (.cells #[.int .i64 xk, .string xa, .int .i64 xd, .int .i64 i, .int .i64 o] 82)) := (Below.refl _ _).alloc (Nat.le_refl _) _
          have HZ := hide (hK (MAct a rs.length cap w.heap.size H wc.heap.size W.heap.size (i, o, ⟨xk, xa, xd⟩) u9 u10 u11 u12 u13 u14) _ (KeepsFrom.of_below hal) (KeepS.of_below hI.2.size hal) (mi_below hI hal)
            ⟨_, rfl, World.alloc_heap_new W _⟩)
          clear hK hal hI
          unfold encS
          dsimp only
          gi_wp2
          exact HZ.out
        case body =>
          rintro l pre x a' W hl0 hI ⟨q, rfl, hq⟩ hpre
          obtain ⟨hk, -, -⟩ := plc_at hpre
          have HI := hide hI
          obtain ⟨z0, z1, z2, z3, z4⟩ := cels5 hq
          have c0 : W.cell? ⟨H, 0, none⟩ = some (.slice (some ⟨g, 0, none⟩) pre.length rs.length) := by rw [Joins.cell_of_block hI.1.1]; rfl
          obtain ⟨i, o, xk, xa, xd⟩ := x
          dsimp only at z0 z1 z2 z3 z4
          have hal : Below W.heap.size W (W.alloc (.cells #[.int .i64 xk, .string xa, .int .i64 xd, .int .i64 i, .int .i64 o] 82)) := (Below.refl _ _).alloc (Nat.le_refl _) _
          have hrow := (mi_below hI hal).1.2.1
          have hnews : ∀ j u, (cellsP1 (i, o, ⟨xk, xa, xd⟩))[j]? = some u → (W.alloc (.cells #[.int .i64 xk, .string xa, .int .i64 xd, .int .i64 i, .int .i64 o] 82)).cell? ((⟨W.heap.size, 0, none⟩ : Addr).add j) = some u := fun j u hu =>
            World.news_of_block (World.alloc_heap_new W (.cells #[.int .i64 xk, .string xa, .int .i64 xd, .int .i64 i, .int .i64 o] 82)) j u hu
          have hone : ∀ u ∈ cellsP1 (i, o, ⟨xk, xa, xd⟩), u.oneCell' = true := fun u hu => oneCellP [(i, o, ⟨xk, xa, xd⟩)] u (by rw [cellsP_one]; exact hu)
          have HX := hide (And.intro hal (And.intro hrow (And.intro hnews (And.intro hone hk))))
          clear hal hrow hnews hone hk hI hq hpre
          unfold MAct
          dsimp only
          gi_wp2_with (gi_at_builtin; (
            refine wpListIn_append_fits _ rfl (.tmp 19) (.tmp 21) 53 rfl W1.heap.size 82 i0 5 Try.underlying53 hi hz1 g pre.length rs.length (cellsP pre) rfl HX.out.2.1 ⟨W.heap.size, 0, none⟩ 1 1 (cellsP1 (i, o, ⟨xk, xa, xd⟩)) rfl rfl HX.out.2.2.1 HX.out.2.2.2.1 (by have := HX.out.2.2.2.2; omega) ?_
            intro w3 hr hg
            have hb3 : w3.heap[H]? = some (.cells #[.slice (some ⟨g, 0, none⟩) pre.length rs.length, .int .i64 (sI rs)] 55 (0, 0)) := (hg.block H (Nat.lt_of_lt_of_le (lt_of_heap HI.out.1.1) HX.out.1.size) (fun e => HH.out.1 (by cases e; rfl))).trans ((HX.out.1.block H (lt_of_heap HI.out.1.1)).trans HI.out.1.1)
            have y0 : w3.cell? ⟨H, 0, none⟩ = some (.slice (some ⟨g, 0, none⟩) pre.length rs.length) := by rw [Joins.cell_of_block hb3]; rfl
            have y1 : w3.frozen? ⟨H, 0, none⟩ = false := unfroz hb3
            have HFIN := hide (mi_more (N := W4.heap.size) HI.out HH.out.1 HH.out.2.1 HH.out.2.2 HX.out.1 hg hr)
            clear hg hr hb3))
          exact HFIN.out
        case done =>
          rintro D ys W hD rfl hI hK
          obtain ⟨⟨hbx, hrow, hres⟩, hB⟩ := hI
          rw [length_plc] at hbx hrow
          have c0 : W.cell? ⟨H, 0, none⟩ = some (.slice (some ⟨g, 0, none⟩) rs.length rs.length) := by rw [Joins.cell_of_block hbx]; rfl
          have c1 : W.cell? ⟨H, 1, none⟩ = some (.int .i64 (sI rs)) := by rw [Joins.cell_of_block hbx]; rfl
          have d0 : W.cell? ⟨w.heap.size, 0, none⟩ = some (.slice none 0 0) := by rw [Joins.cell_of_block hres]; rfl
          have d1 : W.cell? ⟨w.heap.size, 1, none⟩ = some (.int .i64 0) := by rw [Joins.cell_of_block hres]; rfl
          have f0 : W.frozen? ⟨w.heap.size, 0, none⟩ = false := unfroz hres
          have f1 : W.frozen? ⟨w.heap.size, 1, none⟩ = false := unfroz hres
          have HF := hide (And.intro hrow (And.intro hres (And.intro hB hK)))
          clear hbx hrow hres hB hK
          gi_wp2
          have a0 := heap_setCell (i := 0) HF.out.2.1 (.slice (some ⟨g, 0, none⟩) rs.length rs.length)
          have a1 := heap_setCell (i := 1) a0 (.int .i64 (sI rs))
          obtain ⟨V, hV⟩ : ∃ V, V = (W.setCell ⟨w.heap.size, 0, none⟩ (.slice (some ⟨g, 0, none⟩) rs.length rs.length)).setCell ⟨w.heap.size, 1, none⟩ (.int .i64 (sI rs)) := ⟨_, rfl⟩
          have hO : Only (fun k => k = w.heap.size) W V := by
            rw [hV]; exact (Only.setCell (S := fun k => k = w.heap.size) W ⟨w.heap.size, 0, none⟩ _ rfl).trans (Only.setCell (S := fun k => k = w.heap.size) _ ⟨w.heap.size, 1, none⟩ _ rfl)
          rw [← hV] at a1 ⊢
          have hlt := lt_of_heap HF.out.2.1
          have hDw : ¬ D = w.heap.size := by have := hsz; have := lt_of_heap HM4.out.1.2.2; omega
          have hKV : V.heap[D]? = some (.deferred (some [])) := (hO.block D (lt_of_heap HF.out.2.2.2) hDw).trans HF.out.2.2.2
          refine ⟨by simp, .inl ⟨_, _, rfl, run_takeDeferred hKV, ?_⟩⟩
          have hp : ∀ k, ¬ k = D → (V.putObj D (.deferred none)).heap[k]? = V.heap[k]? := fun k hk => World.putObj_heap_other hk
          have hb5 : Below w.heap.size w V := HF.out.2.2.1.trans (hO.below (Nat.le_of_lt hlt) fun i hi => by omega)
          have hb6 : Below w.heap.size w (V.putObj D (.deferred none)) := hb5.trans ⟨rfl, rfl, rfl, by simp [World.putObj], fun k hk => hp k (fun e => by have := hsz; omega)⟩
          refine ⟨.agg #[.slice (some ⟨g, 0, none⟩) rs.length rs.length, .int .i64 (sI rs)], ?_, _, rfl, .inr ⟨HG.out, g, rfl, ?_⟩, hb6⟩
          · refine results_cell_row rfl _ _ w.heap.size 55 _ (0, 0) _ rfl ((hp _ (fun e => hDw e.symm)).trans (by simpa using a1)) Try.underlying55 rfl (by kernel_rfl)
          · obtain ⟨hBg, cur, hc⟩ := row_block HF.out.1
            have hgw : ¬ g = w.heap.size := by have := HH.out.2.1; omega
            have hgD : ¬ g = D := fun e => by subst e; rw [hc] at *; have := HF.out.2.2.2; rw [hc] at this; cases this
            exact stands_own (row_kept HF.out.1 ((hp g hgD).trans (hO.block g (lt_of_heap hc) hgw))) (length_plc rs).symm
        case stop =>
          rintro D cc pre W hD hpre hno hK
          exact hno.elim
      | _ => exact h.elim
    go_region_with ((
        go_at_call 38
        refine (HIN.out _ (by repeat (first | exact HB1.out | refine below_drw ?_ | refine Below.alloc ?_ (by have := HWS.out; simp; omega) _))).mono ?_
        rintro e W2 ⟨rfl, hb⟩
        have HB2 := hide hb
        obtain ⟨n0, n1, n2, n3⟩ := (newBox_new W2).facts
        obtain ⟨m0, m1, m2, m3⟩ := (NewBox.new2 W2 (.cells M 82)).facts
        obtain ⟨k0, k1, k2, k3⟩ := ((newBox_new W2).alloc (.cells M 82)).facts
        first
          | (have z := (newBox_new W1).drew.below hb; have HZ := hide z; obtain ⟨z0, z1, z2, z3⟩ := z.facts; obtain ⟨y0, y1, y2, y3⟩ := (z.alloc (.cells M 82)).facts; clear z)
          | (have z := ((newBox_new W1).alloc (.cells M 82)).drew.below hb; have HZ := hide z; obtain ⟨z0, z1, z2, z3⟩ := z.facts; clear z)
          | (have z := (NewBox.new2 W1 (.cells M 82)).drew.below hb; have HZ := hide z; obtain ⟨z0, z1, z2, z3⟩ := z.facts; clear z)
          | skip
        clear hb))
    all_goals
      have hb := HB2.out
      have hmo := HMO.out W1.heap.size
      have hrb : MB0 w W1.heap.size W1 := ⟨HB1b.out, HB1.out, HLT.out.2, Nat.le_refl _⟩
      have hrr : MB1 w W1.heap.size W1.heap.size rs.length (W1.alloc (.cells M 82)) := ⟨hrb.alloc _, hmo W1 (Nat.le_refl _)⟩
      have hbx := newBox_new W1
      first
        | (have h := made_lay (hrr.drew.below hb); exact ⟨_, _, _, _, _, _, _, _, rfl, h.1, h.2.1, h.2.2⟩)
        | (have h := made_set ((hrr.alloc _).drew.below hb) ((NewBox.new2 W1 (.cells M 82)).drew.below hb) (Nat.le_succ _); exact ⟨_, _, _, _, _, _, _, _, rfl, h.1, h.2.1, h.2.2⟩)
        | (have h2 := hrb.drew.below hb; have h := made_lay1 ⟨h2.alloc _, hmo W2 h2.2.2.2⟩; exact ⟨_, _, _, _, _, _, _, _, rfl, h.1, h.2.1, h.2.2⟩)
        | (have h2 := hrb.drew.below hb; have h := made_row (rs := rs) h2 hmo; exact ⟨_, _, _, _, _, _, _, _, rfl, h.1, h.2.1, h.2.2⟩)
        | (have h3 := hmo (W1.alloc (.cells #[.slice none 0 0, .int .i64 0] 55)) (by simp); rw [World.size_alloc] at h3; have h2 : MB1 w W1.heap.size (W1.heap.size + 1) rs.length _ := ⟨(hrb.alloc _).alloc _, h3⟩; have h := made_set (h2.drew.below hb) ((hbx.alloc (.cells M 82)).drew.below hb) (Nat.le_refl _); exact ⟨_, _, _, _, _, _, _, _, rfl, h.1, h.2.1, h.2.2⟩)
        | (have h2 := (hrb.alloc _).drew.below hb; have h := made_set ⟨h2.alloc _, hmo W2 h2.2.2.2⟩ ((hbx.drew.below hb).alloc (.cells M 82)) (Nat.le_refl _); exact ⟨_, _, _, _, _, _, _, _, rfl, h.1, h.2.1, h.2.2⟩)

end Go.Proofs.Ytecmiphmefbpnaa.E
