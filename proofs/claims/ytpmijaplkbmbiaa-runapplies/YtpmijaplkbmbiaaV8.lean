/- doing: an edit of a buffer, walked. -/
import Derived.Test.YtpmijaplkbmbiaaV7
import Derived.Test.YtpmijaplkbmbiaaX9
namespace Go.Proofs.Ytpmijaplkbmbiaa.E
open Go.Proofs.Ytpmijaplkbmbiaa Go.RowKit Go.By Go.Shelf
set_option linter.unusedVariables false
set_option linter.unusedSimpArgs false
attribute [local go_sem] Oper.semAt_some

def FN (f g : Nat) : Value := .func (.func f) #[.pointer (some ⟨g, 0, none⟩)] #[]

/-- The boxes of doing. -/
def DB (H g : Nat) (gone : Int) (ob : Nat) (v : Value) (W : World) : Prop :=
  W.heap[H]? = some (.cells #[FN 29 g] 38 (0, 0)) ∧ W.heap[H + 1]? = some (.cells #[FN 30 g] 39 (0, 0)) ∧ W.heap[H + 1 + 1]? = some (.cells #[.int .i64 0] 26 (0, 0)) ∧ W.heap[H + 1 + 1 + 1]? = some (.cells #[.int .i64 gone] 3 (0, 0)) ∧ W.heap[ob]? = some (.cells #[v] 77 (0, 0))
theorem db_kept {H g : Nat} {gone : Int} {ob : Nat} {v : Value} {X Y : World} (h : DB H g gone ob v X) (hk : ∀ (k : Nat) (c : Array Value) (t : TypeId) (fz : Nat × Nat), t = 38 ∨ t = 39 ∨ t = 26 ∨ t = 3 ∨ t = 77 → X.heap[k]? = some (.cells c t fz) → Y.heap[k]? = some (.cells c t fz)) : DB H g gone ob v Y :=
  ⟨hk _ _ _ _ (by simp) h.1, hk _ _ _ _ (by simp) h.2.1, hk _ _ _ _ (by simp) h.2.2.1, hk _ _ _ _ (by simp) h.2.2.2.1, hk _ _ _ _ (by simp) h.2.2.2.2⟩

/-- Between two rounds of the deletions. -/
def D1 (w : World) (B g N H ob : Nat) (v : Value) (s : List UInt8) (rs : List Rn) (pre : List Pl) (W : World) : Prop :=
  (BT B g (N + 3 * pre.length) (T1 s (rs.take pre.length)) W ∧ DB H g (tD (expand (rs.take pre.length)) : Int) ob v W) ∧ Below B w W
theorem d1_own (w : World) (B g N H ob : Nat) (v : Value) (s : List UInt8) (rs : List Rn) (B' : Nat) (hB : B ≤ w.heap.size) (hB' : B ≤ B') : OwnT 146 B' (D1 w B g N H ob v s rs) :=
  OwnT.and (ownT_of fun pre X Y h hk => ⟨bt_kept h.1 fun k c t fz ht hx => hk k c t fz (by rcases ht with rfl | rfl <;> decide) hx, db_kept h.2 fun k c t fz ht hx => hk k c t fz (by rcases ht with rfl | rfl | rfl | rfl | rfl <;> decide) hx⟩) (ownT_below hB hB')

/-- A block of the outer loop. -/
theorem dfr_own (D : Nat) {β : Type} {B' : Nat} (h : D < B') : OwnT 146 B' (fun (_ : β) W => W.heap[D]? = some (.deferred (some []))) :=
  ⟨fun _ X Y row hx hg hr => by
    obtain ⟨_, _, _, _, hblk⟩ := hg
    exact (hblk D (lt_of_heap hx) (by first | exact fun e => absurd (hr D e).1 (by omega) | exact fun e => absurd (hr D e.symm).1 (by omega))).trans hx,
   fun _ X Y hx hw => hw.keeps hx (fun _ e => by cases e)⟩

/-- Between two rounds of the insertions. -/
def D2 (w : World) (B g N H ob : Nat) (v : Value) (gone : Int) (D : Nat) (s : List UInt8) (rs : List Rn) (pre : List Pl) (W : World) : Prop :=
  ((BT B g (N + 3 * pre.length) (T2 s (rs.take pre.length) (rs.drop pre.length)) W ∧ DB H g gone ob v W) ∧ W.heap[D]? = some (.deferred (some []))) ∧ Below B w W
theorem d2_own (w : World) (B g N H ob : Nat) (v : Value) (gone : Int) (D : Nat) (s : List UInt8) (rs : List Rn) (B' : Nat) (hB : B ≤ w.heap.size) (hB' : B ≤ B') (hD : D < B') : OwnT 146 B' (D2 w B g N H ob v gone D s rs) :=
  OwnT.and (OwnT.and (ownT_of fun pre X Y h hk => ⟨bt_kept h.1 fun k c t fz ht hx => hk k c t fz (by rcases ht with rfl | rfl <;> decide) hx, db_kept h.2 fun k c t fz ht hx => hk k c t fz (by rcases ht with rfl | rfl | rfl | rfl | rfl <;> decide) hx⟩) (dfr_own D hD)) (ownT_below hB hB')

/-- The way out. -/
theorem end2 {w W : World} {B g N ob D E : Nat} {gone : Int} {v : Value} {t : List UInt8} (hbt : BT B g N t W) (hdb : DB w.heap.size g gone ob v W) (hB : Below B w W) (hBw : B ≤ w.heap.size)
    (hd : W.heap[D]? = some (.deferred (some []))) (he : W.heap[E]? = some (.deferred (some []))) (hD : w.heap.size ≤ D) (hE : w.heap.size ≤ E) (hne : D ≠ E) :
    (W.setCell ⟨w.heap.size + 1 + 1, 0, none⟩ (.int .i64 0)).heap[E]? = some (.deferred (some [])) ∧
    ((W.setCell ⟨w.heap.size + 1 + 1, 0, none⟩ (.int .i64 0)).putObj E (.deferred none)).heap[D]? = some (.deferred (some [])) ∧
    (((W.setCell ⟨w.heap.size + 1 + 1, 0, none⟩ (.int .i64 0)).putObj E (.deferred none)).putObj D (.deferred none)).cell? ⟨w.heap.size + 1 + 1, 0, none⟩ = some (.int .i64 0) ∧
    BT B g N t (((W.setCell ⟨w.heap.size + 1 + 1, 0, none⟩ (.int .i64 0)).putObj E (.deferred none)).putObj D (.deferred none)) ∧
    Below B w (((W.setCell ⟨w.heap.size + 1 + 1, 0, none⟩ (.int .i64 0)).putObj E (.deferred none)).putObj D (.deferred none)) := by
  have h2 := hdb.2.2.1
  have nD : D ≠ w.heap.size + 1 + 1 := fun e => by rw [e, h2] at hd; cases hd
  have nE : E ≠ w.heap.size + 1 + 1 := fun e => by rw [e, h2] at he; cases he
  have he5 : (W.setCell ⟨w.heap.size + 1 + 1, 0, none⟩ (.int .i64 0)).heap[E]? = some (.deferred (some [])) := (heap_setCell_ne _ nE).trans he
  have hd5 : (W.setCell ⟨w.heap.size + 1 + 1, 0, none⟩ (.int .i64 0)).heap[D]? = some (.deferred (some [])) := (heap_setCell_ne _ nD).trans hd
  have hd6 : ((W.setCell ⟨w.heap.size + 1 + 1, 0, none⟩ (.int .i64 0)).putObj E (.deferred none)).heap[D]? = some (.deferred (some [])) := (World.putObj_heap_other (fun e => by first | exact hne e | exact hne e.symm)).trans hd5
  have hk : ∀ (k : Nat) (c : Array Value) (t : TypeId) (fz : Nat × Nat), (W.setCell ⟨w.heap.size + 1 + 1, 0, none⟩ (.int .i64 0)).heap[k]? = some (.cells c t fz) → (((W.setCell ⟨w.heap.size + 1 + 1, 0, none⟩ (.int .i64 0)).putObj E (.deferred none)).putObj D (.deferred none)).heap[k]? = some (.cells c t fz) := fun k c t fz hx =>
    (World.putObj_heap_other (fun e => by first | (rw [e, hx] at hd5; cases hd5) | (rw [← e, hx] at hd5; cases hd5))).trans ((World.putObj_heap_other (fun e => by first | (rw [e, hx] at he5; cases he5) | (rw [← e, hx] at he5; cases he5))).trans hx)
  have h25 := heap_setCell (i := 0) h2 (.int .i64 0)
  refine ⟨he5, hd6, ?_, ?_, ?_⟩
  · have := hk _ _ _ _ h25
    rw [Joins.cell_of_block this]; rfl
  · refine bt_kept hbt fun k c t fz ht hx => hk k c t fz ?_
    rw [heap_setCell_ne _ (fun e => by rw [e, h2] at hx; cases hx; rcases ht with h | h <;> exact absurd h (by decide))]; exact hx
  · exact ((hB.setCell (p := ⟨w.heap.size + 1 + 1, 0, none⟩) (show B ≤ w.heap.size + 1 + 1 by omega) (.int .i64 0)).trans (belowK_b (w := w) hBw _ E _ _ hE he5 rfl rfl)).trans (belowK_b (w := w) hBw _ D _ _ hD hd6 rfl rfl)

def DA (a : Option Addr) (n cap g H ob : Nat) (x : Pl) (q1 q2 : Nat) : Act := { tmps := #[FN 29 g, FN 30 g, .pointer (some ⟨ob, 0, none⟩), .pointer (some ⟨H, 0, none⟩), .pointer (some ⟨H + 1, 0, none⟩), .pointer (some ⟨H + 1 + 1, 0, none⟩), .pointer (some ⟨H + 1 + 1 + 1, 0, none⟩), .pointer (some ⟨q1, 0, none⟩), .pointer (some ⟨q2, 0, none⟩), undef, undef, undef, undef, .slice a n cap, .func (.func 137) #[] #[.pointer (some ⟨H + 1 + 1 + 1 + 1, 0, none⟩)], .agg #[.int .i64 x.1, .int .i64 x.2.1], .agg #[.int .i64 x.2.2.keep, .string x.2.2.add, .int .i64 x.2.2.drop], undef, undef, undef, undef, undef, undef, undef, undef, undef, undef, undef, undef, undef, undef, undef, undef, undef, undef, undef, undef, undef, undef, undef, undef, undef, undef, undef, undef], defers := [] }
def DAx (a : Option Addr) (n cap g H ob : Nat) (x : Pl) (a' : Act) (W : World) : Prop := ∃ q1 q2, a' = DA a n cap g H ob x q1 q2 ∧ W.heap[q1]? = some (.cells #[.int .i64 x.1, .int .i64 x.2.1] 146 (0, 0)) ∧ W.heap[q2]? = some (.cells #[.int .i64 x.2.2.keep, .string x.2.2.add, .int .i64 x.2.2.drop] 91 (0, 0))
theorem dax_own (a : Option Addr) (n cap g H ob : Nat) (x : Pl) (a' : Act) : Own (fun (_ : Unit) W => DAx a n cap g H ob x a' W) := fun _ X Y row h hg hrow => by
  obtain ⟨q1, q2, e, h1, h2⟩ := h
  exact ⟨q1, q2, e, cells_keep h1 hg hrow, cells_keep h2 hg hrow⟩

def DA2 (a : Option Addr) (n cap g H ob M : Nat) (x : Pl) (q1 q2 : Nat) : Act := { tmps := #[FN 29 g, FN 30 g, .pointer (some ⟨ob, 0, none⟩), .pointer (some ⟨H, 0, none⟩), .pointer (some ⟨H + 1, 0, none⟩), .pointer (some ⟨H + 1 + 1, 0, none⟩), .pointer (some ⟨H + 1 + 1 + 1, 0, none⟩), undef, undef, undef, .pointer (some ⟨q1, 0, none⟩), .pointer (some ⟨q2, 0, none⟩), undef, .slice a n cap, .func (.func 137) #[] #[.pointer (some ⟨H + 1 + 1 + 1 + 1, 0, none⟩)], undef, undef, undef, undef, undef, undef, undef, undef, undef, undef, undef, undef, undef, undef, undef, undef, undef, .slice a n cap, .func (.func 137) #[] #[.pointer (some ⟨M, 0, none⟩)], .agg #[.int .i64 x.1, .int .i64 x.2.1], .agg #[.int .i64 x.2.2.keep, .string x.2.2.add, .int .i64 x.2.2.drop], undef, undef, undef, undef, undef, undef, undef, undef, undef], defers := [] }
def DAx2 (a : Option Addr) (n cap g H ob M : Nat) (x : Pl) (a' : Act) (W : World) : Prop := ∃ q1 q2, a' = DA2 a n cap g H ob M x q1 q2 ∧ W.heap[q1]? = some (.cells #[.int .i64 x.1, .int .i64 x.2.1] 146 (0, 0)) ∧ W.heap[q2]? = some (.cells #[.int .i64 x.2.2.keep, .string x.2.2.add, .int .i64 x.2.2.drop] 91 (0, 0))
theorem dax2_own (a : Option Addr) (n cap g H ob M : Nat) (x : Pl) (a' : Act) : Own (fun (_ : Unit) W => DAx2 a n cap g H ob M x a' W) := fun _ X Y row h hg hrow => by
  obtain ⟨q1, q2, e, h1, h2⟩ := h
  exact ⟨q1, q2, e, cells_keep h1 hg hrow, cells_keep h2 hg hrow⟩
theorem plus_ge {a b c : Nat} (h : a ≤ b) : a ≤ b + c := by omega

set_option maxRecDepth 100000 in
set_option maxHeartbeats 8000000 in
theorem doing1_any (B g N ob : Nat) (a : Option Addr) (cap : Nat) (rs : List Rn) (s : List UInt8) (w : World) (hB : B ≤ w.heap.size) (hS : CameR B w a rs) (hob : w.cell? ⟨ob, 0, none⟩ = some (.slice a rs.length cap)) (hobl : ob < w.heap.size) (hobB : w.heap[ob]? = some (.cells #[.slice a rs.length cap] 77 (0, 0)))
    (hK : ∀ x ∈ rs, kind x ≠ 0) (hin : tIn (expand rs) = s.length) (hsz : s.length ≤ 16777216) (hou : tOut (expand rs) ≤ 16777216) (hb : BT B g N s w) (hl : rs.length ≤ 100000) (hN : N ≤ 100000) :
    Calls Try.prog 139 #[FN 29 g, FN 30 g, .pointer (some ⟨ob, 0, none⟩)] w fun e W' => e = .returned (.int .i64 0) ∧ BT B g 900000 (applT s (expand rs)) W' ∧ Below B w W' := by
  have h1 : 1 ≤ 3 := by omega
  have hro : Fence.wide.round = none := rfl
  have h139 : Fence.wide.fn 139 := trivial
  have h110 : Fence.wide.fn 110 := trivial
  have h29 : Fence.wide.fn 29 := trivial
  have h30 : Fence.wide.fn 30 := trivial
  have h137 : Fence.wide.fn 137 := trivial
  refine (callsIn_wide (n := 3)).1 ?_
  refine callsIn_of_wp_marks Try.func139 rfl h139 ?_ hro
  simp only [Try.ntmps139, List.size_toArray, List.length_cons, List.length_nil, Nat.reduceAdd, Nat.reduceSub, Array.replicate_succ, Array.replicate_zero, List.push_toArray, List.append_toArray, List.nil_append, List.cons_append]
  have HS := hide hS
  have HKI := hide hK
  have HBT := hide hb
  have HOB := hide hobB
  have HNUM := hide (And.intro hin (And.intro hsz (And.intro hou (And.intro hl (And.intro hN hB)))))
  have HOL := hide hobl
  have hob2 := (((((Below.refl w.heap.size w).alloc (Nat.le_refl _) (.cells #[FN 29 g] 38)).alloc (by simp) (.cells #[FN 30 g] 39)).alloc (by simp; omega) (.cells #[.int .i64 0] 26)).alloc (by simp; omega) (.cells #[.int .i64 0] 3)).cell (p := ⟨ob, 0, none⟩) hobl |>.trans hob
  clear hS hK hb hobB hin hsz hou hl hN hB hob hobl
  unfold FN at hob2 ⊢
  gi_wp2_with (gi_at_call 110; refine (steps_any (3 - 1) _ _ _ _).mono ?_; rintro e w' ⟨rfl, rfl⟩)
  obtain ⟨W0, hW0⟩ : ∃ W0, W0 = (((((w.alloc (.cells #[FN 29 g] 38)).alloc (.cells #[FN 30 g] 39)).alloc (.cells #[.int .i64 0] 26)).alloc (.cells #[.int .i64 0] 3)).alloc (.cells #[.slice a rs.length cap] 77)) := ⟨_, rfl⟩
  have hW0' := hW0
  unfold FN at hW0'
  rw [← hW0']
  clear hW0'
  have hsz0 : W0.heap.size = w.heap.size + 5 := by rw [hW0]; simp
  have n0 := World.alloc_heap_new w (.cells #[FN 29 g] 38)
  have n1 := World.alloc_heap_new (w.alloc (.cells #[FN 29 g] 38)) (.cells #[FN 30 g] 39)
  have n2 := World.alloc_heap_new ((w.alloc (.cells #[FN 29 g] 38)).alloc (.cells #[FN 30 g] 39)) (.cells #[.int .i64 0] 26)
  have n3 := World.alloc_heap_new (((w.alloc (.cells #[FN 29 g] 38)).alloc (.cells #[FN 30 g] 39)).alloc (.cells #[.int .i64 0] 26)) (.cells #[.int .i64 0] 3)
  have n4 := World.alloc_heap_new ((((w.alloc (.cells #[FN 29 g] 38)).alloc (.cells #[FN 30 g] 39)).alloc (.cells #[.int .i64 0] 26)).alloc (.cells #[.int .i64 0] 3)) (.cells #[.slice a rs.length cap] 77)
  simp only [World.size_alloc] at n1 n2 n3 n4
  have up : ∀ (X : World) (o o' : Obj) (k : Nat), X.heap[k]? = some o → (X.alloc o').heap[k]? = some o := fun X o o' k h => (Below.heap_alloc X o' k (lt_of_heap h)).trans h
  have hdb : DB w.heap.size g 0 ob (.slice a rs.length cap) W0 := by
    rw [hW0]
    exact ⟨up _ _ _ _ (up _ _ _ _ (up _ _ _ _ (up _ _ _ _ n0))), up _ _ _ _ (up _ _ _ _ (up _ _ _ _ n1)), up _ _ _ _ (up _ _ _ _ n2), up _ _ _ _ n3, up _ _ _ _ (up _ _ _ _ (up _ _ _ _ (up _ _ _ _ (up _ _ _ _ HOB.out))))⟩
  have hbn : Boxed W0 (w.heap.size + 1 + 1 + 1 + 1) 77 (.slice a rs.length cap) := by rw [hW0]; exact n4
  have hB0 : Below w.heap.size w W0 := by
    rw [hW0]
    exact (((((Below.refl _ w).alloc (Nat.le_refl _) _).alloc (by simp) _).alloc (by simp; omega) _).alloc (by simp; omega) _).alloc (by simp; omega) _
  have hBw := HNUM.out.2.2.2.2.2
  have hbt0 : BT B g (N + 3 * ([] : List Pl).length) (T1 s (rs.take ([] : List Pl).length)) W0 := by
    have h := bt_kept HBT.out (Y := W0) fun k c t fz _ hx => (hB0.block k (lt_of_heap hx)).trans hx
    simpa [T1_nil] using h
  clear hW0 n0 n1 n2 n3 n4 up hob2
  obtain ⟨e1, e2⟩ := sums_tok HKI.out
  have hBW0 : Below B w W0 := hB0.mono hBw
  have hstops := steps_stops (3 - 1) (by omega) (w.heap.size + 1 + 1 + 1 + 1) B W0.heap.size a cap rs W0 HKI.out (by rw [e1]; have := HNUM.out; omega) (by rw [e2]; have := HNUM.out; omega) (by omega) (Nat.le_trans hBw hBW0.size) (Nat.le_refl _) hbn.cell (HS.out.below hBW0) (by have := HNUM.out; omega)
  have HBW0 := hide hBW0
  have HB0 := hide hB0
  have HSZ0 := hide hsz0
  have HI0 : Hid (D1 w B g N w.heap.size ob (.slice a rs.length cap) s rs [] W0) := hide ⟨⟨hbt0, by simpa [expand, tD] using hdb⟩, hBW0⟩
  clear hbn hB0 hbt0 hdb e1 e2 hBW0 hsz0 hBw
  refine rangeFunc_box h1 (gf := 137) (lb := #[.pointer (some ⟨w.heap.size + 1 + 1 + 1 + 1, 0, none⟩)]) rfl (enters_of Try.func137 (by kernel_rfl) rfl) hstops KeepP.trans (KeepP.put (Nat.le_trans HNUM.out.2.2.2.2.2 HBW0.out.size)) (Below.refl _ _) (fun _ => rfl)
    (D1 w B g N w.heap.size ob (.slice a rs.length cap) s rs) (fun _ _ _ => False) (d1_own w B g N _ _ _ s rs _ HNUM.out.2.2.2.2.2 (Nat.le_trans HNUM.out.2.2.2.2.2 HBW0.out.size)) (fun c => ownT_pure _ _) HI0.out
    (DAx a rs.length cap g w.heap.size ob) (fun x a' => Own.from (dax_own a rs.length cap g _ _ x a') _) ?assign ?body ?done ?stop
  case assign =>
    rintro l pre ⟨i, o, xk, xa, xd⟩ W K hI hK
    have hal : Below W.heap.size W ((W.alloc (.cells #[.int .i64 i, .int .i64 o] 146)).alloc (.cells #[.int .i64 xk, .string xa, .int .i64 xd] 91)) := ((Below.refl _ _).alloc (Nat.le_refl _) _).alloc (by simp) _
    have hI2 := (d1_own w B g N w.heap.size ob _ s rs W.heap.size HNUM.out.2.2.2.2.2 (Nat.le_trans HNUM.out.2.2.2.2.2 hI.2.size)).minds (Nat.le_refl _) _ _ _ hI (.inl hal)
    have HZ := hide (hK (DA a rs.length cap g w.heap.size ob (i, o, ⟨xk, xa, xd⟩) W.heap.size (W.heap.size + 1)) _ (KeepsFrom.of_below hal) (KeepP.of_below (Nat.le_trans HNUM.out.2.2.2.2.2 hI.2.size) hal) hI2
      ⟨_, _, rfl, (Below.heap_alloc _ _ _ (by simp)).trans (World.alloc_heap_new W _), by have := World.alloc_heap_new (W.alloc (.cells #[.int .i64 i, .int .i64 o] 146)) (.cells #[.int .i64 xk, .string xa, .int .i64 xd] 91); rwa [World.size_alloc] at this⟩)
    clear hK hal hI2 hI
    unfold encP
    dsimp only
    unfold DA FN at HZ
    gi_wp2
    exact HZ.out
  case body =>
    rintro l pre x a' W hl0 hI ⟨q1, q2, rfl, hq1, hq2⟩ hpre
    obtain ⟨hk, hx, _⟩ := plc_at hpre
    have hkx : kind (rs.getD pre.length rn0) ≠ 0 := HKI.out _ (by simp [List.getD, hk])
    have hsn : rs.take (pre.length + 1) = rs.take pre.length ++ [rs.getD pre.length rn0] := by rw [List.take_succ_eq_append_getElem hk]; simp [List.getD, hk]
    have tk := sums_tok (rs := rs.take pre.length) fun y hy => HKI.out y (List.mem_of_mem_take hy)
    have tle := take_le (R := rs) (pre.length + 1)
    have tle0 := take_le (R := rs) pre.length
    have hnum := HNUM.out
    have hst := T1_step (s := s) (p := rs.take pre.length) hkx (by rw [← hsn]; omega)
    have hkl := kp_len s (expand (rs.take pre.length)) 0 (by omega)
    have hkl2 : tD (expand (rs.take (pre.length + 1))) ≤ 16777216 := by have := kp_len s (expand (rs.take (pre.length + 1))) 0 (by omega); omega
    have htd : tD (expand (rs.take (pre.length + 1))) = tD (expand (rs.take pre.length)) + (rs.getD pre.length rn0).drop.toNat := by
      rw [hsn, expand_snoc, tD_append, toks_all hkx, tD_append, tD_append, tD_K, tD_A, tD_D]; omega
    rw [← hsn] at hst
    rw [tk.1, tk.2] at hx
    subst hx
    obtain ⟨kf1, kf2, _, _⟩ := kind_facts hkx
    generalize hxx : rs.getD pre.length rn0 = x at *
    obtain ⟨xk, xa, xd⟩ := x
    replace kf2 : 0 ≤ xd := kf2
    obtain ⟨dN, rfl⟩ := Int.eq_ofNat_of_zero_le kf2
    obtain ⟨iN, hiN⟩ : ∃ iN, iN = tIn (expand (rs.take pre.length)) := ⟨_, rfl⟩
    obtain ⟨oN, hoN⟩ : ∃ oN, oN = tOut (expand (rs.take pre.length)) := ⟨_, rfl⟩
    obtain ⟨L, hL⟩ : ∃ L, L = (kp s (expand (rs.take pre.length)) 0).length := ⟨_, rfl⟩
    obtain ⟨gN, hgN⟩ : ∃ gN, gN = tD (expand (rs.take pre.length)) := ⟨_, rfl⟩
    rw [← hiN] at hq1 hpre hkl tle0 ⊢
    rw [← hoN] at hq1 hpre ⊢
    rw [← hL] at hkl hst
    rw [← hgN] at htd hkl
    replace hst : T1 s (rs.take (pre.length + 1)) = (T1 s (rs.take pre.length)).take L ++ (T1 s (rs.take pre.length)).drop (L + dN) ∧ L + dN ≤ (T1 s (rs.take pre.length)).length := hst
    replace htd : tD (expand (rs.take (pre.length + 1))) = gN + dN := htd
    have hWs := Nat.le_trans HNUM.out.2.2.2.2.2 hI.2.size
    have hdel := delete_bt (at_ := L) (d := dN) (by omega : B ≤ W.heap.size) hI.1.1 (by omega) hst.2
    rw [← hst.1] at hdel
    have HDB := hide hI.1.2
    have c3 : W.cell? ⟨w.heap.size, 0, none⟩ = some (FN 29 g) := by rw [Joins.cell_of_block hI.1.2.1]; rfl
    have c6 : W.cell? ⟨w.heap.size + 1 + 1 + 1, 0, none⟩ = some (.int .i64 (gN : Int)) := by rw [Joins.cell_of_block hI.1.2.2.2.2.1, hgN]; rfl
    obtain ⟨p0, p1⟩ := cellsp hq1
    obtain ⟨r0, r1, r2⟩ := cellsq hq2
    have w1 : IntKind.i64.wrap ((iN : Int) - (gN : Int)) = (L : Int) := by rw [IntKind.wrap_i64]; omega
    have w2 : IntKind.i64.wrap ((gN : Int) + (dN : Int)) = (gN : Int) + (dN : Int) := by rw [IntKind.wrap_i64]; omega
    have HBI := hide hI.2
    have HGN := hide hgN
    have HTD := hide htd
    have HQ2 := hide hq2
    have hfin : ∀ W2, BT B g (N + 3 * pre.length + 3) (T1 s (rs.take (pre.length + 1))) W2 → BKeeps B W W2 → (W2.heap[q2]? = some (.cells #[.int .i64 xk, .string xa, .int .i64 (dN : Int)] 91 (0, 0)) ∧ W2.heap[w.heap.size + 1 + 1 + 1]? = some (.cells #[.int .i64 (gN : Int)] 3 (0, 0))) ∧
        (KeepsFrom W0.heap.size W (W2.setCell ⟨w.heap.size + 1 + 1 + 1, 0, none⟩ (.int .i64 ((gN : Int) + (dN : Int)))) ∧ KeepP B W0.heap.size W (W2.setCell ⟨w.heap.size + 1 + 1 + 1, 0, none⟩ (.int .i64 ((gN : Int) + (dN : Int)))) ∧
          D1 w B g N w.heap.size ob (.slice a rs.length cap) s rs (pre ++ [((iN : Int), (oN : Int), ⟨xk, xa, (dN : Int)⟩)]) (W2.setCell ⟨w.heap.size + 1 + 1 + 1, 0, none⟩ (.int .i64 ((gN : Int) + (dN : Int))))) := fun W2 hb2 hk2 => by
      have hdb := HDB.out
      have hg3 : W.heap[w.heap.size + 1 + 1 + 1]? = some (.cells #[.int .i64 (gN : Int)] 3 (0, 0)) := by rw [HGN.out]; exact hdb.2.2.2.1
      have hW2 := hk2.2 _ _ hg3 (fun c t fz e => by cases e; exact ⟨by decide, by decide⟩)
      have hsetk : ∀ (k : Nat) (o : Obj), W.heap[k]? = some o → (∀ c t fz, o = .cells c t fz → t ≠ 51 ∧ t ≠ 9) → k ≠ w.heap.size + 1 + 1 + 1 → (W2.setCell ⟨w.heap.size + 1 + 1 + 1, 0, none⟩ (.int .i64 ((gN : Int) + (dN : Int)))).heap[k]? = some o := fun k o hk ho hne => by
        rw [heap_setCell_ne _ hne]; exact hk2.2 k o hk ho
      have hne3 : ∀ (k : Nat) (o : Obj), W.heap[k]? = some o → (∀ c fz, o ≠ .cells c 3 fz) → k ≠ w.heap.size + 1 + 1 + 1 := fun k o hk ho e => by
        rw [e, hg3] at hk; cases hk; exact ho _ _ rfl
      have hbl := hk2.1.setCell (p := ⟨w.heap.size + 1 + 1 + 1, 0, none⟩) (show B ≤ w.heap.size + 1 + 1 + 1 by have := HNUM.out; omega) (.int .i64 ((gN : Int) + (dN : Int)))
      refine ⟨⟨hk2.2 _ _ HQ2.out (fun c t fz e => by cases e; exact ⟨by decide, by decide⟩), hW2⟩, ⟨hbl.size, fun k o _ hk hc => hsetk k o hk (fun c t fz e => by subst e; cases hc) (hne3 k o hk (fun c fz e => by subst e; cases hc))⟩,
        ⟨hbl, fun k cs hk => hsetk k _ hk (fun c t fz e => by cases e; exact ⟨by decide, by decide⟩) (hne3 k _ hk (fun c fz e => by cases e)), fun k cs _ hk => hsetk k _ hk (fun c t fz e => by cases e; exact ⟨by decide, by decide⟩) (hne3 k _ hk (fun c fz e => by cases e))⟩, ⟨?_, ?_⟩, HBI.out.trans hbl⟩
      · rw [List.length_append]
        have h := bt_kept hb2 (Y := W2.setCell ⟨w.heap.size + 1 + 1 + 1, 0, none⟩ (.int .i64 ((gN : Int) + (dN : Int)))) fun k c t fz ht hx => by
          rw [heap_setCell_ne _ (fun e => by rw [e, hW2] at hx; cases hx; rcases ht with h | h <;> exact absurd h (by decide))]; exact hx
        have e3 : N + 3 * pre.length + 3 = N + 3 * (pre.length + [((iN : Int), (oN : Int), (⟨xk, xa, (dN : Int)⟩ : Rn))].length) := by simp; omega
        rw [e3] at h
        exact h
      · rw [List.length_append]
        refine ⟨hsetk _ _ hdb.1 (fun c t fz e => by cases e; exact ⟨by decide, by decide⟩) (by omega), hsetk _ _ hdb.2.1 (fun c t fz e => by cases e; exact ⟨by decide, by decide⟩) (by omega), hsetk _ _ hdb.2.2.1 (fun c t fz e => by cases e; exact ⟨by decide, by decide⟩) (by omega), ?_, hsetk _ _ hdb.2.2.2.2 (fun c t fz e => by cases e; exact ⟨by decide, by decide⟩) (hne3 _ _ hdb.2.2.2.2 (fun c fz e => by cases e))⟩
        have := heap_setCell (i := 0) hW2 (.int .i64 ((gN : Int) + (dN : Int)))
        show _ = some (Obj.cells #[.int .i64 (tD (expand (rs.take (pre.length + 1))) : Int)] 3 (0, 0))
        rw [HTD.out, Int.natCast_add]
        simpa using this
    have HFIN := hide hfin
    unfold FN at c3
    clear hI hq1 hq2 hpre hkx hsn tk tle tle0 hnum hst hkl hkl2 htd hxx hiN hoN hL hgN hWs hfin kf1 kf2 hk
    unfold DA FN
    dsimp only
    gi_wp2_with (gi_at_call 29; refine (CallsIn.inRound l (callsIn_wide.2 hdel)).mono ?_; rintro e W2 ⟨rfl, hb2, hk2⟩; obtain ⟨⟨y1, y2⟩, y3⟩ := HFIN.out W2 hb2 hk2; obtain ⟨u0, u1, u2⟩ := cellsq y1; have u3 := Boxed.cell y2; have u4 := Boxed.frozen y2; have HY := hide y3; clear hb2 hk2 hdel y1 y2 y3)
    exact HY.out
  case done =>
    rintro D ys W hD rfl hI hK
    obtain ⟨⟨hbt, hdb⟩, hB⟩ := hI
    rw [length_plc, List.take_length] at hbt hdb
    have hnum := HNUM.out
    rw [T1_all hnum.1] at hbt
    obtain ⟨M, hM⟩ : ∃ M, M = W.heap.size := ⟨_, rfl⟩
    have c2 : W.cell? ⟨ob, 0, none⟩ = some (.slice a rs.length cap) := by rw [Joins.cell_of_block hdb.2.2.2.2]; rfl
    have HBTW := hide hbt
    have HDBW := hide hdb
    have HBB := hide hB
    have HKD := hide hK
    have HDL := hide hD
    clear hbt hdb hB hK hnum hD
    gi_wp2_with (gi_at_call 110; refine (steps_any (3 - 1) _ _ _ _).mono ?_; rintro e w' ⟨rfl, rfl⟩)
    obtain ⟨X0, hX0⟩ : ∃ X0, X0 = W.alloc (.cells #[.slice a rs.length cap] 77) := ⟨_, rfl⟩
    rw [← hX0]
    have hal : Below W.heap.size W X0 := by rw [hX0]; exact (Below.refl _ W).alloc (Nat.le_refl _) _
    have hbn : Boxed X0 M 77 (.slice a rs.length cap) := by rw [hX0, hM]; exact World.alloc_heap_new _ _
    have hszX : X0.heap.size = W.heap.size + 1 := by rw [hX0]; simp
    clear hX0
    have hnum := HNUM.out
    have hBW := Nat.le_trans hnum.2.2.2.2.2 HBB.out.size
    have hBX : Below B w X0 := HBB.out.trans (hal.mono hBW)
    have hup : ∀ (k : Nat) (o : Obj), W.heap[k]? = some o → X0.heap[k]? = some o := fun k o h => (hal.block k (lt_of_heap h)).trans h
    obtain ⟨e1, e2⟩ := sums_tok HKI.out
    have hstops2 := steps_stops (3 - 1) (by omega) M B X0.heap.size a cap rs X0 HKI.out (by rw [e1]; omega) (by rw [e2]; omega) (by omega) (Nat.le_trans hBW (by omega)) (Nat.le_refl _) hbn.cell (HS.out.below hBX) (by omega)
    have hlD : D < W.heap.size := lt_of_heap HKD.out
    have HI2 : Hid (D2 w B g (N + 3 * rs.length) w.heap.size ob (.slice a rs.length cap) (tD (expand rs) : Int) D s rs [] X0) := hide ⟨⟨⟨bt_kept HBTW.out fun k c t fz _ hx => hup _ _ hx, db_kept HDBW.out fun k c t fz _ hx => hup _ _ hx⟩, hup _ _ HKD.out⟩, hBX⟩
    have HBX := hide hBX
    have hBX2 : B ≤ X0.heap.size := Nat.le_trans hBW (by omega)
    have HBX2 := hide hBX2
    have HDX : Hid (D < X0.heap.size) := hide (by omega)
    clear hal hbn hszX hBW hBX hup e1 e2 hlD hnum hBX2
    subst hM
    refine rangeFunc_box h1 (gf := 137) (lb := #[.pointer (some ⟨W.heap.size, 0, none⟩)]) rfl (enters_of Try.func137 (by kernel_rfl) rfl) hstops2 KeepP.trans (KeepP.put HBX2.out) (Below.refl _ _) (fun _ => rfl)
      (D2 w B g (N + 3 * rs.length) w.heap.size ob (.slice a rs.length cap) (tD (expand rs) : Int) D s rs) (fun _ _ _ => False) (d2_own w B g _ _ _ _ _ D s rs _ HNUM.out.2.2.2.2.2 HBX2.out HDX.out) (fun c => ownT_pure _ _) HI2.out
      (DAx2 a rs.length cap g w.heap.size ob W.heap.size) (fun x a' => Own.from (dax2_own a rs.length cap g _ _ _ x a') _) ?assign2 ?body2 ?done2 ?stop2
    case assign2 =>
      rintro l pre ⟨i, o, xk, xa, xd⟩ V K hI hK
      have hal : Below V.heap.size V ((V.alloc (.cells #[.int .i64 i, .int .i64 o] 146)).alloc (.cells #[.int .i64 xk, .string xa, .int .i64 xd] 91)) := ((Below.refl _ _).alloc (Nat.le_refl _) _).alloc (by simp) _
      have hBV := Nat.le_trans HNUM.out.2.2.2.2.2 hI.2.size
      have hI2 := (d2_own w B g (N + 3 * rs.length) w.heap.size ob _ _ D s rs V.heap.size HNUM.out.2.2.2.2.2 hBV (lt_of_heap hI.1.2)).minds (Nat.le_refl _) _ _ _ hI (.inl hal)
      have HZ := hide (hK (DA2 a rs.length cap g w.heap.size ob W.heap.size (i, o, ⟨xk, xa, xd⟩) V.heap.size (V.heap.size + 1)) _ (KeepsFrom.of_below hal) (KeepP.of_below hBV hal) hI2
        ⟨_, _, rfl, (Below.heap_alloc _ _ _ (by simp)).trans (World.alloc_heap_new V _), by have := World.alloc_heap_new (V.alloc (.cells #[.int .i64 i, .int .i64 o] 146)) (.cells #[.int .i64 xk, .string xa, .int .i64 xd] 91); rwa [World.size_alloc] at this⟩)
      clear hK hal hI2 hI hBV
      unfold encP
      dsimp only
      unfold DA2 FN at HZ
      gi_wp2
      exact HZ.out
    case body2 =>
      rintro l pre x a' V hl0 hI ⟨q1, q2, rfl, hq1, hq2⟩ hpre
      obtain ⟨hk, hx, _⟩ := plc_at hpre
      have hkx : kind (rs.getD pre.length rn0) ≠ 0 := HKI.out _ (by simp [List.getD, hk])
      have hsn : rs.take (pre.length + 1) = rs.take pre.length ++ [rs.getD pre.length rn0] := by rw [List.take_succ_eq_append_getElem hk]; simp [List.getD, hk]
      have hdr : rs.drop pre.length = rs.getD pre.length rn0 :: rs.drop (pre.length + 1) := by rw [List.drop_eq_getElem_cons hk]; simp [List.getD, hk]
      have tk := sums_tok (rs := rs.take pre.length) fun y hy => HKI.out y (List.mem_of_mem_take hy)
      have hnum := HNUM.out
      have hall : tIn (expand (rs.take pre.length)) + tIn (expand (rs.drop pre.length)) = tIn (expand rs) ∧ tOut (expand (rs.take pre.length)) + tOut (expand (rs.drop pre.length)) = tOut (expand rs) := by
        have e := congrArg expand (List.take_append_drop pre.length rs)
        rw [expand_append] at e
        rw [← tIn_append, ← tOut_append, e]
        exact ⟨rfl, rfl⟩
      have hst := T2_step (s := s) (p := rs.take pre.length) (q := rs.drop (pre.length + 1)) hkx (by rw [← hdr]; omega)
      rw [← hsn, ← hdr] at hst
      rw [tk.1, tk.2] at hx
      subst hx
      generalize hxx : rs.getD pre.length rn0 = x at *
      obtain ⟨xk, xa, xd⟩ := x
      obtain ⟨iN, hiN⟩ : ∃ iN, iN = tIn (expand (rs.take pre.length)) := ⟨_, rfl⟩
      obtain ⟨oN, hoN⟩ : ∃ oN, oN = tOut (expand (rs.take pre.length)) := ⟨_, rfl⟩
      rw [← hiN] at hq1 hpre ⊢
      rw [← hoN] at hq1 hpre hst hall ⊢
      replace hst : T2 s (rs.take (pre.length + 1)) (rs.drop (pre.length + 1)) = (T2 s (rs.take pre.length) (rs.drop pre.length)).take oN ++ (xa.data.toList ++ (T2 s (rs.take pre.length) (rs.drop pre.length)).drop oN) ∧ oN ≤ (T2 s (rs.take pre.length) (rs.drop pre.length)).length ∧ (T2 s (rs.take pre.length) (rs.drop pre.length)).length + xa.size ≤ oN + tOut (expand (rs.drop pre.length)) := hst
      have hWs := Nat.le_trans HNUM.out.2.2.2.2.2 hI.2.size
      have hins := insert_bt (at_ := oN) (s := xa) (by omega : B ≤ V.heap.size) hI.1.1.1 (by omega) hst.2.1 (by omega)
      rw [← hst.1] at hins
      have HDB := hide hI.1.1.2
      have HDD := hide hI.1.2
      have c4 : V.cell? ⟨w.heap.size + 1, 0, none⟩ = some (FN 30 g) := by rw [Joins.cell_of_block hI.1.1.2.2.1]; rfl
      obtain ⟨p0, p1⟩ := cellsp hq1
      obtain ⟨r0, r1, r2⟩ := cellsq hq2
      have HBI := hide hI.2
      have hfin : ∀ W2, BT B g (N + 3 * rs.length + 3 * pre.length + 3) (T2 s (rs.take (pre.length + 1)) (rs.drop (pre.length + 1))) W2 → BKeeps B V W2 →
          KeepsFrom X0.heap.size V W2 ∧ KeepP B X0.heap.size V W2 ∧ D2 w B g (N + 3 * rs.length) w.heap.size ob (.slice a rs.length cap) (tD (expand rs) : Int) D s rs (pre ++ [((iN : Int), (oN : Int), ⟨xk, xa, xd⟩)]) W2 := fun W2 hb2 hk2 => by
        refine ⟨⟨hk2.1.size, fun k o _ hk hc => hk2.2 k o hk (fun c t fz e => by subst e; cases hc)⟩,
          ⟨hk2.1, fun k cs hk => hk2.2 k _ hk (fun c t fz e => by cases e; exact ⟨by decide, by decide⟩), fun k cs _ hk => hk2.2 k _ hk (fun c t fz e => by cases e; exact ⟨by decide, by decide⟩)⟩, ⟨⟨?_, ?_⟩, hk2.2 D _ HDD.out (fun c t fz e => by cases e)⟩, HBI.out.trans hk2.1⟩
        · rw [List.length_append]
          have e3 : N + 3 * rs.length + 3 * pre.length + 3 = N + 3 * rs.length + 3 * (pre.length + [((iN : Int), (oN : Int), (⟨xk, xa, xd⟩ : Rn))].length) := by simp; omega
          rw [e3] at hb2
          exact hb2
        · exact db_kept HDB.out fun k c t fz ht hx => hk2.2 k _ hx (fun c' t' fz' e => by cases e; rcases ht with rfl | rfl | rfl | rfl | rfl <;> exact ⟨by decide, by decide⟩)
      have HFIN := hide hfin
      unfold FN at c4
      clear hI hq1 hq2 hpre hkx hsn hdr tk hnum hall hst hxx hiN hoN hWs hfin hk
      unfold DA2 FN
      dsimp only
      gi_wp2_with (gi_at_call 30; refine (CallsIn.inRound l (callsIn_wide.2 hins)).mono ?_; rintro e W2 ⟨rfl, hb2, hk2⟩; have HY := hide (HFIN.out W2 hb2 hk2); clear hb2 hk2 hins)
      exact HY.out
    case done2 =>
      rintro E ys V hE rfl hI hK2
      obtain ⟨⟨⟨hbt, hdb⟩, hdd⟩, hB⟩ := hI
      rw [length_plc, List.take_length, List.drop_length, T2_all] at hbt
      have hBW := HBB.out.size
      have hnum := HNUM.out
      have HBT2 : Hid (BT B g 900000 (applT s (expand rs)) V) := hide (by obtain ⟨sv, lent, ps, x1, x2, x3⟩ := hbt; exact ⟨sv, lent, ps, x1, x2, by omega⟩)
      have hout := end2 HBT2.out hdb hB hnum.2.2.2.2.2 hdd hK2 (Nat.le_trans HB0.out.size HDL.out) (by have := HBX.out.size; omega) (by have := HDX.out; omega)
      have HO := hide hout
      have cR : V.heap[w.heap.size + 1 + 1]? = some (.cells #[.int .i64 0] 26 (0, 0)) := hdb.2.2.1
      have hRc := Boxed.cell cR
      have hRf := Boxed.frozen cR
      clear hout hbt hdb hdd hB hBW hnum hK2 cR
      gi_wp2
      obtain ⟨o1, o2, o3, o4, o5⟩ := HO.out
      refine ⟨by simp, .inl ⟨_, _, rfl, run_takeDeferred o1, ?_⟩⟩
      refine ⟨by simp, .inl ⟨_, _, rfl, run_takeDeferred o2, ?_⟩⟩
      refine ⟨.int .i64 0, ?_, rfl, o4, o5⟩
      simp [results, Try.f139, go_sem, o3]
    case stop2 =>
      rintro E cc pre V hE hpre hno hK2
      exact hno.elim
  case stop =>
    rintro D cc pre W hD hpre hno hK
    exact hno.elim

end Go.Proofs.Ytpmijaplkbmbiaa.E
