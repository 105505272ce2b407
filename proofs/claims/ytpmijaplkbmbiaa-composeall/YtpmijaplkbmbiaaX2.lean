/- Runs, measured: the parts. And more of the same. -/
import Derived.Test.YtpmijaplkbmbiaaX1
/- Runs, measured: the parts. -/
namespace Go.Proofs.Ytpmijaplkbmbiaa.E
open Go.Proofs.Ytpmijaplkbmbiaa Go.RowKit Go.By Go.Shelf
set_option linter.unusedVariables false
attribute [local go_sem] Oper.semAt_some

set_option maxHeartbeats 1000000 in
theorem each_any (n : Nat) (a : Option Addr) (m cap : Nat) (w : World) :
    CallsIn Fence.wide n Try.prog 102 #[.slice a m cap] w fun e w' => e = .returned (.func (.func 132) #[] #[.pointer (some ⟨w.heap.size, 0, none⟩)]) ∧ w' = w.alloc (.cells #[.slice a m cap] 77) := by
  refine callsIn_of_wp Try.func102 rfl trivial ?_ rfl
  simp only [Try.ntmps102, List.size_toArray, List.length_cons, List.length_nil, Nat.reduceAdd, Nat.reduceSub, Array.replicate_succ, Array.replicate_zero, List.push_toArray, List.append_toArray, List.nil_append, List.cons_append]
  gi_wp2
  go_ret
  exact ⟨rfl, rfl⟩

def encR (x : Rn) : Array Value := #[.int .i64 (kind x : Int), .agg #[.int .i64 x.keep, .string x.add, .int .i64 x.drop]]

theorem runs_stops (n : Nat) (hn : 1 ≤ n) (Bn n₀ : Nat) (a : Option Addr) (cap : Nat) (rs : List Rn) (w : World) (hBn : Bn < w.heap.size) (hn₀ : n₀ ≤ w.heap.size)
    (hc : w.cell? ⟨Bn, 0, none⟩ = some (.slice a rs.length cap)) (hS : CameR n₀ w a rs) (hlen : rs.length ≤ 1000000) :
    SeqStopsK Fence.wide n Try.prog 132 #[.pointer (some ⟨Bn, 0, none⟩)] encR (Below n₀) (fun zs => zs = rs) (fun pre => pre <+: rs) rs.length w := fun l J Jx W hW hJ _ hY h0 =>
  runs1 n hn l Bn n₀ W.heap.size a cap rs J Jx hJ hY W (Nat.le_trans hn₀ hW.size) ((hW.cell (p := ⟨Bn, 0, none⟩) hBn).trans hc) (hS.below (hW.mono hn₀)) hlen h0

/-- How many bytes they are of, how many they make, and the last one's kind. -/
abbrev Ms := Int × Int × Nat
def mbad (s : Ms) (x : Rn) : Prop := kind x = 0 ∨ kind x = s.2.2 ∨ (kind x = 2 ∧ s.2.2 = 3) ∨ ¬ (max x.keep x.drop ≤ 16777216 - s.1 ∧ max x.keep (x.add.size : Int) ≤ 16777216 - s.2.1)
instance (s : Ms) (x : Rn) : Decidable (mbad s x) := by unfold mbad; infer_instance
def mnext (s : Ms) (x : Rn) : Ms := (s.1 + (x.keep + x.drop), s.2.1 + (x.keep + (x.add.size : Int)), kind x)
def mstep (s : Option Ms) (x : Rn) : Option Ms := s.bind fun s => if mbad s x then none else some (mnext s x)
def mscan (rs : List Rn) : Option Ms := rs.foldl mstep (some (0, 0, 0))

theorem mscan_snoc (pre : List Rn) (x : Rn) : mscan (pre ++ [x]) = mstep (mscan pre) x := by simp [mscan]
theorem mscan_bad {pre : List Rn} {x : Rn} {s : Ms} (h : mscan pre = some s) (hb : mbad s x) : mscan (pre ++ [x]) = none := by rw [mscan_snoc, h]; simp [mstep, hb]
theorem mscan_good {pre : List Rn} {x : Rn} {s : Ms} (h : mscan pre = some s) (hb : ¬ mbad s x) : mscan (pre ++ [x]) = some (mnext s x) := by rw [mscan_snoc, h]; simp [mstep, hb]
theorem foldl_mstep_none (rs : List Rn) : rs.foldl mstep none = none := by induction rs with
  | nil => rfl
  | cons x rs ih => exact ih
theorem mscan_none {pre rs : List Rn} (h : pre <+: rs) (hn : mscan pre = none) : mscan rs = none := by
  obtain ⟨t, rfl⟩ := h
  unfold mscan at hn ⊢
  rw [List.foldl_append, hn, foldl_mstep_none]

theorem loop_len (bs : ByteArray) (k : Nat) : ∀ (i : Nat) (r : List UInt8), bs.size - i = k → (ByteArray.toList.loop bs i r).length = r.length + k := by
  induction k with
  | zero => intro i r h; rw [ByteArray.toList.loop.eq_1, if_neg (by omega)]; simp
  | succ k ih => intro i r h; rw [ByteArray.toList.loop.eq_1, if_pos (by omega), ih (i + 1) _ (by omega)]; simp; omega
theorem len_toList (bs : ByteArray) : bs.toList.length = bs.size := by rw [ByteArray.toList, loop_len bs bs.size 0 [] (by omega)]; simp

theorem kind_le (x : Rn) : kind x ≤ 3 := by unfold kind; repeat' split
                                            all_goals omega
theorem kind_facts {x : Rn} (h : kind x ≠ 0) : 0 ≤ x.keep ∧ 0 ≤ x.drop ∧ max x.keep x.drop = x.keep + x.drop ∧ max x.keep (x.add.size : Int) = x.keep + (x.add.size : Int) := by
  have hz : x.add.toList = [] → x.add.size = 0 := fun h => by rw [← len_toList x.add, h]; rfl
  revert h
  unfold kind
  repeat' split
  all_goals intro h
  all_goals first
    | (rename_i h1; obtain ⟨p, q, r⟩ := h1; first
        | (have := hz q; omega)
        | omega)
    | exact absurd rfl h

theorem mnext_bounds {s : Ms} {x : Rn} (hi : 0 ≤ s.1 ∧ s.1 ≤ 16777216) (ho : 0 ≤ s.2.1 ∧ s.2.1 ≤ 16777216) (hb : ¬ mbad s x) :
    (0 ≤ (mnext s x).1 ∧ (mnext s x).1 ≤ 16777216) ∧ (0 ≤ (mnext s x).2.1 ∧ (mnext s x).2.1 ≤ 16777216) ∧ (mnext s x).2.2 ≤ 3 := by
  unfold mbad at hb
  have hk : kind x ≠ 0 := fun h => hb (.inl h)
  obtain ⟨h1, h2, h3, h4⟩ := kind_facts hk
  have hf : max x.keep x.drop ≤ 16777216 - s.1 ∧ max x.keep (x.add.size : Int) ≤ 16777216 - s.2.1 := Decidable.byContradiction fun h => hb (.inr (.inr (.inr h)))
  have := kind_le x
  unfold mnext
  dsimp only
  omega

/-- The variables of measure. -/
structure MB (W : World) (H : Nat) (s : Ms) : Prop where
  b2 : W.heap[H]? = some (.cells #[.int .i64 0, .int .i64 0] 125 (0, 0))
  b3 : Boxed W (H + 1) 4 (.bool false)
  b4 : W.heap[H + 1 + 1]? = some (.cells #[.int .i64 s.1, .int .i64 s.2.1] 125 (0, 0))
  b5 : Boxed W (H + 1 + 1 + 1) 3 (.int .i64 (s.2.2 : Int))

theorem cells_keep {X Y : World} {row : Option Nat} {B : Nat} {cs : Array Value} {t : TypeId} {fr : Nat × Nat} (h : X.heap[B]? = some (.cells cs t fr)) (hg : X.grownBy Y row) (hrow : ∀ r, row = some r → ∃ o : Obj, X.heap[r]? = some o ∧ o.isCells = false) : Y.heap[B]? = some (.cells cs t fr) :=
  (hg.block B (lt_of_heap h) fun e => by obtain ⟨o, ho, hc⟩ := hrow B e.symm; rw [h] at ho; cases ho; cases hc).trans h

theorem mb_own {β : Type} (H : Nat) (s : β → Ms) : Own (fun b W => MB W H (s b)) := fun b X Y row h hg hrow =>
  ⟨cells_keep h.b2 hg hrow, cells_keep h.b3 hg hrow, cells_keep h.b4 hg hrow, cells_keep h.b5 hg hrow⟩

theorem MB.below {W W' : World} {H : Nat} {s : Ms} (h : MB W H s) (hb : Below W.heap.size W W') : MB W' H s :=
  mb_own H (fun _ : Unit => s) () W W' none h (grown_of_below hb) (fun r e => by cases e)

end Go.Proofs.Ytpmijaplkbmbiaa.E

/- Runs, measured. -/
namespace Go.Proofs.Ytpmijaplkbmbiaa.E
open Go.Proofs.Ytpmijaplkbmbiaa Go.RowKit Go.By Go.Shelf
set_option linter.unusedVariables false
attribute [local go_sem] Oper.semAt_some

/-- What measure tells. -/
def meas (rs : List Rn) : Option Ms := if rs.length ≤ 65536 then mscan rs else none
def measV : Option Ms → Value
  | none => .tuple #[.agg #[.int .i64 0, .int .i64 0], .bool false]
  | some s => .tuple #[.agg #[.int .i64 s.1, .int .i64 s.2.1], .bool true]

theorem KeepsFrom.of_below {B : Nat} {W W' : World} (h : Below W.heap.size W W') : KeepsFrom B W W' := ⟨h.size, fun k o _ hk _ => (h.block k (lt_of_heap hk)).trans hk⟩

/-- The two results. -/
structure RB (W : World) (H : Nat) (x y v : Value) : Prop where
  b2 : W.heap[H]? = some (.cells #[x, y] 125 (0, 0))
  b3 : Boxed W (H + 1) 4 v

theorem rb_own {β : Type} (H : Nat) (x y v : Value) : Own (fun (_ : β) W => RB W H x y v) := fun b X Y row h hg hrow => ⟨cells_keep h.b2 hg hrow, cells_keep h.b3 hg hrow⟩

theorem RB.put {W : World} {H : Nat} {x y v : Value} (h : RB W H x y v) (x' y' v' : Value) : RB (((W.setCell ⟨H, 0, none⟩ x').setCell ⟨H, 1, none⟩ y').setCell ⟨H + 1, 0, none⟩ v') H x' y' v' := by
  have a1 := heap_setCell (i := 0) h.b2 x'
  have a2 := heap_setCell (i := 1) a1 y'
  refine ⟨?_, ?_⟩
  · rw [heap_setCell_ne _ (by omega)]; simpa using a2
  · have c1 : ((W.setCell ⟨H, 0, none⟩ x').setCell ⟨H, 1, none⟩ y').heap[H + 1]? = some (.cells #[v] 4 (0, 0)) := by
      rw [heap_setCell_ne _ (by omega), heap_setCell_ne _ (by omega)]; exact h.b3
    have c2 := heap_setCell (i := 0) c1 v'
    show _ = _
    simpa using c2

theorem RB.cells {W : World} {H : Nat} {x y v : Value} (h : RB W H x y v) : W.cell? ⟨H, 0, none⟩ = some x ∧ W.cell? ⟨H, 1, none⟩ = some y ∧ W.cell? ⟨H + 1, 0, none⟩ = some v ∧ W.frozen? ⟨H, 0, none⟩ = false ∧ W.frozen? ⟨H, 1, none⟩ = false ∧ W.frozen? ⟨H + 1, 0, none⟩ = false := by
  refine ⟨?_, ?_, h.b3.cell, ?_, ?_, h.b3.frozen⟩
  · rw [Joins.cell_of_block h.b2]; rfl
  · rw [Joins.cell_of_block h.b2]; rfl
  · simp [World.frozen?, h.b2]
  · simp [World.frozen?, h.b2]

/-- Where measure stands in a round. -/
def MA (a : Option Addr) (n cap H : Nat) (x : Rn) (q : Nat) : Act := { tmps := #[.slice a n cap, undef, .pointer (some ⟨H, 0, none⟩), .pointer (some ⟨H + 1, 0, none⟩), .pointer (some ⟨H + 1 + 1, 0, none⟩), .pointer (some ⟨H + 1 + 1 + 1, 0, none⟩), .int .i64 (kind x : Int), .pointer (some ⟨q, 0, none⟩), .slice a n cap, .int .i64 (n : Int), .bool false, undef, .slice a n cap, .func (.func 132) #[] #[.pointer (some ⟨H + 1 + 1 + 1 + 1, 0, none⟩)], .int .i64 (kind x : Int), .agg #[.int .i64 x.keep, .string x.add, .int .i64 x.drop], undef, undef, undef, undef, undef, undef, undef, undef, undef, undef, undef, undef, undef, undef, undef, undef, undef, undef, undef, undef, undef, undef, undef], defers := [] }
def MAx (a : Option Addr) (n cap H : Nat) (x : Rn) (a' : Act) (W : World) : Prop := ∃ q, a' = MA a n cap H x q ∧ W.heap[q]? = some (.cells #[.int .i64 x.keep, .string x.add, .int .i64 x.drop] 91 (0, 0))

theorem max_own (a : Option Addr) (n cap H : Nat) (x : Rn) (a' : Act) : Own (fun (_ : Unit) W => MAx a n cap H x a' W) := fun b X Y row h hg hrow => by
  obtain ⟨q, e, hq⟩ := h
  exact ⟨q, e, cells_keep hq hg hrow⟩

/-- What grow put. -/
def Grew (b : Nat) (x y : Int) (W W' : World) : Prop := W'.heap[b]? = some (.cells #[.int .i64 x, .int .i64 y] 125 (0, 0)) ∧ Only (fun k => k = b) W W'

def okM (rs : List Rn) : Prop := ∃ s, mscan rs = some s ∧ (0 ≤ s.1 ∧ s.1 ≤ 16777216) ∧ (0 ≤ s.2.1 ∧ s.2.1 ≤ 16777216) ∧ s.2.2 ≤ 3

set_option maxRecDepth 100000 in
set_option maxHeartbeats 4000000 in
theorem measure_any (a : Option Addr) (cap : Nat) (rs : List Rn) (w : World) (hS : CameR w.heap.size w a rs) (hl : rs.length ≤ 1000000) :
    Calls Try.prog 99 #[.slice a rs.length cap] w fun e W' => e = .returned (measV (meas rs)) ∧ Below w.heap.size w W' := by
  have h1 : 1 ≤ 3 := by omega
  have hro : Fence.wide.round = none := rfl
  have h99 : Fence.wide.fn 99 := trivial
  have h102 : Fence.wide.fn 102 := trivial
  have h103 : Fence.wide.fn 103 := trivial
  have h132 : Fence.wide.fn 132 := trivial
  refine (callsIn_wide (n := 3)).1 ?_
  refine callsIn_of_wp_marks Try.func99 rfl h99 ?_ hro
  simp only [Try.ntmps99, List.size_toArray, List.length_cons, List.length_nil, Nat.reduceAdd, Nat.reduceSub, Array.replicate_succ, Array.replicate_zero, List.push_toArray, List.append_toArray, List.nil_append, List.cons_append]
  by_cases hle : rs.length ≤ 65536
  · have hle' : ¬ (65536 : Int) < (rs.length : Int) := by omega
    gi_wp2_with (gi_at_call 102; refine (each_any (3 - 1) _ _ _ _).mono ?_; rintro e w' ⟨rfl, rfl⟩)
    obtain ⟨W0, hW0⟩ : ∃ W0, W0 = (((((w.alloc (.cells #[.int .i64 0, .int .i64 0] 125)).alloc (.cells #[.bool false] 4)).alloc (.cells #[.int .i64 0, .int .i64 0] 125)).alloc (.cells #[.int .i64 0] 3)).alloc (.cells #[.slice a rs.length cap] 77)) := ⟨_, rfl⟩
    have hsz : W0.heap.size = w.heap.size + 5 := by rw [hW0]; simp
    have n0 := World.alloc_heap_new w (.cells #[.int .i64 0, .int .i64 0] 125)
    have n1 := World.alloc_heap_new (w.alloc (.cells #[.int .i64 0, .int .i64 0] 125)) (.cells #[.bool false] 4)
    have n2 := World.alloc_heap_new ((w.alloc (.cells #[.int .i64 0, .int .i64 0] 125)).alloc (.cells #[.bool false] 4)) (.cells #[.int .i64 0, .int .i64 0] 125)
    have n3 := World.alloc_heap_new (((w.alloc (.cells #[.int .i64 0, .int .i64 0] 125)).alloc (.cells #[.bool false] 4)).alloc (.cells #[.int .i64 0, .int .i64 0] 125)) (.cells #[.int .i64 0] 3)
    have n4 := World.alloc_heap_new ((((w.alloc (.cells #[.int .i64 0, .int .i64 0] 125)).alloc (.cells #[.bool false] 4)).alloc (.cells #[.int .i64 0, .int .i64 0] 125)).alloc (.cells #[.int .i64 0] 3)) (.cells #[.slice a rs.length cap] 77)
    simp only [World.size_alloc] at n1 n2 n3 n4
    have up : ∀ (X : World) (o o' : Obj) (k : Nat), X.heap[k]? = some o → (X.alloc o').heap[k]? = some o := fun X o o' k h => (Below.heap_alloc X o' k (lt_of_heap h)).trans h
    have hmb : MB W0 w.heap.size (0, 0, 0) := by
      rw [hW0]
      exact ⟨up _ _ _ _ (up _ _ _ _ (up _ _ _ _ (up _ _ _ _ n0))), up _ _ _ _ (up _ _ _ _ (up _ _ _ _ n1)), up _ _ _ _ (up _ _ _ _ n2), up _ _ _ _ n3⟩
    have hbn : Boxed W0 (w.heap.size + 1 + 1 + 1 + 1) 77 (.slice a rs.length cap) := by rw [hW0]; exact n4
    have hB0 : Below w.heap.size w W0 := by
      rw [hW0]
      exact (((((Below.refl _ w).alloc (Nat.le_refl _) _).alloc (by simp) _).alloc (by simp; omega) _).alloc (by simp; omega) _).alloc (by simp; omega) _
    rw [← hW0]
    clear hW0 n0 n1 n2 n3 n4 up
    refine wpIn_rangeFunc_ownH hro h1 (gf := 132) (lb := #[.pointer (some ⟨w.heap.size + 1 + 1 + 1 + 1, 0, none⟩)]) rfl h132 (enters_of Try.func132 (by kernel_rfl) rfl)
      (runs_stops (3 - 1) (by omega) (w.heap.size + 1 + 1 + 1 + 1) w.heap.size a cap rs W0 (by omega) (by omega) hbn.cell (hS.below hB0) (by omega)) belowK_t (belowK_b (by omega)) (Below.refl _ _) (fun _ => rfl)
      (fun pre W => MB W w.heap.size ((mscan pre).getD (0, 0, 0)) ∧ okM pre ∧ Below w.heap.size w W)
      (fun cc pre W => RB W w.heap.size (.int .i64 0) (.int .i64 0) (.bool false) ∧ (cc = .ret ∧ mscan pre = none) ∧ Below w.heap.size w W)
      (OwnFrom.and (Own.from (mb_own w.heap.size (fun pre : List Rn => (mscan pre).getD (0, 0, 0))) _) (OwnFrom.and (ownFrom_pure _ _) (ownFrom_below (Nat.le_refl _) (by omega))))
      (fun cc => OwnFrom.and (Own.from (rb_own w.heap.size _ _ _) _) (OwnFrom.and (ownFrom_pure _ _) (ownFrom_below (Nat.le_refl _) (by omega))))
      ⟨hmb, ⟨_, rfl, by decide, by decide, by decide⟩, hB0⟩
      (MAx a rs.length cap w.heap.size) (fun x a' => Own.from (max_own a rs.length cap w.heap.size x a') _) ?assign ?body ?done ?stop
    case assign =>
      rintro l pre x W K ⟨hm, hok, hB⟩ hK
      have hal : Below W.heap.size W (W.alloc (.cells #[.int .i64 x.keep, .string x.add, .int .i64 x.drop] 91)) := (Below.refl _ _).alloc (Nat.le_refl _) _
      have HZ := hide (hK (MA a rs.length cap w.heap.size x W.heap.size) _ (KeepsFrom.of_below hal) (hal.mono hB.size) ⟨hm.below hal, hok, hB.trans (hal.mono hB.size)⟩ ⟨_, rfl, World.alloc_heap_new W _⟩)
      clear hm hok hB hK hal
      unfold encR
      gi_wp2
      exact HZ.out
    case body =>
      rintro l pre x a' W hl0 ⟨rr, hr⟩ ⟨hm, ⟨s, hs, hi, ho, hs3⟩, hB⟩ ⟨q, rfl, hq⟩ hlt
      rw [hs, Option.getD_some] at hm
      obtain ⟨i, o, h⟩ := s
      obtain ⟨xk, xa, xd⟩ := x
      replace hi : 0 ≤ i ∧ i ≤ 16777216 := hi
      replace ho : 0 ≤ o ∧ o ≤ 16777216 := ho
      replace hs3 : h ≤ 3 := hs3
      have c5 : W.cell? ⟨w.heap.size + 1 + 1 + 1, 0, none⟩ = some (.int .i64 (h : Int)) := hm.b5.cell
      have f5 := hm.b5.frozen
      have k0 : W.cell? ⟨q, 0, none⟩ = some (.int .i64 xk) := by rw [Joins.cell_of_block hq]; rfl
      have k1 : W.cell? ⟨q, 1, none⟩ = some (.string xa) := by rw [Joins.cell_of_block hq]; rfl
      have k2 : W.cell? ⟨q, 2, none⟩ = some (.int .i64 xd) := by rw [Joins.cell_of_block hq]; rfl
      obtain ⟨r0, r1, r2, g0, g1, g2⟩ := (RB.mk hm.b2 hm.b3).cells
      have hkf := @kind_facts ⟨xk, xa, xd⟩
      have hbadN : ∀ hb : mbad (i, o, h) ⟨xk, xa, xd⟩, mscan (pre ++ [⟨xk, xa, xd⟩]) = none := fun hb => mscan_bad hs hb
      have hgoodN : ∀ hb : ¬ mbad (i, o, h) ⟨xk, xa, xd⟩, mscan (pre ++ [⟨xk, xa, xd⟩]) = some (mnext (i, o, h) ⟨xk, xa, xd⟩) := fun hb => mscan_good hs hb
      unfold MA
      dsimp only
      obtain ⟨kx, hkx⟩ : ∃ kx, kx = kind ⟨xk, xa, xd⟩ := ⟨_, rfl⟩
      rw [← hkx]
      have HM := hide hm
      have HBB := hide hB
      have HKX := hide hkx
      have HBAD := hide hbadN
      have HGOOD := hide hgoodN
      have HKF := hide hkf
      have hZ : ∀ B W1, Below W.heap.size W W1 → mscan (pre ++ [⟨xk, xa, xd⟩]) = none → KeepsFrom B W (((W1.setCell ⟨w.heap.size, 0, none⟩ (.int .i64 0)).setCell ⟨w.heap.size, 1, none⟩ (.int .i64 0)).setCell ⟨w.heap.size + 1, 0, none⟩ (.bool false)) ∧ RB (((W1.setCell ⟨w.heap.size, 0, none⟩ (.int .i64 0)).setCell ⟨w.heap.size, 1, none⟩ (.int .i64 0)).setCell ⟨w.heap.size + 1, 0, none⟩ (.bool false)) w.heap.size (.int .i64 0) (.int .i64 0) (.bool false) ∧ Below w.heap.size w (((W1.setCell ⟨w.heap.size, 0, none⟩ (.int .i64 0)).setCell ⟨w.heap.size, 1, none⟩ (.int .i64 0)).setCell ⟨w.heap.size + 1, 0, none⟩ (.bool false)) := fun B W1 hb1 hno => by
        have hm1 := hm.below hb1
        refine ⟨(KeepsFrom.of_below hb1).trans ((((KeepsOthers.setCell _ _ _).trans (KeepsOthers.setCell _ _ _)).trans (KeepsOthers.setCell _ _ _)).from _), (RB.mk hm1.b2 hm1.b3).put _ _ _, ?_⟩
        exact (((hB.trans (hb1.mono hB.size)).setCell (p := ⟨w.heap.size, 0, none⟩) (Nat.le_refl _) _).setCell (p := ⟨w.heap.size, 1, none⟩) (Nat.le_refl _) _).setCell (p := ⟨w.heap.size + 1, 0, none⟩) (Nat.le_succ _) _
      have HZ := hide hZ
      clear hm hB hkx hbadN hgoodN hkf hs hq hr hlt hZ
      by_cases a0 : kx = 0
      · have HQ := hide (HBAD.out (.inl (by rw [← HKX.out]; exact a0)))
        subst a0
        gi_wp2
        exact ⟨(HZ.out _ W (Below.refl _ _) HQ.out).1, (HZ.out 0 W (Below.refl _ _) HQ.out).2.1, ⟨rfl, HQ.out⟩, (HZ.out 0 W (Below.refl _ _) HQ.out).2.2⟩
      have a0' : ((kx : Int) == 0) = false := by simp; omega
      by_cases a1 : kx = h
      · have HQ := hide (HBAD.out (.inr (.inl (by rw [← HKX.out]; exact a1))))
        subst a1
        gi_wp2
        exact ⟨(HZ.out _ W (Below.refl _ _) HQ.out).1, (HZ.out 0 W (Below.refl _ _) HQ.out).2.1, ⟨rfl, HQ.out⟩, (HZ.out 0 W (Below.refl _ _) HQ.out).2.2⟩
      have a1' : ((kx : Int) == (h : Int)) = false := by simp; omega
      by_cases a2 : kx = 2 ∧ h = 3
      · have HQ := hide (HBAD.out (.inr (.inr (.inl ⟨by rw [← HKX.out]; exact a2.1, a2.2⟩))))
        obtain ⟨rfl, rfl⟩ := a2
        gi_wp2
        exact ⟨(HZ.out _ W (Below.refl _ _) HQ.out).1, (HZ.out 0 W (Below.refl _ _) HQ.out).2.1, ⟨rfl, HQ.out⟩, (HZ.out 0 W (Below.refl _ _) HQ.out).2.2⟩
      have hk0 : kind ⟨xk, xa, xd⟩ ≠ 0 := by rw [← HKX.out]; exact a0
      obtain ⟨hxk, hxd, _, _⟩ := HKF.out hk0
      replace hxk : 0 ≤ xk := hxk
      replace hxd : 0 ≤ xd := hxd
      by_cases a3 : max xk xd ≤ 16777216 - i ∧ max xk (xa.size : Int) ≤ 16777216 - o
      · have hgd : ¬ mbad (i, o, h) ⟨xk, xa, xd⟩ := by
          rintro (hh | hh | hh | hh)
          · exact hk0 hh
          · exact a1 (HKX.out.trans hh)
          · exact a2 ⟨HKX.out.trans hh.1, hh.2⟩
          · exact hh a3
        have hgr : CallsIn Fence.wide (3 - 1 - 1 - 1) Try.prog 103 #[.pointer (some ⟨w.heap.size + 1 + 1, 0, none⟩), .agg #[.int .i64 xk, .string xa, .int .i64 xd]] W fun e W' => e = .returned (.bool true) ∧ Grew (w.heap.size + 1 + 1) (i + (xk + xd)) (o + (xk + (xa.size : Int))) W W' :=
          callsIn_wide.2 (grow_yes HM.out.b4 hi ho hxk hxd a3)
        have HQ := hide (HGOOD.out hgd)
        have HBD := hide (mnext_bounds (s := (i, o, h)) (x := ⟨xk, xa, xd⟩) hi ho hgd)
        have HG : ∀ W1, Grew (w.heap.size + 1 + 1) (i + (xk + xd)) (o + (xk + (xa.size : Int))) W W1 → W1.frozen? ⟨w.heap.size + 1 + 1 + 1, 0, none⟩ = false ∧ (∃ v, W1.cell? ⟨w.heap.size + 1 + 1 + 1, 0, none⟩ = some v) ∧
            (KeepsFrom W0.heap.size W (W1.setCell ⟨w.heap.size + 1 + 1 + 1, 0, none⟩ (.int .i64 (kx : Int))) ∧ Below w.heap.size W (W1.setCell ⟨w.heap.size + 1 + 1 + 1, 0, none⟩ (.int .i64 (kx : Int))) ∧
              MB (W1.setCell ⟨w.heap.size + 1 + 1 + 1, 0, none⟩ (.int .i64 (kx : Int))) w.heap.size ((mscan (pre ++ [⟨xk, xa, xd⟩])).getD (0, 0, 0)) ∧ okM (pre ++ [⟨xk, xa, xd⟩]) ∧ Below w.heap.size w (W1.setCell ⟨w.heap.size + 1 + 1 + 1, 0, none⟩ (.int .i64 (kx : Int)))) := fun W1 hG => by
          have hm := HM.out
          have l2 := lt_of_heap hm.b2
          have l3 := lt_of_heap hm.b3
          have l5 := lt_of_heap hm.b5
          have e5 := (hG.2.block _ l5 (by omega)).trans hm.b5
          have hbw : Below w.heap.size W W1 := hG.2.below HBB.out.size (fun i hi => by omega)
          have hbs : Below w.heap.size W (W1.setCell ⟨w.heap.size + 1 + 1 + 1, 0, none⟩ (.int .i64 (kx : Int))) := hbw.setCell (p := ⟨w.heap.size + 1 + 1 + 1, 0, none⟩) (by show w.heap.size ≤ w.heap.size + 1 + 1 + 1; omega) _
          refine ⟨Boxed.frozen e5, ⟨_, Boxed.cell e5⟩, ?_, hbs, ?_, ?_, HBB.out.trans hbs⟩
          · refine KeepsFrom.trans ⟨hG.2.size, fun k o _ hk hc => (hG.2.block k (lt_of_heap hk) (fun e => ?_)).trans hk⟩ ((KeepsOthers.setCell _ _ _).from _)
            rw [e, hm.b4] at hk; cases hk; cases hc
          · rw [HQ.out, Option.getD_some]
            refine ⟨?_, ?_, ?_, ?_⟩
            · rw [heap_setCell_ne _ (by omega), hG.2.block _ l2 (by omega)]; exact hm.b2
            · show _ = _
              rw [heap_setCell_ne _ (by omega), hG.2.block _ l3 (by omega)]; exact hm.b3
            · rw [heap_setCell_ne _ (by omega)]; exact hG.1
            · have := heap_setCell (i := 0) e5 (.int .i64 (kx : Int))
              rw [HKX.out] at this ⊢
              show _ = _
              simpa [mnext] using this
          · exact ⟨_, HQ.out, HBD.out⟩
        have HGG := hide HG
        clear HG hgd a3
        by_cases a4 : kx = 2
        · have a5 : ((h : Int) == 3) = false := by simp; omega
          subst a4
          have a6 : ((2 : Int) == (h : Int)) = false := by simp; omega
          clear a1'
          gi_wp2_with (gi_at_call 103; refine (CallsIn.inRound l hgr).mono ?_; rintro e W1 ⟨rfl, hG⟩; obtain ⟨z0, ⟨z1, z2⟩, z3⟩ := HGG.out W1 hG; have HZ3 := hide z3; clear z3 hG)
          exact HZ3.out
        · have a5 : ((kx : Int) == 2) = false := by simp; omega
          gi_wp2_with (gi_at_call 103; refine (CallsIn.inRound l hgr).mono ?_; rintro e W1 ⟨rfl, hG⟩; obtain ⟨z0, ⟨z1, z2⟩, z3⟩ := HGG.out W1 hG; have HZ3 := hide z3; clear z3 hG)
          exact HZ3.out
      · have HQ := hide (HBAD.out (.inr (.inr (.inr a3))))
        have hgr : CallsIn Fence.wide (3 - 1 - 1 - 1) Try.prog 103 #[.pointer (some ⟨w.heap.size + 1 + 1, 0, none⟩), .agg #[.int .i64 xk, .string xa, .int .i64 xd]] W fun e W' => e = .returned (.bool false) ∧ Below W.heap.size W W' :=
          callsIn_wide.2 (grow_no HM.out.b4 hi ho a3)
        clear a3
        by_cases a4 : kx = 2
        · have a5 : ((h : Int) == 3) = false := by simp; omega
          subst a4
          have a6 : ((2 : Int) == (h : Int)) = false := by simp; omega
          clear a1'
          gi_wp2_with (gi_at_call 103; refine (CallsIn.inRound l hgr).mono ?_; rintro e W1 ⟨rfl, hG⟩; obtain ⟨z0, z1, z2, y0, y1, y2⟩ := (RB.mk (HM.out.below hG).b2 (HM.out.below hG).b3).cells; have HZ3 := hide (HZ.out W0.heap.size W1 hG HQ.out); clear hG)
          exact ⟨HZ3.out.1, HZ3.out.2.1, ⟨rfl, HQ.out⟩, HZ3.out.2.2⟩
        · have a5 : ((kx : Int) == 2) = false := by simp; omega
          gi_wp2_with (gi_at_call 103; refine (CallsIn.inRound l hgr).mono ?_; rintro e W1 ⟨rfl, hG⟩; obtain ⟨z0, z1, z2, y0, y1, y2⟩ := (RB.mk (HM.out.below hG).b2 (HM.out.below hG).b3).cells; have HZ3 := hide (HZ.out W0.heap.size W1 hG HQ.out); clear hG)
          exact ⟨HZ3.out.1, HZ3.out.2.1, ⟨rfl, HQ.out⟩, HZ3.out.2.2⟩
    case done =>
      rintro D ys W hD rfl ⟨hm, ⟨s, hs, hi, ho, _⟩, hB⟩ hK
      rw [hs, Option.getD_some] at hm
      obtain ⟨i, o, h⟩ := s
      have v0 : W.cell? ⟨w.heap.size + 1 + 1, 0, none⟩ = some (.int .i64 i) := by rw [Joins.cell_of_block hm.b4]; rfl
      have v1 : W.cell? ⟨w.heap.size + 1 + 1, 1, none⟩ = some (.int .i64 o) := by rw [Joins.cell_of_block hm.b4]; rfl
      have hrb := RB.mk hm.b2 hm.b3
      obtain ⟨r0, r1, r2, g0, g1, g2⟩ := hrb.cells
      have hmv : meas ys = some (i, o, h) := by rw [meas, if_pos hle, hs]
      have HRB := hide (hrb.put (.int .i64 i) (.int .i64 o) (.bool true))
      have HK2 := hide ((((KeepsOthers.setCell W ⟨w.heap.size, 0, none⟩ (.int .i64 i)).trans (KeepsOthers.setCell _ ⟨w.heap.size, 1, none⟩ (.int .i64 o))).trans (KeepsOthers.setCell _ ⟨w.heap.size + 1, 0, none⟩ (.bool true))).same D _ hK rfl)
      have HB2 := hide (((hB.setCell (p := ⟨w.heap.size, 0, none⟩) (Nat.le_refl _) (.int .i64 i)).setCell (p := ⟨w.heap.size, 1, none⟩) (Nat.le_refl _) (.int .i64 o)).setCell (p := ⟨w.heap.size + 1, 0, none⟩) (Nat.le_succ _) (.bool true))
      have HMV := hide hmv
      clear hm hs hi ho hB hrb hmv hK
      gi_wp2
      refine ⟨by simp, .inl ⟨_, _, rfl, run_takeDeferred HK2.out, ?_⟩⟩
      obtain ⟨q0, q1, q2, _⟩ := (rb_own w.heap.size _ _ _ () _ _ _ HRB.out (grownBy_putObj' _ D (.deferred none)) (fun r e => by cases e; exact ⟨_, HK2.out, rfl⟩) : RB _ w.heap.size (.int .i64 i) (.int .i64 o) (.bool true)).cells
      refine ⟨measV (some (i, o, h)), ?_, by rw [HMV.out], HB2.out.trans (belowK_b (w := w) (Nat.le_refl _) _ D _ _ (by omega) HK2.out rfl rfl)⟩
      simp [measV, results, Try.f99, go_sem, q0, q1, q2]
    case stop =>
      rintro D cc pre W hD hpre ⟨hrb, ⟨rfl, hnone⟩, hB⟩ hK
      gi_wp2
      refine ⟨by simp, .inl ⟨_, _, rfl, run_takeDeferred hK, ?_⟩⟩
      have hgr := hrb
      obtain ⟨q0, q1, q2, _⟩ := (show RB (W.putObj D (.deferred none)) w.heap.size (.int .i64 0) (.int .i64 0) (.bool false) from rb_own w.heap.size _ _ _ () W _ _ hrb (grownBy_putObj' _ D (.deferred none)) (fun r e => by cases e; exact ⟨_, hK, rfl⟩)).cells
      refine ⟨measV none, ?_, by rw [meas, if_pos hle, mscan_none hpre hnone], hB.trans (belowK_b (w := w) (Nat.le_refl _) W D _ _ (by omega) hK rfl rfl)⟩
      simp [measV, results, Try.f99, go_sem, q0, q1, q2]
  · have hle' : (65536 : Int) < (rs.length : Int) := by omega
    gi_wp2
    have hm : meas rs = none := by rw [meas, if_neg hle]
    rw [hm]
    refine ⟨measV none, ?_, rfl, ((Below.refl _ w).alloc (Nat.le_refl _) _).alloc (by simp) _⟩
    simp [measV, results, Try.f99, go_sem]

end Go.Proofs.Ytpmijaplkbmbiaa.E

/- Good, In, Out. -/
namespace Go.Proofs.Ytpmijaplkbmbiaa.E
open Go.Proofs.Ytpmijaplkbmbiaa Go.RowKit Go.By Go.Shelf
set_option linter.unusedVariables false

def mIn : Option Ms → Int
  | none => 0
  | some s => s.1
def mOut : Option Ms → Int
  | none => 0
  | some s => s.2.1
theorem measV_eq (s : Option Ms) : measV s = .tuple #[.agg #[.int .i64 (mIn s), .int .i64 (mOut s)], .bool s.isSome] := by cases s <;> rfl

theorem measure_eq (a : Option Addr) (cap : Nat) (rs : List Rn) (w : World) (hS : CameR w.heap.size w a rs) (hl : rs.length ≤ 1000000) :
    Calls Try.prog 99 #[.slice a rs.length cap] w fun e W' => e = .returned (.tuple #[.agg #[.int .i64 (mIn (meas rs)), .int .i64 (mOut (meas rs))], .bool (meas rs).isSome]) ∧ Below w.heap.size w W' :=
  (measure_any a cap rs w hS hl).mono fun e W' h => ⟨by rw [h.1, measV_eq], h.2⟩

set_option maxRecDepth 20000 in
set_option maxHeartbeats 4000000 in
theorem good_any (a : Option Addr) (cap : Nat) (rs : List Rn) (w : World) (hS : CameR w.heap.size w a rs) (hl : rs.length ≤ 1000000) :
    Calls Try.prog 51 #[.slice a rs.length cap] w fun e W' => e = .returned (.bool (meas rs).isSome) ∧ Below w.heap.size w W' := by
  have hm := measure_eq a cap rs w hS hl
  go_enter Try.func51, Try.ntmps51
  go_wp2_with fail
  refine hm.mono ?_
  rintro e W' ⟨rfl, hb⟩
  have HB := hide hb
  clear hb
  go_wp2
  go_ret
  exact ⟨rfl, HB.out.alloc HB.out.size _⟩

set_option maxRecDepth 20000 in
set_option maxHeartbeats 4000000 in
theorem in_any (a : Option Addr) (cap : Nat) (rs : List Rn) (w : World) (hS : CameR w.heap.size w a rs) (hl : rs.length ≤ 1000000) :
    Calls Try.prog 53 #[.slice a rs.length cap] w fun e W' => e = .returned (.int .i64 (mIn (meas rs))) ∧ Below w.heap.size w W' := by
  have hm := measure_eq a cap rs w hS hl
  go_enter Try.func53, Try.ntmps53
  go_wp2_with fail
  refine hm.mono ?_
  rintro e W' ⟨rfl, hb⟩
  have HB := hide hb
  clear hb
  go_wp2
  go_ret
  exact ⟨rfl, HB.out.alloc HB.out.size _⟩

set_option maxRecDepth 20000 in
set_option maxHeartbeats 4000000 in
theorem out_any (a : Option Addr) (cap : Nat) (rs : List Rn) (w : World) (hS : CameR w.heap.size w a rs) (hl : rs.length ≤ 1000000) :
    Calls Try.prog 55 #[.slice a rs.length cap] w fun e W' => e = .returned (.int .i64 (mOut (meas rs))) ∧ Below w.heap.size w W' := by
  have hm := measure_eq a cap rs w hS hl
  go_enter Try.func55, Try.ntmps55
  go_wp2_with fail
  refine hm.mono ?_
  rintro e W' ⟨rfl, hb⟩
  have HB := hide hb
  clear hb
  go_wp2
  go_ret
  exact ⟨rfl, HB.out.alloc HB.out.size _⟩

end Go.Proofs.Ytpmijaplkbmbiaa.E

/- The reference's sums. -/
namespace Go.Proofs.Ytpmijaplkbmbiaa.E
open Go.Proofs.Ytpmijaplkbmbiaa Go.RowKit Go.By Go.Shelf
set_option linter.unusedVariables false

abbrev Ss := Int × Int
def sbad (s : Ss) (x : Rn) : Prop := ¬ (max x.keep x.drop ≤ 16777216 - s.1 ∧ max x.keep (x.add.size : Int) ≤ 16777216 - s.2)
instance (s : Ss) (x : Rn) : Decidable (sbad s x) := by unfold sbad; infer_instance
def snext (s : Ss) (x : Rn) : Ss := (s.1 + (x.keep + x.drop), s.2 + (x.keep + (x.add.size : Int)))
def sstep (s : Option Ss) (x : Rn) : Option Ss := s.bind fun s => if sbad s x then none else some (snext s x)
def sscan (rs : List Rn) : Option Ss := rs.foldl sstep (some (0, 0))
theorem sscan_snoc (pre : List Rn) (x : Rn) : sscan (pre ++ [x]) = sstep (sscan pre) x := by simp [sscan]
theorem sscan_bad {pre : List Rn} {x : Rn} {s : Ss} (h : sscan pre = some s) (hb : sbad s x) : sscan (pre ++ [x]) = none := by rw [sscan_snoc, h]; simp [sstep, hb]
theorem sscan_good {pre : List Rn} {x : Rn} {s : Ss} (h : sscan pre = some s) (hb : ¬ sbad s x) : sscan (pre ++ [x]) = some (snext s x) := by rw [sscan_snoc, h]; simp [sstep, hb]
theorem foldl_sstep_none (rs : List Rn) : rs.foldl sstep none = none := by induction rs with
  | nil => rfl
  | cons x rs ih => exact ih
theorem sscan_none {pre rs : List Rn} (h : pre <+: rs) (hn : sscan pre = none) : sscan rs = none := by
  obtain ⟨t, rfl⟩ := h
  unfold sscan at hn ⊢
  rw [List.foldl_append, hn, foldl_sstep_none]

def sumV : Option Ss → Value
  | none => .tuple #[.int .i64 0, .int .i64 0, .bool false]
  | some s => .tuple #[.int .i64 s.1, .int .i64 s.2, .bool true]

def SumAt (rs : List Rn) (i o : Int) (k : Nat) : Prop := sscan (rs.take k) = some (i, o) ∧ (0 ≤ i ∧ i ≤ 16777216) ∧ (0 ≤ o ∧ o ≤ 16777216)

set_option maxRecDepth 100000 in
set_option maxHeartbeats 8000000 in
theorem sums_any (a : Option Addr) (cap : Nat) (rs : List Rn) (w : World) (hS : CameR w.heap.size w a rs) (hl : rs.length ≤ 1000000) (hK : ∀ x ∈ rs, kind x ≠ 0) :
    Calls Try.prog 101 #[.slice a rs.length cap] w fun e W' => e = .returned (sumV (sscan rs)) ∧ Below w.heap.size w W' := by
  go_enter Try.func101, Try.ntmps101
  go_wp2
  go_loopw [5, 6, 7] (fun i o c wr => ∃ (k : Nat) (x y : Int), k ≤ rs.length ∧ i = .int .i64 x ∧ o = .int .i64 y ∧ c = .int .i64 k ∧ SumAt rs x y k ∧ Below w.heap.size w wr)
    (fun i o c _ => rs.length - (intOf c).toNat)
  case atStart => exact ⟨0, 0, 0, Nat.zero_le _, rfl, rfl, rfl, ⟨rfl, by decide, by decide⟩, Below.refl _ _⟩
  case round =>
    obtain ⟨k, i, o, hk, rfl, rfl, rfl, ⟨hs, hi, ho⟩, hnx⟩ := hrel
    by_cases hlt : k < rs.length
    · obtain ⟨b, off, rfl, hbl, hcell⟩ : ∃ b off, a = some ⟨b, off, none⟩ ∧ b < w.heap.size ∧ _ := by
        rcases hS.below hnx with rfl | h
        · simp at hlt
        · exact h
      obtain ⟨s0, s1, s2⟩ := hcell k hlt
      have hsn : rs.take (k + 1) = rs.take k ++ [rs.getD k rn0] := by rw [List.take_succ_eq_append_getElem hlt]; simp [List.getD, hlt]
      have hkd : kind (rs.getD k rn0) ≠ 0 := hK _ (by simp [List.getD, hlt])
      obtain ⟨x, hx⟩ : ∃ x, x = rs.getD k rn0 := ⟨_, rfl⟩
      rw [← hx] at s0 s1 s2 hsn hkd
      obtain ⟨xk, xa, xd⟩ := x
      replace s0 : wr.cell? ⟨b, off + k * 3, none⟩ = some (.int .i64 xk) := s0
      replace s1 : wr.cell? ⟨b, off + k * 3 + 1, none⟩ = some (.string xa) := s1
      replace s2 : wr.cell? ⟨b, off + k * 3 + 2, none⟩ = some (.int .i64 xd) := s2
      obtain ⟨hxk, hxd, hm1, hm2⟩ := kind_facts hkd
      replace hxk : 0 ≤ xk := hxk
      replace hxd : 0 ≤ xd := hxd
      replace hm1 : max xk xd = xk + xd := hm1
      replace hm2 : max xk (xa.size : Int) = xk + (xa.size : Int) := hm2
      have hlt' : (k : Int) < (rs.length : Int) := by omega
      have w1 : IntKind.i64.wrap (16777216 - i) = 16777216 - i := by rw [IntKind.wrap_i64]; omega
      have w2 : IntKind.i64.wrap (16777216 - o) = 16777216 - o := by rw [IntKind.wrap_i64]; omega
      have HB := hide (hnx.alloc (Nat.le_trans (Nat.le_refl _) hnx.size) (.cells #[.int .i64 xk, .string xa, .int .i64 xd] 91))
      by_cases hf : max xk xd ≤ 16777216 - i ∧ max xk (xa.size : Int) ≤ 16777216 - o
      · have hg : sscan (rs.take (k + 1)) = some (i + (xk + xd), o + (xk + (xa.size : Int))) := by rw [hsn]; exact sscan_good hs (fun h => h hf)
        have w3 : IntKind.i64.wrap (i + xk) = i + xk := by rw [IntKind.wrap_i64]; omega
        have w4 : IntKind.i64.wrap (i + xk + xd) = i + xk + xd := by rw [IntKind.wrap_i64]; omega
        have w5 : IntKind.i64.wrap (o + xk) = o + xk := by rw [IntKind.wrap_i64]; omega
        have w6 : IntKind.i64.wrap (o + xk + (xa.size : Int)) = o + xk + (xa.size : Int) := by rw [IntKind.wrap_i64]; omega
        have d1 : decide (16777216 - i < xk) = false := decide_eq_false (by omega)
        have d2 : decide (16777216 - i < xd) = false := decide_eq_false (by omega)
        have d3 : decide (16777216 - o < xk) = false := decide_eq_false (by omega)
        have d4 : decide (16777216 - o < (xa.size : Int)) = false := decide_eq_false (by omega)
        have HG : Hid (SumAt rs (i + xk + xd) (o + xk + (xa.size : Int)) (k + 1)) := ⟨by rw [hg, Int.add_assoc, Int.add_assoc], by omega, by omega⟩
        clear hcell hx hsn hf hm1 hm2 hg hs hkd hK
        go_wp2
        go_roundw
        case rel => exact ⟨k + 1, _, _, by omega, rfl, rfl, by simp, HG.out, HB.out⟩
        case measure => simp [intOf]; omega
      · have hg : sscan rs = none := sscan_none (List.take_prefix (k + 1) rs) (by rw [hsn]; exact sscan_bad hs hf)
        have HG := hide hg
        by_cases e1 : 16777216 - i < xk
        · have d1 : decide (16777216 - i < xk) = true := decide_eq_true e1
          clear hcell hx hsn hf hm1 hm2 hg hs hkd hK
          go_wp2
          go_ret3
          exact ⟨by rw [HG.out]; rfl, HB.out⟩
        have d1 : decide (16777216 - i < xk) = false := decide_eq_false e1
        by_cases e2 : 16777216 - i < xd
        · have d2 : decide (16777216 - i < xd) = true := decide_eq_true e2
          clear hcell hx hsn hf hm1 hm2 hg hs hkd hK
          go_wp2
          go_ret3
          exact ⟨by rw [HG.out]; rfl, HB.out⟩
        have d2 : decide (16777216 - i < xd) = false := decide_eq_false e2
        by_cases e3 : 16777216 - o < xk
        · have d3 : decide (16777216 - o < xk) = true := decide_eq_true e3
          clear hcell hx hsn hf hm1 hm2 hg hs hkd hK
          go_wp2
          go_ret3
          exact ⟨by rw [HG.out]; rfl, HB.out⟩
        have d3 : decide (16777216 - o < xk) = false := decide_eq_false e3
        have d4 : decide (16777216 - o < (xa.size : Int)) = true := decide_eq_true (by omega)
        clear hcell hx hsn hf hm1 hm2 hg hs hkd hK
        go_wp2
        go_ret3
        exact ⟨by rw [HG.out]; rfl, HB.out⟩
    · obtain rfl : k = rs.length := by omega
      rw [List.take_length] at hs
      have HS := hide hs
      clear hs
      go_wp2
      go_ret3
      exact ⟨by rw [HS.out]; rfl, hnx⟩

end Go.Proofs.Ytpmijaplkbmbiaa.E

/- The reference's Good. -/
namespace Go.Proofs.Ytpmijaplkbmbiaa.E
open Go.Proofs.Ytpmijaplkbmbiaa Go.RowKit Go.By Go.Shelf
set_option linter.unusedVariables false

def kbad (h : Nat) (x : Rn) : Prop := kind x = 0 ∨ kind x = h ∨ (kind x = 2 ∧ h = 3)
instance (h : Nat) (x : Rn) : Decidable (kbad h x) := by unfold kbad; infer_instance
def kstep (h : Option Nat) (x : Rn) : Option Nat := h.bind fun h => if kbad h x then none else some (kind x)
def kscan (rs : List Rn) : Option Nat := rs.foldl kstep (some 0)
def join (a : Option Nat) (b : Option Ss) : Option Ms := a.bind fun h => b.map fun s => (s.1, s.2, h)

theorem mstep_join (a : Option Nat) (b : Option Ss) (x : Rn) : mstep (join a b) x = join (kstep a x) (sstep b x) := by
  cases a with
  | none => rfl
  | some h =>
    cases b with
    | none => simp [join, mstep, kstep, sstep]
    | some s =>
      have e : mbad (s.1, s.2, h) x ↔ kbad h x ∨ sbad s x := by
        unfold mbad kbad sbad
        constructor
        · rintro (h | h | h | h)
          · exact .inl (.inl h)
          · exact .inl (.inr (.inl h))
          · exact .inl (.inr (.inr h))
          · exact .inr h
        · rintro ((h | h | h) | h)
          · exact .inl h
          · exact .inr (.inl h)
          · exact .inr (.inr (.inl h))
          · exact .inr (.inr (.inr h))
      by_cases h1 : kbad h x
      · have : mbad (s.1, s.2, h) x := e.2 (.inl h1)
        simp [join, mstep, kstep, sstep, h1, this]
      · by_cases h2 : sbad s x
        · have : mbad (s.1, s.2, h) x := e.2 (.inr h2)
          simp [join, mstep, kstep, sstep, h1, h2, this]
        · have : ¬ mbad (s.1, s.2, h) x := fun h => (e.1 h).elim h1 h2
          simp [join, mstep, kstep, sstep, h1, h2, this, mnext, snext]

theorem foldl_join (rs : List Rn) : ∀ a b, rs.foldl mstep (join a b) = join (rs.foldl kstep a) (rs.foldl sstep b) := by
  induction rs with
  | nil => intro a b; rfl
  | cons x rs ih => intro a b; rw [List.foldl_cons, mstep_join, ih]; rfl
theorem mscan_join (rs : List Rn) : mscan rs = join (kscan rs) (sscan rs) := foldl_join rs (some 0) (some (0, 0))

theorem kscan_snoc (pre : List Rn) (x : Rn) : kscan (pre ++ [x]) = kstep (kscan pre) x := by simp [kscan]
theorem kscan_bad {pre : List Rn} {x : Rn} {h : Nat} (e : kscan pre = some h) (hb : kbad h x) : kscan (pre ++ [x]) = none := by rw [kscan_snoc, e]; simp [kstep, hb]
theorem kscan_good {pre : List Rn} {x : Rn} {h : Nat} (e : kscan pre = some h) (hb : ¬ kbad h x) : kscan (pre ++ [x]) = some (kind x) := by rw [kscan_snoc, e]; simp [kstep, hb]
theorem foldl_kstep_none (rs : List Rn) : rs.foldl kstep none = none := by induction rs with
  | nil => rfl
  | cons x rs ih => exact ih
theorem kscan_none {pre rs : List Rn} (h : pre <+: rs) (hn : kscan pre = none) : kscan rs = none := by
  obtain ⟨t, rfl⟩ := h
  unfold kscan at hn ⊢
  rw [List.foldl_append, hn, foldl_kstep_none]
theorem foldl_kstep_all (rs : List Rn) : ∀ a, rs.foldl kstep a ≠ none → ∀ x ∈ rs, kind x ≠ 0 := by
  induction rs with
  | nil => intro a _ x hx; cases hx
  | cons y rs ih =>
    intro a h x hx
    rcases List.mem_cons.1 hx with rfl | hx
    · intro h0
      refine h ?_
      have : kstep a x = none := by cases a <;> simp [kstep, kbad, h0]
      rw [List.foldl_cons, this, foldl_kstep_none]
    · exact ih _ h x hx
theorem kscan_all {rs : List Rn} {h : Nat} (e : kscan rs = some h) : ∀ x ∈ rs, kind x ≠ 0 := foldl_kstep_all rs _ (by unfold kscan at e; rw [e]; simp)

/-- The last one's kind. -/
def lastK (rs : List Rn) (k : Nat) : Nat := if k = 0 then 0 else kind (rs.getD (k - 1) rn0)

def isG (rs : List Rn) : Bool := (meas rs).isSome
theorem meas_none_len {rs : List Rn} (h : ¬ rs.length ≤ 65536) : isG rs = false := by rw [isG, meas, if_neg h]; rfl
theorem meas_none_k {rs : List Rn} (h : kscan rs = none) : isG rs = false := by
  unfold isG meas; split
  · rw [mscan_join, h]; rfl
  · rfl
theorem meas_k {rs : List Rn} {h : Nat} (hl : rs.length ≤ 65536) (e : kscan rs = some h) : isG rs = (sscan rs).isSome := by
  rw [isG, meas, if_pos hl, mscan_join, e]; cases sscan rs <;> rfl

theorem sumV_eq (s : Option Ss) : sumV s = .tuple #[.int .i64 ((s.getD (0, 0)).1), .int .i64 ((s.getD (0, 0)).2), .bool s.isSome] := by cases s <;> rfl
theorem sums_eq (a : Option Addr) (cap : Nat) (rs : List Rn) (w : World) (hS : CameR w.heap.size w a rs) (hl : rs.length ≤ 1000000) (hK : ∀ x ∈ rs, kind x ≠ 0) :
    Calls Try.prog 101 #[.slice a rs.length cap] w fun e W' => e = .returned (.tuple #[.int .i64 (((sscan rs).getD (0, 0)).1), .int .i64 (((sscan rs).getD (0, 0)).2), .bool (sscan rs).isSome]) ∧ Below w.heap.size w W' :=
  (sums_any a cap rs w hS hl hK).mono fun e W' h => ⟨by rw [h.1, sumV_eq], h.2⟩

theorem ret_bool {a b : Bool} (h : a = b) : Ending.returned (.bool a) = .returned (.bool b) := by rw [h]

theorem CameR.mono {n₀ n₁ : Nat} {W : World} {a : Option Addr} {rs : List Rn} (h : CameR n₀ W a rs) (hn : n₀ ≤ n₁) : CameR n₁ W a rs :=
  h.imp id fun ⟨b, off, e, hl, hc⟩ => ⟨b, off, e, Nat.lt_of_lt_of_le hl hn, hc⟩

set_option maxRecDepth 100000 in
set_option maxHeartbeats 8000000 in
theorem rgood_any (a : Option Addr) (cap : Nat) (rs : List Rn) (w : World) (hS : CameR w.heap.size w a rs) (hl : rs.length ≤ 1000000) :
    Calls Try.prog 52 #[.slice a rs.length cap] w fun e W' => e = .returned (.bool (isG rs)) ∧ Below w.heap.size w W' := by
  go_enter Try.func52, Try.ntmps52
  by_cases hle : rs.length ≤ 65536
  · have hle' : ¬ (65536 : Int) < (rs.length : Int) := by omega
    go_wp2
    go_loopw [3] (fun c wr => ∃ k : Nat, k ≤ rs.length ∧ c = .int .i64 k ∧ kscan (rs.take k) = some (lastK rs k) ∧ Below w.heap.size w wr)
      (fun c _ => rs.length - (intOf c).toNat)
    case atStart => exact ⟨0, Nat.zero_le _, rfl, rfl, Below.refl _ _⟩
    case round =>
      obtain ⟨k, hk, rfl, hs, hnx⟩ := hrel
      by_cases hlt : k < rs.length
      · obtain ⟨b, off, rfl, hbl, hcell⟩ : ∃ b off, a = some ⟨b, off, none⟩ ∧ b < w.heap.size ∧ ∀ i, i < rs.length →
            w.cell? ⟨b, off + i * 3, none⟩ = some (.int .i64 (rs.getD i rn0).keep) ∧ w.cell? ⟨b, off + i * 3 + 1, none⟩ = some (.string (rs.getD i rn0).add) ∧ w.cell? ⟨b, off + i * 3 + 2, none⟩ = some (.int .i64 (rs.getD i rn0).drop) := by
          rcases hS with rfl | h
          · simp at hlt
          · exact h
        have hC : ∀ i w', i < rs.length → Below w.heap.size w w' → ∀ x, x = rs.getD i rn0 → w'.cell? ⟨b, off + i * 3, none⟩ = some (.int .i64 x.keep) ∧ w'.cell? ⟨b, off + i * 3 + 1, none⟩ = some (.string x.add) ∧ w'.cell? ⟨b, off + i * 3 + 2, none⟩ = some (.int .i64 x.drop) := fun i w' hi hb x hx => by
          rw [hx]
          exact ⟨(hb.cell (p := ⟨b, _, none⟩) hbl).trans (hcell i hi).1, (hb.cell (p := ⟨b, _, none⟩) hbl).trans (hcell i hi).2.1, (hb.cell (p := ⟨b, _, none⟩) hbl).trans (hcell i hi).2.2⟩
        have hsn : rs.take (k + 1) = rs.take k ++ [rs.getD k rn0] := by rw [List.take_succ_eq_append_getElem hlt]; simp [List.getD, hlt]
        obtain ⟨x, hx⟩ : ∃ x, x = rs.getD k rn0 := ⟨_, rfl⟩
        obtain ⟨s0, s1, s2⟩ := hC k wr hlt hnx x hx
        have hbadN : kbad (lastK rs k) x → isG rs = false := fun hb => meas_none_k (kscan_none (List.take_prefix (k + 1) rs) (by rw [hsn, ← hx]; exact kscan_bad hs hb))
        have hgoodN : ¬ kbad (lastK rs k) x → kscan (rs.take (k + 1)) = some (lastK rs (k + 1)) := fun hb => by
          rw [hsn, ← hx, kscan_good hs hb, lastK, if_neg (by omega), Nat.add_sub_cancel, ← hx]
        obtain ⟨xk, xa, xd⟩ := x
        have hlt' : (k : Int) < (rs.length : Int) := by omega
        have HX := hide hx
        have HC := hide hC
        have HBAD := hide hbadN
        have HGOOD := hide hgoodN
        have HNX := hide hnx
        obtain ⟨kx, hkx⟩ : ∃ kx, kx = kind ⟨xk, xa, xd⟩ := ⟨_, rfl⟩
        have HKX := hide hkx
        have hcall : ∀ W, Calls Try.prog 100 #[.agg #[.int .i64 xk, .string xa, .int .i64 xd]] W fun e W' => e = .returned (.int .i64 (kx : Int)) ∧ Below W.heap.size W W' := fun W => by rw [hkx]; exact rkind_any xk xd xa W
        clear hcell hC hx hsn hbadN hgoodN hs hkx hnx
        go_wp2_with fail
        refine (hcall _).mono ?_
        rintro e w1 ⟨rfl, hw1⟩
        have hb1 : Below w.heap.size w w1 := HNX.out.trans (hw1.mono HNX.out.size)
        have HB1 := hide hb1
        clear hw1 hb1
        by_cases a0 : kx = 0
        · have HQ := hide (HBAD.out (.inl (HKX.out ▸ a0)))
          subst a0
          go_wp2
          go_ret
          exact ⟨ret_bool HQ.out.symm, HB1.out⟩
        have a0' : ((kx : Int) == 0) = false := by simp; omega
        by_cases k0 : k = 0
        · have HQ := hide (HGOOD.out (by
            rintro (h | h | h)
            · exact a0 (HKX.out.trans h)
            · rw [lastK, if_pos k0] at h; exact a0 (HKX.out.trans h)
            · rw [lastK, if_pos k0] at h; exact absurd h.2 (by decide)))
          subst k0
          go_wp2
          go_roundw
          case rel => exact ⟨0 + 1, by omega, by simp, HQ.out, HB1.out⟩
          case measure => simp [intOf]; omega
        have k0' : (0 : Int) < (k : Int) := by omega
        obtain ⟨j, hj⟩ : ∃ j, j = k - 1 := ⟨_, rfl⟩
        have hwj : IntKind.i64.wrap ((k : Int) - 1) = (j : Int) := by rw [IntKind.wrap_i64]; omega
        have hjl : (j : Int) < (rs.length : Int) := by omega
        have hjn : j < rs.length := by omega
        obtain ⟨y, hy⟩ : ∃ y, y = rs.getD j rn0 := ⟨_, rfl⟩
        obtain ⟨t0, t1, t2⟩ := HC.out j w1 hjn HB1.out y hy
        have hlast : lastK rs k = kind y := by rw [lastK, if_neg k0, hy, hj]
        have hC2 := fun w' hb => HC.out j w' hjn hb y hy
        obtain ⟨yk, ya, yd⟩ := y
        obtain ⟨ky, hky⟩ : ∃ ky, ky = kind ⟨yk, ya, yd⟩ := ⟨_, rfl⟩
        have hcall2 : ∀ W, Calls Try.prog 100 #[.agg #[.int .i64 yk, .string ya, .int .i64 yd]] W fun e W' => e = .returned (.int .i64 (ky : Int)) ∧ Below W.heap.size W W' := fun W => by rw [hky]; exact rkind_any yk yd ya W
        have HL : Hid (lastK rs k = ky) := hlast.trans hky.symm
        have HC2 := hide hC2
        have HJ := hide hj
        clear hlast hky hC2 hy hj
        go_wp2_with fail
        refine (hcall2 _).mono ?_
        rintro e w2 ⟨rfl, hw2⟩
        have hb2 : Below w.heap.size w w2 := HB1.out.trans (hw2.mono HB1.out.size)
        have HB2 := hide hb2
        clear hw2 hb2
        by_cases a1 : ky = kx
        · have HQ := hide (HBAD.out (.inr (.inl ((HKX.out.symm.trans a1.symm).trans HL.out.symm))))
          subst a1
          go_wp2
          go_ret
          exact ⟨ret_bool HQ.out.symm, HB2.out⟩
        have a1' : ((ky : Int) == (kx : Int)) = false := by simp; omega
        obtain ⟨t3, t4, t5⟩ := HC2.out w2 HB2.out
        go_wp2_with fail
        refine (hcall2 _).mono ?_
        rintro e w3 ⟨rfl, hw3⟩
        have hb3 : Below w.heap.size w w3 := HB2.out.trans (hw3.mono HB2.out.size)
        have HB3 := hide hb3
        clear hw3 hb3
        by_cases a2 : kx = 2 ∧ ky = 3
        · have HQ := hide (HBAD.out (.inr (.inr ⟨HKX.out.symm.trans a2.1, HL.out.trans a2.2⟩)))
          obtain ⟨rfl, rfl⟩ := a2
          go_wp2
          go_ret
          exact ⟨ret_bool HQ.out.symm, HB3.out⟩
        have HQ := hide (HGOOD.out (by
          rintro (h | h | h)
          · exact a0 (HKX.out.trans h)
          · exact a1 ((HL.out.symm.trans h.symm).trans HKX.out.symm)
          · exact a2 ⟨HKX.out.trans h.1, HL.out.symm.trans h.2⟩))
        by_cases a3 : ky = 3
        · have a4 : ((kx : Int) == 2) = false := by simp; omega
          subst a3
          go_wp2
          go_roundw
          case rel => exact ⟨k + 1, by omega, by simp, HQ.out, HB3.out⟩
          case measure => simp [intOf]; omega
        · have a4 : ((ky : Int) == 3) = false := by simp; omega
          go_wp2
          go_roundw
          case rel => exact ⟨k + 1, by omega, by simp, HQ.out, HB3.out⟩
          case measure => simp [intOf]; omega
      · obtain rfl : k = rs.length := by omega
        rw [List.take_length] at hs
        have hall := kscan_all hs
        have HQ := hide (meas_k hle hs)
        have hsm := sums_eq a cap rs wr ((hS.below hnx).mono hnx.size) hl hall
        clear hs hall
        go_wp2_with fail
        refine hsm.mono ?_
        rintro e w1 ⟨rfl, hw1⟩
        have HB1 := hide (hnx.trans (hw1.mono hnx.size))
        clear hw1
        go_wp2
        go_ret
        exact ⟨ret_bool HQ.out.symm, HB1.out⟩
  · have hle' : (65536 : Int) < (rs.length : Int) := by omega
    go_wp2
    go_ret
    exact ⟨ret_bool (meas_none_len hle).symm, Below.refl _ _⟩

end Go.Proofs.Ytpmijaplkbmbiaa.E

/- The reference's In and Out. -/
namespace Go.Proofs.Ytpmijaplkbmbiaa.E
open Go.Proofs.Ytpmijaplkbmbiaa Go.RowKit Go.By Go.Shelf
set_option linter.unusedVariables false

theorem isG_some {rs : List Rn} (h : isG rs = true) : ∃ s, meas rs = some s ∧ sscan rs = some (s.1, s.2.1) ∧ ∀ x ∈ rs, kind x ≠ 0 := by
  unfold isG meas at h
  split at h
  · rename_i hl
    rw [mscan_join] at h
    cases hk : kscan rs with
    | none => rw [hk] at h; cases h
    | some q =>
      cases hs : sscan rs with
      | none => rw [hk, hs] at h; cases h
      | some s => exact ⟨(s.1, s.2, q), by rw [meas, if_pos hl, mscan_join, hk, hs]; rfl, rfl, kscan_all hk⟩
  · cases h
theorem isG_none {rs : List Rn} (h : isG rs = false) : meas rs = none := by
  unfold isG at h
  cases hm : meas rs with
  | none => rfl
  | some s => rw [hm] at h; cases h

set_option maxRecDepth 20000 in
set_option maxHeartbeats 4000000 in
theorem rin_any (a : Option Addr) (cap : Nat) (rs : List Rn) (w : World) (hS : CameR w.heap.size w a rs) (hl : rs.length ≤ 1000000) :
    Calls Try.prog 54 #[.slice a rs.length cap] w fun e W' => e = .returned (.int .i64 (mIn (meas rs))) ∧ Below w.heap.size w W' := by
  have hg := rgood_any a cap rs w hS hl
  go_enter Try.func54, Try.ntmps54
  go_wp2_with fail
  refine hg.mono ?_
  rintro e w1 ⟨rfl, hb⟩
  have HB := hide hb
  cases hG : isG rs with
  | false =>
    have HM := hide (isG_none hG)
    clear hb
    go_wp2
    go_ret
    exact ⟨ret_int (by rw [HM.out]; rfl), HB.out⟩
  | true =>
    obtain ⟨s, hm, hs, hall⟩ := isG_some hG
    have hsm := sums_eq a cap rs w1 ((hS.below hb).mono hb.size) hl hall
    rw [hs] at hsm
    have HM := hide hm
    clear hm hs hall hb
    go_wp2_with fail
    refine hsm.mono ?_
    rintro e w2 ⟨rfl, hb2⟩
    have HB2 := hide (HB.out.trans (hb2.mono HB.out.size))
    clear hb2
    go_wp2
    go_ret
    exact ⟨ret_int (by rw [HM.out]; rfl), HB2.out⟩

set_option maxRecDepth 20000 in
set_option maxHeartbeats 4000000 in
theorem rout_any (a : Option Addr) (cap : Nat) (rs : List Rn) (w : World) (hS : CameR w.heap.size w a rs) (hl : rs.length ≤ 1000000) :
    Calls Try.prog 56 #[.slice a rs.length cap] w fun e W' => e = .returned (.int .i64 (mOut (meas rs))) ∧ Below w.heap.size w W' := by
  have hg := rgood_any a cap rs w hS hl
  go_enter Try.func56, Try.ntmps56
  go_wp2_with fail
  refine hg.mono ?_
  rintro e w1 ⟨rfl, hb⟩
  have HB := hide hb
  cases hG : isG rs with
  | false =>
    have HM := hide (isG_none hG)
    clear hb
    go_wp2
    go_ret
    exact ⟨ret_int (by rw [HM.out]; rfl), HB.out⟩
  | true =>
    obtain ⟨s, hm, hs, hall⟩ := isG_some hG
    have hsm := sums_eq a cap rs w1 ((hS.below hb).mono hb.size) hl hall
    rw [hs] at hsm
    have HM := hide hm
    clear hm hs hall hb
    go_wp2_with fail
    refine hsm.mono ?_
    rintro e w2 ⟨rfl, hb2⟩
    have HB2 := hide (HB.out.trans (hb2.mono HB.out.size))
    clear hb2
    go_wp2
    go_ret
    exact ⟨ret_int (by rw [HM.out]; rfl), HB2.out⟩

end Go.Proofs.Ytpmijaplkbmbiaa.E

/- Same. -/
namespace Go.Proofs.Ytpmijaplkbmbiaa.E
open Go.Proofs.Ytpmijaplkbmbiaa Go.RowKit Go.By Go.Shelf
set_option linter.unusedVariables false

deriving instance DecidableEq for Rn

theorem below_drew2 {B : Nat} {w0 w : World} (h : Below B w0 w) : Below B w0 w.drew := ⟨h.os, h.tape, h.output, h.size, h.block⟩

theorem below_drewN {B : Nat} {w0 w : World} (h : Below B w0 w) (n : Nat) : Below B w0 (w.drewN n) := ⟨h.os, h.tape, h.output, h.size, h.block⟩

theorem loop_eq (bs : ByteArray) (k : Nat) : ∀ (i : Nat) (r : List UInt8), bs.size - i = k → ByteArray.toList.loop bs i r = r.reverse ++ bs.data.toList.drop i := by
  have hsz : bs.size = bs.data.toList.length := Lib.size_eq bs
  induction k with
  | zero => intro i r h; rw [ByteArray.toList.loop.eq_1, if_neg (by omega), List.drop_eq_nil_of_le (by omega)]; simp
  | succ k ih =>
    intro i r h
    rw [ByteArray.toList.loop.eq_1, if_pos (by omega), ih (i + 1) _ (by omega), List.drop_eq_getElem_cons (i := i) (by omega)]
    have h2 : i < bs.data.size := by have h3 : bs.data.toList.length = bs.data.size := Array.length_toList; omega
    have h4 : bs.data[i]! = bs.data[i] := getElem!_pos bs.data i h2
    simp [ByteArray.get!]
    exact h4
theorem toList_data (bs : ByteArray) : bs.toList = bs.data.toList := by rw [ByteArray.toList, loop_eq bs bs.size 0 [] (by omega)]; simp
theorem toList_inj {a b : ByteArray} (h : a.toList = b.toList) : a = b := by
  rw [toList_data, toList_data] at h
  cases a; cases b
  simp at h
  rw [h]

theorem take_eq_of {a b : List Rn} {k : Nat} (h1 : k < a.length) (h2 : k < b.length) (h : a.take k = b.take k) (he : a.getD k rn0 = b.getD k rn0) : a.take (k + 1) = b.take (k + 1) := by
  rw [List.take_succ_eq_append_getElem h1, List.take_succ_eq_append_getElem h2, h]
  simp [List.getD, h1, h2] at he
  rw [he]

theorem came_at {n₀ : Nat} {W : World} {a : Option Addr} {rs : List Rn} {k : Nat} (h : CameR n₀ W a rs) (hk : k < rs.length) : ∃ b off, a = some ⟨b, off, none⟩ ∧
    W.cell? ⟨b, off + k * 3, none⟩ = some (.int .i64 (rs.getD k rn0).keep) ∧ W.cell? ⟨b, off + k * 3 + 1, none⟩ = some (.string (rs.getD k rn0).add) ∧ W.cell? ⟨b, off + k * 3 + 2, none⟩ = some (.int .i64 (rs.getD k rn0).drop) := by
  rcases h with rfl | ⟨b, off, e, hl, hc⟩
  · simp at hk
  · exact ⟨b, off, e, hc k hk⟩

set_option maxRecDepth 100000 in
set_option maxHeartbeats 8000000 in
theorem rsame_any (a a' : Option Addr) (cap cap' : Nat) (rs rs' : List Rn) (w : World) (hS : CameR w.heap.size w a rs) (hS' : CameR w.heap.size w a' rs') (hl : rs.length ≤ 1000000) :
    Calls Try.prog 59 #[.slice a rs.length cap, .slice a' rs'.length cap'] w fun e W' => e = .returned (.bool (decide (rs = rs'))) ∧ Below w.heap.size w W' := by
  go_enter Try.func59, Try.ntmps59
  by_cases hn : rs.length = rs'.length
  · have hn' : ((rs.length : Int) != (rs'.length : Int)) = false := by simp [hn]
    go_wp2
    go_loopw [5] (fun c wr => ∃ k : Nat, k ≤ rs.length ∧ c = .int .i64 k ∧ rs.take k = rs'.take k ∧ Below w.heap.size w wr)
      (fun c _ => rs.length - (intOf c).toNat)
    case atStart => exact ⟨0, Nat.zero_le _, rfl, rfl, Below.refl _ _⟩
    case round =>
      obtain ⟨k, hk, rfl, hs, hnx⟩ := hrel
      by_cases hlt : k < rs.length
      · have hlt2 : k < rs'.length := by omega
        obtain ⟨b, off, rfl, s0, s1, s2⟩ := came_at (hS.below hnx) hlt
        obtain ⟨b', off', rfl, t0, t1, t2⟩ := came_at (hS'.below hnx) hlt2
        have hne : ¬ rs.getD k rn0 = rs'.getD k rn0 → ¬ rs = rs' := fun h e => h (by rw [e])
        have heq : rs.getD k rn0 = rs'.getD k rn0 → rs.take (k + 1) = rs'.take (k + 1) := take_eq_of hlt hlt2 hs
        obtain ⟨x, hx⟩ : ∃ x, x = rs.getD k rn0 := ⟨_, rfl⟩
        obtain ⟨y, hy⟩ : ∃ y, y = rs'.getD k rn0 := ⟨_, rfl⟩
        rw [← hx] at s0 s1 s2 hne heq
        rw [← hy] at t0 t1 t2 hne heq
        obtain ⟨xk, xa, xd⟩ := x
        obtain ⟨yk, ya, yd⟩ := y
        have HNE := hide hne
        have HEQ := hide heq
        have HNX := hide hnx
        have hlt' : (k : Int) < (rs.length : Int) := by omega
        have hlt2' : (k : Int) < (rs'.length : Int) := by omega
        clear hne heq hnx hx hy hs hS hS'
        dsimp only at s0 s1 s2 t0 t1 t2
        go_wp2_with fail
        by_cases e1 : xk = yk
        · by_cases e2 : xa = ya
          · by_cases e3 : xd = yd
            · subst e1 e2 e3
              go_quiet (fail)
              go_wp2
              go_roundw
              case rel => exact ⟨k + 1, by omega, by simp, HEQ.out rfl, below_drewN HNX.out _⟩
              case measure => simp [intOf]; omega
            · subst e1 e2
              have e3' : (xd == yd) = false := by simp [e3]
              have HQ := hide (HNE.out (fun h => e3 (congrArg Rn.drop h)))
              go_quiet (fail)
              go_wp2
              go_ret
              exact ⟨ret_bool (decide_eq_false HQ.out).symm, below_drewN HNX.out _⟩
          · subst e1
            have e2' : ¬ xa.toList = ya.toList := fun h => e2 (toList_inj h)
            have e2a : (xa.toList == ya.toList) = false := beq_eq_false_iff_ne.2 e2'
            have HQ := hide (HNE.out (fun h => e2 (congrArg Rn.add h)))
            go_quiet (fail)
            go_wp2
            go_ret
            exact ⟨ret_bool (decide_eq_false HQ.out).symm, below_drewN HNX.out _⟩
        · have e1' : (xk == yk) = false := by simp [e1]
          have HQ := hide (HNE.out (fun h => e1 (congrArg Rn.keep h)))
          go_quiet (fail)
          go_wp2
          go_ret
          exact ⟨ret_bool (decide_eq_false HQ.out).symm, below_drewN HNX.out _⟩
      · obtain rfl : k = rs.length := by omega
        have he : rs = rs' := by rw [List.take_length, hn, List.take_length] at hs; exact hs
        have HE := hide he
        clear he hs
        go_wp2
        go_ret
        exact ⟨ret_bool (decide_eq_true HE.out).symm, hnx⟩
  · have hn' : ((rs.length : Int) != (rs'.length : Int)) = true := by simp; omega
    go_wp2
    go_ret
    exact ⟨ret_bool (decide_eq_false (fun h => hn (by rw [h]))).symm, Below.refl _ _⟩

set_option maxRecDepth 100000 in
set_option maxHeartbeats 8000000 in
theorem equal_any (a a' : Option Addr) (cap cap' : Nat) (rs rs' : List Rn) (w : World) (hS : CameR w.heap.size w a rs) (hS' : CameR w.heap.size w a' rs') (hl : rs.length ≤ 1000000) :
    Calls Try.prog 107 #[.slice a rs.length cap, .slice a' rs'.length cap'] w fun e W' => e = .returned (.bool (decide (rs = rs'))) ∧ Below w.heap.size w W' := by
  go_enter Try.func107, Try.ntmps107
  by_cases hn : rs.length = rs'.length
  · have hn' : ((rs.length : Int) != (rs'.length : Int)) = false := by simp [hn]
    go_wp2
    go_loopw [13] (fun c wr => ∃ k : Nat, k ≤ rs.length ∧ c = .int .i64 k ∧ rs.take k = rs'.take k ∧ Below w.heap.size w wr)
      (fun c _ => rs.length - (intOf c).toNat)
    case atStart => exact ⟨0, Nat.zero_le _, rfl, rfl, Below.refl _ _⟩
    case round =>
      obtain ⟨k, hk, rfl, hs, hnx⟩ := hrel
      by_cases hlt : k < rs.length
      · have hlt2 : k < rs'.length := by omega
        obtain ⟨b, off, rfl, s0, s1, s2⟩ := came_at (hS.below hnx) hlt
        obtain ⟨b', off', rfl, t0, t1, t2⟩ := came_at (hS'.below hnx) hlt2
        have hne : ¬ rs.getD k rn0 = rs'.getD k rn0 → ¬ rs = rs' := fun h e => h (by rw [e])
        have heq : rs.getD k rn0 = rs'.getD k rn0 → rs.take (k + 1) = rs'.take (k + 1) := take_eq_of hlt hlt2 hs
        obtain ⟨x, hx⟩ : ∃ x, x = rs.getD k rn0 := ⟨_, rfl⟩
        obtain ⟨y, hy⟩ : ∃ y, y = rs'.getD k rn0 := ⟨_, rfl⟩
        rw [← hx] at s0 s1 s2 hne heq
        rw [← hy] at t0 t1 t2 hne heq
        obtain ⟨xk, xa, xd⟩ := x
        obtain ⟨yk, ya, yd⟩ := y
        have HNE := hide hne
        have HEQ := hide heq
        have HNX := hide hnx
        have hlt' : (k : Int) < (rs.length : Int) := by omega
        have hlt2' : (k : Int) < (rs'.length : Int) := by omega
        clear hne heq hnx hx hy hs hS hS'
        dsimp only at s0 s1 s2 t0 t1 t2
        go_wp2_with fail
        by_cases e1 : xk = yk
        · by_cases e2 : xa = ya
          · by_cases e3 : xd = yd
            · subst e1 e2 e3
              go_quiet (fail)
              go_wp2
              go_roundw
              case rel => exact ⟨k + 1, by omega, by simp, HEQ.out rfl, below_drewN HNX.out _⟩
              case measure => simp [intOf]; omega
            · subst e1 e2
              have e3' : (xd == yd) = false := by simp [e3]
              have HQ := hide (HNE.out (fun h => e3 (congrArg Rn.drop h)))
              go_quiet (fail)
              go_wp2
              go_ret
              exact ⟨ret_bool (decide_eq_false HQ.out).symm, below_drewN HNX.out _⟩
          · subst e1
            have e2' : ¬ xa.toList = ya.toList := fun h => e2 (toList_inj h)
            have e2a : (xa.toList == ya.toList) = false := beq_eq_false_iff_ne.2 e2'
            have HQ := hide (HNE.out (fun h => e2 (congrArg Rn.add h)))
            go_quiet (fail)
            go_wp2
            go_ret
            exact ⟨ret_bool (decide_eq_false HQ.out).symm, below_drewN HNX.out _⟩
        · have e1' : (xk == yk) = false := by simp [e1]
          have HQ := hide (HNE.out (fun h => e1 (congrArg Rn.keep h)))
          go_quiet (fail)
          go_wp2
          go_ret
          exact ⟨ret_bool (decide_eq_false HQ.out).symm, below_drewN HNX.out _⟩
      · obtain rfl : k = rs.length := by omega
        have he : rs = rs' := by rw [List.take_length, hn, List.take_length] at hs; exact hs
        have HE := hide he
        clear he hs
        go_wp2
        go_ret
        exact ⟨ret_bool (decide_eq_true HE.out).symm, hnx⟩
  · have hn' : ((rs.length : Int) != (rs'.length : Int)) = true := by simp; omega
    go_wp2
    go_ret
    exact ⟨ret_bool (decide_eq_false (fun h => hn (by rw [h]))).symm, Below.refl _ _⟩

set_option maxRecDepth 20000 in
set_option maxHeartbeats 4000000 in
theorem same_any (a a' : Option Addr) (cap cap' : Nat) (rs rs' : List Rn) (w : World) (hS : CameR w.heap.size w a rs) (hS' : CameR w.heap.size w a' rs') (hl : rs.length ≤ 1000000) :
    Calls Try.prog 62 #[.slice a rs.length cap, .slice a' rs'.length cap'] w fun e W' => e = .returned (.bool (decide (rs = rs'))) ∧ Below w.heap.size w W' := by
  have he := equal_any a a' cap cap' rs rs' w hS hS' hl
  go_enter Try.func62, Try.ntmps62
  go_wp2_with fail
  refine he.mono ?_
  rintro e W' ⟨rfl, hb⟩
  have HB := hide hb
  clear hb
  go_wp2
  go_ret
  exact ⟨rfl, HB.out⟩

end Go.Proofs.Ytpmijaplkbmbiaa.E

/- Light; the reference's Idle and Nothing. -/
namespace Go.Proofs.Ytpmijaplkbmbiaa.E
open Go.Proofs.Ytpmijaplkbmbiaa Go.RowKit Go.By Go.Shelf
set_option linter.unusedVariables false

def LightR (rs : List Rn) : Prop := rs.length ≤ 100 ∧ ∀ x ∈ rs, x.add.size ≤ 200
instance (rs : List Rn) : Decidable (LightR rs) := by unfold LightR; infer_instance

/-- Runs are told. -/
def Gives (n₀ : Nat) (w : World) (rs : List Rn) (e : Ending) (W' : World) : Prop := ∃ a cap, e = .returned (.slice a rs.length cap) ∧ CameR W'.heap.size W' a rs ∧ Below n₀ w W'

set_option maxRecDepth 100000 in
set_option maxHeartbeats 8000000 in
theorem light_any (a : Option Addr) (cap : Nat) (rs : List Rn) (w : World) (hS : CameR w.heap.size w a rs) :
    Calls Try.prog 49 #[.slice a rs.length cap] w fun e W' => e = .returned (.bool (decide (LightR rs))) ∧ Below w.heap.size w W' := by
  go_enter Try.func49, Try.ntmps49
  by_cases hle : rs.length ≤ 100
  · have hle' : ¬ (100 : Int) < (rs.length : Int) := by omega
    go_wp2
    go_loopw [10] (fun c wr => ∃ k : Nat, k ≤ rs.length ∧ c = .int .i64 k ∧ (∀ x ∈ rs.take k, x.add.size ≤ 200) ∧ Below w.heap.size w wr)
      (fun c _ => rs.length - (intOf c).toNat)
    case atStart => exact ⟨0, Nat.zero_le _, rfl, by simp, Below.refl _ _⟩
    case round =>
      obtain ⟨k, hk, rfl, hs, hnx⟩ := hrel
      by_cases hlt : k < rs.length
      · obtain ⟨b, off, rfl, s0, s1, s2⟩ := came_at (hS.below hnx) hlt
        have hsn : rs.take (k + 1) = rs.take k ++ [rs.getD k rn0] := by rw [List.take_succ_eq_append_getElem hlt]; simp [List.getD, hlt]
        have hmem : rs.getD k rn0 ∈ rs := by simp [List.getD, hlt]
        obtain ⟨x, hx⟩ : ∃ x, x = rs.getD k rn0 := ⟨_, rfl⟩
        rw [← hx] at s0 s1 s2 hsn hmem
        obtain ⟨xk, xa, xd⟩ := x
        dsimp only at s0 s1 s2
        have hlt' : (k : Int) < (rs.length : Int) := by omega
        have HB := hide (hnx.alloc hnx.size (.cells #[.int .i64 xk, .string xa, .int .i64 xd] 91))
        by_cases hz : xa.size ≤ 200
        · have hz' : ¬ (200 : Int) < (xa.size : Int) := by omega
          have HQ : Hid (∀ x ∈ rs.take (k + 1), x.add.size ≤ 200) := by
            show ∀ x ∈ rs.take (k + 1), x.add.size ≤ 200
            rw [hsn]
            intro x hx
            rcases List.mem_append.1 hx with h | h
            · exact hs x h
            · rw [List.mem_singleton.1 h]; exact hz
          clear hx hsn hmem hs hnx hS
          go_wp2
          go_roundw
          case rel => exact ⟨k + 1, by omega, by simp, HQ.out, HB.out⟩
          case measure => simp [intOf]; omega
        · have hz' : (200 : Int) < (xa.size : Int) := by omega
          have HQ : Hid (¬ LightR rs) := fun h => hz (h.2 _ hmem)
          clear hx hsn hmem hs hnx hS
          go_wp2
          go_ret
          exact ⟨ret_bool (decide_eq_false HQ.out).symm, HB.out⟩
      · obtain rfl : k = rs.length := by omega
        have HQ : Hid (LightR rs) := ⟨hle, by rw [List.take_length] at hs; exact hs⟩
        clear hs
        go_wp2
        go_ret
        exact ⟨ret_bool (decide_eq_true HQ.out).symm, hnx⟩
  · have hle' : (100 : Int) < (rs.length : Int) := by omega
    go_wp2
    go_ret
    exact ⟨ret_bool (decide_eq_false (fun h => hle h.1)).symm, Below.refl _ _⟩

def nothR (n : Int) : List Rn := if n < 1 ∨ 16777216 < n then [] else [⟨n, ⟨#[]⟩, 0⟩]

set_option maxRecDepth 20000 in
set_option maxHeartbeats 4000000 in
theorem rnothing_any (n : Int) (w : World) : Calls Try.prog 68 #[.int .i64 n] w fun e W' => Gives w.heap.size w (nothR n) e W' := by
  go_enter Try.func68, Try.ntmps68
  by_cases h1 : n < 1
  · have HQ : Hid (nothR n = []) := by show _ = _; rw [nothR, if_pos (.inl h1)]
    go_wp2
    go_ret
    rw [HQ.out]
    exact ⟨none, 0, rfl, .inl rfl, Below.refl _ _⟩
  by_cases h2 : 16777216 < n
  · have HQ : Hid (nothR n = []) := by show _ = _; rw [nothR, if_pos (.inr h2)]
    go_wp2
    go_ret
    rw [HQ.out]
    exact ⟨none, 0, rfl, .inl rfl, Below.refl _ _⟩
  have HQ : Hid (nothR n = [⟨n, ⟨#[]⟩, 0⟩]) := by show _ = _; rw [nothR, if_neg (fun h => h.elim h1 h2)]
  go_wp2
  go_ret
  rw [HQ.out]
  have hn := World.alloc_heap_new w (.cells #[.int .i64 n, .string ⟨#[]⟩, .int .i64 0] 91)
  refine ⟨_, _, rfl, .inr ⟨_, 0, rfl, by simp, fun i hi => ?_⟩, (Below.refl _ w).alloc (Nat.le_refl _) _⟩
  obtain rfl : i = 0 := by simp at hi; exact hi
  refine ⟨?_, ?_, ?_⟩
  · rw [Joins.cell_of_block hn]; rfl
  · rw [Joins.cell_of_block hn]; rfl
  · rw [Joins.cell_of_block hn]; rfl

def idleB (rs : List Rn) : Bool := isG rs && decide (rs.length = 0 ∨ (rs.length = 1 ∧ kind (rs.getD 0 rn0) = 1))

set_option maxRecDepth 20000 in
set_option maxHeartbeats 4000000 in
theorem ridle_any (a : Option Addr) (cap : Nat) (rs : List Rn) (w : World) (hS : CameR w.heap.size w a rs) (hl : rs.length ≤ 1000000) :
    Calls Try.prog 58 #[.slice a rs.length cap] w fun e W' => e = .returned (.bool (idleB rs)) ∧ Below w.heap.size w W' := by
  have hg := rgood_any a cap rs w hS hl
  go_enter Try.func58, Try.ntmps58
  go_wp2_with fail
  refine hg.mono ?_
  rintro e w1 ⟨rfl, hb⟩
  have HB := hide hb
  cases hG : isG rs with
  | false =>
    have HQ : Hid (idleB rs = false) := by show _ = _; rw [idleB, hG]; rfl
    clear hb
    go_wp2
    go_ret
    exact ⟨ret_bool HQ.out.symm, HB.out⟩
  | true =>
    by_cases h0 : rs.length = 0
    · have HQ : Hid (idleB rs = true) := by show _ = _; rw [idleB, hG]; simp [h0]
      have h0' : ((rs.length : Int) == 0) = true := by simp [h0]
      clear hb
      go_wp2
      go_ret
      exact ⟨ret_bool HQ.out.symm, HB.out⟩
    have h0' : ((rs.length : Int) == 0) = false := beq_eq_false_iff_ne.2 (by omega)
    by_cases h1 : rs.length = 1
    · have h1' : ((rs.length : Int) == 1) = true := by simp [h1]
      have h1l : (0 : Int) < (rs.length : Int) := by omega
      obtain ⟨b, off, rfl, s0, s1, s2⟩ := came_at (k := 0) (hS.below hb) (by omega)
      have HQ : Hid (idleB rs = ((kind (rs.getD 0 rn0) : Int) == 1)) := by
        show _ = _
        rw [idleB, hG, Bool.true_and]
        by_cases hk : kind (rs.getD 0 rn0) = 1
        · rw [hk]; simp [h1]
        · rw [decide_eq_false (by omega), beq_eq_false_iff_ne.2 (by omega)]
      generalize rs.getD 0 rn0 = x at s0 s1 s2 HQ
      obtain ⟨xk, xa, xd⟩ := x
      simp only [Nat.zero_mul, Nat.add_zero] at s0 s1 s2
      clear hb
      go_wp2_with fail
      refine (rkind_any xk xd xa _).mono ?_
      rintro e w2 ⟨rfl, hb2⟩
      have HB2 := hide (HB.out.trans (hb2.mono HB.out.size))
      clear hb2
      go_wp2
      go_ret
      exact ⟨ret_bool HQ.out.symm, HB2.out⟩
    · have h1' : ((rs.length : Int) == 1) = false := beq_eq_false_iff_ne.2 (by omega)
      have HQ : Hid (idleB rs = false) := by show _ = _; rw [idleB, hG]; simp [h0, h1]
      clear hb
      go_wp2
      go_ret
      exact ⟨ret_bool HQ.out.symm, HB.out⟩

end Go.Proofs.Ytpmijaplkbmbiaa.E
