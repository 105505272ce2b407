/- Runs, measured: the parts. -/
import Derived.Test.YtecmiphmefbpnaaX1
namespace Go.Proofs.Ytecmiphmefbpnaa.E
open Go.Proofs.Ytecmiphmefbpnaa Go.RowKit Go.By Go.Shelf
set_option linter.unusedVariables false
attribute [local go_sem] Oper.semAt_some

set_option maxHeartbeats 1000000 in
theorem each_any (n : Nat) (a : Option Addr) (m cap : Nat) (w : World) :
    CallsIn Fence.wide n Try.prog 52 #[.slice a m cap] w fun e w' => e = .returned (.func (.func 55) #[] #[.pointer (some ⟨w.heap.size, 0, none⟩)]) ∧ w' = w.alloc (.cells #[.slice a m cap] 22) := by
  refine callsIn_of_wp Try.func52 rfl trivial ?_ rfl
  simp only [Try.ntmps52, List.size_toArray, List.length_cons, List.length_nil, Nat.reduceAdd, Nat.reduceSub, Array.replicate_succ, Array.replicate_zero, List.push_toArray, List.append_toArray, List.nil_append, List.cons_append]
  gi_wp2
  go_ret
  exact ⟨rfl, rfl⟩

def encR (x : Rn) : Array Value := #[.int .i64 (kind x : Int), .agg #[.int .i64 x.keep, .string x.add, .int .i64 x.drop]]

theorem runs_stops (n : Nat) (hn : 1 ≤ n) (Bn n₀ : Nat) (a : Option Addr) (cap : Nat) (rs : List Rn) (w : World) (hBn : Bn < w.heap.size) (hn₀ : n₀ ≤ w.heap.size)
    (hc : w.cell? ⟨Bn, 0, none⟩ = some (.slice a rs.length cap)) (hS : CameR n₀ w a rs) (hlen : rs.length ≤ 1000000) :
    SeqStopsK Fence.wide n Try.prog 55 #[.pointer (some ⟨Bn, 0, none⟩)] encR (Below n₀) (fun zs => zs = rs) (fun pre => pre <+: rs) rs.length w := fun l J Jx W hW hJ _ hY h0 =>
  runs1 n hn l Bn n₀ W.heap.size a cap rs J Jx hJ hY W (Nat.le_trans hn₀ hW.size) ((hW.cell (p := ⟨Bn, 0, none⟩) hBn).trans hc) (hS.below (hW.mono hn₀)) hlen h0

/-- How many bytes they are of, how many they make, and the last one's kind. -/
abbrev Ms := Int × Int × Nat
def mbad (s : Ms) (x : Rn) : Prop := kind x = 0 ∨ kind x = s.2.2 ∨ (kind x = 2 ∧ s.2.2 = 3) ∨ ¬ (max x.keep x.drop ≤ 16777216 - s.1 ∧ max x.keep (x.add.size : Int) ≤ 16777216 - s.2.1)
instance (s : Ms) (x : Rn) : Decidable (mbad s x) := by unfold mbad; infer_instance
def mnext (s : Ms) (x : Rn) : Ms := (s.1 + (x.keep + x.drop), s.2.1 + (x.keep + (x.add.size : Int)), kind x)
def mstep (s : Option Ms) (x : Rn) : Option Ms := s.bind fun s => if mbad s x then none else some (mnext s x)
def mscan (rs : List Rn) : Option Ms := rs.foldl mstep (some (0, 0, 0))

theorem mscan_snoc (pre : List Rn) (x : Rn) : mscan (pre ++ [x]) = mstep (mscan pre) x := by simp [mscan]
theorem mscan_bad {pre : List Rn} {x : Rn} {s : Ms} (h : mscan pre = some s) (hb : mbad s x) : mscan (pre ++ [x]) = none := by rw [mscan_snoc, h]; simp [mstep, hb]
theorem mscan_good {pre : List Rn} {x : Rn} {s : Ms} (h : mscan pre = some s) (hb : ¬ mbad s x) : mscan (pre ++ [x]) = some (mnext s x) := by rw [mscan_snoc, h]; simp [mstep, hb]
theorem foldl_mstep_none (rs : List Rn) : rs.foldl mstep none = none := by induction rs with
  | nil => rfl
  | cons x rs ih => exact ih
theorem mscan_none {pre rs : List Rn} (h : pre <+: rs) (hn : mscan pre = none) : mscan rs = none := by
  obtain ⟨t, rfl⟩ := h
  unfold mscan at hn ⊢
  rw [List.foldl_append, hn, foldl_mstep_none]

theorem loop_len (bs : ByteArray) (k : Nat) : ∀ (i : Nat) (r : List UInt8), bs.size - i = k → (ByteArray.toList.loop bs i r).length = r.length + k := by
  induction k with
  | zero => intro i r h; rw [ByteArray.toList.loop.eq_1, if_neg (by omega)]; simp
  | succ k ih => intro i r h; rw [ByteArray.toList.loop.eq_1, if_pos (by omega), ih (i + 1) _ (by omega)]; simp; omega
theorem len_toList (bs : ByteArray) : bs.toList.length = bs.size := by rw [ByteArray.toList, loop_len bs bs.size 0 [] (by omega)]; simp

theorem kind_le (x : Rn) : kind x ≤ 3 := by unfold kind; repeat' split
                                            all_goals omega
theorem kind_facts {x : Rn} (h : kind x ≠ 0) : 0 ≤ x.keep ∧ 0 ≤ x.drop ∧ max x.keep x.drop = x.keep + x.drop ∧ max x.keep (x.add.size : Int) = x.keep + (x.add.size : Int) := by
  have hz : x.add.toList = [] → x.add.size = 0 := fun h => by rw [← len_toList x.add, h]; rfl
  revert h
  unfold kind
  repeat' split
  all_goals intro h
  all_goals first
    | (rename_i h1; obtain ⟨p, q, r⟩ := h1; first
        | (have := hz q; omega)
        | omega)
    | exact absurd rfl h

theorem mnext_bounds {s : Ms} {x : Rn} (hi : 0 ≤ s.1 ∧ s.1 ≤ 16777216) (ho : 0 ≤ s.2.1 ∧ s.2.1 ≤ 16777216) (hb : ¬ mbad s x) :
    (0 ≤ (mnext s x).1 ∧ (mnext s x).1 ≤ 16777216) ∧ (0 ≤ (mnext s x).2.1 ∧ (mnext s x).2.1 ≤ 16777216) ∧ (mnext s x).2.2 ≤ 3 := by
  unfold mbad at hb
  have hk : kind x ≠ 0 := fun h => hb (.inl h)
  obtain ⟨h1, h2, h3, h4⟩ := kind_facts hk
  have hf : max x.keep x.drop ≤ 16777216 - s.1 ∧ max x.keep (x.add.size : Int) ≤ 16777216 - s.2.1 := Decidable.byContradiction fun h => hb (.inr (.inr (.inr h)))
  have := kind_le x
  unfold mnext
  dsimp only
  omega

/-- The variables of measure. -/
structure MB (W : World) (H : Nat) (s : Ms) : Prop where
  b2 : W.heap[H]? = some (.cells #[.int .i64 0, .int .i64 0] 86 (0, 0))
  b3 : Boxed W (H + 1) 4 (.bool false)
  b4 : W.heap[H + 1 + 1]? = some (.cells #[.int .i64 s.1, .int .i64 s.2.1] 86 (0, 0))
  b5 : Boxed W (H + 1 + 1 + 1) 3 (.int .i64 (s.2.2 : Int))

theorem cells_keep {X Y : World} {row : Option Nat} {B : Nat} {cs : Array Value} {t : TypeId} {fr : Nat × Nat} (h : X.heap[B]? = some (.cells cs t fr)) (hg : X.grownBy Y row) (hrow : ∀ r, row = some r → ∃ o : Obj, X.heap[r]? = some o ∧ o.isCells = false) : Y.heap[B]? = some (.cells cs t fr) :=
  (hg.block B (lt_of_heap h) fun e => by obtain ⟨o, ho, hc⟩ := hrow B e.symm; rw [h] at ho; cases ho; cases hc).trans h

theorem mb_own {β : Type} (H : Nat) (s : β → Ms) : Own (fun b W => MB W H (s b)) := fun b X Y row h hg hrow =>
  ⟨cells_keep h.b2 hg hrow, cells_keep h.b3 hg hrow, cells_keep h.b4 hg hrow, cells_keep h.b5 hg hrow⟩

theorem MB.below {W W' : World} {H : Nat} {s : Ms} (h : MB W H s) (hb : Below W.heap.size W W') : MB W' H s :=
  mb_own H (fun _ : Unit => s) () W W' none h (grown_of_below hb) (fun r e => by cases e)

end Go.Proofs.Ytecmiphmefbpnaa.E
