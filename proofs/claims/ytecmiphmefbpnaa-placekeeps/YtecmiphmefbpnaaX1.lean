/- Runs: which kind. And more of the same. -/
import Derived.Test.YtecmiphmefbpnaaBase
/- Runs: which kind. -/
namespace Go.Proofs.Ytecmiphmefbpnaa.E
open Go.Proofs.Ytecmiphmefbpnaa Go.RowKit Go.By Go.Shelf
set_option linter.unusedVariables false

/-- A run. -/
structure Rn where
  keep : Int
  add : ByteArray
  drop : Int
def rn0 : Rn := ⟨0, ⟨#[]⟩, 0⟩
def Rn.val (r : Rn) : Value := .agg #[.int .i64 r.keep, .string r.add, .int .i64 r.drop]

/-- Which kind it is: 1 keeps, 2 adds, 3 drops, 0 is not right. -/
def kind (r : Rn) : Nat :=
  if 0 < r.keep ∧ r.add.toList = [] ∧ r.drop = 0 then 1
  else if r.keep = 0 ∧ ¬ r.add.toList = [] ∧ r.drop = 0 then 2
  else if r.keep = 0 ∧ r.add.toList = [] ∧ 0 < r.drop then 3 else 0

theorem kind_one {k d : Int} {a : ByteArray} (h1 : 0 < k) (h2 : a.toList = []) (h3 : d = 0) : kind ⟨k, a, d⟩ = 1 := by unfold kind; rw [if_pos ⟨h1, h2, h3⟩]
theorem kind_two {k d : Int} {a : ByteArray} (h1 : k = 0) (h2 : ¬ a.toList = []) (h3 : d = 0) : kind ⟨k, a, d⟩ = 2 := by unfold kind; rw [if_neg (fun h => h2 h.2.1), if_pos ⟨h1, h2, h3⟩]
theorem kind_three {k d : Int} {a : ByteArray} (h1 : k = 0) (h2 : a.toList = []) (h3 : 0 < d) : kind ⟨k, a, d⟩ = 3 := by
  unfold kind; rw [if_neg (fun h => by have := h.1; simp at this; omega), if_neg (fun h => h.2.1 h2), if_pos ⟨h1, h2, h3⟩]
theorem kind_zero {k d : Int} {a : ByteArray} (h1 : ¬ (0 < k ∧ a.toList = [] ∧ d = 0)) (h2 : ¬ (k = 0 ∧ ¬ a.toList = [] ∧ d = 0)) (h3 : ¬ (k = 0 ∧ a.toList = [] ∧ 0 < d)) : kind ⟨k, a, d⟩ = 0 := by unfold kind; rw [if_neg h1, if_neg h2, if_neg h3]

set_option maxRecDepth 20000 in
set_option maxHeartbeats 4000000 in
theorem kindOf_any (k d : Int) (a : ByteArray) (W : World) :
    Calls Try.prog 56 #[.agg #[.int .i64 k, .string a, .int .i64 d]] W fun e W' => e = .returned (.int .i64 (kind ⟨k, a, d⟩ : Int)) ∧ Below W.heap.size W W' := by
  go_enter Try.func56, Try.ntmps56
  go_wp2
  all_goals go_ret
  all_goals (refine ⟨?_, (Below.refl _ W).alloc (Nat.le_refl _) _⟩)
  all_goals
    refine ret_int ?_
    unfold kind
    dsimp only
    repeat' split
  all_goals first
    | rfl
    | omega
    | (exfalso; rename_i h _; exact h ⟨by omega, by assumption, by omega⟩)
    | (exfalso; simp_all; done)
    | (exfalso; simp_all; omega)

set_option maxRecDepth 20000 in
set_option maxHeartbeats 4000000 in
theorem rkind_any (k d : Int) (a : ByteArray) (W : World) :
    Calls Try.prog 35 #[.agg #[.int .i64 k, .string a, .int .i64 d]] W fun e W' => e = .returned (.int .i64 (kind ⟨k, a, d⟩ : Int)) ∧ Below W.heap.size W W' := by
  go_enter Try.func35, Try.ntmps35
  go_wp2
  all_goals go_ret
  all_goals (refine ⟨?_, (Below.refl _ W).alloc (Nat.le_refl _) _⟩)
  all_goals
    refine ret_int ?_
    unfold kind
    dsimp only
    repeat' split
  all_goals first
    | rfl
    | omega
    | (exfalso; rename_i h _; exact h ⟨by omega, by assumption, by omega⟩)
    | (exfalso; simp_all; done)
    | (exfalso; simp_all; omega)

end Go.Proofs.Ytecmiphmefbpnaa.E

/- Runs: how many bytes. -/
namespace Go.Proofs.Ytecmiphmefbpnaa.E
open Go.Proofs.Ytecmiphmefbpnaa Go.RowKit Go.By Go.Shelf
set_option linter.unusedVariables false

/-- Does a run fit behind so many bytes? -/
def fitsB (i o : Int) (r : Rn) : Bool := decide (max r.keep r.drop ≤ 16777216 - i ∧ max r.keep (r.add.size : Int) ≤ 16777216 - o)

set_option maxRecDepth 20000 in
set_option maxHeartbeats 4000000 in
theorem grow_no {W : World} {b : Nat} {i o k d : Int} {a : ByteArray} (hb : W.heap[b]? = some (.cells #[.int .i64 i, .int .i64 o] 86 (0, 0))) (hi : 0 ≤ i ∧ i ≤ 16777216) (ho : 0 ≤ o ∧ o ≤ 16777216) (hn : ¬ (max k d ≤ 16777216 - i ∧ max k (a.size : Int) ≤ 16777216 - o)) :
    Calls Try.prog 53 #[.pointer (some ⟨b, 0, none⟩), .agg #[.int .i64 k, .string a, .int .i64 d]] W fun e W' => e = .returned (.bool false) ∧ Below W.heap.size W W' := by
  have c0 : W.cell? ⟨b, 0, none⟩ = some (.int .i64 i) := by rw [Joins.cell_of_block hb]; rfl
  have c1 : W.cell? ⟨b, 1, none⟩ = some (.int .i64 o) := by rw [Joins.cell_of_block hb]; rfl
  have hlt := lt_of_heap hb
  have HB := hide ((Below.refl W.heap.size W).alloc (Nat.le_refl _) (.cells #[.int .i64 k, .string a, .int .i64 d] 51))
  have d0 : (W.alloc (.cells #[.int .i64 k, .string a, .int .i64 d] 51)).cell? ⟨b, 0, none⟩ = some (.int .i64 i) := (HB.out.cell (p := ⟨b, 0, none⟩) hlt).trans c0
  have d1 : (W.alloc (.cells #[.int .i64 k, .string a, .int .i64 d] 51)).cell? ⟨b, 1, none⟩ = some (.int .i64 o) := (HB.out.cell (p := ⟨b, 1, none⟩) hlt).trans c1
  have w1 : IntKind.i64.wrap (16777216 - i) = 16777216 - i := by rw [IntKind.wrap_i64]; omega
  have w2 : IntKind.i64.wrap (16777216 - o) = 16777216 - o := by rw [IntKind.wrap_i64]; omega
  have HN := hide hn
  by_cases h1 : 16777216 - i < max k d
  · have b1 : decide (16777216 - i < max k d) = true := decide_eq_true h1
    clear hn hb
    go_enter Try.func53, Try.ntmps53
    go_wp2_with fail
    go_quiet (fail)
    go_wp2
    go_ret
    exact ⟨rfl, ⟨HB.out.os, HB.out.tape, HB.out.output, HB.out.size, HB.out.block⟩⟩
  · have b1 : decide (16777216 - i < max k d) = false := decide_eq_false h1
    have h2 : 16777216 - o < max k (a.size : Int) := by omega
    have b2 : decide (16777216 - o < max k (a.size : Int)) = true := decide_eq_true h2
    clear hn hb
    go_enter Try.func53, Try.ntmps53
    go_wp2_with fail
    go_quiet (fail)
    go_wp2
    go_ret
    exact ⟨rfl, ⟨HB.out.os, HB.out.tape, HB.out.output, HB.out.size, HB.out.block⟩⟩

/-- One number of the two was put, and nothing else. -/
def Put (X : World) (b : Nat) (x y : Value) (wc : World) : Prop := wc.heap[b]? = some (.cells #[x, y] 86 (0, 0)) ∧ Only (fun k => k = b) X wc

theorem Put.drew {X wc : World} {b : Nat} {x y : Value} (h : Put X b x y wc) : Put X b x y wc.drew := ⟨h.1, ⟨h.2.os, h.2.tape, h.2.output, h.2.size, h.2.block⟩⟩
theorem Put.drewN {X wc : World} {b : Nat} {x y : Value} (h : Put X b x y wc) (q : Nat) : Put X b x y (wc.drewN q) := ⟨h.1, ⟨h.2.os, h.2.tape, h.2.output, h.2.size, h.2.block⟩⟩

theorem put_one {X Y : World} {b : Nat} {x y x' : Value} (h : X.heap[b]? = some (.cells #[x, y] 86 (0, 0))) (hY : Only (fun k => k = b) X Y) (hb : Y.heap[b]? = X.heap[b]?) : Put X b x' y (Y.setCell ⟨b, 0, none⟩ x') := by
  have h2 := heap_setCell (i := 0) (hb.trans h) x'
  exact ⟨by simpa using h2, hY.trans (Only.setCell (S := fun k => k = b) Y ⟨b, 0, none⟩ x' rfl)⟩
theorem put_two {X Y : World} {b : Nat} {x y y' : Value} (h : X.heap[b]? = some (.cells #[x, y] 86 (0, 0))) (hY : Only (fun k => k = b) X Y) (hb : Y.heap[b]? = X.heap[b]?) : Put X b x y' (Y.setCell ⟨b, 1, none⟩ y') := by
  have h2 := heap_setCell (i := 1) (hb.trans h) y'
  exact ⟨by simpa using h2, hY.trans (Only.setCell (S := fun k => k = b) Y ⟨b, 1, none⟩ y' rfl)⟩

set_option maxRecDepth 20000 in
set_option maxHeartbeats 8000000 in
theorem grow_yes {W : World} {b : Nat} {i o k d : Int} {a : ByteArray} (hb : W.heap[b]? = some (.cells #[.int .i64 i, .int .i64 o] 86 (0, 0))) (hi : 0 ≤ i ∧ i ≤ 16777216) (ho : 0 ≤ o ∧ o ≤ 16777216) (hk : 0 ≤ k) (hd : 0 ≤ d) (hn : max k d ≤ 16777216 - i ∧ max k (a.size : Int) ≤ 16777216 - o) :
    Calls Try.prog 53 #[.pointer (some ⟨b, 0, none⟩), .agg #[.int .i64 k, .string a, .int .i64 d]] W fun e W' => e = .returned (.bool true) ∧ W'.heap[b]? = some (.cells #[.int .i64 (i + (k + d)), .int .i64 (o + (k + (a.size : Int)))] 86 (0, 0)) ∧ Only (fun x => x = b) W W' := by
  have c0 : W.cell? ⟨b, 0, none⟩ = some (.int .i64 i) := by rw [Joins.cell_of_block hb]; rfl
  have c1 : W.cell? ⟨b, 1, none⟩ = some (.int .i64 o) := by rw [Joins.cell_of_block hb]; rfl
  have f0 : W.frozen? ⟨b, 0, none⟩ = false := by simp [World.frozen?, hb]
  have f1 : W.frozen? ⟨b, 1, none⟩ = false := by simp [World.frozen?, hb]
  have hlt := lt_of_heap hb
  have HB := hide ((Below.refl W.heap.size W).alloc (Nat.le_refl _) (.cells #[.int .i64 k, .string a, .int .i64 d] 51))
  have d0 : (W.alloc (.cells #[.int .i64 k, .string a, .int .i64 d] 51)).cell? ⟨b, 0, none⟩ = some (.int .i64 i) := (HB.out.cell (p := ⟨b, 0, none⟩) hlt).trans c0
  have d1 : (W.alloc (.cells #[.int .i64 k, .string a, .int .i64 d] 51)).cell? ⟨b, 1, none⟩ = some (.int .i64 o) := (HB.out.cell (p := ⟨b, 1, none⟩) hlt).trans c1
  have g0 : (W.alloc (.cells #[.int .i64 k, .string a, .int .i64 d] 51)).frozen? ⟨b, 0, none⟩ = false := (HB.out.frozen (p := ⟨b, 0, none⟩) hlt).trans f0
  have g1 : (W.alloc (.cells #[.int .i64 k, .string a, .int .i64 d] 51)).frozen? ⟨b, 1, none⟩ = false := (HB.out.frozen (p := ⟨b, 1, none⟩) hlt).trans f1
  have w1 : IntKind.i64.wrap (16777216 - i) = 16777216 - i := by rw [IntKind.wrap_i64]; omega
  have w2 : IntKind.i64.wrap (16777216 - o) = 16777216 - o := by rw [IntKind.wrap_i64]; omega
  have w3 : IntKind.i64.wrap (k + d) = k + d := by rw [IntKind.wrap_i64]; omega
  have w4 : IntKind.i64.wrap (i + (k + d)) = i + (k + d) := by rw [IntKind.wrap_i64]; omega
  have w5 : IntKind.i64.wrap (k + (a.size : Int)) = k + (a.size : Int) := by rw [IntKind.wrap_i64]; omega
  have w6 : IntKind.i64.wrap (o + (k + (a.size : Int))) = o + (k + (a.size : Int)) := by rw [IntKind.wrap_i64]; omega
  have b1 : decide (16777216 - i < max k d) = false := decide_eq_false (by omega)
  have b2 : decide (16777216 - o < max k (a.size : Int)) = false := decide_eq_false (by omega)
  have HBK := hide hb
  have hbn : ¬ b = W.heap.size := by omega
  have hbn' : ¬ W.heap.size = b := by omega
  clear hn hb
  go_enter Try.func53, Try.ntmps53
  go_wp2_with fail
  go_quiet (fail)
  go_wp2_with fail
  have hX : (W.alloc (.cells #[.int .i64 k, .string a, .int .i64 d] 51)).heap[b]? = some (.cells #[.int .i64 i, .int .i64 o] 86 (0, 0)) := (HB.out.block b hlt).trans HBK.out
  have HX := hide hX
  clear hX
  go_cut [] from 5 to 55 (fun wc => Hid (Put (W.alloc (.cells #[.int .i64 k, .string a, .int .i64 d] 51)) b (.int .i64 (i + (k + d))) (.int .i64 o) wc))
  case first =>
    go_region_with (fail)
    all_goals (go_wp2_with fail; go_meet)
    all_goals exact hide (put_one HX.out (by first | exact Only.refl _ _ | exact Only.drewN _ _ _ | exact ⟨rfl, rfl, rfl, Nat.le_refl _, fun _ _ _ => rfl⟩) rfl)
  case rest =>
    have hbw : wc.heap[W.heap.size]? = some (.cells #[.int .i64 k, .string a, .int .i64 d] 51 (0, 0)) := (hcut.out.2.block W.heap.size (by simp) (by omega)).trans (World.alloc_heap_new W _)
    have e0 : wc.cell? ⟨W.heap.size, 0, none⟩ = some (.int .i64 k) := by rw [Joins.cell_of_block hbw]; rfl
    have e1 : wc.cell? ⟨W.heap.size, 1, none⟩ = some (.string a) := by rw [Joins.cell_of_block hbw]; rfl
    have e2 : wc.cell? ⟨b, 1, none⟩ = some (.int .i64 o) := by rw [Joins.cell_of_block hcut.out.1]; rfl
    have e3 : wc.frozen? ⟨b, 1, none⟩ = false := by simp [World.frozen?, hcut.out.1]
    have HCUT := hcut
    clear hbw c0 c1 f0 f1 d0 d1 g0 g1 hcut
    go_wp2_with fail
    go_cut [] from 5 to 55 (fun wd => Hid (Put wc b (.int .i64 (i + (k + d))) (.int .i64 (o + (k + (a.size : Int)))) wd))
    case first =>
      go_region_with (fail)
      all_goals (go_wp2_with fail; go_meet)
      all_goals first
        | exact hide (put_two HCUT.out.1 (Only.refl _ _) rfl)
        | exact hide (put_two HCUT.out.1 (Only.refl _ _) rfl).drew
        | exact hide ((put_two HCUT.out.1 (Only.refl _ _) rfl).drewN _)
        | exact hide (put_two HCUT.out.1 (by first | exact Only.drewN _ _ _ | exact ⟨rfl, rfl, rfl, Nat.le_refl _, fun _ _ _ => rfl⟩) rfl)
        | exact hide (put_two HCUT.out.1 (by first | exact Only.drewN _ _ _ | exact ⟨rfl, rfl, rfl, Nat.le_refl _, fun _ _ _ => rfl⟩) rfl).drew
    case rest =>
      have HC2 := hcut
      clear hcut
      go_wp2
      go_ret
      exact ⟨rfl, HC2.out.1, ((Only.alloc _ W _).trans HCUT.out.2).trans HC2.out.2⟩

end Go.Proofs.Ytecmiphmefbpnaa.E

/- Runs, one behind the other. -/
namespace Go.Proofs.Ytecmiphmefbpnaa.E
open Go.Proofs.Ytecmiphmefbpnaa Go.RowKit Go.By Go.Shelf
set_option linter.unusedVariables false
attribute [local go_sem] Oper.semAt_some

/-- Runs that lie in blocks below n₀. -/
def CameR (n₀ : Nat) (W : World) (a : Option Addr) (rs : List Rn) : Prop := rs = [] ∨ ∃ b off, a = some ⟨b, off, none⟩ ∧ b < n₀ ∧ ∀ i, i < rs.length →
  W.cell? ⟨b, off + i * 3, none⟩ = some (.int .i64 (rs.getD i rn0).keep) ∧ W.cell? ⟨b, off + i * 3 + 1, none⟩ = some (.string (rs.getD i rn0).add) ∧ W.cell? ⟨b, off + i * 3 + 2, none⟩ = some (.int .i64 (rs.getD i rn0).drop)

theorem CameR.below {n₀ : Nat} {W W' : World} {a : Option Addr} {rs : List Rn} (h : CameR n₀ W a rs) (hb : Below n₀ W W') : CameR n₀ W' a rs := by
  rcases h with h | ⟨b, off, e, hl, hc⟩
  · exact .inl h
  · exact .inr ⟨b, off, e, hl, fun i hi => ⟨(hb.cell (p := ⟨b, _, none⟩) hl).trans (hc i hi).1, (hb.cell (p := ⟨b, _, none⟩) hl).trans (hc i hi).2.1, (hb.cell (p := ⟨b, _, none⟩) hl).trans (hc i hi).2.2⟩⟩

theorem grown_of_below {W W' : World} (h : Below W.heap.size W W') : W.grownBy W' none := ⟨h.os, h.tape, h.output, h.size, fun k hk _ => h.block k hk⟩

theorem abides_below {β : Type} {B : Nat} {J : β → World → Prop} (hJ : AbidesFrom B J) {s : β} {W W' : World} (h : J s W) (hb : Below W.heap.size W W') : J s W' :=
  hJ s W W' none h (grown_of_below hb) (fun r e => by cases e)

theorem below_drew1 {B : Nat} {w0 w : World} (h : Below B w0 w) : Below B w0 w.drew := ⟨h.os, h.tape, h.output, h.size, h.block⟩

theorem below_of_drew {B : Nat} {w0 w : World} (h : Below B w0.drew w) : Below B w0 w := ⟨h.os, h.tape, h.output, h.size, h.block⟩

/-- How a round ended. -/
def Went3 (n₀ : Nat) (W : World) (G Gx : World → Prop) (b : Bool) (W' : World) : Prop := (b = true ∧ G W' ∧ Below n₀ W W') ∨ (b = false ∧ Gx W')

theorem went3_of {n₀ : Nat} {W : World} {G Gx : World → Prop} {e : Ending} {W' : World} (h : (e = .returned (.bool true) ∧ G W' ∧ Below n₀ W W') ∨ (e = .returned (.bool false) ∧ Gx W')) : ∃ b, e = .returned (.bool b) ∧ Went3 n₀ W G Gx b W' :=
  h.elim (fun h => ⟨true, h.1, .inl ⟨rfl, h.2⟩⟩) fun h => ⟨false, h.1, .inr ⟨rfl, h.2⟩⟩

theorem cells3 {wr w' : World} {x y z : Value} (hw : Below (wr.heap.size + 1) (wr.alloc (.cells #[x, y, z] 51)) w') :
    w'.cell? ⟨wr.heap.size, 0, none⟩ = some x ∧ w'.cell? ⟨wr.heap.size, 1, none⟩ = some y ∧ w'.cell? ⟨wr.heap.size, 2, none⟩ = some z :=
  ⟨(hw.cell (p := ⟨wr.heap.size, 0, none⟩) (Nat.lt_succ_self _)).trans (by simp [go_sem]), (hw.cell (p := ⟨wr.heap.size, 1, none⟩) (Nat.lt_succ_self _)).trans (by simp [go_sem]), (hw.cell (p := ⟨wr.heap.size, 2, none⟩) (Nat.lt_succ_self _)).trans (by simp [go_sem])⟩

set_option maxRecDepth 100000 in
set_option maxHeartbeats 4000000 in
theorem runs1 (n : Nat) (hn : 1 ≤ n) (l Bn n₀ B : Nat) (a : Option Addr) (cap : Nat) (rs : List Rn) (J Jx : List Rn → World → Prop) (hJ : AbidesFrom B J)
    (hY : ∀ pre x W, J pre W → pre.length < rs.length → YieldAt Fence.wide (n - 1) Try.prog l #[.int .i64 (kind x : Int), .agg #[.int .i64 x.keep, .string x.add, .int .i64 x.drop]] W fun e W' =>
      (e = .returned (.bool true) ∧ J (pre ++ [x]) W' ∧ Below n₀ W W') ∨ (e = .returned (.bool false) ∧ Jx (pre ++ [x]) W'))
    (W : World) (hn₀ : n₀ ≤ W.heap.size) (hc : W.cell? ⟨Bn, 0, none⟩ = some (.slice a rs.length cap)) (hS : CameR n₀ W a rs) (hlen : rs.length ≤ 1000000) (h0 : J [] W) :
    CallsIn Fence.wide n Try.prog 55 #[.func (.yield l) #[] #[], .pointer (some ⟨Bn, 0, none⟩)] W fun e W' => (∃ v, e = .returned v) ∧
      ((∃ zs, zs = rs ∧ J zs W') ∨ (∃ pre, pre <+: rs ∧ Jx pre W')) := by
  have hro : Fence.wide.round = none := rfl
  have h132 : Fence.wide.fn 55 := trivial
  have h133 : Fence.wide.fn 56 := trivial
  refine callsIn_of_wp Try.func55 rfl trivial ?_ rfl
  simp only [Try.ntmps55, List.size_toArray, List.length_cons, List.length_nil, Nat.reduceAdd, Nat.reduceSub, Array.replicate_succ, Array.replicate_zero, List.push_toArray, List.append_toArray, List.nil_append, List.cons_append]
  gi_wp2
  gi_loopw [7] (fun i wr => ∃ k : Nat, k ≤ rs.length ∧ i = .int .i64 k ∧ J (rs.take k) wr ∧ Below n₀ W wr)
    (fun i _ => rs.length - (intOf i).toNat)
  case atStart => exact ⟨0, Nat.zero_le _, rfl, by simpa using h0, Below.refl _ _⟩
  case round =>
    obtain ⟨k, hk, rfl, hJs, hnx⟩ := hrel
    by_cases hlt : k < rs.length
    · obtain ⟨b, off, rfl, hbl, hcell⟩ : ∃ b off, a = some ⟨b, off, none⟩ ∧ b < n₀ ∧ _ := by
        rcases hS.below hnx with rfl | h
        · simp at hlt
        · exact h
      obtain ⟨s0, s1, s2⟩ := hcell k hlt
      have hsn : rs.take (k + 1) = rs.take k ++ [rs.getD k rn0] := by rw [List.take_succ_eq_append_getElem hlt]; simp [List.getD, hlt]
      obtain ⟨x, hx⟩ : ∃ x, x = rs.getD k rn0 := ⟨_, rfl⟩
      rw [← hx] at s0 s1 s2 hsn
      obtain ⟨xk, xa, xd⟩ := x
      replace s0 : wr.cell? ⟨b, off + k * 3, none⟩ = some (.int .i64 xk) := s0
      replace s1 : wr.cell? ⟨b, off + k * 3 + 1, none⟩ = some (.string xa) := s1
      replace s2 : wr.cell? ⟨b, off + k * 3 + 2, none⟩ = some (.int .i64 xd) := s2
      have HSN := hide hsn
      have hlt' : (k : Int) < (rs.length : Int) := by omega
      have hba : Below wr.heap.size wr (wr.alloc (.cells #[.int .i64 xk, .string xa, .int .i64 xd] 51)) := (Below.refl _ _).alloc (Nat.le_refl _) _
      have HBA := hide hba
      have hJk : (rs.take k).length < rs.length := by simp; omega
      have HJ := hide hJs
      have hA : ∀ w', Below (wr.heap.size + 1) (wr.alloc (.cells #[.int .i64 xk, .string xa, .int .i64 xd] 51)) w' → ∃ fn tmps assign body,
          (Instr.yield l #[.int .i64 (kind ⟨xk, xa, xd⟩ : Int), .agg #[.int .i64 xk, .string xa, .int .i64 xd]]).run Try.prog w' = .ok (.round l fn tmps assign body) w' ∧
          RoundIn Fence.wide (n - 1) Try.prog l fn tmps assign body w' fun e W' => ∃ b, e = .returned (.bool b) ∧ Went3 n₀ w' (J (rs.take (k + 1))) (Jx (rs.take (k + 1))) b W' := fun w' hw' => by
        have hb2 : Below wr.heap.size wr w' := hba.trans (hw'.mono (Nat.le_succ _))
        obtain ⟨fn, tmps, assign, body, hy, hR⟩ := hY (rs.take k) ⟨xk, xa, xd⟩ w' (abides_below hJ hJs hb2) hJk
        refine ⟨fn, tmps, assign, body, hy, hR.mono fun e W' h => went3_of ?_⟩
        rw [hsn]; exact h
      have mixed : Try.prog.follows .mixedOrders = true := by kernel_rfl
      have HA := hide hA
      clear hcell hx hsn hba hJs hA hY
      gi_wp2_with fail
      gi_region_with_o (first
        | (gi_at_call 56; refine (callsIn_wide.2 (kindOf_any xk xd xa _)).mono ?_; rintro e w' ⟨rfl, hw'⟩; have hw2 : Below (wr.heap.size + 1) (wr.alloc (.cells #[.int .i64 xk, .string xa, .int .i64 xd] 51)) w' := below_of_drew (by simpa using hw'); clear hw'; obtain ⟨t0, t1, t2⟩ := cells3 hw2; obtain ⟨fn, tmps, assign, body, hy, hR⟩ := HA.out w' hw2; have HW := hide hw2; clear hw2)
        | (refine hR.mono ?_; rintro e W3 ⟨bb, rfl, hW3⟩; have HW3 := hide hW3; clear hW3))
      all_goals
        have hnw : n₀ ≤ wr.heap.size := Nat.le_trans hn₀ hnx.size
        rcases HW3.out with ⟨rfl, hJ3, hk3⟩ | ⟨rfl, hJx3⟩
        · have hk4 := ((hnx.trans (HBA.out.mono hnw)).trans (HW.out.mono (Nat.le_succ_of_le hnw))).trans hk3
          clear hk3
          gi_wp2
          go_roundw
          case rel => exact ⟨k + 1, by omega, by simp, hJ3, hk4⟩
          case measure => simp [intOf]; omega
        · gi_wp2
          refine bodyPost_ret (results_none rfl _ _ _) rfl ?_
          exact ⟨⟨_, rfl⟩, .inr ⟨_, List.take_prefix _ _, hJx3⟩⟩
    · obtain rfl : k = rs.length := by omega
      gi_wp2
      go_end0
      exact ⟨⟨_, rfl⟩, .inl ⟨_, rfl, by simpa using hJs⟩⟩

end Go.Proofs.Ytecmiphmefbpnaa.E
