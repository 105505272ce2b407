/- Runs, one behind the other. -/
import Derived.Test.YtpmijaplkbmbiaaEd2
namespace Go.Proofs.Ytpmijaplkbmbiaa.E
open Go.Proofs.Ytpmijaplkbmbiaa Go.RowKit Go.By Go.Shelf
set_option linter.unusedVariables false
attribute [local go_sem] Oper.semAt_some

/-- Runs that lie in blocks below n₀. -/
def CameR (n₀ : Nat) (W : World) (a : Option Addr) (rs : List Rn) : Prop := rs = [] ∨ ∃ b off, a = some ⟨b, off, none⟩ ∧ b < n₀ ∧ ∀ i, i < rs.length →
  W.cell? ⟨b, off + i * 3, none⟩ = some (.int .i64 (rs.getD i rn0).keep) ∧ W.cell? ⟨b, off + i * 3 + 1, none⟩ = some (.string (rs.getD i rn0).add) ∧ W.cell? ⟨b, off + i * 3 + 2, none⟩ = some (.int .i64 (rs.getD i rn0).drop)

theorem CameR.below {n₀ : Nat} {W W' : World} {a : Option Addr} {rs : List Rn} (h : CameR n₀ W a rs) (hb : Below n₀ W W') : CameR n₀ W' a rs := by
  rcases h with h | ⟨b, off, e, hl, hc⟩
  · exact .inl h
  · exact .inr ⟨b, off, e, hl, fun i hi => ⟨(hb.cell (p := ⟨b, _, none⟩) hl).trans (hc i hi).1, (hb.cell (p := ⟨b, _, none⟩) hl).trans (hc i hi).2.1, (hb.cell (p := ⟨b, _, none⟩) hl).trans (hc i hi).2.2⟩⟩

theorem grown_of_below {W W' : World} (h : Below W.heap.size W W') : W.grownBy W' none := ⟨h.os, h.tape, h.output, h.size, fun k hk _ => h.block k hk⟩

theorem abides_below {β : Type} {B : Nat} {J : β → World → Prop} (hJ : AbidesFrom B J) {s : β} {W W' : World} (h : J s W) (hb : Below W.heap.size W W') : J s W' :=
  hJ s W W' none h (grown_of_below hb) (fun r e => by cases e)

theorem below_drew1 {B : Nat} {w0 w : World} (h : Below B w0 w) : Below B w0 w.drew := ⟨h.os, h.tape, h.output, h.size, h.block⟩

theorem below_of_drew {B : Nat} {w0 w : World} (h : Below B w0.drew w) : Below B w0 w := ⟨h.os, h.tape, h.output, h.size, h.block⟩

/-- How a round ended. -/
def Went3 (n₀ : Nat) (W : World) (G Gx : World → Prop) (b : Bool) (W' : World) : Prop := (b = true ∧ G W' ∧ Below n₀ W W') ∨ (b = false ∧ Gx W')

theorem went3_of {n₀ : Nat} {W : World} {G Gx : World → Prop} {e : Ending} {W' : World} (h : (e = .returned (.bool true) ∧ G W' ∧ Below n₀ W W') ∨ (e = .returned (.bool false) ∧ Gx W')) : ∃ b, e = .returned (.bool b) ∧ Went3 n₀ W G Gx b W' :=
  h.elim (fun h => ⟨true, h.1, .inl ⟨rfl, h.2⟩⟩) fun h => ⟨false, h.1, .inr ⟨rfl, h.2⟩⟩

theorem cells3 {wr w' : World} {x y z : Value} (hw : Below (wr.heap.size + 1) (wr.alloc (.cells #[x, y, z] 91)) w') :
    w'.cell? ⟨wr.heap.size, 0, none⟩ = some x ∧ w'.cell? ⟨wr.heap.size, 1, none⟩ = some y ∧ w'.cell? ⟨wr.heap.size, 2, none⟩ = some z :=
  ⟨(hw.cell (p := ⟨wr.heap.size, 0, none⟩) (Nat.lt_succ_self _)).trans (by simp [go_sem]), (hw.cell (p := ⟨wr.heap.size, 1, none⟩) (Nat.lt_succ_self _)).trans (by simp [go_sem]), (hw.cell (p := ⟨wr.heap.size, 2, none⟩) (Nat.lt_succ_self _)).trans (by simp [go_sem])⟩

set_option maxRecDepth 100000 in
set_option maxHeartbeats 4000000 in
theorem runs1 (n : Nat) (hn : 1 ≤ n) (l Bn n₀ B : Nat) (a : Option Addr) (cap : Nat) (rs : List Rn) (J Jx : List Rn → World → Prop) (hJ : AbidesFrom B J)
    (hY : ∀ pre x W, J pre W → pre.length < rs.length → YieldAt Fence.wide (n - 1) Try.prog l #[.int .i64 (kind x : Int), .agg #[.int .i64 x.keep, .string x.add, .int .i64 x.drop]] W fun e W' =>
      (e = .returned (.bool true) ∧ J (pre ++ [x]) W' ∧ Below n₀ W W') ∨ (e = .returned (.bool false) ∧ Jx (pre ++ [x]) W'))
    (W : World) (hn₀ : n₀ ≤ W.heap.size) (hc : W.cell? ⟨Bn, 0, none⟩ = some (.slice a rs.length cap)) (hS : CameR n₀ W a rs) (hlen : rs.length ≤ 1000000) (h0 : J [] W) :
    CallsIn Fence.wide n Try.prog 132 #[.func (.yield l) #[] #[], .pointer (some ⟨Bn, 0, none⟩)] W fun e W' => (∃ v, e = .returned v) ∧
      ((∃ zs, zs = rs ∧ J zs W') ∨ (∃ pre, pre <+: rs ∧ Jx pre W')) := by
  have hro : Fence.wide.round = none := rfl
  have h132 : Fence.wide.fn 132 := trivial
  have h133 : Fence.wide.fn 133 := trivial
  refine callsIn_of_wp Try.func132 rfl trivial ?_ rfl
  simp only [Try.ntmps132, List.size_toArray, List.length_cons, List.length_nil, Nat.reduceAdd, Nat.reduceSub, Array.replicate_succ, Array.replicate_zero, List.push_toArray, List.append_toArray, List.nil_append, List.cons_append]
  gi_wp2
  gi_loopw [7] (fun i wr => ∃ k : Nat, k ≤ rs.length ∧ i = .int .i64 k ∧ J (rs.take k) wr ∧ Below n₀ W wr)
    (fun i _ => rs.length - (intOf i).toNat)
  case atStart => exact ⟨0, Nat.zero_le _, rfl, by simpa using h0, Below.refl _ _⟩
  case round =>
    obtain ⟨k, hk, rfl, hJs, hnx⟩ := hrel
    by_cases hlt : k < rs.length
    · obtain ⟨b, off, rfl, hbl, hcell⟩ : ∃ b off, a = some ⟨b, off, none⟩ ∧ b < n₀ ∧ _ := by
        rcases hS.below hnx with rfl | h
        · simp at hlt
        · exact h
      obtain ⟨s0, s1, s2⟩ := hcell k hlt
      have hsn : rs.take (k + 1) = rs.take k ++ [rs.getD k rn0] := by rw [List.take_succ_eq_append_getElem hlt]; simp [List.getD, hlt]
      obtain ⟨x, hx⟩ : ∃ x, x = rs.getD k rn0 := ⟨_, rfl⟩
      rw [← hx] at s0 s1 s2 hsn
      obtain ⟨xk, xa, xd⟩ := x
      replace s0 : wr.cell? ⟨b, off + k * 3, none⟩ = some (.int .i64 xk) := s0
      replace s1 : wr.cell? ⟨b, off + k * 3 + 1, none⟩ = some (.string xa) := s1
      replace s2 : wr.cell? ⟨b, off + k * 3 + 2, none⟩ = some (.int .i64 xd) := s2
      have HSN := hide hsn
      have hlt' : (k : Int) < (rs.length : Int) := by omega
      have hba : Below wr.heap.size wr (wr.alloc (.cells #[.int .i64 xk, .string xa, .int .i64 xd] 91)) := (Below.refl _ _).alloc (Nat.le_refl _) _
      have HBA := hide hba
      have hJk : (rs.take k).length < rs.length := by simp; omega
      have HJ := hide hJs
      have hA : ∀ w', Below (wr.heap.size + 1) (wr.alloc (.cells #[.int .i64 xk, .string xa, .int .i64 xd] 91)) w' → ∃ fn tmps assign body,
          (Instr.yield l #[.int .i64 (kind ⟨xk, xa, xd⟩ : Int), .agg #[.int .i64 xk, .string xa, .int .i64 xd]]).run Try.prog w' = .ok (.round l fn tmps assign body) w' ∧
          RoundIn Fence.wide (n - 1) Try.prog l fn tmps assign body w' fun e W' => ∃ b, e = .returned (.bool b) ∧ Went3 n₀ w' (J (rs.take (k + 1))) (Jx (rs.take (k + 1))) b W' := fun w' hw' => by
        have hb2 : Below wr.heap.size wr w' := hba.trans (hw'.mono (Nat.le_succ _))
        obtain ⟨fn, tmps, assign, body, hy, hR⟩ := hY (rs.take k) ⟨xk, xa, xd⟩ w' (abides_below hJ hJs hb2) hJk
        refine ⟨fn, tmps, assign, body, hy, hR.mono fun e W' h => went3_of ?_⟩
        rw [hsn]; exact h
      have mixed : Try.prog.follows .mixedOrders = true := by kernel_rfl
      have HA := hide hA
      clear hcell hx hsn hba hJs hA hY
      gi_wp2_with fail
      gi_region_with_o (first
        | (gi_at_call 133; refine (callsIn_wide.2 (kindOf_any xk xd xa _)).mono ?_; rintro e w' ⟨rfl, hw'⟩; have hw2 : Below (wr.heap.size + 1) (wr.alloc (.cells #[.int .i64 xk, .string xa, .int .i64 xd] 91)) w' := below_of_drew (by simpa using hw'); clear hw'; obtain ⟨t0, t1, t2⟩ := cells3 hw2; obtain ⟨fn, tmps, assign, body, hy, hR⟩ := HA.out w' hw2; have HW := hide hw2; clear hw2)
        | (refine hR.mono ?_; rintro e W3 ⟨bb, rfl, hW3⟩; have HW3 := hide hW3; clear hW3))
      all_goals
        have hnw : n₀ ≤ wr.heap.size := Nat.le_trans hn₀ hnx.size
        rcases HW3.out with ⟨rfl, hJ3, hk3⟩ | ⟨rfl, hJx3⟩
        · have hk4 := ((hnx.trans (HBA.out.mono hnw)).trans (HW.out.mono (Nat.le_succ_of_le hnw))).trans hk3
          clear hk3
          gi_wp2
          go_roundw
          case rel => exact ⟨k + 1, by omega, by simp, hJ3, hk4⟩
          case measure => simp [intOf]; omega
        · gi_wp2
          refine bodyPost_ret (results_none rfl _ _ _) rfl ?_
          exact ⟨⟨_, rfl⟩, .inr ⟨_, List.take_prefix _ _, hJx3⟩⟩
    · obtain rfl : k = rs.length := by omega
      gi_wp2
      go_end0
      exact ⟨⟨_, rfl⟩, .inl ⟨_, rfl, by simpa using hJs⟩⟩

end Go.Proofs.Ytpmijaplkbmbiaa.E
