/- The buffer: its pieces, one behind the other; where one begins. -/
import Derived.Test.YtpmijaplkbmbiaaBase
namespace Go.Proofs.Ytpmijaplkbmbiaa
open Go.RowKit Go.By Go.Shelf
set_option linter.unusedVariables false
attribute [local go_sem] Oper.semAt_some

/-- The pieces that a slice value leads to, in blocks below n₀. -/
def Pcs (n₀ : Nat) (W : World) (v : Value) (ps : List ByteArray) : Prop :=
  ∃ a cap, v = .slice a ps.length cap ∧ ps.length ≤ 1000000 ∧ (a = none → ps = []) ∧ ∀ x, a = some x → ∃ k, x = ⟨k, 0, none⟩ ∧ k < n₀ ∧ ∀ i, i < ps.length → W.cell? ⟨k, i, none⟩ = some (.string (ps.getD i ⟨#[]⟩))

theorem Pcs.below {n₀ : Nat} {W W' : World} {v : Value} {ps : List ByteArray} (h : Pcs n₀ W v ps) (hb : Below n₀ W W') : Pcs n₀ W' v ps := by
  obtain ⟨a, cap, e, hl, hn, hs⟩ := h
  refine ⟨a, cap, e, hl, hn, fun x hx => ?_⟩
  obtain ⟨k, rfl, hk, hc⟩ := hs x hx
  exact ⟨k, rfl, hk, fun i hi => (hb.cell (p := ⟨k, i, none⟩) hk).trans (hc i hi)⟩

/-- A piece, and that it is not too long. -/
abbrev Pc := { s : ByteArray // s.size ≤ 100000000 }
def pc0 : Pc := ⟨⟨#[]⟩, by decide⟩
def vals (qs : List Pc) : List ByteArray := qs.map (·.1)
theorem length_vals (qs : List Pc) : (vals qs).length = qs.length := by simp [vals]

theorem vals_getD (qs : List Pc) (k : Nat) (h : k < qs.length) : (vals qs).getD k ⟨#[]⟩ = (qs.getD k pc0).1 := by simp [vals, List.getD, h]

theorem exists_pcs : ∀ (ps : List ByteArray), (∀ p ∈ ps, p.size ≤ 100000000) → ∃ qs : List Pc, vals qs = ps
  | [], _ => ⟨[], rfl⟩
  | p :: ps, h => by
    obtain ⟨qs, e⟩ := exists_pcs ps fun x hx => h x (by simp [hx])
    exact ⟨⟨p, h p (by simp)⟩ :: qs, by simp [vals] at e ⊢; exact e⟩

set_option maxRecDepth 100000 in
set_option maxHeartbeats 2000000 in
/-- The buffer's iterator, at a buffer that is not nil. -/
theorem pieces1 (n : Nat) (hn : 1 ≤ n) (l Bn g n₀ : Nat) (ps : List Pc) (v : Value) (J Jx : List Pc → World → Prop)
    (hY : ∀ pre x W, J pre W → pre.length < ps.length → YieldAt Fence.wide (n - 1) Try.prog l #[.string x.1] W fun e W' =>
      (e = .returned (.bool true) ∧ J (pre ++ [x]) W' ∧ Below n₀ W W') ∨ (e = .returned (.bool false) ∧ Jx (pre ++ [x]) W'))
    (W : World) (hc : W.cell? ⟨Bn, 0, none⟩ = some (.pointer (some ⟨g, 0, none⟩))) (hv : W.cell? ⟨g, 3, none⟩ = some v) (hS : Pcs n₀ W v (vals ps)) (h0 : J [] W) :
    CallsIn Fence.wide n Try.prog 150 #[.func (.yield l) #[] #[], .pointer (some ⟨Bn, 0, none⟩)] W fun e W' => (∃ v, e = .returned v) ∧
      ((∃ zs, zs = ps ∧ J zs W') ∨ (∃ pre, pre <+: ps ∧ Jx pre W')) := by
  obtain ⟨a, cap, rfl, hlen, hnil, hs⟩ := hS
  rw [length_vals] at hlen
  simp only [length_vals] at hs
  have hvl : (vals ps).length = ps.length := length_vals ps
  rw [hvl] at hv
  refine callsIn_of_wp Try.func150 rfl trivial ?_ rfl
  simp only [Try.ntmps150, List.size_toArray, List.length_cons, List.length_nil, Nat.reduceAdd, Nat.reduceSub, Array.replicate_succ, Array.replicate_zero, List.push_toArray, List.append_toArray, List.nil_append, List.cons_append]
  gi_wp2
  gi_loopw [12] (fun i wr => ∃ k : Nat, k ≤ ps.length ∧ i = .int .i64 k ∧ J (ps.take k) wr ∧ Below n₀ W wr)
    (fun i _ => ps.length - (intOf i).toNat)
  case atStart => exact ⟨0, Nat.zero_le _, rfl, by simpa using h0, Below.refl _ _⟩
  case round =>
    obtain ⟨k, hk, rfl, hJs, hnx⟩ := hrel
    by_cases hlt : k < ps.length
    · obtain ⟨fn, tmps, assign, body, hy, hR⟩ := hY (ps.take k) (ps.getD k pc0) wr hJs (by simp; omega)
      obtain ⟨b, rfl⟩ : ∃ b, a = some b := by
        cases a with
        | none => have := hnil rfl; rw [← hvl, this] at hlt; simp at hlt
        | some b => exact ⟨b, rfl⟩
      obtain ⟨kb, rfl, hkb, hck⟩ := hs b rfl
      have d3 : wr.cell? ⟨kb, k, none⟩ = some (.string (ps.getD k pc0).1) := (hnx.cell (p := ⟨kb, k, none⟩) hkb).trans (by rw [hck k hlt, vals_getD ps k hlt])
      have hsn : ps.take (k + 1) = ps.take k ++ [ps.getD k pc0] := by rw [List.take_succ_eq_append_getElem hlt]; simp [List.getD, hlt]
      generalize ps.getD k pc0 = y at hy hR d3 hsn
      have HSN := hide hsn
      have hlt' : (k : Int) < (ps.length : Int) := by omega
      have HJ := hide hJs
      clear hs hck hY hJs hsn
      gi_wp2
      refine hR.mono ?_
      rintro e W3 (⟨rfl, hJ3, hk3⟩ | ⟨rfl, hJx3⟩)
      · gi_wp2
        go_roundw
        case rel => exact ⟨k + 1, by omega, by simp, by rw [HSN.out]; exact hJ3, hnx.trans hk3⟩
        case measure => simp [intOf]; omega
      · gi_wp2
        refine bodyPost_ret (results_none rfl _ _ _) rfl ?_
        exact ⟨⟨_, rfl⟩, .inr ⟨_, ⟨ps.drop (k + 1), by rw [← HSN.out, List.take_append_drop]⟩, hJx3⟩⟩
    · obtain rfl : k = ps.length := by omega
      gi_wp2
      go_end0
      exact ⟨⟨_, rfl⟩, .inl ⟨_, rfl, by simpa using hJs⟩⟩

set_option maxHeartbeats 1000000 in
theorem pieces_each (n : Nat) (p : Option Addr) (w : World) :
    CallsIn Fence.wide n Try.prog 125 #[.pointer p] w fun e w' => e = .returned (.func (.func 150) #[] #[.pointer (some ⟨w.heap.size, 0, none⟩)]) ∧ w' = w.alloc (.cells #[.pointer p] 25) := by
  refine callsIn_of_wp Try.func125 rfl trivial ?_ rfl
  simp only [Try.ntmps125, List.size_toArray, List.length_cons, List.length_nil, Nat.reduceAdd, Nat.reduceSub, Array.replicate_succ, Array.replicate_zero, List.push_toArray, List.append_toArray, List.nil_append, List.cons_append]
  gi_wp2
  go_ret
  exact ⟨rfl, rfl⟩

theorem pieces_stops (n : Nat) (hn : 1 ≤ n) (Bn n₀ g : Nat) (ps : List Pc) (v : Value) (w : World) (hBn : Bn < w.heap.size) (hg : g < w.heap.size) (hn₀ : n₀ ≤ w.heap.size)
    (hc : w.cell? ⟨Bn, 0, none⟩ = some (.pointer (some ⟨g, 0, none⟩))) (hv : w.cell? ⟨g, 3, none⟩ = some v) (hS : Pcs n₀ w v (vals ps)) :
    SeqStopsK Fence.wide n Try.prog 150 #[.pointer (some ⟨Bn, 0, none⟩)] (fun x : Pc => #[Value.string x.1]) (Below n₀) (fun zs => zs = ps) (fun pre => pre <+: ps) ps.length w := fun l J Jx W hW hJ _ hY h0 =>
  pieces1 n hn l Bn g n₀ ps v J Jx hY W ((hW.cell (p := ⟨Bn, 0, none⟩) hBn).trans hc) ((hW.cell (p := ⟨g, 3, none⟩) hg).trans hv) (hS.below (hW.mono hn₀)) h0

set_option maxHeartbeats 1000000 in
/-- begins(): a function that tells where a piece begins; what it counts lies in a block of its own. -/
theorem begins_in (n : Nat) (w : World) :
    CallsIn Fence.wide n Try.prog 124 #[] w fun e w' => e = .returned (.func (.func 149) #[] #[.pointer (some ⟨w.heap.size, 0, none⟩)]) ∧ w' = w.alloc (.cells #[.int .i64 0] 3) := by
  refine callsIn_of_wp Try.func124 rfl trivial ?_ rfl
  simp only [Try.ntmps124, List.size_toArray, List.length_nil, Nat.reduceSub, Array.replicate_succ, Array.replicate_zero, List.push_toArray, List.append_toArray, List.nil_append, List.cons_append]
  gi_wp2
  go_ret
  exact ⟨rfl, rfl⟩

set_option maxHeartbeats 1000000 in
theorem begin1_in (n : Nat) (hb : Nat) (p : ByteArray) (c : Nat) (w : World) (hc : w.cell? ⟨hb, 0, none⟩ = some (.int .i64 (c : Int))) (hf : w.frozen? ⟨hb, 0, none⟩ = false) (hs : c + p.size ≤ 4000000000000000000) :
    CallsIn Fence.wide n Try.prog 149 #[.string p, .pointer (some ⟨hb, 0, none⟩)] w fun e w' => e = .returned (.int .i64 (c : Int)) ∧ w' = w.setCell ⟨hb, 0, none⟩ (.int .i64 ((c : Int) + (p.size : Int))) := by
  refine callsIn_of_wp Try.func149 rfl trivial ?_ rfl
  simp only [Try.ntmps149, List.size_toArray, List.length_cons, List.length_nil, Nat.reduceAdd, Nat.reduceSub, Array.replicate_succ, Array.replicate_zero, List.push_toArray, List.append_toArray, List.nil_append, List.cons_append]
  gi_wp2
  go_ret
  exact ⟨ret_int (by omega), rfl⟩

end Go.Proofs.Ytpmijaplkbmbiaa
