/- JournalSince, walked. -/
import Derived.Test.YtolidhjffminkaaJG
import Derived.ArgAppend
import Derived.Deep.Upon
namespace Go.Proofs.Ytolidhjffminkaa.J
open Go.Proofs.Ytolidhjffminkaa Go.RowKit Go.By
set_option linter.unusedVariables false
set_option linter.unusedSimpArgs false
attribute [local go_sem ↓] Go.wp_at_zero Go.wp_at_succ

theorem the_most (x : Int) : ∃ M : Nat, wrap64 (1 + wrap64 ((IntKind.u64.wrap x).tmod 1024)) = (M : Int) ∧ 1 ≤ M ∧ M ≤ 1024 := by
  have h0 : 0 ≤ IntKind.u64.wrap x := by rw [IntKind.wrap_u64]; omega
  generalize IntKind.u64.wrap x = z at *
  rw [Int.tmod_eq_emod_of_nonneg h0]
  refine ⟨(1 + z % 1024).toNat, ?_, by omega, by omega⟩
  unfold wrap64
  omega
theorem the_cut (x : Int) (n : Nat) (hn : n ≤ 100) : ∃ k : Nat, wrap64 ((IntKind.u64.wrap x).tmod ((n : Int) + 1)) = (k : Int) ∧ k ≤ n := by
  have h0 : 0 ≤ IntKind.u64.wrap x := by rw [IntKind.wrap_u64]; omega
  generalize IntKind.u64.wrap x = z at *
  have h1 := Int.emod_nonneg z (b := (n : Int) + 1) (by omega)
  have h2 := Int.emod_lt_of_pos z (b := (n : Int) + 1) (by omega)
  rw [Int.tmod_eq_emod_of_nonneg h0]
  generalize z % ((n : Int) + 1) = y at *
  refine ⟨y.toNat, ?_, by omega⟩
  unfold wrap64
  omega

theorem slice_h26 (a : Option Addr) (n cap k : Nat) (h : k ≤ cap) (w : World) :
    (Instr.slice 26 (.slice a n cap) none (some (.int .i64 (k : Int))) none).run Try.prog w = .ok (.slice a k cap) w := by
  rw [run_slice_h w 26 a n cap (by exact Try.underlying26) .i64 k (by omega) (by omega)]
  have hs : (sizeOf (Try.prog.elem 26)).run Try.prog w = .ok 1 w := by kernel_rfl
  rw [hs]
  simp [Result.andThen, sliced]
  cases a with
  | none => simp
  | some x => simp [Addr.add]
def from_ (a : Option Addr) (cap k : Nat) : Option Addr := if cap = k then a else a.map (·.add k)
theorem slice_l26 (a : Option Addr) (n cap k : Nat) (h : k ≤ n) (w : World) :
    (Instr.slice 26 (.slice a n cap) (some (.int .i64 (k : Int))) none none).run Try.prog w = .ok (.slice (from_ a cap k) (n - k) (cap - k)) w := by
  rw [run_slice_l w 26 a n cap (by exact Try.underlying26) .i64 k (by omega) (by omega)]
  have hs : (sizeOf (Try.prog.elem 26)).run Try.prog w = .ok 1 w := by kernel_rfl
  rw [hs]
  simp [Result.andThen, sliced, from_]
theorem add_eq (b off k : Nat) : (⟨b, off, none⟩ : Addr).add k = ⟨b, off + k, none⟩ := by unfold Addr.add; split <;> simp_all
theorem LS.drop {W : World} {a : Option Addr} {l : List ByteArray} (h : LS W a l) (cap k : Nat) (hc : l.length ≤ cap) : LS W (from_ a cap k) (l.drop k) := by
  by_cases hk : k < l.length
  · rcases h with rfl | ⟨b, off, rfl, hcell⟩
    · simp at hk
    · refine .inr ⟨b, off + k, ?_, fun i hi => ?_⟩
      · unfold from_; rw [if_neg (by omega)]; simp [add_eq]
      · rw [List.length_drop] at hi
        have := hcell (k + i) (by omega)
        rw [← Nat.add_assoc] at this
        simpa [List.getD] using this
  · exact .inl (List.drop_eq_nil_of_le (by omega))
theorem LS.cell {W : World} {a : Option Addr} {l : List ByteArray} (h : LS W a l) (i : Nat) (hi : i < l.length) : ∃ b off, a = some ⟨b, off, none⟩ ∧ W.cell? ⟨b, off + i, none⟩ = some (.string (l.getD i ⟨#[]⟩)) := by
  rcases h with rfl | ⟨b, off, e, hc⟩
  · simp at hi
  · exact ⟨b, off, e, hc i hi⟩
theorem take_next (l : List ByteArray) (i : Nat) (h : i < l.length) : l.take (i + 1) = l.take i ++ [l.getD i ⟨#[]⟩] := by
  rw [List.take_succ_eq_append_getElem h]; simp [List.getD, h]

/-- One more text, if there is room. -/
theorem Jn.more {w0 W : World} {j g most : Nat} {r : Option Nat} {tx l : List ByteArray} (i : Nat) (h : Jn w0 W j g most r 0 (tx ++ l.take (min i (most - tx.length)))) (hi : i < l.length) (ht : tx.length ≤ most) :
    Calls Try.prog 10 #[.pointer (some ⟨j, 0, none⟩), .string (l.getD i ⟨#[]⟩)] W fun e W' => (∃ z : Int, e = .returned (.tuple #[.int .i64 z, .int .i64 (if i < most - tx.length then 0 else 31)])) ∧ ∃ r', Jn w0 W' j g most r' 0 (tx ++ l.take (min (i + 1) (most - tx.length))) ∧ TurnJ j g r r' W W' := by
  by_cases hlt : i < most - tx.length
  · rw [if_pos hlt]
    rw [Nat.min_eq_left (by omega)] at h
    rw [Nat.min_eq_left (by omega), take_next l i hi, ← List.append_assoc]
    have hlen : (tx ++ l.take i).length < most := by rw [List.length_append, List.length_take]; omega
    refine (append_ok (l.getD i ⟨#[]⟩) h.1 h.2.size (by omega) (by rw [List.length_map]; exact hlen)).mono ?_
    rintro e W' ⟨he, r', hj, ht2⟩
    exact ⟨⟨_, he⟩, r', h.turn (by rw [List.map_append]; exact hj) ht2, ht2⟩
  · rw [if_neg hlt]
    rw [Nat.min_eq_right (by omega)] at h
    rw [Nat.min_eq_right (by omega)]
    have hlen : (tx ++ l.take (most - tx.length)).length = most := by rw [List.length_append, List.length_take]; omega
    refine (append_full (l.getD i ⟨#[]⟩) h.1 (by rw [List.length_map]; exact hlen)).mono ?_
    rintro e W' ⟨he, q, rfl⟩
    exact ⟨⟨_, he⟩, r, h.drewN q, TurnJ.drewN ..⟩

theorem Jn.head {w0 W : World} {j g most base : Nat} {r : Option Nat} {tx : List ByteArray} (h : Jn w0 W j g most r base tx) (hb : base ≤ 1000000) :
    Calls Try.prog 13 #[.pointer (some ⟨j, 0, none⟩)] W fun e W' => e = .returned (.int .i64 ((base + tx.length : Nat) : Int)) ∧ ∃ q, W' = W.drewN q := by
  have := head_j h.1 hb
  rw [List.length_map] at this
  exact this
theorem Jn.base {w0 W : World} {j g most base : Nat} {r : Option Nat} {tx : List ByteArray} (h : Jn w0 W j g most r base tx) :
    Calls Try.prog 12 #[.pointer (some ⟨j, 0, none⟩)] W fun e W' => e = .returned (.int .i64 (base : Int)) ∧ W' = W := base_j h.1

/-- A list of one's own in a block not below B, and below the world's end. -/
def LB (B : Nat) (W : World) (a : Option Addr) (l : List ByteArray) : Prop := l = [] ∨ ∃ b off, a = some ⟨b, off, none⟩ ∧ B ≤ b ∧ b < W.heap.size ∧ ∀ i, i < l.length → W.cell? ⟨b, off + i, none⟩ = some (.string (l.getD i ⟨#[]⟩))
theorem LB.ls {B : Nat} {W : World} {a : Option Addr} {l : List ByteArray} (h : LB B W a l) : LS W a l := h.elim .inl fun ⟨b, off, e, _, _, hc⟩ => .inr ⟨b, off, e, hc⟩
theorem row_lb {W : World} {B : Nat} {v : Value} {l : List ByteArray} (h : W.ownsRow B 9 1 v l.length (l.map Value.string)) : ∃ a cap, v = .slice a l.length cap ∧ LB B W a l ∧ ∀ b off, a = some ⟨b, off, none⟩ → v.ownBlock = some b := by
  rcases h.2 with ⟨rfl, h0⟩ | ⟨g, cap, cur, rfl, hg, hh, hn, hm, hs, ht⟩
  · rw [h0]; exact ⟨none, 0, rfl, .inl (List.length_eq_zero_iff.1 h0), by simp⟩
  · refine ⟨some ⟨g, 0, none⟩, cap, rfl, .inr ⟨g, 0, rfl, hg, lt_of_heap hh, fun i hi => ?_⟩, fun b off e => by cases e; rfl⟩
    rw [Nat.zero_add, Joins.cell_of_block hh]
    have e1 : cur[i]? = (cur.toList.take (l.length * 1))[i]? := by rw [List.getElem?_take_of_lt (by omega)]; simp
    rw [e1, ht]
    simp [List.getD, hi]
theorem LB.keep {B : Nat} {W W' : World} {a : Option Addr} {l : List ByteArray} (h : LB B W a l) (hs : W.heap.size ≤ W'.heap.size) (hb : ∀ b, B ≤ b → b < W.heap.size → (∃ off, a = some ⟨b, off, none⟩) → W'.heap[b]? = W.heap[b]?) : LB B W' a l := by
  rcases h with h | ⟨b, off, e, h1, h2, hc⟩
  · exact .inl h
  · exact .inr ⟨b, off, e, h1, Nat.lt_of_lt_of_le h2 hs, fun i hi => (World.cell?_of_block (a := ⟨b, off + i, none⟩) (hb b h1 h2 ⟨off, e⟩)).trans (hc i hi)⟩
theorem Jn.sinceB {w0 W : World} {j g most base : Nat} {r : Option Nat} {tx : List ByteArray} (i0 : Nat) (h : Jn w0 W j g most r base tx) (hb : base ≤ 1000000) (hi : i0 ≤ tx.length) :
    Calls Try.prog 14 #[.pointer (some ⟨j, 0, none⟩), .int .i64 ((base + i0 : Nat) : Int)] W fun e W' => (∃ a cap, e = .returned (.tuple #[.slice a (tx.drop i0).length cap, .int .i64 0]) ∧ LB W.heap.size W' a (tx.drop i0)) ∧ Jn w0 W' j g most r base tx ∧ Below W.heap.size W W' := by
  refine (since_ok i0 h.1 hb hi).mono ?_
  rintro e W' ⟨v, he, hr, hb2⟩
  obtain ⟨a, cap, rfl, hl, _⟩ := row_lb hr
  exact ⟨⟨a, cap, he, hl⟩, h.up hb2, hb2⟩
end Go.Proofs.Ytolidhjffminkaa.J
