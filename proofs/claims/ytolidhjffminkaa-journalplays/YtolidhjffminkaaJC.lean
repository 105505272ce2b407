/- journal: the entries behind a revision, one by one. -/
import Derived.Test.YtolidhjffminkaaJB
import Derived.Test.YtolidhjffminkaaRing6
namespace Go.Proofs.Ytolidhjffminkaa.J
open Go.Proofs.Ytolidhjffminkaa Go.RowKit Go.By Go.Shelf
set_option linter.unusedVariables false
attribute [local go_sem] Oper.semAt_some

/-- A journal that lies below n₀. -/
def SeenJ (n₀ : Nat) (W : World) (B j g most : Nat) (r : Option Nat) (base : Nat) (xs : List Value) : Prop :=
  JIs W B j g most r base xs ∧ j < n₀ ∧ g < n₀ ∧ ∀ k, r = some k → k < n₀
theorem SeenJ.below {n₀ : Nat} {W W' : World} {B j g most : Nat} {r : Option Nat} {base : Nat} {xs : List Value} (h : SeenJ n₀ W B j g most r base xs) (hb : Below n₀ W W') : SeenJ n₀ W' B j g most r base xs :=
  ⟨⟨h.1.1, (hb.block j h.2.1).trans h.1.2.1, h.1.2.2.same (hb.block g h.2.2.1) fun k hk => hb.block k (h.2.2.2 k hk)⟩, h.2⟩
theorem JIs.seen {W : World} {B j g most : Nat} {r : Option Nat} {base : Nat} {xs : List Value} (h : JIs W B j g most r base xs) : SeenJ W.heap.size W B j g most r base xs :=
  ⟨h, h.lt, h.2.2.lt.2, fun k hk => (h.2.2.room k hk).2⟩

/-- What lies below, and the iterator's two boxes, are as they were. -/
def Keep2 (n₀ Bj Br : Nat) (W W' : World) : Prop := KeepB n₀ Bj W W' ∧ W'.heap[Br]? = W.heap[Br]?
theorem Keep2.trans {n₀ Bj Br : Nat} {A B C : World} (h : Keep2 n₀ Bj Br A B) (k : Keep2 n₀ Bj Br B C) : Keep2 n₀ Bj Br A C := ⟨h.1.trans k.1, k.2.trans h.2⟩
theorem Keep2.drewN {n₀ Bj Br : Nat} {A B : World} (q : Nat) (k : Keep2 n₀ Bj Br (A.drewN q) B) : Keep2 n₀ Bj Br A B := ⟨⟨⟨k.1.1.os, k.1.1.tape, k.1.1.output, k.1.1.size, k.1.1.block⟩, k.1.2⟩, k.2⟩
theorem Keep2.self {n₀ Bj Br : Nat} {A : World} (q : Nat) : Keep2 n₀ Bj Br A (A.drewN q) := ⟨⟨⟨rfl, rfl, rfl, Nat.le_refl _, fun _ _ => rfl⟩, rfl⟩, rfl⟩
def Went2 (n₀ Bj Br : Nat) (W : World) (G Gx : World → Prop) (b : Bool) (W' : World) : Prop := (b = true ∧ G W' ∧ Keep2 n₀ Bj Br W W') ∨ (b = false ∧ Gx W')
theorem went2_of {n₀ Bj Br : Nat} {W : World} {G Gx : World → Prop} {e : Ending} {W' : World} (h : (e = .returned (.bool true) ∧ G W' ∧ Keep2 n₀ Bj Br W W') ∨ (e = .returned (.bool false) ∧ Gx W')) : ∃ b, e = .returned (.bool b) ∧ Went2 n₀ Bj Br W G Gx b W' := by
  rcases h with ⟨h1, h2⟩ | ⟨h1, h2⟩
  · exact ⟨true, h1, .inl ⟨rfl, h2⟩⟩
  · exact ⟨false, h1, .inr ⟨rfl, h2⟩⟩

set_option maxRecDepth 100000 in
set_option maxHeartbeats 2000000 in
theorem behind1 (n : Nat) (hn : 1 ≤ n) (l Bj Br n₀ B j g most base i0 : Nat) (r : Option Nat) (tx : List ByteArray) (J Jx : List ByteArray → World → Prop)
    (hJ : ∀ s W q, J s W → J s (W.drewN q))
    (hY : ∀ pre x W, J pre W → pre.length < (tx.drop i0).length → YieldAt Fence.wide (n - 1) Try.prog l #[.string x] W fun e W' =>
      (e = .returned (.bool true) ∧ J (pre ++ [x]) W' ∧ Keep2 n₀ Bj Br W W') ∨ (e = .returned (.bool false) ∧ Jx (pre ++ [x]) W'))
    (W : World) (hj : W.heap[Bj]? = some (.cells #[.pointer (some ⟨j, 0, none⟩)] 24 (0, 0))) (hr : W.heap[Br]? = some (.cells #[.int .i64 ((base + i0 : Nat) : Int)] 3 (0, 0))) (hS : SeenJ n₀ W B j g most r base (tx.map (Value.string))) (hi0 : i0 ≤ tx.length) (hb : base ≤ 1000000) (h0 : J [] W) :
    CallsIn Fence.wide n Try.prog 25 #[.func (.yield l) #[] #[], .pointer (some ⟨Br, 0, none⟩), .pointer (some ⟨Bj, 0, none⟩)] W fun e W' => (∃ v, e = .returned v) ∧
      ((∃ zs, zs = tx.drop i0 ∧ J zs W') ∨ (∃ pre, pre <+: tx.drop i0 ∧ Jx pre W')) := by
  have hro : Fence.wide.round = none := rfl
  have h25 : Fence.wide.fn 25 := trivial
  have h21 : Fence.wide.fn 21 := trivial
  have h26 : Fence.wide.fn 26 := trivial
  have hlm : tx.length ≤ 65536 := by obtain ⟨_, _, _, _, _, _, _, _, _, _, _, h2, h3⟩ := hS.1.2.2; rw [List.length_map] at h3; omega
  have c1 : W.cell? ⟨Br, 0, none⟩ = some (.int .i64 ((base : Int) + (i0 : Int))) := by rw [Joins.cell_of_block hr, ← Int.natCast_add]; rfl
  have c2 : W.cell? ⟨Bj, 0, none⟩ = some (.pointer (some ⟨j, 0, none⟩)) := by rw [Joins.cell_of_block hj]; rfl
  obtain ⟨d0, d1⟩ := hS.1.cells
  have HS := hide hS
  have hlen : (tx.drop i0).length = tx.length - i0 := List.length_drop
  refine callsIn_of_wp Try.func25 rfl h25 ?_ hro
  simp only [Try.ntmps25, List.size_toArray, List.length_cons, List.length_nil, Nat.reduceAdd, Nat.reduceSub, Array.replicate_succ, Array.replicate_zero, List.push_toArray, List.append_toArray, List.nil_append, List.cons_append]
  gi_wp2_with fail
  have HWR : Hid (IntKind.i64.wrap ((base : Int) + (i0 : Int) - (base : Int)) = (i0 : Int)) := hide (by rw [IntKind.wrap_i64]; omega)
  have HJ0 := hide h0
  have HY := hide hY
  have HJD := hide hJ
  have HLM := hide (And.intro hlm (And.intro hi0 hb))
  have HB := hide (And.intro hj hr)
  have HLEN := hide hlen
  clear h0 hS hlm hi0 hY hJ hj hr hlen
  gi_region_with (fail)
  all_goals
    gi_wp2
    simp only [Act.put, List.getElem_toArray, List.getElem_cons_zero, List.getElem_cons_succ, List.setIfInBounds_toArray, List.set_cons_zero, List.set_cons_succ]
    clear c1 c2 d0 d1
    gi_loopw [4] (fun i wr => ∃ k : Nat, k ≤ tx.length - i0 ∧ i = .int .i64 ((i0 : Int) + (k : Int)) ∧ Hid (J ((tx.drop i0).take k) wr ∧ Keep2 n₀ Bj Br W wr))
      (fun i _ => tx.length - (intOf i).toNat)
    case atStart => exact ⟨0, Nat.zero_le _, by first | rfl | (rw [HWR.out]; simp; done) | (simp [HWR.out]; done), hide ⟨HJD.out _ _ 1 (by simpa using HJ0.out), Keep2.self 1⟩⟩
    case round =>
      obtain ⟨k, hk, rfl, HI⟩ := hrel
      have hSw := HS.out.below HI.out.2.1.1
      have hjw : wr.heap[Bj]? = some (.cells #[.pointer (some ⟨j, 0, none⟩)] 24 (0, 0)) := HI.out.2.1.2.trans HB.out.1
      have c2 : wr.cell? ⟨Bj, 0, none⟩ = some (.pointer (some ⟨j, 0, none⟩)) := by rw [Joins.cell_of_block hjw]; rfl
      obtain ⟨d0, d1⟩ := hSw.1.cells
      have HLc := hide (len_str B g most r _ wr hSw.1.2.2)
      have hlm := HLM.out.1
      have hbm := HLM.out.2.2
      have hi0 := HLM.out.2.1
      rw [List.length_map] at HLc
      clear d1 hjw
      by_cases hlt : k < tx.length - i0
      · have hlt1 : (i0 : Int) + (k : Int) < (tx.length : Int) := by omega
        have HA := hide (fun q => at_in_str B g most r (tx.map Value.string) (i0 + k) (wr.drewN q) hSw.1.2.2 (by rw [List.length_map]; omega) (.string ⟨#[]⟩))
        have hget : (tx.map Value.string).getD (i0 + k) (.string ⟨#[]⟩) = .string (tx.getD (i0 + k) ⟨#[]⟩) := by
          have : i0 + k < tx.length := by omega
          simp [List.getD, this]
        have hsn : (tx.drop i0).take (k + 1) = (tx.drop i0).take k ++ [tx.getD (i0 + k) ⟨#[]⟩] := by
          have h1 : k < (tx.drop i0).length := by rw [List.length_drop]; omega
          rw [List.take_succ_eq_append_getElem h1]
          have h2 : i0 + k < tx.length := by omega
          simp [List.getD, h2]
        rw [hget] at HA
        clear hget hSw
        generalize tx.getD (i0 + k) ⟨#[]⟩ = y at *
        have HSN := hide hsn
        clear hsn
        rw [Int.natCast_add] at HA
        have HYq := hide (fun q => HY.out ((tx.drop i0).take k) y (wr.drewN q) (HJD.out _ _ q HI.out.1) (by rw [HLEN.out, List.length_take, HLEN.out]; omega))
        gi_wp2_with (first
          | (gi_at_call 21; refine (callsIn_wide.2 HLc.out).mono ?_; rintro e w1 ⟨rfl, q1, rfl⟩; clear HLc)
          | (gi_at_call 26; refine (callsIn_wide.2 (HA.out q1)).mono ?_; rintro e w1 ⟨rfl, q2, rfl⟩; rw [World.drewN_drewN]; obtain ⟨fn, tmps, assign, body, hy, hR⟩ := HYq.out (q1 + q2); have hR' := hR.mono (fun e W' h => went2_of h); clear HA HYq hR)
          | (refine hR'.mono ?_; rintro e W3 ⟨bb, rfl, hwent⟩))
        · rcases hwent with ⟨hbt, hJ3, hk3⟩ | ⟨hbt, hJx3⟩
          · first | (cases hbt; done) | (simp_all; done)
          · refine bodyPost_ret (results_none rfl _ _ _) rfl ?_
            exact ⟨⟨_, rfl⟩, .inr ⟨_, ⟨(tx.drop i0).drop (k + 1), by rw [← HSN.out, List.take_append_drop]⟩, hJx3⟩⟩
        · rcases hwent with ⟨hbt, hJ3, hk3⟩ | ⟨hbt, hJx3⟩
          · have hk4 : Keep2 n₀ Bj Br W W3 := HI.out.2.trans (Keep2.drewN _ hk3)
            go_roundw
            case rel => exact ⟨k + 1, by omega, by rw [Int.natCast_add, Int.add_assoc]; rfl, hide ⟨by rw [HSN.out]; exact hJ3, hk4⟩⟩
            case measure => simp [intOf]; omega
          · first | (cases hbt; done) | (simp_all; done)
      · obtain rfl : k = tx.length - i0 := by omega
        have hge : ¬ (i0 : Int) + ((tx.length - i0 : Nat) : Int) < (tx.length : Int) := by omega
        clear hlt
        gi_wp2_with (gi_at_call 21; refine (callsIn_wide.2 HLc.out).mono ?_; rintro e w1 ⟨rfl, q1, rfl⟩; clear HLc)
        go_end0
        exact ⟨⟨_, rfl⟩, .inl ⟨_, rfl, HJD.out _ _ q1 (by have := HI.out.1; rwa [List.take_of_length_le (by rw [HLEN.out]; omega)] at this)⟩⟩
end Go.Proofs.Ytolidhjffminkaa.J
