/- The sum of two texts together: the program's way and the document's. -/
import Derived.Test.YtaichjkenfnkbabPower
namespace Go.By
open Go.RowKit

/-- 'append(a[:n:n], b...)': the first is full, so that nothing of it is written. -/
theorem run_append_full {P : Program} {w : World} (ty : TypeId) (ht : P.underlying 22 = some (.slice 5)) (hinfo : (P.info? 5).map (fun i => (i.zero, i.size, i.bytes)) = some (some (.int .u8 0), 1, 1))
    (a b : Option Addr) (l m : List Nat) (c : Nat) (hl : Lies w a l) (hm : Lies w b m) (ha : a = none → l = []) (hb : b = none → m = [] ∧ c = 0)
    (hsz : l.length + m.length ≤ 140737488355328) :
    ∃ a' cap' w', (Builtin.append_ #[22, 22] ty #[.slice a l.length l.length, .slice b m.length c]).run P w = .ok (.slice a' (l.length + m.length) cap') w' ∧ Below w.heap.size w w' ∧ Lies w' a' (l ++ m) := by
  obtain ⟨i0, hi, hz0, hz1, hz2⟩ := info_parts hinfo
  by_cases hm0 : m = []
  · subst hm0
    refine ⟨a, l.length, w, ?_, Below.refl _ _, by simpa using hl⟩
    cases a with
    | none =>
      obtain rfl := ha rfl
      cases b with
      | none => simp [Builtin.append_, run_underlying ht, sizeOf, typeInfo, hi, Builtin.lenOf, Builtin.firstCells]
      | some y => simp [Builtin.append_, run_underlying ht, sizeOf, typeInfo, hi, Builtin.lenOf, Builtin.firstCells, loadCells, loadCellsFrom]
    | some x =>
      cases b with
      | none => simp [Builtin.append_, run_underlying ht, sizeOf, typeInfo, hi, Builtin.lenOf, Builtin.firstCells, storeCells]
      | some y => simp [Builtin.append_, run_underlying ht, sizeOf, typeInfo, hi, Builtin.lenOf, Builtin.firstCells, loadCells, loadCellsFrom, storeCells]
  · have hmp : 0 < m.length := List.length_pos_iff.2 hm0
    rcases hm.2 with h | ⟨b', o', rfl, hcb⟩
    · exact absurd h hm0
    have hnews := news_of_lies hcb
    have hlm : ∀ c ∈ l ++ m, c < 256 := fun c hc => (List.mem_append.1 hc).elim (hl.1 c) (hm.1 c)
    have fin : ∀ (cap' : Nat) (rest : Array Value), Lies (w.drew.alloc (.cells ((l.map B8).toArray ++ (m.map B8).toArray ++ rest) 5)) (some ⟨w.heap.size, 0, none⟩) (l ++ m) := by
      intro cap' rest
      refine ⟨hlm, .inr ⟨_, _, rfl, fun i hi => ?_⟩⟩
      rw [Nat.zero_add]
      show (w.drew.alloc _).cell? ⟨w.drew.heap.size, i, none⟩ = _
      rw [Joins.cell_of_block (heap_alloc_new w.drew _)]
      have h1 : i < ((l ++ m).map B8).length := by simpa using hi
      have e1 : ((l.map B8).toArray ++ (m.map B8).toArray ++ rest)[i]? = ((l ++ m).map B8)[i]? := by
        rw [Array.getElem?_append_left (by simpa using hi)]
        simp
      rw [e1, List.getElem?_map]
      have h2 : i < (l ++ m).length := hi
      rw [List.getElem?_eq_getElem h2]
      simp [List.getD, B8, List.getElem?_eq_getElem h2]
    cases a with
    | none =>
      obtain rfl := ha rfl
      have hr := run_append_nil (P := P) w 22 ty 5 i0 (.int .u8 0) ht hi hz0 ⟨b', o', none⟩ m.length c (m.map B8) (by simp [hz1]) hnews hmp (by omega) (by rw [hz2]; simp at hsz; omega)
      refine ⟨_, _, _, by simpa using hr, (Below.refl _ _).drew.alloc (Nat.le_refl _) _, by simpa using fin 0 _⟩
    | some x =>
      have holds : ∀ j u, (l.map B8)[j]? = some u → w.cell? (x.add j) = some u := by
        rcases hl.2 with rfl | ⟨bb, oo, e, hc⟩
        · simp
        · cases e; exact news_of_lies hc
      have hr := run_append_grow (P := P) w 22 ty 5 i0 (.int .u8 0) ht hi hz0 x l.length l.length (l.map B8) (by simp [hz1]) holds ⟨b', o', none⟩ m.length c (m.map B8) (by simp [hz1]) hnews (by omega) (by omega) (growslice_fits (by omega) (by rw [hz2]; omega))
      exact ⟨_, _, _, hr, (Below.refl _ _).drew.alloc (Nat.le_refl _) _, fin 0 _⟩

theorem wp_append_full {P : Program} {w : World} {o : Oper} {a : Act} {K : Act → World → Prop} {Q : Exit → Act → World → Prop} (s x : Operand)
    (ho : o.op = .call { callee := .builtin .append, args := #[s, x], argTypes := #[22, 22] })
    (ht : P.underlying 22 = some (.slice 5)) (hinfo : (P.info? 5).map (fun i => (i.zero, i.size, i.bytes)) = some (some (.int .u8 0), 1, 1))
    (p q : Option Addr) (l m : List Nat) (c : Nat) (hs : a.eval s = .slice p l.length l.length) (hx : a.eval x = .slice q m.length c)
    (hl : Lies w p l) (hm : Lies w q m) (ha : p = none → l = []) (hb : q = none → m = [] ∧ c = 0)
    (hsz : l.length + m.length ≤ 140737488355328)
    (h : ∀ a' cap' w', Below w.heap.size w w' → Lies w' a' (l ++ m) → K (a.put o.dst (.slice a' (l.length + m.length) cap')) w') : o.wp P a w K Q := by
  obtain ⟨a', cap', w', hr, h1, h2⟩ := run_append_full (P := P) (w := w) o.type ht hinfo p q l m c hl hm ha hb hsz
  unfold Oper.wp execOp
  simp only [ho, resolve, invoke, builtin, Sem.run_bind, Sem.run_pure, Result.andThen_ok, List.map_toArray, List.map_cons, List.map_nil, hs, hx, hr]
  exact h a' cap' w' h1 h2
end Go.By
namespace Crc
theorem sum_append (l m : List Nat) : sum (l ++ m) = bits (sum l) (8 * m.length) ^^^ sum m := by
  have e : run top l = top ^^^ sum l := by unfold sum; rw [Nat.xor_comm (run top l) top, ← Nat.xor_assoc, Nat.xor_self, Nat.zero_xor]
  show run top (l ++ m) ^^^ top = _
  rw [run_append, e, run_left]
  show (run top m ^^^ _) ^^^ top = _ ^^^ (run top m ^^^ top)
  rw [Nat.xor_comm (run top m), Nat.xor_assoc]
end Crc
namespace Go.Proofs.Ytaichjkenfnkbab
open Go.RowKit Go.By
set_option linter.unusedVariables false
attribute [local go_sem ↓] Go.wp_at_zero Go.wp_at_succ

set_option maxHeartbeats 1000000 in
theorem join_any (a b n : Nat) (w : World) (ha : a < 4294967296) (hb : b < 4294967296) (hn : n ≤ 1048576) :
    Calls Try.prog 14 #[.int .u32 (a : Int), .int .u32 (b : Int), .int .i64 (n : Int)] w fun e w' => e = .returned (.int .u32 ((Crc.bits a (8 * n) ^^^ b : Nat) : Int)) ∧ Below w.heap.size w w' := by
  have h1 : decide ((n : Int) < 0) = false := by simp
  have h2 : decide ((1048576 : Int) < (n : Int)) = false := by simp; omega
  have hq : Crc.bits a (8 * n) < 4294967296 := Crc.bits_lt ha _
  have HQ := hide hq
  clear hq
  go_enter Try.func14, Try.ntmps14
  go_wp2_with fail
  refine (power_any n w hn).mono ?_
  rintro e w1 ⟨v, rfl, hb1, hv⟩
  obtain ⟨f, caps, rfl, hf, hrun⟩ := hv
  have HR := hide hrun
  have HB := hide hb1
  clear hrun hb1
  rcases hf with ⟨rfl, rfl⟩ | ⟨rfl | rfl, q, rfl⟩
  all_goals
    go_wp2_with fail
    refine (HR.out _ (Below.refl _ _) a ha).mono ?_
    rintro e w2 ⟨rfl, n1, rfl⟩
    go_wp2
    go_ret
    exact ⟨ret_int (u32_xor_nat _ _ HQ.out hb), below_drewN HB.out _⟩

set_option maxHeartbeats 400000 in
theorem join_out (a b : Nat) (n : Int) (w : World) (hn : n < 0 ∨ 1048576 < n) :
    Calls Try.prog 14 #[.int .u32 (a : Int), .int .u32 (b : Int), .int .i64 n] w fun e w' => e = .returned (.int .u32 0) ∧ w' = w := by
  rcases hn with hn | hn
  · have h1 : decide (n < 0) = true := by simp; omega
    go_enter Try.func14, Try.ntmps14
    go_wp2
    go_ret
    exact ⟨rfl, rfl⟩
  · have h1 : decide (n < 0) = false := by simp; omega
    have h2 : decide ((1048576 : Int) < n) = true := by simp; omega
    go_enter Try.func14, Try.ntmps14
    go_wp2
    go_ret
    exact ⟨rfl, rfl⟩

set_option maxHeartbeats 1000000 in
theorem refJoin_any (a b n : Nat) (w : World) (ha : a < 4294967296) (hb : b < 4294967296) (hn : n ≤ 1048576) :
    Calls Try.prog 15 #[.int .u32 (a : Int), .int .u32 (b : Int), .int .i64 (n : Int)] w fun e w' => e = .returned (.int .u32 ((Crc.bits a (8 * n) ^^^ b : Nat) : Int)) ∧ w' = w := by
  have h1 : decide ((n : Int) < 0) = false := by simp
  have h2 : decide ((1048576 : Int) < (n : Int)) = false := by simp; omega
  go_enter Try.func15, Try.ntmps15
  go_wp2
  go_loop [0, 7] (fun t z => ∃ i : Nat, i ≤ n ∧ z = .int .i64 i ∧ t = .int .u32 ((Crc.bits a (8 * i) : Nat) : Int)) (fun _ z => n - (intOf z).toNat)
  case atStart => exact ⟨0, by omega, rfl, rfl⟩
  case round =>
    obtain ⟨i, hi, rfl, rfl⟩ := hrel
    have hq : Crc.bits a (8 * i) < 4294967296 := Crc.bits_lt ha _
    have HQ := hide hq
    clear hq
    by_cases hlt : i < n
    · go_wp2_with fail
      refine (refStep_any _ 0 _ HQ.out (by omega)).mono ?_
      rintro e w1 ⟨rfl, rfl⟩
      go_wp2
      go_round
      case rel => exact ⟨i + 1, by omega, by go_num, by rw [step_nought, ← Crc.bits_add, ← Nat.mul_succ]⟩
      case measure => simp [intOf]; omega
    · have hin : i = n := by omega
      subst hin
      go_wp2
      go_ret
      exact ⟨ret_int (u32_xor_nat _ _ HQ.out hb), rfl⟩

set_option maxHeartbeats 400000 in
theorem refJoin_out (a b : Nat) (n : Int) (w : World) (hn : n < 0 ∨ 1048576 < n) :
    Calls Try.prog 15 #[.int .u32 (a : Int), .int .u32 (b : Int), .int .i64 n] w fun e w' => e = .returned (.int .u32 0) ∧ w' = w := by
  rcases hn with hn | hn
  · have h1 : decide (n < 0) = true := by simp; omega
    go_enter Try.func15, Try.ntmps15
    go_wp2
    go_ret
    exact ⟨rfl, rfl⟩
  · have h1 : decide (n < 0) = false := by simp; omega
    have h2 : decide ((1048576 : Int) < n) = true := by simp; omega
    go_enter Try.func15, Try.ntmps15
    go_wp2
    go_ret
    exact ⟨rfl, rfl⟩
end Go.Proofs.Ytaichjkenfnkbab
