/- What was put is read: whatever comes in, the call VaryBack returns true and writes nothing that was there. -/
import Derived.Test.YtaichjkenfnkbaaReads2
import Derived.Test.YtaichjkenfnkbaaVaryPuts
namespace Go.By
open Go.RowKit

/-- 'append(a[:n:n], b...)': the first is full, so that nothing of it is written. -/
theorem run_append_full {P : Program} {w : World} (ty : TypeId) (ht : P.underlying 22 = some (.slice 5)) (hinfo : (P.info? 5).map (fun i => (i.zero, i.size, i.bytes)) = some (some (.int .u8 0), 1, 1))
    (a b : Option Addr) (l m : List Nat) (c : Nat) (hl : Lies w a l) (hm : Lies w b m) (ha : a = none → l = []) (hb : b = none → m = [] ∧ c = 0)
    (hsz : l.length + m.length ≤ 140737488355328) :
    ∃ a' cap' w', (Builtin.append_ #[22, 22] ty #[.slice a l.length l.length, .slice b m.length c]).run P w = .ok (.slice a' (l.length + m.length) cap') w' ∧ Below w.heap.size w w' ∧ Lies w' a' (l ++ m) := by
  obtain ⟨i0, hi, hz0, hz1, hz2⟩ := info_parts hinfo
  by_cases hm0 : m = []
  · subst hm0
    refine ⟨a, l.length, w, ?_, Below.refl _ _, by simpa using hl⟩
    cases a with
    | none =>
      obtain rfl := ha rfl
      cases b with
      | none => simp [Builtin.append_, run_underlying ht, sizeOf, typeInfo, hi, Builtin.lenOf, Builtin.firstCells]
      | some y => simp [Builtin.append_, run_underlying ht, sizeOf, typeInfo, hi, Builtin.lenOf, Builtin.firstCells, loadCells, loadCellsFrom]
    | some x =>
      cases b with
      | none => simp [Builtin.append_, run_underlying ht, sizeOf, typeInfo, hi, Builtin.lenOf, Builtin.firstCells, storeCells]
      | some y => simp [Builtin.append_, run_underlying ht, sizeOf, typeInfo, hi, Builtin.lenOf, Builtin.firstCells, loadCells, loadCellsFrom, storeCells]
  · have hmp : 0 < m.length := List.length_pos_iff.2 hm0
    rcases hm.2 with h | ⟨b', o', rfl, hcb⟩
    · exact absurd h hm0
    have hnews := news_of_lies hcb
    have hlm : ∀ c ∈ l ++ m, c < 256 := fun c hc => (List.mem_append.1 hc).elim (hl.1 c) (hm.1 c)
    have fin : ∀ (cap' : Nat) (rest : Array Value), Lies (w.drew.alloc (.cells ((l.map B8).toArray ++ (m.map B8).toArray ++ rest) 5)) (some ⟨w.heap.size, 0, none⟩) (l ++ m) := by
      intro cap' rest
      refine ⟨hlm, .inr ⟨_, _, rfl, fun i hi => ?_⟩⟩
      rw [Nat.zero_add]
      show (w.drew.alloc _).cell? ⟨w.drew.heap.size, i, none⟩ = _
      rw [Joins.cell_of_block (heap_alloc_new w.drew _)]
      have h1 : i < ((l ++ m).map B8).length := by simpa using hi
      have e1 : ((l.map B8).toArray ++ (m.map B8).toArray ++ rest)[i]? = ((l ++ m).map B8)[i]? := by
        rw [Array.getElem?_append_left (by simpa using hi)]
        simp
      rw [e1, List.getElem?_map]
      have h2 : i < (l ++ m).length := hi
      rw [List.getElem?_eq_getElem h2]
      simp [List.getD, B8, List.getElem?_eq_getElem h2]
    cases a with
    | none =>
      obtain rfl := ha rfl
      have hr := run_append_nil (P := P) w 22 ty 5 i0 (.int .u8 0) ht hi hz0 ⟨b', o', none⟩ m.length c (m.map B8) (by simp [hz1]) hnews hmp (by omega) (by rw [hz2]; simp at hsz; omega)
      refine ⟨_, _, _, by simpa using hr, (Below.refl _ _).drew.alloc (Nat.le_refl _) _, by simpa using fin 0 _⟩
    | some x =>
      have holds : ∀ j u, (l.map B8)[j]? = some u → w.cell? (x.add j) = some u := by
        rcases hl.2 with rfl | ⟨bb, oo, e, hc⟩
        · simp
        · cases e; exact news_of_lies hc
      have hr := run_append_grow (P := P) w 22 ty 5 i0 (.int .u8 0) ht hi hz0 x l.length l.length (l.map B8) (by simp [hz1]) holds ⟨b', o', none⟩ m.length c (m.map B8) (by simp [hz1]) hnews (by omega) (by omega) (growslice_fits (by omega) (by rw [hz2]; omega))
      exact ⟨_, _, _, hr, (Below.refl _ _).drew.alloc (Nat.le_refl _) _, fin 0 _⟩

theorem wpList_append_full {P : Program} {w : World} {ops : Array Oper} {rest : List Oper} {o : Oper} {a : Act} {Q : Exit → Act → World → Prop} (hgd : o.guard = none) (s x : Operand)
    (ho : o.op = .call { callee := .builtin .append, args := #[s, x], argTypes := #[22, 22] })
    (ht : P.underlying 22 = some (.slice 5)) (hinfo : (P.info? 5).map (fun i => (i.zero, i.size, i.bytes)) = some (some (.int .u8 0), 1, 1))
    (p q : Option Addr) (l m : List Nat) (n k c : Nat) (hs : a.eval s = .slice p n n) (hx : a.eval x = .slice q k c) (hn : l.length = n) (hk : m.length = k)
    (hl : Lies w p l) (hm : Lies w q m) (ha : p = none → l = []) (hb : q = none → m = [] ∧ c = 0)
    (hsz : n + k ≤ 140737488355328)
    (h : ∀ a' cap' w', Below w.heap.size w w' → Lies w' a' (l ++ m) → wpList P ops Q rest (a.put o.dst (.slice a' (n + k) cap')) w') : wpList P ops Q (o :: rest) a w := by
  subst hn hk
  refine wpList_plain hgd fun K hK => ?_
  obtain ⟨a', cap', w', hr, h1, h2⟩ := run_append_full (P := P) (w := w) o.type ht hinfo p q l m c hl hm ha hb hsz
  unfold Oper.wp execOp
  simp only [ho, resolve, invoke, builtin, Sem.run_bind, Sem.run_pure, Result.andThen_ok, List.map_toArray, List.map_cons, List.map_nil, hs, hx, hr]
  exact hK _ _ (h a' cap' w' h1 h2)
end Go.By
namespace Vary
theorem putI_in {z : Int} (h0 : 0 ≤ z) (h1 : z ≤ 4611686018427387904) : ∃ n : Nat, z = (n : Int) ∧ putI z = put n ∧ n ≤ maxNum := by
  refine ⟨z.toNat, by omega, ?_, by unfold maxNum; omega⟩
  unfold putI; rw [if_pos ⟨h0, h1⟩]
theorem putS_in {z : Int} (h0 : -2305843009213693952 ≤ z) (h1 : z ≤ 2305843009213693952) : ∃ n : Nat, sgn (n : Int) = z ∧ putS z = put n ∧ n ≤ maxNum := by
  by_cases hz : z < 0
  · refine ⟨(2 * (0 - z) - 1).toNat, ?_, ?_, by unfold maxNum; omega⟩
    · unfold sgn
      rw [if_pos (by omega)]
      omega
    · unfold putS; rw [if_pos ⟨h0, h1⟩, if_pos hz]
  · refine ⟨(2 * z).toNat, ?_, ?_, by unfold maxNum; omega⟩
    · unfold sgn
      rw [if_neg (by omega)]
      omega
    · unfold putS; rw [if_pos ⟨h0, h1⟩, if_neg hz]
theorem txt_put (t r : List Nat) (h : t.length ≤ maxNum) : txt (putT t ++ r) = some (t, (putT t).length) := by
  unfold txt putT
  rw [List.append_assoc, num_put (t ++ r) h]
  simp only []
  rw [if_pos (by simp)]
  simp
end Vary
namespace Go.Proofs.Ytaichjkenfnkbaa
open Go.RowKit Go.By
set_option linter.unusedVariables false

theorem slice_full (a : Option Addr) (n cap : Nat) (h : n ≤ cap) (w : World) :
    (Instr.slice 22 (.slice a n cap) none (some (.int .i64 (n : Int))) (some (.int .i64 (n : Int)))).run Try.prog w = .ok (.slice a n n) w := by
  rw [run_slice_hm w 22 a n cap (by exact Try.underlying22) .i64 .i64 n n (by omega) (by omega) (by omega)]
  have hs : (sizeOf (Try.prog.elem 22)).run Try.prog w = .ok 1 w := by kernel_rfl
  rw [hs]
  simp [Result.andThen, sliced]
  cases a with
  | none => simp
  | some x => simp [Addr.add]

theorem puts_at {f : Nat} {a : Option Addr} {l : List Nat} {cap n : Nat} {x : Value} {more : List Nat} {w : World} (h : Puts f a l cap x more w) (hn : l.length = n) :
    Calls Try.prog f #[.slice a n cap, x] w fun e w' => ∃ a' c', e = .returned (.slice a' (l ++ more).length c') ∧ Lies w' a' (l ++ more) ∧ (a' = none → l ++ more = [] ∧ c' = 0) ∧ (l ++ more).length ≤ c' ∧ c' ≤ maxLen ∧ Below w.heap.size w w' := by
  subst hn
  refine h.mono ?_
  rintro e w' ⟨v, rfl, ho, hb⟩
  obtain ⟨a', c', rfl, h1, h2, h3, h4, h5⟩ := ho.form
  exact ⟨a', c', rfl, h3, h4, h1, h2, hb⟩

theorem Num_put (g n : Nat) (r : List Nat) (w : World) (hR : Rd w g (Vary.put n ++ r) true) (hn : n ≤ Vary.maxNum) (hr : ∀ c ∈ r, c < 256) (hm : r.length ≤ 10000) :
    Calls Try.prog 20 #[.pointer (some ⟨g, 0, none⟩)] w fun e w' => e = .returned (.int .i64 (n : Int)) ∧ Turn g w w' ∧ Rd w' g r true := by
  have hl : ∀ c ∈ Vary.put n ++ r, c < 256 := fun c hc => (List.mem_append.1 hc).elim (Vary.put_small hn c) (hr c)
  have hlen := Vary.put_length n
  refine (Num_any g _ true w hR hl (by simp; omega)).mono ?_
  rintro e w' ⟨z, rfl, ht, ⟨n', k, h1, rfl, h3⟩ | ⟨h1, -⟩⟩
  · rw [Vary.num_put r hn] at h1
    simp only [Option.some.injEq, Prod.mk.injEq] at h1
    obtain ⟨rfl, rfl⟩ := h1
    exact ⟨rfl, ht, by simpa using h3⟩
  · rw [Vary.num_put r hn] at h1; cases h1

theorem Signed_put (g n : Nat) (r : List Nat) (w : World) (hR : Rd w g (Vary.put n ++ r) true) (hn : n ≤ Vary.maxNum) (hr : ∀ c ∈ r, c < 256) (hm : r.length ≤ 10000) :
    Calls Try.prog 21 #[.pointer (some ⟨g, 0, none⟩)] w fun e w' => e = .returned (.int .i64 (Vary.sgn (n : Int))) ∧ Turn g w w' ∧ Rd w' g r true := by
  have hl : ∀ c ∈ Vary.put n ++ r, c < 256 := fun c hc => (List.mem_append.1 hc).elim (Vary.put_small hn c) (hr c)
  have hlen := Vary.put_length n
  refine (Signed_any g _ true w hR hl (by simp; omega)).mono ?_
  rintro e w' ⟨z, rfl, ht, ⟨n', k, h1, rfl, h3⟩ | ⟨h1, -⟩⟩
  · rw [Vary.num_put r hn] at h1
    simp only [Option.some.injEq, Prod.mk.injEq] at h1
    obtain ⟨rfl, rfl⟩ := h1
    exact ⟨rfl, ht, by simpa using h3⟩
  · rw [Vary.num_put r hn] at h1; cases h1

theorem Text_put (g : Nat) (t r : List Nat) (w : World) (hR : Rd w g (Vary.putT t ++ r) true) (ht : ∀ c ∈ t, c < 256) (hr : ∀ c ∈ r, c < 256) (hm : t.length + r.length ≤ 10000) :
    Calls Try.prog 22 #[.pointer (some ⟨g, 0, none⟩)] w fun e w' => e = .returned (.string (str t)) ∧ Turn g w w' ∧ Rd w' g r true := by
  have hmx : t.length ≤ Vary.maxNum := by unfold Vary.maxNum; omega
  have hl : ∀ c ∈ Vary.putT t ++ r, c < 256 := fun c hc => (List.mem_append.1 hc).elim (fun h => (List.mem_append.1 h).elim (Vary.put_small hmx c) (ht c)) (hr c)
  have hlen := Vary.put_length t.length
  refine (Text_any g _ true w hR hl (by simp [Vary.putT]; omega)).mono ?_
  rintro e w' ⟨s, rfl, htn, ⟨k, h1, h3⟩ | ⟨h1, -⟩⟩
  · rw [Vary.txt_put t r hmx] at h1
    simp only [Option.some.injEq, Prod.mk.injEq] at h1
    obtain ⟨rfl, rfl⟩ := h1
    exact ⟨rfl, htn, by simpa using h3⟩
  · rw [Vary.txt_put t r hmx] at h1; cases h1

set_option maxHeartbeats 2000000 in
set_option maxRecDepth 20000 in
theorem back_walk (n m : Int) (s : ByteArray) (b : Option Addr) (r : List Nat) (cap : Nat) (w : World) (hL : Came w.heap.size w b r) (hnil : b = none → r = [] ∧ cap = 0) (hm : s.size + r.length ≤ 4000)
    (n0 : 0 ≤ n) (n1 : n ≤ 4611686018427387904) (m0 : -2305843009213693952 ≤ m) (m1 : m ≤ 2305843009213693952) :
    Calls Try.prog 5 #[.int .i64 n, .int .i64 m, .string s, .slice b r.length cap] w fun e w' => e = .returned (.bool true) ∧ Below w.heap.size w w' := by
  obtain ⟨N, rfl, hpi, hN⟩ := Vary.putI_in n0 n1
  obtain ⟨M, hsg, hps, hM⟩ := Vary.putS_in m0 m1
  have HL := hide hL
  have HNIL := hide hnil
  have HPI := hide hpi
  have HPS := hide hps
  have HSG := hide hsg
  have HN := hide hN
  have HM := hide hM
  have d1 : decide ((4000 : Int) < (s.size : Int) + (r.length : Int)) = false := by simp; omega
  have d2 : decide ((N : Int) < 0) = false := by simp
  have d3 : decide ((4611686018427387904 : Int) < (N : Int)) = false := by simp; omega
  have d4 : decide (m < -2305843009213693952) = false := by simp; omega
  have d5 : decide ((2305843009213693952 : Int) < m) = false := by simp; omega
  clear hL hnil hpi hps hsg hN hM n0 n1
  have hlN := Vary.put_length N
  have hlM := Vary.put_length M
  have hlS := Vary.put_length s.size
  have k1len : (Vary.put N).length ≤ 20 := by omega
  have k2len : (Vary.put N ++ Vary.put M).length ≤ 30 := by simp; omega
  have k3len : ((Vary.put N ++ Vary.put M) ++ Vary.putT (nums s)).length ≤ 4050 := by simp [Vary.putT, nums_length]; omega
  clear hlN hlM hlS
  go_enter Try.func5, Try.ntmps5
  go_wp2_with fail
  refine (puts_at (put_any (N : Int) none [] 0 w ⟨by simp, .inl rfl⟩ (fun _ => ⟨rfl, rfl⟩) (by simp)) rfl).mono ?_
  rw [HPI.out, List.nil_append]
  rintro e wa ⟨a1, c1, rfl, l1, nil1, le1, mx1, b1⟩
  generalize hk1 : (Vary.put N).length = k1 at *
  have K1 := hide hk1
  have L1 := hide l1
  have N1 := hide nil1
  have B1 := hide b1
  clear hk1 l1 nil1 b1 mx1 le1
  go_wp2_with fail
  refine (puts_at (putS_any m a1 (Vary.put N) c1 wa L1.out.came N1.out (by rw [K1.out]; omega) (by omega) (by omega)) K1.out).mono ?_
  rw [HPS.out]
  rintro e wb ⟨a2, c2, rfl, l2, nil2, le2, mx2, b2⟩
  generalize hl2 : Vary.put N ++ Vary.put M = q2 at *
  generalize hk2 : q2.length = k2 at *
  have Q2 := hide hl2
  have K2 := hide hk2
  have L2 := hide l2
  have N2 := hide nil2
  have B2 := hide (B1.out.trans (b2.mono B1.out.size))
  clear hl2 hk2 l2 nil2 b2 mx2 le2
  go_wp2_with fail
  refine (puts_at (putT_any s a2 q2 c2 wb L2.out.came N2.out (by rw [K2.out]; omega) (by omega)) K2.out).mono ?_
  rintro e wc ⟨a3, c3, rfl, l3, nil3, le3, mx3, b3⟩
  generalize hl3 : q2 ++ Vary.putT (nums s) = q3 at *
  generalize hk3 : q3.length = k3 at *
  have Q3 := hide hl3
  have K3 := hide hk3
  have L3 := hide l3
  have N3 := hide nil3
  have B3 := hide (B2.out.trans (b3.mono B2.out.size))
  clear hl3 hk3 l3 nil3 b3
  unfold maxLen at mx3
  have hsf := slice_full a3 k3 c3 le3
  go_wp2_with (at_builtin; refine wpList_append_full rfl _ _ rfl Try.underlying22 Try.info5 a3 b q3 r k3 r.length cap rfl rfl K3.out rfl L3.out (HL.out.below B3.out).lies (fun e => (N3.out e).1) HNIL.out (by omega) ?_)
  intro a4 c4 wd b4 l4
  have B4 := hide (B3.out.trans (b4.mono B3.out.size))
  have L4 := hide l4
  clear b4 l4 hsf
  go_wp2_with fail
  refine (read_any a4 (q3 ++ r) (k3 + r.length) c4 wd (by rw [List.length_append, K3.out]) L4.out.came).mono ?_
  rintro e we ⟨g, rfl, hg, hrd, b5⟩
  have HG : Hid (w.heap.size ≤ g) := Nat.le_trans B4.out.size hg
  have B5 := hide (B4.out.trans (b5.mono B4.out.size))
  have R5 : Hid (Rd we g (Vary.put N ++ (Vary.put M ++ (Vary.putT (nums s) ++ r))) true) := by
    have := hrd
    rw [← Q3.out, ← Q2.out, List.append_assoc, List.append_assoc] at this
    exact this
  clear hrd b5 hg
  have hr : Hid (∀ c ∈ r, c < 256) := HL.out.1
  have htr : Hid (∀ c ∈ Vary.putT (nums s) ++ r, c < 256) := fun c hc => (List.mem_append.1 hc).elim (fun h => (List.mem_append.1 h).elim (Vary.put_small (by rw [nums_length]; unfold Vary.maxNum; omega) c) (nums_small s c)) (HL.out.1 c)
  have hmtr : Hid (∀ c ∈ Vary.put M ++ (Vary.putT (nums s) ++ r), c < 256) := fun c hc => (List.mem_append.1 hc).elim (Vary.put_small HM.out c) (htr c)
  have hlt : Hid ((Vary.put M ++ (Vary.putT (nums s) ++ r)).length ≤ 10000 ∧ (Vary.putT (nums s) ++ r).length ≤ 10000) := by
    have h1 := Vary.put_length M
    have h2 := Vary.put_length s.size
    constructor <;> (simp [Vary.putT, nums_length]; omega)
  have hst := str_nums s
  have HST := hide hst
  clear hst
  go_wp2_with fail
  refine (Num_put g N _ we R5.out HN.out hmtr.out hlt.out.1).mono ?_
  rintro e wf ⟨rfl, t6, r6⟩
  have R6 := hide r6
  have B6 := hide (B5.out.trans (t6.below HG.out B5.out.size))
  clear r6 t6
  go_wp2_with fail
  refine (Signed_put g M _ wf R6.out HM.out htr.out hlt.out.2).mono ?_
  rw [HSG.out]
  rintro e wh ⟨rfl, t7, r7⟩
  have R7 := hide r7
  have B7 := hide (B6.out.trans (t7.below HG.out B6.out.size))
  clear r7 t7
  go_wp2_with fail
  refine (Text_put g (nums s) r wh R7.out (nums_small s) hr.out (by rw [nums_length]; omega)).mono ?_
  rw [HST.out]
  rintro e wi ⟨rfl, t8, r8⟩
  have R8 := hide r8
  have B8' := hide (B7.out.trans (t8.below HG.out B7.out.size))
  clear r8 t8
  go_wp2_with (first
    | (go_at_call 24; refine (Left_any g r true _ R8.out).mono ?_; rintro e w' ⟨rfl, hw⟩; subst hw)
    | (go_at_call 23; refine (Bad_any g r true _ R8.out).mono ?_; rintro e w' ⟨rfl, hw⟩; subst hw)
    | (go_at_call 9; refine (lives_any _).mono ?_; rintro e w' ⟨rfl, hlv⟩))
  go_ret
  exact ⟨rfl, B8'.out.trans (hlv.mono B8'.out.size)⟩

set_option maxHeartbeats 1000000 in
set_option maxRecDepth 20000 in
theorem back_out (n m : Int) (s : ByteArray) (b : Option Addr) (k cap : Nat) (w : World) (h1 : k ≤ 140737488351232) (h2 : s.size ≤ 140737488351232)
    (h : 4000 < s.size + k ∨ n < 0 ∨ 4611686018427387904 < n ∨ m < -2305843009213693952 ∨ 2305843009213693952 < m) :
    Calls Try.prog 5 #[.int .i64 n, .int .i64 m, .string s, .slice b k cap] w fun e w' => e = .returned (.bool true) ∧ Below w.heap.size w w' := by
  have hd : decide ((4000 : Int) < (s.size : Int) + (k : Int)) = true ∨
      (decide ((4000 : Int) < (s.size : Int) + (k : Int)) = false ∧ decide (n < 0) = true) ∨
      (decide ((4000 : Int) < (s.size : Int) + (k : Int)) = false ∧ decide (n < 0) = false ∧ decide ((4611686018427387904 : Int) < n) = true) ∨
      (decide ((4000 : Int) < (s.size : Int) + (k : Int)) = false ∧ decide (n < 0) = false ∧ decide ((4611686018427387904 : Int) < n) = false ∧ decide (m < -2305843009213693952) = true) ∨
      (decide ((4000 : Int) < (s.size : Int) + (k : Int)) = false ∧ decide (n < 0) = false ∧ decide ((4611686018427387904 : Int) < n) = false ∧ decide (m < -2305843009213693952) = false ∧ decide ((2305843009213693952 : Int) < m) = true) := by
    simp only [decide_eq_true_eq, decide_eq_false_iff_not]
    omega
  clear h
  rcases hd with e1 | ⟨e1, e2⟩ | ⟨e1, e2, e3⟩ | ⟨e1, e2, e3, e4⟩ | ⟨e1, e2, e3, e4, e5⟩
  all_goals
    go_enter Try.func5, Try.ntmps5
    go_wp2_with (go_at_call 9; refine (lives_any _).mono ?_; rintro e w' ⟨rfl, hlv⟩)
    go_ret
    exact ⟨rfl, hlv⟩

theorem back_all (n m : Int) (s : ByteArray) (b : Option Addr) (k cap : Nat) (zs : List Int) (w : World) (h : IsRow .u8 w b k cap zs) (h1 : cap * Try.prog.bytesOf 5 ≤ 140737488351232) (h2 : s.size ≤ 140737488351232) :
    Calls Try.prog 5 #[.int .i64 n, .int .i64 m, .string s, .slice b k cap] w fun e w' => e = .returned (.bool true) ∧ Below w.heap.size w w' := by
  rw [bytes5] at h1
  have hle := row_le h
  by_cases ho : 4000 < s.size + k ∨ n < 0 ∨ 4611686018427387904 < n ∨ m < -2305843009213693952 ∨ 2305843009213693952 < m
  · exact back_out n m s b k cap w (by omega) h2 ho
  · obtain ⟨l, rfl, hc, hx, hg⟩ := came_of_row h
    exact back_walk n m s b l cap w hg (fun e => ⟨List.length_eq_zero_iff.1 (row_nil h e).1, (row_nil h e).2⟩) (by omega) (by omega) (by omega) (by omega) (by omega)
end Go.Proofs.Ytaichjkenfnkbaa
