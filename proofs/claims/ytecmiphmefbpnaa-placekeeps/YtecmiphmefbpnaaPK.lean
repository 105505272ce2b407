/- PlaceOrder, walked. -/
import Derived.Test.YtecmiphmefbpnaaPJ
namespace Go.Proofs.Ytecmiphmefbpnaa.E
open Go.Proofs.Ytecmiphmefbpnaa Go.RowKit Go.By Go.Shelf
set_option linter.unusedVariables false
set_option linter.unusedSimpArgs false

theorem few_hl {rs : List Rn} (h : fewB rs = true) : rs.length ≤ 100 := by
  unfold fewB at h
  have := (Bool.and_eq_true_iff.1 h).1
  exact (of_decide_eq_true this).1
theorem few_good {rs : List Rn} (h : fewB rs = true) (hg : isG rs = true) : sI rs ≤ 3000 ∧ sO rs ≤ 3000 := by
  unfold fewB at h
  have h2 := (Bool.and_eq_true_iff.1 h).2
  rw [hg] at h2
  obtain ⟨e1, e2, -⟩ := good_sums hg
  rw [e1, e2] at h2
  simp at h2
  exact h2
theorem moveB_true {rs : List Rn} {p : Int} (hg : isG rs = true) (h : 0 ≤ p ∧ p ≤ sI rs) : moveB rs p = true := by rw [moveB, hg, decide_eq_true h]; rfl
theorem moveN_is {rs : List Rn} {p : Int} (b : Bool) (hg : isG rs = true) (h : 0 ≤ p ∧ p ≤ sI rs) : moveN rs p b = ((tMv (expand rs) p.toNat b : Nat) : Int) := by rw [moveN, if_pos (moveB_true hg h)]

set_option maxRecDepth 20000 in
set_option maxHeartbeats 4000000 in
theorem order_any (a : Option Addr) (cap : Nat) (rs : List Rn) (p q : Int) (b : Bool) (w : World) (hS : CameR w.heap.size w a rs) :
    Calls Try.prog 6 #[.slice a rs.length cap, .int .i64 p, .int .i64 q, .bool b] w fun e W' => e = .returned (.bool true) ∧ Below w.heap.size w W' := by
  have hF := few_any a cap rs w hS
  have HL : Hid (∀ W, Calls Try.prog 8 #[] W fun e W' => e = .returned (.bool true) ∧ Below W.heap.size W W') := hide lives10
  cases hf : fewB rs with
  | false =>
    rw [hf] at hF
    clear hS hf
    go_enter Try.func6, Try.ntmps6
    go_wp2_with (first
      | (go_at_call 7; refine hF.mono ?_; rintro e W1 ⟨rfl, hb⟩; have HB := hide hb; clear hb)
      | (go_at_call 8; refine (HL.out _).mono ?_; rintro e W2 ⟨rfl, hb⟩; have HB2 := hide (HB.out.trans (hb.mono HB.out.size)); clear hb))
    go_ret
    exact ⟨rfl, HB2.out⟩
  | true =>
    rw [hf] at hF
    have hl : rs.length ≤ 1000000 := by have := few_hl hf; omega
    have HG : Hid (∀ W, Below w.heap.size w W → Calls Try.prog 21 #[.slice a rs.length cap] W fun e W' => e = .returned (.bool (isG rs)) ∧ Below W.heap.size W W') := hide fun W h => rgood_any a cap rs W ((hS.below h).mono h.size) hl
    have HI : Hid (∀ W, Below w.heap.size w W → Calls Try.prog 22 #[.slice a rs.length cap] W fun e W' => e = .returned (.int .i64 (mIn (meas rs))) ∧ Below W.heap.size W W') := hide fun W h => rin_any a cap rs W ((hS.below h).mono h.size) hl
    have HO : Hid (∀ W, Below w.heap.size w W → Calls Try.prog 23 #[.slice a rs.length cap] W fun e W' => e = .returned (.int .i64 (mOut (meas rs))) ∧ Below W.heap.size W W') := hide fun W h => rout_any a cap rs W ((hS.below h).mono h.size) hl
    have HM : Hid (∀ W (p : Int) (b : Bool), Below w.heap.size w W → Calls Try.prog 9 #[.slice a rs.length cap, .int .i64 p, .bool b] W fun e W' => e = .returned (.tuple #[.int .i64 (moveN rs p b), .bool (moveB rs p)]) ∧ Below W.heap.size W W') := hide fun W p b h => move_any a cap rs p b W ((hS.below h).mono h.size) hl
    cases hg : isG rs with
    | false =>
      rw [hg] at HG
      clear hS hf hg HM HI HO
      go_enter Try.func6, Try.ntmps6
      go_wp2_with (first
        | (go_at_call 7; refine hF.mono ?_; rintro e W1 ⟨rfl, hb⟩; have HB := hide hb; clear hb)
        | (go_at_call 21; refine (HG.out _ HB.out).mono ?_; rintro e W2 ⟨rfl, hb⟩; have HB2 := hide (HB.out.trans (hb.mono HB.out.size)); clear hb)
        | (go_at_call 8; refine (HL.out _).mono ?_; rintro e W3 ⟨rfl, hb⟩; have HB3 := hide (HB2.out.trans (hb.mono HB2.out.size)); clear hb))
      go_ret
      exact ⟨rfl, HB3.out⟩
    | true =>
      rw [hg] at HG
      obtain ⟨e1, e2, -, -, -, hk⟩ := good_sums hg
      rw [e1] at HI
      rw [e2] at HO
      by_cases h1 : p < 0
      · clear hS hf hg HM HI HO e1 e2
        go_enter Try.func6, Try.ntmps6
        go_wp2_with (first
          | (go_at_call 7; refine hF.mono ?_; rintro e W1 ⟨rfl, hb⟩; have HB := hide hb; clear hb)
          | (go_at_call 21; refine (HG.out _ HB.out).mono ?_; rintro e W2 ⟨rfl, hb⟩; have HB2 := hide (HB.out.trans (hb.mono HB.out.size)); clear hb)
          | (go_at_call 8; refine (HL.out _).mono ?_; rintro e W3 ⟨rfl, hb⟩; have HB3 := hide (HB2.out.trans (hb.mono HB2.out.size)); clear hb))
        go_ret
        exact ⟨rfl, HB3.out⟩
      · by_cases h2 : q < p
        · clear hS hf hg HM HI HO e1 e2
          go_enter Try.func6, Try.ntmps6
          go_wp2_with (first
            | (go_at_call 7; refine hF.mono ?_; rintro e W1 ⟨rfl, hb⟩; have HB := hide hb; clear hb)
            | (go_at_call 21; refine (HG.out _ HB.out).mono ?_; rintro e W2 ⟨rfl, hb⟩; have HB2 := hide (HB.out.trans (hb.mono HB.out.size)); clear hb)
            | (go_at_call 8; refine (HL.out _).mono ?_; rintro e W3 ⟨rfl, hb⟩; have HB3 := hide (HB2.out.trans (hb.mono HB2.out.size)); clear hb))
          go_ret
          exact ⟨rfl, HB3.out⟩
        · by_cases h3 : sI rs < q
          · clear hS hf hg HM HO e1 e2
            go_enter Try.func6, Try.ntmps6
            go_wp2_with (first
              | (go_at_call 7; refine hF.mono ?_; rintro e W1 ⟨rfl, hb⟩; have HB := hide hb; clear hb)
              | (go_at_call 21; refine (HG.out _ HB.out).mono ?_; rintro e W2 ⟨rfl, hb⟩; have HB2 := hide (HB.out.trans (hb.mono HB.out.size)); clear hb)
              | (go_at_call 22; refine (HI.out _ HB2.out).mono ?_; rintro e W3 ⟨rfl, hb⟩; have HB3 := hide (HB2.out.trans (hb.mono HB2.out.size)); clear hb)
              | (go_at_call 8; refine (HL.out _).mono ?_; rintro e W4 ⟨rfl, hb⟩; have HB4 := hide (HB3.out.trans (hb.mono HB3.out.size)); clear hb))
            go_ret
            exact ⟨rfl, HB4.out⟩
          · have r1 : 0 ≤ p ∧ p ≤ sI rs := by omega
            have r2 : 0 ≤ q ∧ q ≤ sI rs := by omega
            have r0 : (0 : Int) ≤ 0 ∧ 0 ≤ sI rs := by omega
            have r3 : 0 ≤ sI rs ∧ sI rs ≤ sI rs := by omega
            obtain ⟨t1, t2⟩ := sums_tok hk
            have HM1 : Hid (∀ W, Below w.heap.size w W → Calls Try.prog 9 #[.slice a rs.length cap, .int .i64 p, .bool b] W fun e W' => e = .returned (.tuple #[.int .i64 (moveN rs p b), .bool true]) ∧ Below W.heap.size W W') := hide fun W h => by rw [← moveB_true hg r1]; exact HM.out W p b h
            have HM2 : Hid (∀ W, Below w.heap.size w W → Calls Try.prog 9 #[.slice a rs.length cap, .int .i64 q, .bool b] W fun e W' => e = .returned (.tuple #[.int .i64 (moveN rs q b), .bool true]) ∧ Below W.heap.size W W') := hide fun W h => by rw [← moveB_true hg r2]; exact HM.out W q b h
            have HM3 : Hid (∀ W, Below w.heap.size w W → Calls Try.prog 9 #[.slice a rs.length cap, .int .i64 0, .bool false] W fun e W' => e = .returned (.tuple #[.int .i64 0, .bool true]) ∧ Below W.heap.size W W') := hide fun W h => by
              have := HM.out W 0 false h
              rw [moveB_true hg r0, moveN_is false hg r0, show (0 : Int).toNat = 0 from rfl, mv_first] at this
              exact this
            have HM4 : Hid (∀ W, Below w.heap.size w W → Calls Try.prog 9 #[.slice a rs.length cap, .int .i64 (sI rs), .bool true] W fun e W' => e = .returned (.tuple #[.int .i64 (sO rs), .bool true]) ∧ Below W.heap.size W W') := hide fun W h => by
              have := HM.out W (sI rs) true h
              rw [moveB_true hg r3, moveN_is true hg r3, t1, Int.toNat_natCast, mv_last, ← t2, ← t1] at this
              exact this
            have HM5 : Hid (∀ W, Below w.heap.size w W → Calls Try.prog 9 #[.slice a rs.length cap, .int .i64 p, .bool true] W fun e W' => e = .returned (.tuple #[.int .i64 (moveN rs p true), .bool true]) ∧ Below W.heap.size W W') := hide fun W h => by have := HM.out W p true h; rw [moveB_true hg r1] at this; exact this
            have HM6 : Hid (∀ W, Below w.heap.size w W → Calls Try.prog 9 #[.slice a rs.length cap, .int .i64 p, .bool false] W fun e W' => e = .returned (.tuple #[.int .i64 (moveN rs p false), .bool true]) ∧ Below W.heap.size W W') := hide fun W h => by rw [← moveB_true hg r1]; exact HM.out W p false h
            have g1 : moveN rs p b ≤ moveN rs q b := by
              rw [moveN_is b hg r1, moveN_is b hg r2]
              have := mv_up (expand rs) p.toNat q.toNat b b (by rcases Int.lt_or_le p q with h | h; exact .inl (by omega); exact .inr ⟨by omega, id⟩)
              omega
            have g2 : 0 ≤ moveN rs p b := by rw [moveN_is b hg r1]; omega
            have g3 : moveN rs q b ≤ sO rs := by rw [moveN_is b hg r2, t2]; have := mv_le (expand rs) q.toNat b; omega
            have g4 : moveN rs p false ≤ moveN rs p true := by
              rw [moveN_is false hg r1, moveN_is true hg r1]
              have := mv_up (expand rs) p.toNat p.toNat false true (.inr ⟨rfl, fun h => by cases h⟩)
              omega
            clear hS hf hg HM e1 e2 r0 r1 r2 r3 t1 t2 hk
            generalize moveN rs p b = x at *
            generalize moveN rs q b = y at *
            generalize moveN rs p true = z at *
            generalize moveN rs p false = v at *
            generalize sI rs = mi at *
            generalize sO rs = mo at *
            go_enter Try.func6, Try.ntmps6
            go_wp2_with (first
              | (go_at_call 7; refine hF.mono ?_; rintro e W1 ⟨rfl, hb⟩; have HB := hide hb; clear hb)
              | (go_at_call 21; refine (HG.out _ HB.out).mono ?_; rintro e W2 ⟨rfl, hb⟩; have HB2 := hide (HB.out.trans (hb.mono HB.out.size)); clear hb)
              | (go_at_call 22; (with_reducible refine (HI.out _ HB6.out).mono ?_); rintro e W7 ⟨rfl, hb⟩; have HB7 := hide (HB6.out.trans (hb.mono HB6.out.size)); clear hb)
              | (go_at_call 22; (with_reducible refine (HI.out _ HB2.out).mono ?_); rintro e W3 ⟨rfl, hb⟩; have HB3 := hide (HB2.out.trans (hb.mono HB2.out.size)); clear hb)
              | (go_at_call 9; (with_reducible refine (HM1.out _ HB3.out).mono ?_); rintro e W4 ⟨rfl, hb⟩; have HB4 := hide (HB3.out.trans (hb.mono HB3.out.size)); clear hb)
              | (go_at_call 9; (with_reducible refine (HM2.out _ HB4.out).mono ?_); rintro e W5 ⟨rfl, hb⟩; have HB5 := hide (HB4.out.trans (hb.mono HB4.out.size)); clear hb)
              | (go_at_call 9; (with_reducible refine (HM3.out _ HB5.out).mono ?_); rintro e W6 ⟨rfl, hb⟩; have HB6 := hide (HB5.out.trans (hb.mono HB5.out.size)); clear hb)
              | (go_at_call 9; (with_reducible refine (HM4.out _ HB7.out).mono ?_); rintro e W8 ⟨rfl, hb⟩; have HB8 := hide (HB7.out.trans (hb.mono HB7.out.size)); clear hb)
              | (go_at_call 9; (with_reducible refine (HM5.out _ HB8.out).mono ?_); rintro e W9 ⟨rfl, hb⟩; have HB9 := hide (HB8.out.trans (hb.mono HB8.out.size)); clear hb)
              | (go_at_call 9; (with_reducible refine (HM6.out _ HB9.out).mono ?_); rintro e W10 ⟨rfl, hb⟩; have HB10 := hide (HB9.out.trans (hb.mono HB9.out.size)); clear hb)
              | (go_at_call 23; (with_reducible refine (HO.out _ HB10.out).mono ?_); rintro e W11 ⟨rfl, hb⟩; have HB11 := hide (HB10.out.trans (hb.mono HB10.out.size)); clear hb)
              | (go_at_call 23; (with_reducible refine (HO.out _ HB11.out).mono ?_); rintro e W12 ⟨rfl, hb⟩; have HB12 := hide (HB11.out.trans (hb.mono HB11.out.size)); clear hb)
              | (go_at_call 8; refine (HL.out _).mono ?_; rintro e W13 ⟨rfl, hb⟩; have HB13 := hide (HB12.out.trans (hb.mono HB12.out.size)); clear hb))
            go_ret
            exact ⟨rfl, HB13.out⟩

end Go.Proofs.Ytecmiphmefbpnaa.E
