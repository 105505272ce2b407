/- The document's Move: walked. -/
import Derived.Test.YtecmiphmefbpnaaPN
import Derived.Test.YtecmiphmefbpnaaPK
namespace Go.Proofs.Ytecmiphmefbpnaa.E
open Go.Proofs.Ytecmiphmefbpnaa Go.RowKit Go.By Go.Shelf
set_option linter.unusedVariables false
set_option linter.unusedSimpArgs false

theorem wrap_add {a b : Nat} (h : a + b ≤ 100000000) : IntKind.i64.wrap ((a : Int) + (b : Int)) = (a : Int) + (b : Int) := by rw [IntKind.wrap_i64]; omega
theorem wrap_one {a : Nat} (h : a ≤ 100000000) : IntKind.i64.wrap ((a : Int) + 1) = (a : Int) + 1 := by rw [IntKind.wrap_i64]; omega
theorem cast_add (a b : Nat) : ((a + b : Nat) : Int) = (a : Int) + (b : Int) := by omega

/-- What there is ahead of a byte, one more. -/
theorem mvS_next (A : List Nat) (D : List Bool) (i : Nat) : mvS A D (i + 1) = mvS A D i + A.getD i 0 + if D.getD i false = true then 0 else 1 := by rw [mvS]; omega
theorem mvS_le (ts : List Tok) {i : Nat} (hi : i ≤ tIn ts) : mvS (aT ts) (dT ts) i ≤ tOut ts := by
  have := mv_lists ts i false hi
  unfold mvL at this
  have h2 := mv_le ts i false
  simp at this
  omega

set_option maxRecDepth 20000 in
set_option maxHeartbeats 8000000 in
theorem rmove_any (a : Option Addr) (cap : Nat) (rs : List Rn) (p : Int) (b : Bool) (w : World) (hS : CameR w.heap.size w a rs) (hl : rs.length ≤ 1000000) :
    Calls Try.prog 10 #[.slice a rs.length cap, .int .i64 p, .bool b] w fun e W' => e = .returned (.tuple #[.int .i64 (moveN rs p b), .bool (moveB rs p)]) ∧ Below w.heap.size w W' := by
  have HG : Hid (Calls Try.prog 21 #[.slice a rs.length cap] w fun e W' => e = .returned (.bool (isG rs)) ∧ Below w.heap.size w W') := hide (rgood_any a cap rs w hS hl)
  have HI : Hid (∀ W, Below w.heap.size w W → Calls Try.prog 22 #[.slice a rs.length cap] W fun e W' => e = .returned (.int .i64 (mIn (meas rs))) ∧ Below W.heap.size W W') := hide fun W h => rin_any a cap rs W ((hS.below h).mono h.size) hl
  by_cases hg : isG rs = true
  · obtain ⟨e1, e2, e3, e4, -, hk⟩ := good_sums hg
    rw [hg] at HG
    rw [e1] at HI
    by_cases h0 : 0 ≤ p ∧ p ≤ sI rs
    · have hN := moveN_is b hg h0
      have hB := moveB_true hg h0
      obtain ⟨n, rfl⟩ := Int.eq_ofNat_of_zero_le h0.1
      rw [Int.toNat_natCast] at hN
      have ht := (sums_tok hk)
      have hn : n ≤ tIn (expand rs) := by omega
      rw [mv_lists _ _ _ hn] at hN
      have HA : Hid (∀ W, Below w.heap.size w W → Calls Try.prog 19 #[.slice a rs.length cap] W fun e W' => ∃ da dc A, e = .returned (.slice da A.length dc) ∧ A.map (·.size) = aT (expand rs) ∧ TextsAt W'.heap.size W' da A ∧ Below W.heap.size W W') := hide fun W h => adds_any a cap rs W ((hS.below h).mono h.size) hk hl e3 e4
      have HD : Hid (∀ W, Below w.heap.size w W → Calls Try.prog 20 #[.slice a rs.length cap] W fun e W' => ∃ da dc, e = .returned (.slice da (dT (expand rs)).length dc) ∧ BoolsAt W'.heap.size W' da (dT (expand rs)) ∧ Below W.heap.size W W') := hide fun W h => drops_any a cap rs W ((hS.below h).mono h.size) hk hl e3
      have HSB : Hid (∀ i, i ≤ tIn (expand rs) → mvS (aT (expand rs)) (dT (expand rs)) i ≤ 16777216) := hide fun i hi => by have := mvS_le (expand rs) hi; omega
      have HAB : Hid (∀ i, (aT (expand rs)).getD i 0 ≤ 16777216) := hide fun i => by have := aT_le (expand rs) i; omega
      have HN : Hid (moveN rs n b = ((mvL (aT (expand rs)) (dT (expand rs)) n b : Nat) : Int) ∧ moveB rs n = true ∧ (aT (expand rs)).length = tIn (expand rs) + 1 ∧ (dT (expand rs)).length = tIn (expand rs)) := hide ⟨hN, hB, aT_len _, dT_len _⟩
      have hnn : ¬ (n : Int) < 0 := by omega
      have hns : ¬ sI rs < (n : Int) := by omega
      have HTI : Hid (tIn (expand rs) ≤ 16777216) := hide (by omega)
      generalize tIn (expand rs) = T at *
      generalize aT (expand rs) = AL at *
      generalize dT (expand rs) = DL at *
      clear hS hg e1 e2 e3 e4 hk hN hB h0 ht
      go_enter Try.func10, Try.ntmps10
      go_wp2_with (first
        | (go_at_call 21; refine HG.out.mono ?_; rintro e W1 ⟨rfl, hb⟩; have HB1 := hide hb; clear hb)
        | (go_at_call 22; refine (HI.out _ HB1.out).mono ?_; rintro e W2 ⟨rfl, hb⟩; have HB2 := hide (HB1.out.trans (hb.mono HB1.out.size)); clear hb)
        | (go_at_call 19; refine (HA.out _ HB2.out).mono ?_; rintro e W3 ⟨da, dc, A, rfl, hA, hT, hb⟩; have HT := hide (And.intro hA hT); have HB3 := hide (HB2.out.trans (hb.mono HB2.out.size)); clear hb hA hT)
        | (go_at_call 20; refine (HD.out _ HB3.out).mono ?_; rintro e W4 ⟨ea, ec, rfl, hD, hb⟩; have HT4 := hide (HT.out.2.up hb); have HD4 := hide hD; have HB4 := hide (HB3.out.trans (hb.mono HB3.out.size)); clear hb hD))
      have HCL : Hid (∀ i, i ≤ T → ∃ tx : ByteArray, tx.size = AL.getD i 0 ∧ ∃ g, da = some ⟨g, 0, none⟩ ∧ W4.cell? ⟨g, i, none⟩ = some (.string tx)) := hide fun i hi => by
        obtain ⟨g, hg, _, hc⟩ := HT4.out
        have hl : A.length = T + 1 := by rw [← HN.out.2.2.1, ← HT.out.1, List.length_map]
        refine ⟨A.getD i bz, ?_, g, hg, hc i (by omega)⟩
        rw [← HT.out.1]; simp [List.getD, show i < A.length by omega]
      have HDL : Hid (∀ i, i < T → ∃ g, ea = some ⟨g, 0, none⟩ ∧ W4.cell? ⟨g, i, none⟩ = some (.bool (DL.getD i false))) := hide fun i hi => by
        have hl := HN.out.2.2.2
        rcases HD4.out with h | ⟨g, hg, _, hc⟩
        · rw [h] at hl; simp at hl; omega
        · exact ⟨g, hg, hc i (by omega)⟩
      have HAL : Hid (A.length = T + 1 ∧ DL.length = T) := hide ⟨by rw [← HN.out.2.2.1, ← HT.out.1, List.length_map], HN.out.2.2.2⟩
      generalize A.length = Al at *
      generalize DL.length = Dl at *
      obtain ⟨rfl, rfl⟩ := HAL.out
      clear HAL HA HD HI HG
      go_loopw [10, 11] (fun v i wr => ∃ k : Nat, i = .int .i64 (k : Int) ∧ k ≤ n ∧ v = .int .i64 ((mvS AL DL k : Nat) : Int) ∧ wr = W4) (fun _ i _ => n - (intOf i).toNat)
      case atStart => exact ⟨0, rfl, by omega, rfl, rfl⟩
      case round =>
        obtain ⟨k, rfl, hk, rfl, rfl⟩ := hrel
        by_cases hlt : k < n
        · have hlt' : (k : Int) < (n : Int) := by omega
          obtain ⟨tx, htx, g, rfl, hcx⟩ := HCL.out k (by omega)
          obtain ⟨dg, rfl, hcd⟩ := HDL.out k (by omega)
          have hnx := mvS_next AL DL k
          have hb1 := HSB.out k (by omega)
          have hb2 := HAB.out k
          have hbT : (k : Int) < ((Dl + 1 : Nat) : Int) := by omega
          have hbD : (k : Int) < (Dl : Int) := by omega
          rw [← htx] at hnx hb2
          have w1 : IntKind.i64.wrap ((mvS AL DL k : Nat) + (tx.size : Int)) = ((mvS AL DL k + tx.size : Nat) : Int) := by rw [wrap_add (by omega), cast_add]
          have w2 : IntKind.i64.wrap (((mvS AL DL k + tx.size : Nat) : Int) + 1) = ((mvS AL DL k + tx.size + 1 : Nat) : Int) := by rw [wrap_one (by omega)]; omega
          have hkb : k ≤ 100000000 := by have := HTI.out; omega
          have w6 := wrap_one hkb
          have HLT := hide hlt
          clear htx hkb
          generalize mvS AL DL k = sk at *
          obtain ⟨q, hq⟩ : ∃ q, q = sk + tx.size := ⟨_, rfl⟩
          rw [← hq] at w1 w2 hnx
          have w3 : IntKind.i64.wrap ((q : Int) + 1) = (q : Int) + 1 := by rw [wrap_one (by omega)]
          clear w2
          cases hd : DL.getD k false with
          | false =>
            rw [hd] at hcd hnx
            have HNX : Hid (mvS AL DL (k + 1) = q + 1) := hide hnx
            clear hnx hd hq
            go_wp2
            go_roundw
            case rel => exact ⟨k + 1, by go_num, HLT.out, by rw [HNX.out]; rfl, by first | rfl | trivial⟩
            case measure => simp [intOf]; have := HLT.out; omega
          | true =>
            rw [hd] at hcd hnx
            have HNX : Hid (mvS AL DL (k + 1) = q) := hide hnx
            clear hnx hd hq
            go_wp2
            go_roundw
            case rel => exact ⟨k + 1, by go_num, HLT.out, by rw [HNX.out], by first | rfl | trivial⟩
            case measure => simp [intOf]; have := HLT.out; omega
        · obtain rfl : k = n := by omega
          obtain ⟨tx, htx, g, rfl, hcx⟩ := HCL.out k hn
          have hb1 := HSB.out k hn
          have hb2 := HAB.out k
          have hbT : (k : Int) < ((Dl + 1 : Nat) : Int) := by omega
          have HV : Hid (moveN rs k b = (((mvS AL DL k + if b = true then tx.size else 0) : Nat) : Int)) := hide (by rw [HN.out.1, htx]; rfl)
          rw [← htx] at hb2
          have w1 : IntKind.i64.wrap ((mvS AL DL k : Nat) + (tx.size : Int)) = ((mvS AL DL k : Nat) : Int) + (tx.size : Int) := by rw [wrap_add (by omega)]
          clear htx hlt hk
          cases b with
          | true =>
            go_wp2
            go_ret2
            exact ⟨by rw [HV.out, HN.out.2.1]; rfl, HB4.out⟩
          | false =>
            go_wp2
            go_ret2
            exact ⟨by rw [HV.out, HN.out.2.1]; rfl, HB4.out⟩
    · have HN : Hid (moveN rs p b = 0 ∧ moveB rs p = false) := hide (by
        have hB : moveB rs p = false := by rw [moveB, hg, decide_eq_false h0]; rfl
        exact ⟨by rw [moveN, if_neg (by rw [hB]; simp)], hB⟩)
      clear hS hg e1 e2 e3 e4 hk
      go_enter Try.func10, Try.ntmps10
      by_cases h1 : p < 0
      · go_wp2_with (go_at_call 21; refine HG.out.mono ?_; rintro e W1 ⟨rfl, hb⟩; have HB1 := hide hb; clear hb)
        go_ret2
        exact ⟨by rw [HN.out.1, HN.out.2]; rfl, HB1.out⟩
      · have h2 : sI rs < p := by omega
        go_wp2_with (first
          | (go_at_call 21; refine HG.out.mono ?_; rintro e W1 ⟨rfl, hb⟩; have HB1 := hide hb; clear hb)
          | (go_at_call 22; refine (HI.out _ HB1.out).mono ?_; rintro e W2 ⟨rfl, hb⟩; have HB2 := hide (HB1.out.trans (hb.mono HB1.out.size)); clear hb))
        go_ret2
        exact ⟨by rw [HN.out.1, HN.out.2]; rfl, HB2.out⟩
  · have hg' : isG rs = false := by simpa using hg
    rw [hg'] at HG
    have HN : Hid (moveN rs p b = 0 ∧ moveB rs p = false) := hide (by
      have hB : moveB rs p = false := by rw [moveB, hg']; rfl
      exact ⟨by rw [moveN, if_neg (by rw [hB]; simp)], hB⟩)
    clear hS hg hg'
    go_enter Try.func10, Try.ntmps10
    go_wp2_with (go_at_call 21; refine HG.out.mono ?_; rintro e W1 ⟨rfl, hb⟩; have HB1 := hide hb; clear hb)
    go_ret2
    exact ⟨by rw [HN.out.1, HN.out.2]; rfl, HB1.out⟩

end Go.Proofs.Ytecmiphmefbpnaa.E
