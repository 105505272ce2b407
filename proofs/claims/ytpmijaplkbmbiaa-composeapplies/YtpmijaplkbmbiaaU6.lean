/- The edit between two texts: the document's way. -/
import Derived.Test.YtpmijaplkbmbiaaU5
namespace Go.Proofs.Ytpmijaplkbmbiaa.E
open Go.Proofs.Ytpmijaplkbmbiaa Go.RowKit Go.By Go.Shelf
set_option linter.unusedVariables false
set_option linter.unusedSimpArgs false

def pH (a b : ByteArray) (i : Nat) : Bool := a.data.toList.getD i 0 == b.data.toList.getD i 0
def pT (a b : ByteArray) (i : Nat) : Bool := a.data.toList.getD (a.data.toList.length - 1 - i) 0 == b.data.toList.getD (b.data.toList.length - 1 - i) 0
theorem pT_eq {a b : ByteArray} {i : Nat} : pT a b i = (a.data.toList.getD (a.size - 1 - i) 0 == b.data.toList.getD (b.size - 1 - i) 0) := by rw [pT, sz_list, sz_list]

set_option maxRecDepth 100000 in
set_option maxHeartbeats 4000000 in
theorem rbetween_any (a b : ByteArray) (w : World) (ha : a.size ≤ 16777216) (hb : b.size ≤ 16777216) : Calls Try.prog 77 #[.string a, .string b] w fun e W' => Gives w.heap.size w (betR a b) e W' := by
  have HR : Hid (betR a b = normR (betS a b)) := hide (by rw [betR, if_pos (by omega)])
  have hN : ∀ W, Calls Try.prog 61 #[.slice (some ⟨W.heap.size, 0, none⟩) 4 4] (W.alloc (.cells (cellsR (betS a b)).toArray 91)) fun e W' => Gives W.heap.size W (normR (betS a b)) e W' := fun W => rnorm_new W (betS a b) 4 (by simp [betS])
  have HL := hide (bet_le a b)
  have HH : Hid (hdN a b = cnt (min a.size b.size) (pH a b)) := hide (head_is a b)
  have HT : Hid (tlN a b = cnt (min a.size b.size - hdN a b) (pT a b)) := hide (tail_is a b)
  have HN := hide hN
  clear hN
  go_enter Try.func77, Try.ntmps77
  go_wp2_with fail
  go_loopw [5] (fun i wr => ∃ k : Nat, k ≤ min a.size b.size ∧ i = .int .i64 (k : Int) ∧ Hid ((∀ j, j < k → pH a b j = true) ∧ Below w.heap.size w wr)) (fun i _ => min a.size b.size - (intOf i).toNat)
  case atStart => exact ⟨0, Nat.zero_le _, rfl, hide ⟨fun j hj => by omega, Below.refl _ _⟩⟩
  case round =>
    obtain ⟨k, hk, rfl, HI⟩ := hrel
    go_wp2_with fail
    go_cut [33] from 15 to 35 (fun v wc => v = .bool (decide (k < min a.size b.size) && pH a b k) ∧ Hid (Below w.heap.size w wc))
    case first =>
      by_cases q1 : k < a.size
      · have q1' : (k : Int) < (a.size : Int) := by omega
        by_cases q2 : k < b.size
        · have q2' : (k : Int) < (b.size : Int) := by omega
          have he := byte_eq q1 q2
          obtain ⟨x, hx⟩ : ∃ x, pH a b k = x := ⟨_, rfl⟩
          have HX : Hid ((decide (k < min a.size b.size) && pH a b k) = x) := hide (by rw [decide_eq_true (by omega), Bool.true_and, hx])
          rw [show (a.data.toList.getD k 0 == b.data.toList.getD k 0) = x from hx] at he
          clear hx hk
          go_quiet (fail)
          go_wp2_with fail
          go_meet
          exact ⟨by rw [HX.out], hide (below_drewN HI.out.2 _)⟩
        · have q2' : ¬ (k : Int) < (b.size : Int) := by omega
          have HX : Hid ((decide (k < min a.size b.size) && pH a b k) = false) := hide (by rw [decide_eq_false (by omega), Bool.false_and])
          clear hk
          go_quiet (fail)
          go_wp2_with fail
          go_meet
          exact ⟨by rw [HX.out], hide (below_drewN HI.out.2 _)⟩
      · have q1' : ¬ (k : Int) < (a.size : Int) := by omega
        have HX : Hid ((decide (k < min a.size b.size) && pH a b k) = false) := hide (by rw [decide_eq_false (by omega), Bool.false_and])
        clear hk
        go_quiet (fail)
        go_wp2_with fail
        go_meet
        exact ⟨by rw [HX.out], hide (below_drewN HI.out.2 _)⟩
    case rest =>
      obtain ⟨hv, HB⟩ := hcut
      have w6 : IntKind.i64.wrap ((k : Int) + 1) = (k : Int) + 1 := by rw [IntKind.wrap_i64]; omega
      by_cases hc : (decide (k < min a.size b.size) && pH a b k) = true
      · rw [hc] at hv
        subst hv
        rw [Bool.and_eq_true, decide_eq_true_eq] at hc
        have HCC := hide hc
        have hlt : k < min a.size b.size := hc.1
        clear hc
        go_wp2_with fail
        go_roundw
        case rel => exact ⟨k + 1, by omega, by go_num, hide ⟨fun j hj => by
          rcases Nat.lt_or_ge j k with h | h
          · exact HI.out.1 j h
          · obtain rfl : j = k := by omega
            exact HCC.out.2, HB.out⟩⟩
        case measure => simp [intOf]; omega
      · have hf : (decide (k < min a.size b.size) && pH a b k) = false := by simpa using hc
        rw [hf] at hv
        subst hv
        have hkh : k = hdN a b := by
          rw [HH.out]
          refine cnt_eq ⟨hk, HI.out.1, ?_⟩
          rw [Bool.and_eq_false_iff] at hf
          rcases hf with h | h
          · left; have := of_decide_eq_false h; omega
          · exact .inr h
        clear hc hf
        obtain ⟨l1, l2⟩ := HL.out
        rw [← hkh] at l1 l2
        have HKH := hide hkh
        clear hkh
        go_wp2_with fail
        go_loopw [6] (fun i wr => ∃ n : Nat, n ≤ min a.size b.size - k ∧ i = .int .i64 (n : Int) ∧ Hid ((∀ j, j < n → pT a b j = true) ∧ Below w.heap.size w wr)) (fun i _ => min a.size b.size - k - (intOf i).toNat)
        case atStart => exact ⟨0, Nat.zero_le _, rfl, hide ⟨fun j hj => by omega, HB.out⟩⟩
        case round =>
          obtain ⟨n, hn, rfl, HJ⟩ := hrel
          go_wp2_with fail
          have w1 : IntKind.i64.wrap ((a.size : Int) - (k : Int)) = ((a.size - k : Nat) : Int) := by rw [IntKind.wrap_i64]; omega
          have w2 : IntKind.i64.wrap ((b.size : Int) - (k : Int)) = ((b.size - k : Nat) : Int) := by rw [IntKind.wrap_i64]; omega
          go_cut [66] from 36 to 68 (fun v wc => v = .bool (decide (n < min a.size b.size - k) && pT a b n) ∧ Hid (Below w.heap.size w wc))
          case first =>
            by_cases q1 : n < a.size - k
            · have q1' : (n : Int) < ((a.size - k : Nat) : Int) := by omega
              by_cases q2 : n < b.size - k
              · have q2' : (n : Int) < ((b.size - k : Nat) : Int) := by omega
                obtain ⟨x, hx⟩ : ∃ x, pT a b n = x := ⟨_, rfl⟩
                have HX : Hid ((decide (n < min a.size b.size - k) && pT a b n) = x) := hide (by rw [decide_eq_true (by omega), Bool.true_and, hx])
                rw [pT_eq] at hx
                obtain ⟨i, hi⟩ : ∃ i, i = a.size - 1 - n := ⟨_, rfl⟩
                obtain ⟨j, hj⟩ : ∃ j, j = b.size - 1 - n := ⟨_, rfl⟩
                rw [← hi, ← hj] at hx
                have i1 : i < a.size := by omega
                have i2 : j < b.size := by omega
                have he := byte_eq i1 i2
                rw [hx] at he
                have i3 : (i : Int) < (a.size : Int) := by omega
                have i4 : (j : Int) < (b.size : Int) := by omega
                have v1 : IntKind.i64.wrap ((a.size : Int) - 1) = (a.size : Int) - 1 := by rw [IntKind.wrap_i64]; omega
                have v2 : IntKind.i64.wrap ((a.size : Int) - 1 - (n : Int)) = (i : Int) := by rw [IntKind.wrap_i64]; omega
                have v3 : IntKind.i64.wrap ((b.size : Int) - 1) = (b.size : Int) - 1 := by rw [IntKind.wrap_i64]; omega
                have v4 : IntKind.i64.wrap ((b.size : Int) - 1 - (n : Int)) = (j : Int) := by rw [IntKind.wrap_i64]; omega
                clear hx hk hn hi hj l1 l2
                go_quiet (fail)
                go_wp2_with fail
                go_meet
                exact ⟨by rw [HX.out], hide (below_drewN HJ.out.2 _)⟩
              · have q2' : ¬ (n : Int) < ((b.size - k : Nat) : Int) := by omega
                have HX : Hid ((decide (n < min a.size b.size - k) && pT a b n) = false) := hide (by rw [decide_eq_false (by omega), Bool.false_and])
                clear hk hn l1 l2
                go_quiet (fail)
                go_wp2_with fail
                go_meet
                exact ⟨by rw [HX.out], hide (below_drewN HJ.out.2 _)⟩
            · have q1' : ¬ (n : Int) < ((a.size - k : Nat) : Int) := by omega
              have HX : Hid ((decide (n < min a.size b.size - k) && pT a b n) = false) := hide (by rw [decide_eq_false (by omega), Bool.false_and])
              clear hk hn l1 l2
              go_quiet (fail)
              go_wp2_with fail
              go_meet
              exact ⟨by rw [HX.out], hide (below_drewN HJ.out.2 _)⟩
          case rest =>
            obtain ⟨hv, HB2⟩ := hcut
            have w6 : IntKind.i64.wrap ((n : Int) + 1) = (n : Int) + 1 := by rw [IntKind.wrap_i64]; omega
            by_cases hc : (decide (n < min a.size b.size - k) && pT a b n) = true
            · rw [hc] at hv
              subst hv
              rw [Bool.and_eq_true, decide_eq_true_eq] at hc
              have HCC := hide hc
              have hlt : n < min a.size b.size - k := hc.1
              clear hc
              go_wp2_with fail
              go_roundw
              case rel => exact ⟨n + 1, by omega, by go_num, hide ⟨fun j hj => by
                rcases Nat.lt_or_ge j n with h | h
                · exact HJ.out.1 j h
                · obtain rfl : j = n := by omega
                  exact HCC.out.2, HB2.out⟩⟩
              case measure => simp [intOf]; omega
            · have hf : (decide (n < min a.size b.size - k) && pT a b n) = false := by simpa using hc
              rw [hf] at hv
              subst hv
              have hnt : n = tlN a b := by
                rw [HT.out, ← HKH.out]
                refine cnt_eq ⟨hn, HJ.out.1, ?_⟩
                rw [Bool.and_eq_false_iff] at hf
                rcases hf with h | h
                · left; have := of_decide_eq_false h; omega
                · exact .inr h
              have hbs : betS a b = [⟨(k : Int), ⟨#[]⟩, 0⟩, ⟨0, b.extract k (b.size - n), 0⟩, ⟨0, ⟨#[]⟩, ((a.size - n - k : Nat) : Int)⟩, ⟨(n : Int), ⟨#[]⟩, 0⟩] := by rw [betS, ← HKH.out, ← hnt]
              rw [← hnt] at l1 l2
              have hN := HN.out
              rw [hbs] at hN
              have HBS := hide hbs
              have w3 : IntKind.i64.wrap ((b.size : Int) - (n : Int)) = ((b.size - n : Nat) : Int) := by rw [IntKind.wrap_i64]; omega
              have w4 : IntKind.i64.wrap ((a.size : Int) - (n : Int)) = ((a.size - n : Nat) : Int) := by rw [IntKind.wrap_i64]; omega
              have w5 : IntKind.i64.wrap (((a.size - n : Nat) : Int) - (k : Int)) = ((a.size - n - k : Nat) : Int) := by rw [IntKind.wrap_i64]; omega
              have j1 : k ≤ b.size - n := by omega
              have j2 : b.size - n ≤ b.size := by omega
              have j3 : (k : Int) ≤ ((b.size - n : Nat) : Int) := by omega
              have j4 : ((b.size - n : Nat) : Int) ≤ (b.size : Int) := by omega
              clear hc hf hnt hbs hk hn l1 l2 w1 w2
              go_wp2_with (go_at_call 61; refine (hN _).mono ?_; rintro e W3 ⟨a3, c3, rfl, hc, hb⟩; have HC3 := hide hc; have HB3 := hide hb; clear hc hb)
              go_ret
              rw [HR.out, HBS.out]
              exact ⟨a3, c3, rfl, HC3.out, HB2.out.trans (HB3.out.mono HB2.out.size)⟩

end Go.Proofs.Ytpmijaplkbmbiaa.E
