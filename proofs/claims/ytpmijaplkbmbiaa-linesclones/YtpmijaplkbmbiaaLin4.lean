/- The document's lines, places and offsets, walked. -/
import Derived.Test.YtpmijaplkbmbiaaLin3
namespace Go.Proofs.Ytpmijaplkbmbiaa.I
open Go.Proofs.Ytpmijaplkbmbiaa Go.RowKit Go.By Go.Shelf
set_option linter.unusedVariables false

theorem take_byte (s : ByteArray) (k : Nat) (h : k < s.size) : s.data.toList.take (k + 1) = s.data.toList.take k ++ [s[k]] := by
  rw [List.take_succ_eq_append_getElem (by simpa using h)]; rfl

theorem posL_le (t : List UInt8) : posL t ≤ t.length := feeds_len t 0

theorem byte_ten (c : UInt8) : (((c.toNat : Nat) : Int) = 10 ↔ c = 10) := by
  constructor
  · intro e; exact UInt8.toNat_inj.1 (by simpa using (by omega : c.toNat = 10))
  · rintro rfl; rfl

set_option maxRecDepth 20000 in
set_option maxHeartbeats 2000000 in
theorem rlines_any (s : ByteArray) (W : World) (hs : s.size ≤ 1000000) :
    Calls Try.prog 93 #[.string s] W fun e W' => e = .returned (.int .i64 ((starts s.data.toList).length : Int)) ∧ W' = W := by
  go_enter Try.func93, Try.ntmps93
  go_wp2_with fail
  go_loop [3, 4] (fun nv iv => ∃ k : Nat, iv = .int .i64 (k : Int) ∧ k ≤ s.size ∧ nv = .int .i64 ((posL (s.data.toList.take k) : Int) + 1)) (fun _ iv => s.size - (intOf iv).toNat)
  case atStart => exact ⟨0, rfl, Nat.zero_le _, by simp [posL, feeds]⟩
  case round =>
    obtain ⟨k, rfl, hk, rfl⟩ := hrel
    have hpl : posL (s.data.toList.take k) ≤ k := by have := posL_le (s.data.toList.take k); simp at this; omega
    by_cases hlt : k < s.size
    · have hlt' : (k : Int) < (s.size : Int) := by omega
      have hsn := posL_snoc (s.data.toList.take k) s[k]
      rw [← take_byte s k hlt] at hsn
      have HS := hide hsn
      clear hsn
      by_cases h10 : s[k] = 10
      · have e1 : (s[k].toNat : Int) = 10 := (byte_ten _).2 h10
        have HS2 := hide (HS.out.trans (by rw [if_pos h10]))
        clear h10 HS
        go_wp2
        go_round
        case rel => exact ⟨k + 1, by go_num, by omega, by rw [HS2.out]; go_num⟩
        case measure => simp [intOf]; omega
      · have e1 : ¬ (s[k].toNat : Int) = 10 := fun e => h10 ((byte_ten _).1 e)
        have HS2 := hide (HS.out.trans (by rw [if_neg h10, Nat.add_zero]))
        clear h10 HS
        go_wp2
        go_round
        case rel => exact ⟨k + 1, by go_num, by omega, by rw [HS2.out]⟩
        case measure => simp [intOf]; omega
    · obtain rfl : k = s.size := by omega
      go_wp2
      go_ret
      refine ⟨?_, rfl⟩
      rw [List.take_of_length_le (show s.data.toList.length ≤ s.size from Nat.le_refl _)]
      simp [starts, posL]

set_option maxRecDepth 20000 in
set_option maxHeartbeats 2000000 in
theorem rpos_any (s : ByteArray) (at_ : Int) (W : World) (hs : s.size ≤ 1000000) :
    Calls Try.prog 94 #[.string s, .int .i64 at_] W fun e W' => PosOut s.data.toList at_ e ∧ W' = W := by
  have hsz : s.data.toList.length = s.size := rfl
  by_cases hm : 0 ≤ at_ ∧ at_ ≤ s.size
  · obtain ⟨a, rfl⟩ : ∃ a : Nat, at_ = a := ⟨at_.toNat, by omega⟩
    have hal : a ≤ s.size := by omega
    have i1 : ¬ (a : Int) < 0 := by omega
    have i2 : ¬ (s.size : Int) < (a : Int) := by omega
    have i2' : ¬ s.size < a := by omega
    have b2 : decide ((a : Int) < 0) = false := decide_eq_false i1
    have b3 : decide (s.size < a) = false := decide_eq_false i2'
    clear hm
    go_enter Try.func94, Try.ntmps94
    go_wp2_with fail
    go_loop [7, 8, 9] (fun lv cv iv => ∃ k : Nat, iv = .int .i64 (k : Int) ∧ k ≤ a ∧ lv = .int .i64 (posL (s.data.toList.take k) : Int) ∧ cv = .int .i64 (colL (s.data.toList.take k) : Int)) (fun _ _ iv => a - (intOf iv).toNat)
    case atStart => exact ⟨0, rfl, Nat.zero_le _, rfl, rfl⟩
    case round =>
      obtain ⟨k, rfl, hk, rfl, rfl⟩ := hrel
      have hpl : posL (s.data.toList.take k) ≤ k := by have := posL_le (s.data.toList.take k); simp at this; omega
      have hcl : colL (s.data.toList.take k) ≤ k := by have := (colL_spec (s.data.toList.take k)).1; simp at this; omega
      by_cases hlt : k < a
      · have hlt' : (k : Int) < (a : Int) := by omega
        have hks : k < s.size := by omega
        have hks' : (k : Int) < (s.size : Int) := by omega
        have hsn := posL_snoc (s.data.toList.take k) s[k]
        have hsc := colL_snoc (s.data.toList.take k) s[k]
        rw [← take_byte s k hks] at hsn hsc
        have HS := hide hsn
        have HC := hide hsc
        clear hsn hsc
        by_cases h10 : s[k] = 10
        · have e1 : (s[k].toNat : Int) = 10 := (byte_ten _).2 h10
          have HS2 := hide (HS.out.trans (by rw [if_pos h10]))
          have HC2 := hide (HC.out.trans (by rw [if_pos h10]))
          clear h10 HS HC
          go_wp2
          go_round
          case rel => exact ⟨k + 1, by go_num, by omega, by rw [HS2.out]; go_num, by rw [HC2.out]; rfl⟩
          case measure => simp [intOf]; omega
        · have e1 : ¬ (s[k].toNat : Int) = 10 := fun e => h10 ((byte_ten _).1 e)
          have HS2 := hide (HS.out.trans (by rw [if_neg h10, Nat.add_zero]))
          have HC2 := hide (HC.out.trans (by rw [if_neg h10]))
          clear h10 HS HC
          go_wp2
          go_round
          case rel => exact ⟨k + 1, by go_num, by omega, by rw [HS2.out], by rw [HC2.out]; go_num⟩
          case measure => simp [intOf]; omega
      · obtain rfl : k = a := by omega
        go_wp2
        go_ret3
        exact ⟨.inl ⟨k, rfl, by rw [hsz]; exact hal, rfl⟩, rfl⟩
  · have H1 : Hid (¬ (0 ≤ at_ ∧ at_ ≤ (s.data.toList.length : Int))) := hide hm
    by_cases i1 : at_ < 0
    · clear hm
      go_enter Try.func94, Try.ntmps94
      go_wp2
      go_ret3
      exact ⟨.inr ⟨H1.out, rfl⟩, rfl⟩
    · have i2 : (s.size : Int) < at_ := by omega
      clear hm
      go_enter Try.func94, Try.ntmps94
      go_wp2
      go_ret3
      exact ⟨.inr ⟨H1.out, rfl⟩, rfl⟩

set_option maxRecDepth 20000 in
set_option maxHeartbeats 4000000 in
theorem roffset_any (s : ByteArray) (line col : Int) (W : World) (hs : s.size ≤ 1000000) :
    Calls Try.prog 95 #[.string s, .int .i64 line, .int .i64 col] W fun e W' => OffOut s.data.toList line col e ∧ W' = W := by
  have hsz : s.data.toList.length = s.size := rfl
  go_enter Try.func95, Try.ntmps95
  go_wp2_with fail
  go_loopw [8] (fun iv wr => ∃ k : Nat, iv = .int .i64 (k : Int) ∧ k ≤ s.size + 1 ∧ wr = W ∧ Hid (∀ a, a < k → ¬ At s.data.toList line col a)) (fun iv _ => s.size + 1 - (intOf iv).toNat)
  case atStart => exact ⟨0, rfl, Nat.zero_le _, rfl, hide fun a ha => by omega⟩
  case round =>
    obtain ⟨k, rfl, hk, rfl, HN⟩ := hrel
    by_cases hlt : k ≤ s.size
    · have hlt' : (k : Int) ≤ (s.size : Int) := by omega
      have hps : Calls Try.prog 94 #[.string s, .int .i64 (k : Int)] wr fun e W' => e = .returned (.tuple #[.int .i64 (posL (s.data.toList.take k) : Int), .int .i64 (colL (s.data.toList.take k) : Int), .bool true]) ∧ W' = wr := by
        refine (rpos_any s (k : Int) wr hs).mono ?_
        rintro e W' ⟨(⟨a, e1, _, rfl⟩ | ⟨hn, _⟩), rfl⟩
        · obtain rfl : k = a := by omega
          exact ⟨rfl, rfl⟩
        · exact absurd ⟨by omega, by rw [hsz]; omega⟩ hn
      have HA : Hid ((posL (s.data.toList.take k) : Int) = line → (colL (s.data.toList.take k) : Int) = col → At s.data.toList line col k) := hide fun h1 h2 => ⟨by rw [hsz]; exact hlt, h1, h2⟩
      have HB : Hid (At s.data.toList line col k → (posL (s.data.toList.take k) : Int) = line ∧ (colL (s.data.toList.take k) : Int) = col) := hide fun h => h.2
      generalize (posL (s.data.toList.take k) : Int) = P at *
      generalize (colL (s.data.toList.take k) : Int) = C at *
      have HX : Hid (¬ (P = line ∧ C = col) → ∀ a, a < k + 1 → ¬ At s.data.toList line col a) := hide fun hn a ha hat => by
        rcases Nat.lt_or_ge a k with h | h
        · exact HN.out a h hat
        · obtain rfl : a = k := by omega
          exact hn (HB.out hat)
      by_cases h1 : P = line
      · have b1 : (P == line) = true := beq_iff_eq.2 h1
        by_cases h2 : C = col
        · have b2 : (C == col) = true := beq_iff_eq.2 h2
          have HAT := hide (HA.out h1 h2)
          clear h1 h2 HX HB HA
          go_wp2_with (go_at_call 94; refine hps.mono ?_; rintro e w' ⟨rfl, rfl⟩)
          go_ret2
          exact ⟨.inl ⟨k, HAT.out, rfl⟩, rfl⟩
        · have b2 : (C == col) = false := beq_eq_false_iff_ne.2 h2
          have HX2 := hide (HX.out fun h => h2 h.2)
          clear h1 h2 HX HB HA
          go_wp2_with (go_at_call 94; refine hps.mono ?_; rintro e w' ⟨rfl, rfl⟩)
          go_roundw
          case rel => exact ⟨k + 1, by go_num, by omega, by first | rfl | trivial, HX2⟩
          case measure => simp [intOf]; omega
      · have b1 : (P == line) = false := beq_eq_false_iff_ne.2 h1
        have HX2 := hide (HX.out fun h => h1 h.1)
        clear h1 HX HB HA
        go_wp2_with (go_at_call 94; refine hps.mono ?_; rintro e w' ⟨rfl, rfl⟩)
        go_roundw
        case rel => exact ⟨k + 1, by go_num, by omega, by first | rfl | trivial, HX2⟩
        case measure => simp [intOf]; omega
    · obtain rfl : k = s.size + 1 := by omega
      go_wp2
      go_ret2
      exact ⟨.inr ⟨fun a ha => HN.out a (by have := ha.1; rw [hsz] at this; omega) ha, rfl⟩, rfl⟩

end Go.Proofs.Ytpmijaplkbmbiaa.I
