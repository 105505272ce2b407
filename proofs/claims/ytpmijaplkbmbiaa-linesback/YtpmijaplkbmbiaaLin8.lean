/- LinesBack. -/
import Derived.Test.YtpmijaplkbmbiaaLin7
namespace Go.Proofs.Ytpmijaplkbmbiaa.I
open Go.Proofs.Ytpmijaplkbmbiaa Go.RowKit Go.By Go.Shelf
set_option linter.unusedVariables false

theorem pos_in {W : World} {B g a : Nat} {sv : Value} {l : List UInt8} (h : LineIs W B g sv l) (ha : a ≤ l.length) :
    Calls Try.prog 43 #[.pointer (some ⟨g, 0, none⟩), .int .i64 (a : Int)] W fun e W' => e = .returned (.tuple #[.int .i64 (posL (l.take a) : Int), .int .i64 (colL (l.take a) : Int), .bool true]) ∧ Below W.heap.size W W' :=
  (pos_line h).mono fun e W' ⟨q1, q2⟩ => by
    refine ⟨?_, q2⟩
    rcases q1 with ⟨b, e1, _, rfl⟩ | ⟨hn, _⟩
    · obtain rfl : a = b := by omega
      rfl
    · exact absurd ⟨by omega, by omega⟩ hn

theorem offset_at {W : World} {B g a : Nat} {sv : Value} {l : List UInt8} (h : LineIs W B g sv l) (ha : a ≤ l.length) :
    Calls Try.prog 44 #[.pointer (some ⟨g, 0, none⟩), .int .i64 (posL (l.take a) : Int), .int .i64 (colL (l.take a) : Int)] W fun e W' => e = .returned (.tuple #[.int .i64 (a : Int), .bool true]) ∧ W' = W :=
  (offset_line h).mono fun e W' ⟨q1, q2⟩ => by
    refine ⟨?_, q2⟩
    have hA : At l (posL (l.take a) : Int) (colL (l.take a) : Int) a := ⟨ha, rfl, rfl⟩
    rcases q1 with ⟨b, hb, rfl⟩ | ⟨hn, _⟩
    · rw [hA.uniq hb]
    · exact absurd hA (hn a)

theorem start_at {W : World} {B g a : Nat} {sv : Value} {l : List UInt8} (h : LineIs W B g sv l) (ha : a ≤ l.length) :
    Calls Try.prog 45 #[.pointer (some ⟨g, 0, none⟩), .int .i64 (posL (l.take a) : Int)] W fun e W' => e = .returned (.tuple #[.int .i64 ((a : Int) - (colL (l.take a) : Int)), .bool true]) ∧ W' = W := by
  have := start_in h (posL_lt ha)
  rwa [starts_at ha] at this

set_option maxRecDepth 20000 in
set_option maxHeartbeats 8000000 in
theorem back_go (s0 : ByteArray) (a : Option Addr) (ss : List Stp) (cap : Nat) (w : World) (hc : CameP w.heap.size w a ss) (hok : ∀ i, IntOk (ss.getD i stp0).at_) (hmx : ∀ i, (ss.getD i stp0).s.size ≤ 9223372036854775807) (hL : Light s0 ss) :
    Calls Try.prog 9 #[.string s0, .slice a ss.length cap] w fun e w' => e = .returned (.bool true) ∧ Below w.heap.size w w' := by
  have hli := light_any s0 a ss cap w hc hmx
  have HC := hide hc
  have HOK := hide hok
  have HL := hide hL
  clear hc hok hmx hL
  go_enter Try.func9, Try.ntmps9
  go_wp2_with fail
  refine hli.mono ?_
  rintro e w1 ⟨hb1, (⟨_, rfl⟩ | ⟨hn, _⟩)⟩
  · have HB1 := hide hb1
    clear hli hb1
    go_wp2_with fail
    refine (new_line s0 w1 (by have := HL.out.1; omega)).mono ?_
    rintro e w2 ⟨rfl, sv, h1, h2⟩
    have hgl : w.heap.size ≤ w1.heap.size := HB1.out.size
    have HP0 : Hid (LP w1 w2 w1.heap.size sv s0 0) := hide ⟨h1, h2, h2.size, by have := HL.out.1; omega⟩
    clear h1 h2
    generalize hg : w1.heap.size = B at HP0 hgl ⊢
    have HG := hide hg
    clear hg
    go_wp2_with fail
    go_loopw [0, 31] (fun s_ iv wr => ∃ (k : Nat) (s : ByteArray) (sv : Value), s_ = .string s ∧ iv = .int .i64 (k : Int) ∧ k ≤ ss.length ∧ Hid (LP w1 wr B sv s k)) (fun _ iv _ => ss.length - (intOf iv).toNat)
    case atStart => exact ⟨0, _, _, rfl, rfl, Nat.zero_le _, HP0⟩
    case round =>
      obtain ⟨k, s, sv, rfl, rfl, hk, HI⟩ := hrel
      have h30 : k ≤ 30 := by have := HL.out.2.1; omega
      by_cases hlt : k < ss.length
      · obtain ⟨b, off, at_, dr, x, rfl, hbl, hkd, s0, s1, s2⟩ := (HC.out.below (HB1.out.trans (HI.out.blw.mono hgl))).get hlt
        have hat := HOK.out k
        have h5 := HL.out.2.2 k hlt
        rw [hkd] at hat h5
        replace hat : IntOk at_ := hat
        replace h5 : x.size ≤ 30 := h5
        have hlt' : (k : Int) < (ss.length : Int) := by omega
        have HAT := hide hat
        have H5 := hide h5
        have hsl := HI.out.len
        have HSL := hide hsl
        clear hkd hat h5 HP0 hsl
        go_wp2_with fail
        refine (edit_lp (HI.out.below ((Below.refl _ _).alloc (Nat.le_refl _) _)) (by omega) at_ dr x HAT.out H5.out).mono ?_
        rintro e w5 ⟨r, rfl, HN, HO⟩
        have hcell := lp_cell HI.out (o := .cells #[.int .i64 at_, .int .i64 dr, .string x] 61) HO.out rfl
        have q0 := hcell 0 _ rfl
        have q1 := hcell 1 _ rfl
        have q2 := hcell 2 _ rfl
        clear hcell HO
        go_wp2_with fail
        refine (redit_lp HN HSL.out (by omega) HAT.out H5.out).mono ?_
        rintro e w6 ⟨s', rfl, HI6⟩
        clear q0 q1 q2 HN
        go_wp2
        go_roundw
        case rel => exact (let ⟨sv', h⟩ := HI6.out; ⟨k + 1, s', sv', rfl, by go_num, by omega, hide h⟩)
        case measure => simp [intOf]; omega
      · obtain rfl : k = ss.length := by omega
        clear HP0
        have hss := HI.out.len
        have hnw := new_line s wr (by omega)
        go_wp2_with fail
        refine hnw.mono ?_
        rintro e w3 ⟨rfl, sv2, h31, h32⟩
        have HX : Hid (LineIs w3 B (B + 1) sv s.data.toList) := hide (HI.out.line.below h32)
        have HZ : Hid (LineIs w3 wr.heap.size (wr.heap.size + 1) sv2 s.data.toList) := hide h31
        have HB3 : Hid (Below B w1 w3) := hide (HI.out.blw.trans (h32.mono HI.out.sz))
        have hB3 : B ≤ w3.heap.size := Nat.le_trans HI.out.sz h32.size
        generalize wr.heap.size = B2 at *
        clear h31 h32 hnw HI
        go_wp2_with fail
        go_loopw [9] (fun iv wr => ∃ k : Nat, iv = .int .i64 (k : Int) ∧ k ≤ s.size + 1 ∧ Hid (Below w3.heap.size w3 wr)) (fun iv _ => s.size + 1 - (intOf iv).toNat)
        case atStart => exact ⟨0, rfl, Nat.zero_le _, hide (Below.refl _ _)⟩
        case round =>
          obtain ⟨k, rfl, hk2, HBR⟩ := hrel
          by_cases hlt2 : k ≤ s.size
          · have hlt2' : (k : Int) ≤ (s.size : Int) := by omega
            have hks : k ≤ s.data.toList.length := hlt2
            have hp1 := pos_in (HX.out.below HBR.out) hks
            have HP2 : Hid (∀ w', Below wr.heap.size wr w' → _) := hide fun w' (hb : Below wr.heap.size wr w') => pos_in (HZ.out.below (HBR.out.trans (hb.mono HBR.out.size))) hks
            have HO2 : Hid (∀ w', Below wr.heap.size wr w' → _) := hide fun w' (hb : Below wr.heap.size wr w') => offset_at (HX.out.below (HBR.out.trans (hb.mono HBR.out.size))) hks
            have HS2 : Hid (∀ w', Below wr.heap.size wr w' → _) := hide fun w' (hb : Below wr.heap.size wr w') => start_at (HX.out.below (HBR.out.trans (hb.mono HBR.out.size))) hks
            have hcl : colL (s.data.toList.take k) ≤ k := by have := (colL_spec (s.data.toList.take k)).1; simp at this; omega
            have hpl : posL (s.data.toList.take k) ≤ k := by have := posL_le (s.data.toList.take k); simp at this; omega
            generalize posL (s.data.toList.take k) = P at *
            generalize colL (s.data.toList.take k) = C at *
            clear hks
            go_wp2_with (first
              | (go_at_call 43; refine (HP2.out _ HBA.out).mono ?_; rintro e w5 ⟨rfl, hb5⟩; have HBB := hide (HBA.out.trans (hb5.mono HBA.out.size)); clear hb5)
              | (go_at_call 43; refine hp1.mono ?_; rintro e w4 ⟨rfl, hb4⟩; have HBA := hide hb4; clear hb4 hp1)
              | (go_at_call 44; refine (HO2.out _ HBB.out).mono ?_; rintro e w' ⟨rfl, hw'⟩; have hw2 := hw'.symm; clear hw'; subst hw2)
              | (go_at_call 45; refine (HS2.out _ HBB.out).mono ?_; rintro e w' ⟨rfl, hw'⟩; have hw2 := hw'.symm; clear hw'; subst hw2))
            go_roundw
            case rel => exact ⟨k + 1, by go_num, by omega, hide (HBR.out.trans (HBB.out.mono HBR.out.size))⟩
            case measure => simp [intOf]; omega
          · obtain rfl : k = s.size + 1 := by omega
            have hl1 := lines_line (HX.out.below HBR.out)
            have hl2 := lines_line (HZ.out.below HBR.out)
            have hlv := lives_any wr
            generalize ((starts s.data.toList).length : Int) = NL at *
            have hbne : B + 1 = B + 1 := rfl
            go_wp2_with fail
            refine hl1.mono ?_
            rintro e w' ⟨rfl, hw'⟩
            have hw2 := hw'.symm
            clear hw'
            subst hw2
            go_wp2_with fail
            refine hl2.mono ?_
            rintro e w' ⟨rfl, hw'⟩
            have hw2 := hw'.symm
            clear hw'
            subst hw2
            go_wp2_with (go_at_call 38; refine hlv.mono ?_; rintro e w7 ⟨rfl, hb7⟩; have HB7 := hide hb7; clear hb7 hlv)
            go_ret
            exact ⟨rfl, HB1.out.trans ((HB3.out.trans ((HBR.out.trans (HB7.out.mono HBR.out.size)).mono hB3)).mono hgl)⟩
  · exact absurd HL.out hn

set_option maxRecDepth 20000 in
set_option maxHeartbeats 4000000 in
theorem back_any (s0 : ByteArray) (a : Option Addr) (ss : List Stp) (cap : Nat) (w : World) (hc : CameP w.heap.size w a ss) (hok : ∀ i, IntOk (ss.getD i stp0).at_) (hmx : ∀ i, (ss.getD i stp0).s.size ≤ 9223372036854775807) :
    Calls Try.prog 9 #[.string s0, .slice a ss.length cap] w fun e w' => e = .returned (.bool true) ∧ Below w.heap.size w w' := by
  by_cases hL : Light s0 ss
  · exact back_go s0 a ss cap w hc hok hmx hL
  · have hli := light_any s0 a ss cap w hc hmx
    have HL := hide hL
    clear hc hok hmx hL
    go_enter Try.func9, Try.ntmps9
    go_wp2_with fail
    refine hli.mono ?_
    rintro e w1 ⟨hb1, (⟨hl, rfl⟩ | ⟨hn, rfl⟩)⟩
    · exact absurd hl HL.out
    · have HB1 := hide hb1
      have hlv := lives_any w1
      clear hli hb1 hn
      go_wp2_with (go_at_call 38; refine hlv.mono ?_; rintro e w7 ⟨rfl, hb7⟩; have HB7 := hide hb7; clear hb7 hlv)
      go_ret
      exact ⟨rfl, HB1.out.trans (HB7.out.mono HB1.out.size)⟩

end Go.Proofs.Ytpmijaplkbmbiaa.I
