/- PieceSlices. -/
import Derived.Test.YtpmijaplkbmbiaaByte
import Derived.Test.YtpmijaplkbmbiaaLight
namespace Go.Proofs.Ytpmijaplkbmbiaa
open Go.RowKit Go.By Go.Shelf
set_option linter.unusedVariables false

/-- A buffer of its own, some steps on. -/
def BI (w wr : World) (g k : Nat) (ps : List ByteArray) : Prop := (∃ sv, BufIs wr g g sv false ps) ∧ Below g w wr ∧ g ≤ wr.heap.size ∧ ps.length ≤ 1 + 3 * k

theorem BI.below {w wr wr' : World} {g k : Nat} {ps : List ByteArray} (h : BI w wr g k ps) (hb : Below wr.heap.size wr wr') : BI w wr' g k ps := by
  obtain ⟨⟨sv, h1⟩, h2, h3, h4⟩ := h
  exact ⟨⟨sv, h1.below hb⟩, h2.trans (hb.mono h3), Nat.le_trans h3 hb.size, h4⟩

theorem BI.step {w wr wr' : World} {g k : Nat} {ps ps' : List ByteArray} (h : BI w wr g k ps) (hs : Stepped g g ps' wr wr') (hl : ps'.length ≤ ps.length + 3) : BI w wr' g (k + 1) ps' := by
  obtain ⟨⟨sv, h1⟩, h2, h3, h4⟩ := h
  obtain ⟨sv', h5, h6⟩ := hs
  exact ⟨⟨sv', h5⟩, h2.trans h6, Nat.le_trans h3 h6.size, by omega⟩

theorem BI.more {w wr : World} {g k : Nat} {ps : List ByteArray} (h : BI w wr g k ps) : BI w wr g (k + 1) ps := ⟨h.1, h.2.1, h.2.2.1, by have := h.2.2.2; omega⟩

theorem CameP.get {n₀ k : Nat} {W : World} {a : Option Addr} {ss : List Stp} (h : CameP n₀ W a ss) (hk : k < ss.length) : ∃ b off, a = some ⟨b, off, none⟩ ∧ b < n₀ ∧
    W.cell? ⟨b, off + k * 4, none⟩ = some (.bool (ss.getD k stp0).del) ∧ W.cell? ⟨b, off + k * 4 + 1, none⟩ = some (.int .i64 (ss.getD k stp0).at_) ∧ W.cell? ⟨b, off + k * 4 + 2, none⟩ = some (.int .i64 (ss.getD k stp0).many) ∧ W.cell? ⟨b, off + k * 4 + 3, none⟩ = some (.string (ss.getD k stp0).s) := by
  rcases h with rfl | ⟨b, off, e, hl, hc⟩
  · simp at hk
  · exact ⟨b, off, e, hl, hc k hk⟩

def IntOk (n : Int) : Prop := IntKind.i64.wrap n = n

/-- Insert, whatever it answers. -/
theorem insert_bi {w wr : World} {g k : Nat} {ps : List ByteArray} (h : BI w wr g k ps) (hk : k ≤ 1000) (at_ : Int) (s : ByteArray) (hs : s.size ≤ 500) :
    Calls Try.prog 30 #[.pointer (some ⟨g, 0, none⟩), .int .i64 at_, .string s] wr fun e W' => ∃ r ps', e = .returned (.int .i64 r) ∧ BI w W' g (k + 1) ps' := by
  obtain ⟨sv, h1⟩ := h.1
  refine (insert_solo s at_ h.2.2.1 h1 (by have := h.2.2.2; omega) (by omega)).mono ?_
  rintro e w1 ⟨r, rfl, (⟨q1, q2, _, rfl, hst⟩ | ⟨hn, _, rfl⟩ | ⟨_, _, hn, _, rfl⟩)⟩
  · exact ⟨_, _, rfl, h.step hst (len_chgAt s (by omega))⟩
  · exact ⟨_, _, rfl, h.more⟩
  · exact ⟨_, _, rfl, h.more⟩

theorem delete_bi {w wr : World} {g k : Nat} {ps : List ByteArray} (h : BI w wr g k ps) (hk : k ≤ 1000) (at_ many : Int) (ha : IntOk at_) :
    Calls Try.prog 29 #[.pointer (some ⟨g, 0, none⟩), .int .i64 at_, .int .i64 many] wr fun e W' => ∃ r ps', e = .returned (.int .i64 r) ∧ BI w W' g (k + 1) ps' := by
  obtain ⟨sv, h1⟩ := h.1
  refine (delete_solo at_ many h.2.2.1 h1 (by have := h.2.2.2; omega) ha).mono ?_
  rintro e w1 ⟨r, rfl, (⟨q1, q2, q3, rfl, hst⟩ | ⟨hn, _, rfl⟩)⟩
  · exact ⟨_, _, rfl, h.step hst (len_chgAt _ (by omega))⟩
  · exact ⟨_, _, rfl, h.more⟩

theorem cut_str (ps : List ByteArray) (a b : Nat) (hb : b ≤ (str ps).size) : (⟨(cut (text ps) a b).toArray⟩ : ByteArray) = (str ps).extract a b := by
  have h := extract_list (str ps) a b
  rw [Nat.min_eq_left hb] at h
  apply ByteArray.ext
  apply Array.toList_inj.1
  rw [h]
  rfl

set_option maxRecDepth 20000 in
set_option maxHeartbeats 4000000 in
theorem slices_go (s0 : ByteArray) (a : Option Addr) (ss : List Stp) (cap : Nat) (f t : Int) (w : World) (hc : CameP w.heap.size w a ss) (hok : ∀ i, IntOk (ss.getD i stp0).at_) (hmx : ∀ i, (ss.getD i stp0).s.size ≤ 9223372036854775807) (hL : Light ss) (h2000 : s0.size ≤ 2000) :
    Calls Try.prog 4 #[.string s0, .slice a ss.length cap, .int .i64 f, .int .i64 t] w fun e w' => e = .returned (.bool true) ∧ Below w.heap.size w w' := by
  have hli := light_any a ss cap w hc hmx
  have HC := hide hc
  have HOK := hide hok
  have HL := hide hL
  have hn2 : ¬ (2000 : Int) < (s0.size : Int) := by omega
  have H2 := hide h2000
  clear hc hok hmx hL
  go_enter Try.func4, Try.ntmps4
  go_wp2_with fail
  refine hli.mono ?_
  rintro e w1 ⟨hb1, (⟨_, rfl⟩ | ⟨hn, _⟩)⟩
  · have HB1 := hide hb1
    clear hli hb1
    go_wp2_with fail
    refine (new_buf s0 w1 (by have := H2.out; omega)).mono ?_
    rintro e w2 ⟨rfl, hnb⟩
    have hgl : w.heap.size ≤ w1.heap.size := HB1.out.size
    have HI0 : Hid (BI w1 w2 w1.heap.size 0 (mid' s0)) := by
      obtain ⟨sv, h1, h2⟩ := hnb
      exact ⟨⟨sv, h1⟩, h2, h2.size, by unfold mid'; split <;> simp⟩
    clear hnb
    generalize hg : w1.heap.size = g at HI0 hgl ⊢
    have HG := hide hg
    clear hg
    go_wp2_with fail
    go_loopw [39] (fun iv wr => ∃ (k : Nat) (ps : List ByteArray), iv = .int .i64 (k : Int) ∧ k ≤ ss.length ∧ Hid (BI w1 wr g k ps)) (fun iv _ => ss.length - (intOf iv).toNat)
    case atStart => exact ⟨0, _, rfl, Nat.zero_le _, HI0⟩
    case round =>
      obtain ⟨k, ps, rfl, hk, HI⟩ := hrel
      have h100 : k ≤ 100 := by have := HL.out.1; omega
      by_cases hlt : k < ss.length
      · have hcp := HC.out.below (HB1.out.trans (HI.out.2.1.mono hgl))
        obtain ⟨b, off, rfl, hbl, s0, s1, s2, s3⟩ := hcp.get hlt
        have hat := HOK.out k
        have h5 := HL.out.2 k hlt
        obtain ⟨⟨dl, at_, mn, s⟩, hkd⟩ : ∃ t, t = ss.getD k stp0 := ⟨_, rfl⟩
        rw [← hkd] at s0 s1 s2 s3 hat h5
        replace s0 : wr.cell? ⟨b, off + k * 4, none⟩ = some (.bool dl) := s0
        replace s1 : wr.cell? ⟨b, off + k * 4 + 1, none⟩ = some (.int .i64 at_) := s1
        replace s2 : wr.cell? ⟨b, off + k * 4 + 2, none⟩ = some (.int .i64 mn) := s2
        replace s3 : wr.cell? ⟨b, off + k * 4 + 3, none⟩ = some (.string s) := s3
        replace hat : IntOk at_ := hat
        replace h5 : s.size ≤ 500 := h5
        have hlt' : (k : Int) < (ss.length : Int) := by omega
        have HAT := hide hat
        have H5 := hide h5
        clear hkd hat h5 hcp
        cases dl with
        | true =>
          go_wp2_with (go_at_call 29; refine (delete_bi (HI.out.below ((Below.refl _ _).alloc (Nat.le_refl _) _)) (by omega) at_ mn HAT.out).mono ?_; rintro e w3 ⟨r, ps', rfl, hbi⟩; have HI3 := hide hbi; clear hbi)
          go_roundw
          case rel => exact ⟨k + 1, ps', by go_num, by omega, HI3⟩
          case measure => simp [intOf]; omega
        | false =>
          go_wp2_with (go_at_call 30; refine (insert_bi (HI.out.below ((Below.refl _ _).alloc (Nat.le_refl _) _)) (by omega) at_ s H5.out).mono ?_; rintro e w3 ⟨r, ps', rfl, hbi⟩; have HI3 := hide hbi; clear hbi)
          go_roundw
          case rel => exact ⟨k + 1, ps', by go_num, by omega, HI3⟩
          case measure => simp [intOf]; omega
      · obtain rfl : k = ss.length := by omega
        have hpl : ps.length ≤ 1000000 := by have := HI.out.2.2.2; omega
        obtain ⟨sv, hbf⟩ := HI.out.1
        have HBF := hide hbf
        have hsmall := hbf.small
        clear hbf HI0 HC HOK
        go_wp2_with fail
        refine (text_buf HBF.out hpl).mono ?_
        rintro e w4 ⟨rfl, hb4⟩
        have HBF4 := hide (HBF.out.below hb4)
        have HB4 := hide (HI.out.2.1.trans (hb4.mono HI.out.2.2.1))
        have hg4 : g ≤ w4.heap.size := Nat.le_trans HI.out.2.2.1 hb4.size
        clear hb4 HBF
        have HSZ := hide (size_str ps)
        by_cases hf : 0 ≤ f ∧ f < tot ps
        · obtain ⟨n, rfl⟩ : ∃ n : Nat, f = n := ⟨f.toNat, by omega⟩
          have hn : n < tot ps := by omega
          have hby := byte_in n HBF4.out hpl hn
          have hns : n < (str ps).size := by rw [HSZ.out]; exact hn
          clear hf
          go_wp2_with (go_at_call 32; refine hby.mono ?_; clear hby; rintro e w5 ⟨rfl, hb5⟩; have HB5 := hide hb5; clear hb5)
          have HBF5 := hide (HBF4.out.below HB5.out)
          have HW5 := hide (HB4.out.trans (HB5.out.mono hg4))
          have hg5 : g ≤ w5.heap.size := Nat.le_trans hg4 HB5.out.size
          refine (slice_buf (n : Int) t HBF5.out hpl).mono ?_
          rintro e w6 ⟨hb6, (⟨q1, q2, q3, rfl⟩ | ⟨qn, rfl⟩)⟩
          · have HW6 := hide (HW5.out.trans (hb6.mono hg5))
            have hg6 : g ≤ w6.heap.size := Nat.le_trans hg5 hb6.size
            obtain ⟨m, rfl⟩ : ∃ m : Nat, t = m := ⟨t.toNat, by omega⟩
            have hmz : m ≤ (str ps).size := by rw [HSZ.out]; omega
            have hnm : n ≤ m := by omega
            have e6 := cut_str ps n m hmz
            simp only [Int.toNat_natCast]
            rw [e6]
            have hli := lives_piece w6
            have i1 : ¬ (n : Int) < 0 := by omega
            have i2 : ¬ (m : Int) < (n : Int) := by omega
            have i2' : ¬ m < n := by omega
            have i3 : ¬ (((str ps).size : Int) < (m : Int)) := by omega
            have i3' : ¬ (str ps).size < m := by omega
            clear hb6 q1 q2 q3 e6
            go_wp2_with (go_at_call 24; refine hli.mono ?_; rintro e w7 ⟨rfl, hb7⟩; have HB7 := hide hb7; clear hb7 hli)
            go_ret
            exact ⟨rfl, HB1.out.trans ((HW6.out.trans (HB7.out.mono hg6)).mono hgl)⟩
          · have HW6 := hide (HW5.out.trans (hb6.mono hg5))
            have hg6 : g ≤ w6.heap.size := Nat.le_trans hg5 hb6.size
            have hli := lives_piece w6
            have hqn : t < (n : Int) ∨ ((str ps).size : Int) < t := by rw [HSZ.out]; omega
            have i1 : ¬ (n : Int) < 0 := by omega
            clear hb6 qn
            by_cases i2 : t < (n : Int)
            · clear hqn
              go_wp2_with (go_at_call 24; refine hli.mono ?_; rintro e w7 ⟨rfl, hb7⟩; have HB7 := hide hb7; clear hb7 hli)
              go_ret
              exact ⟨rfl, HB1.out.trans ((HW6.out.trans (HB7.out.mono hg6)).mono hgl)⟩
            · have i3 : ((str ps).size : Int) < t := by omega
              clear hqn
              go_wp2_with (go_at_call 24; refine hli.mono ?_; rintro e w7 ⟨rfl, hb7⟩; have HB7 := hide hb7; clear hb7 hli)
              go_ret
              exact ⟨rfl, HB1.out.trans ((HW6.out.trans (HB7.out.mono hg6)).mono hgl)⟩
        · have hby := byte_out f HBF4.out hf
          have hf' : f < 0 ∨ ((str ps).size : Int) ≤ f := by rw [HSZ.out]; omega
          have HF' := hide hf'
          clear hf hf'
          by_cases j1 : f < 0
          · go_wp2_with (go_at_call 32; refine hby.mono ?_; clear hby; rintro e w5 ⟨rfl, hw5⟩; have HE5 := hide hw5; clear hw5)
            have HBF5 : Hid (BufIs w5 g g sv false ps) := by rw [HE5.out]; exact HBF4
            have HW5 : Hid (Below g w1 w5) := by rw [HE5.out]; exact HB4
            have hg5 : g ≤ w5.heap.size := by rw [HE5.out]; exact hg4
            refine (slice_buf f t HBF5.out hpl).mono ?_
            rintro e w6 ⟨hb6, (⟨q1, q2, q3, rfl⟩ | ⟨qn, rfl⟩)⟩
            · omega
            · have HW6 := hide (HW5.out.trans (hb6.mono hg5))
              have hg6 : g ≤ w6.heap.size := Nat.le_trans hg5 hb6.size
              have hli := lives_piece w6
              clear hb6 qn
              go_wp2_with (go_at_call 24; refine hli.mono ?_; rintro e w7 ⟨rfl, hb7⟩; have HB7 := hide hb7; clear hb7 hli)
              go_ret
              exact ⟨rfl, HB1.out.trans ((HW6.out.trans (HB7.out.mono hg6)).mono hgl)⟩
          · have j2 : ((str ps).size : Int) ≤ f := by have := HF'.out; omega
            go_wp2_with (go_at_call 32; refine hby.mono ?_; clear hby; rintro e w5 ⟨rfl, hw5⟩; have HE5 := hide hw5; clear hw5)
            have HBF5 : Hid (BufIs w5 g g sv false ps) := by rw [HE5.out]; exact HBF4
            have HW5 : Hid (Below g w1 w5) := by rw [HE5.out]; exact HB4
            have hg5 : g ≤ w5.heap.size := by rw [HE5.out]; exact hg4
            refine (slice_buf f t HBF5.out hpl).mono ?_
            rintro e w6 ⟨hb6, (⟨q1, q2, q3, rfl⟩ | ⟨qn, rfl⟩)⟩
            · have HW6 := hide (HW5.out.trans (hb6.mono hg5))
              have hg6 : g ≤ w6.heap.size := Nat.le_trans hg5 hb6.size
              obtain ⟨n, rfl⟩ : ∃ n : Nat, f = n := ⟨f.toNat, by omega⟩
              obtain ⟨m, rfl⟩ : ∃ m : Nat, t = m := ⟨t.toNat, by omega⟩
              have hmz : m ≤ (str ps).size := by rw [HSZ.out]; omega
              have hnm : n ≤ m := by omega
              have e6 := cut_str ps n m hmz
              simp only [Int.toNat_natCast]
              rw [e6]
              have hli := lives_piece w6
              have i1 : ¬ (n : Int) < 0 := by omega
              have i2 : ¬ (m : Int) < (n : Int) := by omega
              have i2' : ¬ m < n := by omega
              have i3 : ¬ (((str ps).size : Int) < (m : Int)) := by omega
              have i3' : ¬ (str ps).size < m := by omega
              clear hb6 q1 q2 q3 e6
              go_wp2_with (go_at_call 24; refine hli.mono ?_; rintro e w7 ⟨rfl, hb7⟩; have HB7 := hide hb7; clear hb7 hli)
              go_ret
              exact ⟨rfl, HB1.out.trans ((HW6.out.trans (HB7.out.mono hg6)).mono hgl)⟩
            · have HW6 := hide (HW5.out.trans (hb6.mono hg5))
              have hg6 : g ≤ w6.heap.size := Nat.le_trans hg5 hb6.size
              have hli := lives_piece w6
              have hqn : t < f ∨ ((str ps).size : Int) < t := by rw [HSZ.out]; omega
              clear hb6 qn
              by_cases i2 : t < f
              · clear hqn
                go_wp2_with (go_at_call 24; refine hli.mono ?_; rintro e w7 ⟨rfl, hb7⟩; have HB7 := hide hb7; clear hb7 hli)
                go_ret
                exact ⟨rfl, HB1.out.trans ((HW6.out.trans (HB7.out.mono hg6)).mono hgl)⟩
              · have i3 : ((str ps).size : Int) < t := by omega
                clear hqn
                go_wp2_with (go_at_call 24; refine hli.mono ?_; rintro e w7 ⟨rfl, hb7⟩; have HB7 := hide hb7; clear hb7 hli)
                go_ret
                exact ⟨rfl, HB1.out.trans ((HW6.out.trans (HB7.out.mono hg6)).mono hgl)⟩
  · exact absurd HL.out hn

end Go.Proofs.Ytpmijaplkbmbiaa
