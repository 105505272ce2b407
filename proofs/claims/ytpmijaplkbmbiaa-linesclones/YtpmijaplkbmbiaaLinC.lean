/- LinesClones. -/
import Derived.Test.YtpmijaplkbmbiaaLin9
namespace Go.Proofs.Ytpmijaplkbmbiaa.I
open Go.Proofs.Ytpmijaplkbmbiaa Go.RowKit Go.By Go.Shelf
set_option linter.unusedVariables false

theorem CameP.up {n₀ n₁ : Nat} {W : World} {a : Option Addr} {ss : List Stp} (h : CameP n₀ W a ss) (hn : n₀ ≤ n₁) : CameP n₁ W a ss :=
  h.imp_right fun ⟨b, off, e, hl, hc⟩ => ⟨b, off, e, by omega, hc⟩

theorem came_one (W : World) (y : Stp) : CameP (W.alloc (.cells #[.int .i64 y.at_, .int .i64 y.drop, .string y.s] 61)).heap.size (W.alloc (.cells #[.int .i64 y.at_, .int .i64 y.drop, .string y.s] 61)) (some ⟨W.heap.size, 0, none⟩) [y] := by
  refine .inr ⟨W.heap.size, 0, rfl, by simp, fun i hi => ?_⟩
  obtain rfl : i = 0 := by simpa using hi
  have hh := World.alloc_heap_new W (.cells #[.int .i64 y.at_, .int .i64 y.drop, .string y.s] 61)
  exact ⟨by rw [Joins.cell_of_block hh]; rfl, by rw [Joins.cell_of_block hh]; rfl, by rw [Joins.cell_of_block hh]; rfl⟩

/-- The other index behind its edit, and the document's text behind it. -/
def CNext (B g : Nat) (s : ByteArray) (at_ dr : Int) (add : ByteArray) (W1 : World) : Prop :=
  ∀ e W2, REdOut s at_ dr add W1 e W2 → ∃ (t : ByteArray) (r : Int), e = .returned (.tuple #[.string t, .int .i64 r]) ∧ Hid (Below W1.heap.size W1 W2 ∧ ∃ sv', LineIs W2 B g sv' t.data.toList)

theorem edit_c {W : World} {B g : Nat} {sv : Value} {s : ByteArray} (hB : B ≤ W.heap.size) (h : LineIs W B g sv s.data.toList) (hs : s.size ≤ 2000) (at_ dr : Int) (add : ByteArray) (ha : IntOk at_) (hx : add.size ≤ 30) :
    Calls Try.prog 41 #[.pointer (some ⟨g, 0, none⟩), .int .i64 at_, .int .i64 dr, .string add] W fun e W1 => ∃ r, e = .returned (.int .i64 r) ∧ Hid (Below B W W1 ∧ CNext B g s at_ dr add W1) := by
  have hz : s.data.toList.length = s.size := rfl
  refine (edit_line at_ dr add hB h (by rw [hz]; omega) ha).mono ?_
  rintro e W1 ⟨r, rfl, hE⟩
  rw [hz] at hE
  refine ⟨r, rfl, hide ?_⟩
  rcases hE with ⟨q1, q2, q3, _, sv', hl', ho, _⟩ | ⟨hn, _, rfl⟩
  · refine ⟨lstep_below (l' := []) hB h.idx.hB (fun x hx => (ownBlock_lt h.idx.row hx).1) ho, ?_⟩
    rintro e W2 ⟨t, r', rfl, hb, hR⟩
    refine ⟨t, r', rfl, hide ⟨hb, sv', ?_⟩⟩
    rcases hR with ⟨_, _, _, _, hl⟩ | ⟨hn, _⟩
    · rw [hl]; exact hl'.below hb
    · exact absurd ⟨q1, q2, q3⟩ hn
  · refine ⟨Below.refl _ _, ?_⟩
    rintro e W2 ⟨t, r', rfl, hb, hR⟩
    refine ⟨t, r', rfl, hide ⟨hb, sv, ?_⟩⟩
    rcases hR with ⟨q1, q2, q3, _⟩ | ⟨_, _, rfl⟩
    · exact absurd ⟨q1, q2, q3⟩ hn
    · exact h.below hb

set_option maxRecDepth 20000 in
set_option maxHeartbeats 8000000 in
theorem clones_go (s0 : ByteArray) (a : Option Addr) (ss : List Stp) (cap : Nat) (ya yd : Int) (yx : ByteArray) (w : World) (hc : CameP w.heap.size w a ss) (hok : ∀ i, IntOk (ss.getD i stp0).at_) (hmx : ∀ i, (ss.getD i stp0).s.size ≤ 9223372036854775807) (hL : Light s0 ss) (hya : IntOk ya) (hyx : yx.size ≤ 30) :
    Calls Try.prog 10 #[.string s0, .slice a ss.length cap, .agg #[.int .i64 ya, .int .i64 yd, .string yx]] w fun e w' => e = .returned (.bool true) ∧ Below w.heap.size w w' := by
  have hb00 : Below w.heap.size w (w.alloc (.cells #[.int .i64 ya, .int .i64 yd, .string yx] 61)) := (Below.refl _ w).alloc (Nat.le_refl _) _
  have hli := light_any s0 a ss cap (w.alloc (.cells #[.int .i64 ya, .int .i64 yd, .string yx] 61)) ((hc.below hb00).up hb00.size) hmx
  have hyb := World.alloc_heap_new w (.cells #[.int .i64 ya, .int .i64 yd, .string yx] 61)
  have HY : Hid (∀ w', Below (w.heap.size + 1) (w.alloc (.cells #[.int .i64 ya, .int .i64 yd, .string yx] 61)) w' → w'.cell? ⟨w.heap.size, 0, none⟩ = some (.int .i64 ya) ∧ w'.cell? ⟨w.heap.size, 1, none⟩ = some (.int .i64 yd) ∧ w'.cell? ⟨w.heap.size, 2, none⟩ = some (.string yx)) := hide fun w' hb => by
    have h1 := (hb.block w.heap.size (by omega)).trans hyb
    exact ⟨by rw [Joins.cell_of_block h1]; rfl, by rw [Joins.cell_of_block h1]; rfl, by rw [Joins.cell_of_block h1]; rfl⟩
  have HC := hide hc
  have HOK := hide hok
  have HL := hide hL
  have HYA := hide hya
  have HYX := hide hyx
  have HB00 := hide hb00
  have hs00 : (w.alloc (.cells #[.int .i64 ya, .int .i64 yd, .string yx] 61)).heap.size = w.heap.size + 1 := by simp
  have HS00 := hide hs00
  clear hc hok hmx hL hya hyx hb00 hyb hs00
  go_enter Try.func10, Try.ntmps10
  go_wp2_with fail
  refine hli.mono ?_
  rintro e w1 ⟨hb1, (⟨_, rfl⟩ | ⟨hn, _⟩)⟩
  · rw [HS00.out] at hb1
    have HB1 := hide hb1
    obtain ⟨p0, p1, p2⟩ := HY.out w1 hb1
    clear hli hb1
    have hli2 := light_any s0 _ [⟨ya, yd, yx⟩] 1 _ (came_one w1 ⟨ya, yd, yx⟩) (fun i => by cases i with | zero => exact Nat.le_trans HYX.out (by omega) | succ n => simp [stp0, ByteArray.size])
    go_wp2_with fail
    refine hli2.mono ?_
    rintro e w2 ⟨hb2, (⟨_, rfl⟩ | ⟨hn, _⟩)⟩
    · have hb2' : Below (w.heap.size + 1) (w.alloc (.cells #[.int .i64 ya, .int .i64 yd, .string yx] 61)) w2 := HB1.out.trans ((((Below.refl w1.heap.size w1).alloc (Nat.le_refl _) _).trans (hb2.mono (by simp))).mono (by have := HB1.out.size; rw [HS00.out] at this; exact this))
      have HB2 := hide hb2'
      have hsz2 : w.heap.size + 1 ≤ w2.heap.size := by have := hb2'.size; rw [HS00.out] at this; exact this
      clear hli2 hb2 hb2' p0 p1 p2
      go_wp2_with fail
      refine (new_line s0 w2 (by have := HL.out.1; omega)).mono ?_
      rintro e w3 ⟨rfl, sv, h1, h2⟩
      have HP0 : Hid (LP w2 w3 w2.heap.size sv s0 0) := hide ⟨h1, h2, h2.size, by have := HL.out.1; omega⟩
      clear h1 h2
      generalize hg : w2.heap.size = B at HP0 hsz2 ⊢
      have HG := hide hg
      clear hg
      go_wp2_with fail
      go_loopw [0, 32] (fun s_ iv wr => ∃ (k : Nat) (s : ByteArray) (sv : Value), s_ = .string s ∧ iv = .int .i64 (k : Int) ∧ k ≤ ss.length ∧ Hid (LP w2 wr B sv s k)) (fun _ iv _ => ss.length - (intOf iv).toNat)
      case atStart => exact ⟨0, _, _, rfl, rfl, Nat.zero_le _, HP0⟩
      case round =>
        obtain ⟨k, s, sv, rfl, rfl, hk, HI⟩ := hrel
        have h30 : k ≤ 30 := by have := HL.out.2.1; omega
        have HW : Hid (Below w.heap.size w wr) := hide (HB00.out.trans ((HB2.out.mono (by omega)).trans (HI.out.blw.mono (by omega))))
        by_cases hlt : k < ss.length
        · obtain ⟨b, off, at_, dr, x, rfl, hbl, hkd, s0, s1, s2⟩ := (HC.out.below HW.out).get hlt
          have hat := HOK.out k
          have h5 := HL.out.2.2 k hlt
          rw [hkd] at hat h5
          replace hat : IntOk at_ := hat
          replace h5 : x.size ≤ 30 := h5
          have hlt' : (k : Int) < (ss.length : Int) := by omega
          have HAT := hide hat
          have H5 := hide h5
          have hsl := HI.out.len
          have HSL := hide hsl
          clear hkd hat h5 HP0 hsl
          go_wp2_with fail
          refine (edit_lp (HI.out.below ((Below.refl _ _).alloc (Nat.le_refl _) _)) (by omega) at_ dr x HAT.out H5.out).mono ?_
          rintro e w5 ⟨r, rfl, HN, HO⟩
          have hcell := lp_cell HI.out (o := .cells #[.int .i64 at_, .int .i64 dr, .string x] 61) HO.out rfl
          have q0 := hcell 0 _ rfl
          have q1 := hcell 1 _ rfl
          have q2 := hcell 2 _ rfl
          clear hcell HO
          go_wp2_with fail
          refine (redit_lp HN HSL.out (by omega) HAT.out H5.out).mono ?_
          rintro e w6 ⟨s', rfl, HI6⟩
          clear q0 q1 q2 HN
          go_wp2
          go_roundw
          case rel => exact (let ⟨sv', h⟩ := HI6.out; ⟨k + 1, s', sv', rfl, by go_num, by omega, hide h⟩)
          case measure => simp [intOf]; omega
        · obtain rfl : k = ss.length := by omega
          clear HP0
          have hss := HI.out.len
          have hcl := clone_line HI.out.line
          go_wp2_with fail
          refine hcl.mono ?_
          rintro e w5 ⟨g2, rfl, sv2, h51, h52⟩
          have HX5 := hide (HI.out.below h52)
          obtain ⟨p0, p1, p2⟩ := HY.out w5 (HB2.out.trans ((HI.out.blw.trans (h52.mono HI.out.sz)).mono hsz2))
          have hed := edit_c h52.size h51 (by omega) ya yd yx HYA.out HYX.out
          have H52 := hide h52
          clear hcl h51 h52
          go_wp2_with fail
          refine hed.mono ?_
          rintro e w6 ⟨r, rfl, HN6⟩
          have hbw6 : Below wr.heap.size wr w6 := H52.out.trans HN6.out.1
          have HX6 := hide (HI.out.below hbw6)
          obtain ⟨u0, u1, u2⟩ := HY.out w6 (HB2.out.trans ((HI.out.blw.trans (hbw6.mono HI.out.sz)).mono hsz2))
          clear hed p0 p1 p2 hbw6
          go_wp2_with fail
          refine (redit_any s ya yd yx w6 (by have := HYX.out; omega) HYA.out).mono ?_
          intro e w7 hR
          obtain ⟨t, r2, rfl, HT⟩ := HN6.out.2 e w7 hR
          obtain ⟨sv7, hc7⟩ := HT.out.2
          have HX7 := hide (HX6.out.below HT.out.1)
          have HC7 := hide hc7
          clear hR hc7 u0 u1 u2 HT HN6 HX6 HX5
          generalize wr.heap.size = B2 at *
          go_wp2_with fail
          go_loopw [81] (fun iv wr => ∃ k : Nat, iv = .int .i64 (k : Int) ∧ k ≤ s.size ∧ Hid (Below w7.heap.size w7 wr)) (fun iv _ => s.size - (intOf iv).toNat)
          case atStart => exact ⟨0, rfl, Nat.zero_le _, hide (Below.refl _ _)⟩
          case round =>
            obtain ⟨q, rfl, hq, HBR⟩ := hrel
            by_cases hlt2 : q < s.size
            · have hlt2' : (q : Int) < (s.size : Int) := by omega
              go_wp2_with fail
              refine (same_line _ _ _ (HX7.out.below HBR.out).line).mono ?_
              rintro e w8 ⟨rfl, hb8⟩
              have HB8 := hide (HBR.out.trans (hb8.mono HBR.out.size))
              clear hb8
              go_wp2_with fail
              refine (same_line _ _ _ (HC7.out.below HB8.out)).mono ?_
              rintro e w9 ⟨rfl, hb9⟩
              have HB9 := hide (HB8.out.trans (hb9.mono HB8.out.size))
              clear hb9
              go_wp2
              go_roundw
              case rel => exact ⟨q + 1, by go_num, by omega, HB9⟩
              case measure => simp [intOf]; omega
            · obtain rfl : q = s.size := by omega
              go_wp2_with fail
              refine (same_line _ _ _ (HX7.out.below HBR.out).line).mono ?_
              rintro e w8 ⟨rfl, hb8⟩
              have HB8 := hide (HBR.out.trans (hb8.mono HBR.out.size))
              have hlv := lives_any w8
              clear hb8
              go_wp2_with (go_at_call 38; refine hlv.mono ?_; rintro e w9 ⟨rfl, hb9⟩; have HB9 := hide (HB8.out.trans (hb9.mono HB8.out.size)); clear hb9 hlv)
              go_ret
              refine ⟨rfl, HB00.out.trans ((HB2.out.mono (by omega)).trans ((HX7.out.blw.trans (HB9.out.mono HX7.out.sz)).mono (by omega)))⟩
    · exact absurd ⟨HL.out.1, by simp, fun i hi => by obtain rfl : i = 0 := (by simpa using hi); exact HYX.out⟩ hn
  · exact absurd HL.out hn

set_option maxRecDepth 20000 in
set_option maxHeartbeats 4000000 in
theorem clones_not (s0 : ByteArray) (a : Option Addr) (ss : List Stp) (cap : Nat) (ya yd : Int) (yx : ByteArray) (w : World) (hc : CameP w.heap.size w a ss) (hmx : ∀ i, (ss.getD i stp0).s.size ≤ 9223372036854775807) (hym : yx.size ≤ 9223372036854775807) (hL : ¬ (Light s0 ss ∧ yx.size ≤ 30)) :
    Calls Try.prog 10 #[.string s0, .slice a ss.length cap, .agg #[.int .i64 ya, .int .i64 yd, .string yx]] w fun e w' => e = .returned (.bool true) ∧ Below w.heap.size w w' := by
  have hb00 : Below w.heap.size w (w.alloc (.cells #[.int .i64 ya, .int .i64 yd, .string yx] 61)) := (Below.refl _ w).alloc (Nat.le_refl _) _
  have hli := light_any s0 a ss cap (w.alloc (.cells #[.int .i64 ya, .int .i64 yd, .string yx] 61)) ((hc.below hb00).up hb00.size) hmx
  have hyb := World.alloc_heap_new w (.cells #[.int .i64 ya, .int .i64 yd, .string yx] 61)
  have hs00 : (w.alloc (.cells #[.int .i64 ya, .int .i64 yd, .string yx] 61)).heap.size = w.heap.size + 1 := by simp
  have HYB := hide hyb
  have HB00 := hide hb00
  have HS00 := hide hs00
  have HL := hide hL
  have HYM := hide hym
  clear hc hmx hb00 hyb hs00 hL hym
  go_enter Try.func10, Try.ntmps10
  go_wp2_with fail
  refine hli.mono ?_
  rintro e w1 ⟨hb1, (⟨hl1, rfl⟩ | ⟨hn, rfl⟩)⟩
  · rw [HS00.out] at hb1
    have HB1 := hide hb1
    have h1 := (hb1.block w.heap.size (by omega)).trans HYB.out
    have p0 : w1.cell? ⟨w.heap.size, 0, none⟩ = some (.int .i64 ya) := by rw [Joins.cell_of_block h1]; rfl
    have p1 : w1.cell? ⟨w.heap.size, 1, none⟩ = some (.int .i64 yd) := by rw [Joins.cell_of_block h1]; rfl
    have p2 : w1.cell? ⟨w.heap.size, 2, none⟩ = some (.string yx) := by rw [Joins.cell_of_block h1]; rfl
    have HL1 := hide hl1
    clear hli hb1 h1 hl1
    have hli2 := light_any s0 _ [⟨ya, yd, yx⟩] 1 _ (came_one w1 ⟨ya, yd, yx⟩) (fun i => by cases i with | zero => exact HYM.out | succ n => simp [stp0, ByteArray.size])
    go_wp2_with fail
    refine hli2.mono ?_
    rintro e w2 ⟨hb2, (⟨hl2, rfl⟩ | ⟨hn, rfl⟩)⟩
    · exact absurd ⟨HL1.out, hl2.2.2 0 (by simp)⟩ HL.out
    · have HB2 : Hid (Below w.heap.size w w2) := hide (HB00.out.trans ((HB1.out.trans ((((Below.refl w1.heap.size w1).alloc (Nat.le_refl _) _).trans (hb2.mono (by simp))).mono (by have := HB1.out.size; rw [HS00.out] at this; exact this))).mono (by omega)))
      have hlv := lives_any w2
      clear hli2 hb2 hn p0 p1 p2
      go_wp2_with (go_at_call 38; refine hlv.mono ?_; rintro e w7 ⟨rfl, hb7⟩; have HB7 := hide hb7; clear hb7 hlv)
      go_ret
      exact ⟨rfl, HB2.out.trans (HB7.out.mono HB2.out.size)⟩
  · rw [HS00.out] at hb1
    have HB1 : Hid (Below w.heap.size w w1) := hide (HB00.out.trans (hb1.mono (by omega)))
    have hlv := lives_any w1
    clear hli hb1 hn
    go_wp2_with (go_at_call 38; refine hlv.mono ?_; rintro e w7 ⟨rfl, hb7⟩; have HB7 := hide hb7; clear hb7 hlv)
    go_ret
    exact ⟨rfl, HB1.out.trans (HB7.out.mono HB1.out.size)⟩

theorem clones_any (s0 : ByteArray) (a : Option Addr) (ss : List Stp) (cap : Nat) (y : Stp) (w : World) (hc : CameP w.heap.size w a ss) (hok : ∀ i, IntOk (ss.getD i stp0).at_) (hmx : ∀ i, (ss.getD i stp0).s.size ≤ 9223372036854775807) (hya : IntOk y.at_) (hym : y.s.size ≤ 9223372036854775807) :
    Calls Try.prog 10 #[.string s0, .slice a ss.length cap, .agg #[.int .i64 y.at_, .int .i64 y.drop, .string y.s]] w fun e w' => e = .returned (.bool true) ∧ Below w.heap.size w w' := by
  by_cases h : Light s0 ss ∧ y.s.size ≤ 30
  · exact clones_go s0 a ss cap y.at_ y.drop y.s w hc hok hmx h.1 hya h.2
  · exact clones_not s0 a ss cap y.at_ y.drop y.s w hc hmx hym h

end Go.Proofs.Ytpmijaplkbmbiaa.I
