/- LinesPlay. -/
import Derived.Test.YtpmijaplkbmbiaaLin6
namespace Go.Proofs.Ytpmijaplkbmbiaa.I
open Go.Proofs.Ytpmijaplkbmbiaa Go.RowKit Go.By Go.Shelf
set_option linter.unusedVariables false

/-- An index and its text, some steps on. -/
structure LP (w wr : World) (B : Nat) (sv : Value) (s : ByteArray) (k : Nat) : Prop where
  line : LineIs wr B (B + 1) sv s.data.toList
  blw : Below B w wr
  sz : B ≤ wr.heap.size
  len : s.size ≤ 200 + 30 * k

theorem LP.below {w wr wr' : World} {B k : Nat} {sv : Value} {s : ByteArray} (h : LP w wr B sv s k) (hb : Below wr.heap.size wr wr') : LP w wr' B sv s k :=
  ⟨h.line.below hb, h.blw.trans (hb.mono h.sz), Nat.le_trans h.sz hb.size, h.len⟩

/-- What a step leaves, and what the document's edit tells then. -/
def LNext (w : World) (B : Nat) (s : ByteArray) (k : Nat) (at_ dr : Int) (add : ByteArray) (r : Int) (W1 : World) : Prop :=
  ∀ e W2, REdOut s at_ dr add W1 e W2 → ∃ s', e = .returned (.tuple #[.string s', .int .i64 r]) ∧ ∃ sv', LP w W2 B sv' s' (k + 1)

theorem lstep_below {B g : Nat} {sv : Value} {l' : List UInt8} {W W' : World} (hB : B ≤ W.heap.size) (hg : B ≤ g) (hs : ∀ x, sv.ownBlock = some x → B ≤ x) (h : Only (fun x => x = g ∨ some x = sv.ownBlock) W W') : Below B W W' := h.below hB fun i hi => by
  rcases hi with rfl | e
  · exact hg
  · exact hs i e.symm

theorem edit_lp {w wr : World} {B k : Nat} {sv : Value} {s : ByteArray} (h : LP w wr B sv s k) (hk : k ≤ 1000) (at_ dr : Int) (add : ByteArray) (ha : IntOk at_) (hs : add.size ≤ 30) :
    Calls Try.prog 41 #[.pointer (some ⟨B + 1, 0, none⟩), .int .i64 at_, .int .i64 dr, .string add] wr fun e W1 => ∃ r, e = .returned (.int .i64 r) ∧ Hid (LNext w B s k at_ dr add r W1) ∧ Hid (Only (fun x => x = B + 1 ∨ some x = sv.ownBlock) wr W1) := by
  have hz : s.data.toList.length = s.size := rfl
  refine (edit_line at_ dr add h.sz h.line (by have := h.len; rw [hz]; omega) ha).mono ?_
  rintro e W1 ⟨r, rfl, hE⟩
  refine ⟨r, rfl, hide ?_, hide ?_⟩
  case refine_2 =>
    rcases hE with ⟨_, _, _, _, _, _, ho, _⟩ | ⟨_, _, rfl⟩
    · exact ho
    · exact Only.refl _ _
  intro e W2 hR
  obtain ⟨s', r', rfl, hb, hR⟩ := hR
  rw [hz] at hE
  rcases hE with ⟨q1, q2, q3, rfl, hst⟩ | ⟨hn, rfl, rfl⟩
  · rcases hR with ⟨_, _, _, rfl, hl⟩ | ⟨hn, _⟩
    · obtain ⟨sv', hl', ho, _⟩ := hst
      refine ⟨s', rfl, sv', ?_⟩
      rw [← hl] at hl'
      have hbw := lstep_below (l' := s'.data.toList) h.sz h.line.idx.hB (fun x hx => (ownBlock_lt h.line.idx.row hx).1) ho
      have h1 : LP w W1 B sv' s' (k + 1) := ⟨hl', h.blw.trans hbw, Nat.le_trans h.sz hbw.size, by
        have h5 : s'.size = s'.data.toList.length := rfl
        rw [h5, hl]
        simp only [List.length_append, List.length_take, List.length_drop]
        have h6 : add.data.toList.length = add.size := rfl
        rw [h6]
        have := h.len
        omega⟩
      exact h1.below hb
    · exact absurd ⟨q1, q2, q3⟩ hn
  · rcases hR with ⟨q1, q2, q3, _⟩ | ⟨_, rfl, rfl⟩
    · exact absurd ⟨q1, q2, q3⟩ hn
    · exact ⟨s', rfl, sv, (LP.mk h.line h.blw h.sz (by have := h.len; omega)).below hb⟩

/-- What was laid ahead of the step lies there behind it. -/
theorem lp_cell {w wr W1 : World} {B k : Nat} {sv : Value} {s : ByteArray} {o : Obj} {cs : Array Value} (h : LP w wr B sv s k) (ho : Only (fun x => x = B + 1 ∨ some x = sv.ownBlock) (wr.alloc o) W1) (hcs : o = .cells cs 61) : ∀ i x, cs[i]? = some x → W1.cell? ⟨wr.heap.size, i, none⟩ = some x := fun i x hx => by
  have hb2 := ho.block wr.heap.size (by simp) (fun hS => by
    rcases hS with e | e
    · have := lt_of_heap h.line.idx.blk; omega
    · have := (ownBlock_lt h.line.idx.row e.symm).2; omega)
  rw [World.cell?_of_block (a := ⟨wr.heap.size, i, none⟩) hb2]
  subst hcs
  rw [Joins.cell_of_block (World.alloc_heap_new wr _)]
  exact hx

theorem redit_lp {w W1 : World} {B k : Nat} {s : ByteArray} {at_ dr r : Int} {add : ByteArray} (h : Hid (LNext w B s k at_ dr add r W1)) (hlen : s.size ≤ 200 + 30 * k) (hk : k ≤ 1000) (ha : IntOk at_) (hs : add.size ≤ 30) :
    Calls Try.prog 42 #[.string s, .int .i64 at_, .int .i64 dr, .string add] W1 fun e W2 => ∃ s', e = .returned (.tuple #[.string s', .int .i64 r]) ∧ Hid (∃ sv', LP w W2 B sv' s' (k + 1)) :=
  (redit_any s at_ dr add W1 (by omega) ha).mono fun e W2 hR => by obtain ⟨s', e1, h1⟩ := h.out e W2 hR; exact ⟨s', e1, hide h1⟩

set_option maxRecDepth 20000 in
set_option maxHeartbeats 4000000 in
theorem plays_go (s0 : ByteArray) (a : Option Addr) (ss : List Stp) (cap : Nat) (line col at0 : Int) (w : World) (hc : CameP w.heap.size w a ss) (hok : ∀ i, IntOk (ss.getD i stp0).at_) (hmx : ∀ i, (ss.getD i stp0).s.size ≤ 9223372036854775807) (hL : Light s0 ss) :
    Calls Try.prog 8 #[.string s0, .slice a ss.length cap, .int .i64 line, .int .i64 col, .int .i64 at0] w fun e w' => e = .returned (.bool true) ∧ Below w.heap.size w w' := by
  have hli := light_any s0 a ss cap w hc hmx
  have HC := hide hc
  have HOK := hide hok
  have HL := hide hL
  clear hc hok hmx hL
  go_enter Try.func8, Try.ntmps8
  go_wp2_with fail
  refine hli.mono ?_
  rintro e w1 ⟨hb1, (⟨_, rfl⟩ | ⟨hn, _⟩)⟩
  · have HB1 := hide hb1
    clear hli hb1
    go_wp2_with fail
    refine (new_line s0 w1 (by have := HL.out.1; omega)).mono ?_
    rintro e w2 ⟨rfl, sv, h1, h2⟩
    have hgl : w.heap.size ≤ w1.heap.size := HB1.out.size
    have HP0 : Hid (LP w1 w2 w1.heap.size sv s0 0) := hide ⟨h1, h2, h2.size, by have := HL.out.1; omega⟩
    clear h1 h2
    generalize hg : w1.heap.size = B at HP0 hgl ⊢
    have HG := hide hg
    clear hg
    have hsm := same_line line col at0 HP0.out.line
    go_wp2_with (go_at_call 40; refine hsm.mono ?_; rintro e w4 ⟨rfl, hb4⟩; have HP4 := hide (HP0.out.below hb4); clear hb4 hsm HP0)
    go_loopw [0, 32] (fun s_ iv wr => ∃ (k : Nat) (s : ByteArray) (sv : Value), s_ = .string s ∧ iv = .int .i64 (k : Int) ∧ k ≤ ss.length ∧ Hid (LP w1 wr B sv s k)) (fun _ iv _ => ss.length - (intOf iv).toNat)
    case atStart => exact ⟨0, _, _, rfl, rfl, Nat.zero_le _, HP4⟩
    case round =>
      obtain ⟨k, s, sv, rfl, rfl, hk, HI⟩ := hrel
      have h30 : k ≤ 30 := by have := HL.out.2.1; omega
      by_cases hlt : k < ss.length
      · obtain ⟨b, off, at_, dr, x, rfl, hbl, hkd, s0, s1, s2⟩ := (HC.out.below (HB1.out.trans (HI.out.blw.mono hgl))).get hlt
        have hat := HOK.out k
        have h5 := HL.out.2.2 k hlt
        rw [hkd] at hat h5
        replace hat : IntOk at_ := hat
        replace h5 : x.size ≤ 30 := h5
        have hlt' : (k : Int) < (ss.length : Int) := by omega
        have HAT := hide hat
        have H5 := hide h5
        have hsl := HI.out.len
        have HSL := hide hsl
        clear hkd hat h5 HP4 hsl
        go_wp2_with fail
        refine (edit_lp (HI.out.below ((Below.refl _ _).alloc (Nat.le_refl _) _)) (by omega) at_ dr x HAT.out H5.out).mono ?_
        rintro e w5 ⟨r, rfl, HN, HO⟩
        have hcell := lp_cell HI.out (o := .cells #[.int .i64 at_, .int .i64 dr, .string x] 61) HO.out rfl
        have q0 := hcell 0 _ rfl
        have q1 := hcell 1 _ rfl
        have q2 := hcell 2 _ rfl
        clear hcell HO
        go_wp2_with fail
        refine (redit_lp HN HSL.out (by omega) HAT.out H5.out).mono ?_
        rintro e w6 ⟨s', rfl, HI6⟩
        have hsm6 : Calls Try.prog 40 #[.pointer (some ⟨B + 1, 0, none⟩), .string s', .int .i64 line, .int .i64 col, .int .i64 at0] w6 fun e W' => e = .returned (.bool true) ∧ Hid (∃ sv', LP w1 W' B sv' s' (k + 1)) := by
          obtain ⟨sv', h6⟩ := HI6.out
          exact (same_line line col at0 h6.line).mono fun e W' ⟨e1, hb⟩ => ⟨e1, hide ⟨sv', h6.below hb⟩⟩
        clear q0 q1 q2 HN
        go_wp2_with (go_at_call 40; refine hsm6.mono ?_; rintro e w7 ⟨rfl, HI7⟩; clear hsm6)
        go_roundw
        case rel => exact (let ⟨sv', h⟩ := HI7.out; ⟨k + 1, s', sv', rfl, by go_num, by omega, hide h⟩)
        case measure => simp [intOf]; omega
      · obtain rfl : k = ss.length := by omega
        have hlv := lives_any wr
        clear HP4
        go_wp2_with (go_at_call 38; refine hlv.mono ?_; rintro e w7 ⟨rfl, hb7⟩; have HB7 := hide hb7; clear hb7 hlv)
        go_ret
        exact ⟨rfl, HB1.out.trans ((HI.out.blw.trans (HB7.out.mono HI.out.sz)).mono hgl)⟩
  · exact absurd HL.out hn

set_option maxRecDepth 20000 in
set_option maxHeartbeats 4000000 in
theorem plays_any (s0 : ByteArray) (a : Option Addr) (ss : List Stp) (cap : Nat) (line col at0 : Int) (w : World) (hc : CameP w.heap.size w a ss) (hok : ∀ i, IntOk (ss.getD i stp0).at_) (hmx : ∀ i, (ss.getD i stp0).s.size ≤ 9223372036854775807) :
    Calls Try.prog 8 #[.string s0, .slice a ss.length cap, .int .i64 line, .int .i64 col, .int .i64 at0] w fun e w' => e = .returned (.bool true) ∧ Below w.heap.size w w' := by
  by_cases hL : Light s0 ss
  · exact plays_go s0 a ss cap line col at0 w hc hok hmx hL
  · have hli := light_any s0 a ss cap w hc hmx
    have HL := hide hL
    clear hc hok hmx hL
    go_enter Try.func8, Try.ntmps8
    go_wp2_with fail
    refine hli.mono ?_
    rintro e w1 ⟨hb1, (⟨hl, rfl⟩ | ⟨hn, rfl⟩)⟩
    · exact absurd hl HL.out
    · have HB1 := hide hb1
      have hlv := lives_any w1
      clear hli hb1 hn
      go_wp2_with (go_at_call 38; refine hlv.mono ?_; rintro e w7 ⟨rfl, hb7⟩; have HB7 := hide hb7; clear hb7 hlv)
      go_ret
      exact ⟨rfl, HB1.out.trans (HB7.out.mono HB1.out.size)⟩

end Go.Proofs.Ytpmijaplkbmbiaa.I
