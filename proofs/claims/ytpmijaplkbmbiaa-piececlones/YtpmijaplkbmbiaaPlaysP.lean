/- PiecePlays. -/
import Derived.Test.YtpmijaplkbmbiaaDoP
import Derived.Test.YtpmijaplkbmbiaaSteps
namespace Go.Proofs.Ytpmijaplkbmbiaa
open Go.RowKit Go.By Go.Shelf
set_option linter.unusedVariables false

/-- A buffer and the document's list, some steps on. -/
def PP (w wr : World) (g k : Nat) (sv : Value) (lent : Bool) (v : Value) (ps : List ByteArray) : Prop := Two g g sv lent v ps wr ∧ Below g w wr ∧ g ≤ wr.heap.size ∧ ps.length ≤ 1 + 3 * k

theorem PP.below {w wr wr' : World} {g k : Nat} {sv v : Value} {lent : Bool} {ps : List ByteArray} (h : PP w wr g k sv lent v ps) (hb : Below wr.heap.size wr wr') : PP w wr' g k sv lent v ps :=
  ⟨h.1.below hb, h.2.1.trans (hb.mono h.2.2.1), Nat.le_trans h.2.2.1 hb.size, h.2.2.2⟩

theorem trn_ge {W : World} {g : Nat} {sv : Value} {lent : Bool} {ps : List ByteArray} (h : BufIs W g g sv lent ps) : ∀ i, Trn g sv lent i → g ≤ i := by
  rintro i (rfl | ⟨_, e⟩)
  · exact Nat.le_refl _
  · exact (ownBlock_lt h.row e.symm).1

/-- do, some steps on. -/
theorem do_pp {w wr : World} {g k : Nat} {sv v : Value} {lent : Bool} {ps : List ByteArray} (h : PP w wr g k sv lent v ps) (hk : k ≤ 1000) (dl : Bool) (at_ mn : Int) (s : ByteArray) (ha : IntOk at_) (hs : s.size ≤ 500) :
    Calls Try.prog 28 #[.pointer (some ⟨g, 0, none⟩), v, .agg #[.bool dl, .int .i64 at_, .int .i64 mn, .string s]] wr fun e W' => ∃ v', e = .returned (.tuple #[v', .bool true]) ∧ ∃ ps' sv' lent', PP w W' g (k + 1) sv' lent' v' ps' := by
  refine (do_any ⟨dl, at_, mn, s⟩ h.2.2.1 h.1 (by have := h.2.2.2; omega) ha hs).mono ?_
  rintro e W' ⟨v', ps', sv', lent', rfl, ht, ho, hf, hl⟩
  exact ⟨v', rfl, ps', sv', lent', ht, h.2.1.trans (ho.below h.2.2.1 (trn_ge h.1.buf)), Nat.le_trans h.2.2.1 ho.size, by have := h.2.2.2; omega⟩

theorem two_new {w1 w2 w3 : World} {s0 : ByteArray} {sv v : Value} (h1 : BufIs w2 w1.heap.size w1.heap.size sv false (mid' s0)) (h2 : Below w1.heap.size w1 w2) (h3 : w3.ownsRow w2.heap.size 9 1 v (mid' s0).length (strs (mid' s0))) (h4 : Below w2.heap.size w2 w3) : PP w1 w3 w1.heap.size 0 sv false v (mid' s0) := by
  refine ⟨⟨h1.below h4, txs_of_row h3, fun k hk => ?_⟩, h2.trans (h4.mono h2.size), Nat.le_trans h2.size h4.size, by unfold mid'; split <;> simp⟩
  have := (ownBlock_lt h3 hk).1
  refine ⟨fun e => ?_, fun _ e => ?_⟩
  · have := lt_of_heap h1.blk; omega
  · have := (ownBlock_lt h1.row e.symm).2; omega

set_option maxRecDepth 20000 in
set_option maxHeartbeats 4000000 in
theorem plays_go (s0 : ByteArray) (a : Option Addr) (ss : List Stp) (cap : Nat) (w : World) (hc : CameP w.heap.size w a ss) (hok : ∀ i, IntOk (ss.getD i stp0).at_) (hmx : ∀ i, (ss.getD i stp0).s.size ≤ 9223372036854775807) (hL : Light ss) (h2000 : s0.size ≤ 2000) :
    Calls Try.prog 3 #[.string s0, .slice a ss.length cap] w fun e w' => e = .returned (.bool true) ∧ Below w.heap.size w w' := by
  have hli := light_any a ss cap w hc hmx
  have HC := hide hc
  have HOK := hide hok
  have HL := hide hL
  have hn2 : ¬ (2000 : Int) < (s0.size : Int) := by omega
  have H2 := hide h2000
  clear hc hok hmx hL
  go_enter Try.func3, Try.ntmps3
  go_wp2_with fail
  refine hli.mono ?_
  rintro e w1 ⟨hb1, (⟨_, rfl⟩ | ⟨hn, _⟩)⟩
  · have HB1 := hide hb1
    clear hli hb1
    go_wp2_with fail
    refine (new_buf s0 w1 (by have := H2.out; omega)).mono ?_
    rintro e w2 ⟨rfl, sv, h1, h2⟩
    have H1 := hide h1
    have HB2 := hide h2
    clear h1 h2
    go_wp2_with fail
    refine (ref_new s0 w2 H2.out).mono ?_
    rintro e w3 ⟨v, rfl, h3, h4⟩
    have hgl : w.heap.size ≤ w1.heap.size := HB1.out.size
    have HP0 := hide (two_new H1.out HB2.out h3 h4)
    clear h3 h4 H1 HB2
    generalize hg : w1.heap.size = g at HP0 hgl ⊢
    have HG := hide hg
    clear hg
    have hsm := same_buf HP0.out.1.buf HP0.out.1.txs (by have := HP0.out.2.2.2; omega)
    go_wp2_with (go_at_call 27; refine hsm.mono ?_; rintro e w4 ⟨rfl, hb4⟩; have HP4 := hide (HP0.out.below hb4); clear hb4 hsm HP0)
    go_loopw [7, 41] (fun lv iv wr => ∃ (k : Nat) (sv : Value) (lent : Bool) (ps : List ByteArray), iv = .int .i64 (k : Int) ∧ k ≤ ss.length ∧ Hid (PP w1 wr g k sv lent lv ps)) (fun _ iv _ => ss.length - (intOf iv).toNat)
    case atStart => exact ⟨0, _, _, _, rfl, Nat.zero_le _, HP4⟩
    case round =>
      obtain ⟨k, sv, lent, ps, rfl, hk, HI⟩ := hrel
      have h100 : k ≤ 100 := by have := HL.out.1; omega
      by_cases hlt : k < ss.length
      · have hcp := HC.out.below (HB1.out.trans (HI.out.2.1.mono hgl))
        obtain ⟨b, off, rfl, hbl, s0, s1, s2, s3⟩ := hcp.get hlt
        have hat := HOK.out k
        have h5 := HL.out.2 k hlt
        obtain ⟨⟨dl, at_, mn, s⟩, hkd⟩ : ∃ t, t = ss.getD k stp0 := ⟨_, rfl⟩
        rw [← hkd] at s0 s1 s2 s3 hat h5
        replace s0 : wr.cell? ⟨b, off + k * 4, none⟩ = some (.bool dl) := s0
        replace s1 : wr.cell? ⟨b, off + k * 4 + 1, none⟩ = some (.int .i64 at_) := s1
        replace s2 : wr.cell? ⟨b, off + k * 4 + 2, none⟩ = some (.int .i64 mn) := s2
        replace s3 : wr.cell? ⟨b, off + k * 4 + 3, none⟩ = some (.string s) := s3
        replace hat : IntOk at_ := hat
        replace h5 : s.size ≤ 500 := h5
        have hlt' : (k : Int) < (ss.length : Int) := by omega
        have HAT := hide hat
        have H5 := hide h5
        clear hkd hat h5 hcp
        go_wp2_with (go_at_call 28; refine (do_pp (HI.out.below ((Below.refl _ _).alloc (Nat.le_refl _) _)) (by omega) dl at_ mn s HAT.out H5.out).mono ?_; rintro e w5 ⟨v', rfl, hpp⟩; have HI5 := hide hpp; clear hpp)
        go_roundw
        case rel => exact (let ⟨ps', sv', lent', h⟩ := HI5.out; ⟨k + 1, sv', lent', ps', by go_num, by omega, h⟩)
        case measure => simp [intOf]; omega
      · obtain rfl : k = ss.length := by omega
        have hlv := lives_piece wr
        clear HP4
        go_wp2_with (go_at_call 24; refine hlv.mono ?_; rintro e w7 ⟨rfl, hb7⟩; have HB7 := hide hb7; clear hb7 hlv)
        go_ret
        exact ⟨rfl, HB1.out.trans ((HI.out.2.1.trans (HB7.out.mono HI.out.2.2.1)).mono hgl)⟩
  · exact absurd HL.out hn

set_option maxRecDepth 20000 in
set_option maxHeartbeats 4000000 in
theorem plays_not (s0 : ByteArray) (a : Option Addr) (ss : List Stp) (cap : Nat) (w : World) (hc : CameP w.heap.size w a ss) (hmx : ∀ i, (ss.getD i stp0).s.size ≤ 9223372036854775807) (hL : ¬ (Light ss ∧ s0.size ≤ 2000)) :
    Calls Try.prog 3 #[.string s0, .slice a ss.length cap] w fun e w' => e = .returned (.bool true) ∧ Below w.heap.size w w' := by
  have hli := light_any a ss cap w hc hmx
  clear hc hmx
  by_cases h2000 : s0.size ≤ 2000
  · have hn2 : ¬ (2000 : Int) < (s0.size : Int) := by omega
    have HL := hide hL
    have H2 := hide h2000
    clear hL
    go_enter Try.func3, Try.ntmps3
    go_wp2_with fail
    refine hli.mono ?_
    rintro e w1 ⟨hb1, (⟨hl, rfl⟩ | ⟨hn, rfl⟩)⟩
    · exact absurd ⟨hl, H2.out⟩ HL.out
    · have HB1 := hide hb1
      have hlv := lives_piece w1
      clear hli hb1 hn
      go_wp2_with (go_at_call 24; refine hlv.mono ?_; rintro e w7 ⟨rfl, hb7⟩; have HB7 := hide hb7; clear hb7 hlv)
      go_ret
      exact ⟨rfl, HB1.out.trans (HB7.out.mono HB1.out.size)⟩
  · have hn2 : (2000 : Int) < (s0.size : Int) := by omega
    clear hL
    go_enter Try.func3, Try.ntmps3
    go_wp2_with fail
    refine hli.mono ?_
    rintro e w1 ⟨hb1, (⟨hl, rfl⟩ | ⟨hn, rfl⟩)⟩
    · have HB1 := hide hb1
      have hlv := lives_piece w1
      clear hli hb1 hl
      go_wp2_with (go_at_call 24; refine hlv.mono ?_; rintro e w7 ⟨rfl, hb7⟩; have HB7 := hide hb7; clear hb7 hlv)
      go_ret
      exact ⟨rfl, HB1.out.trans (HB7.out.mono HB1.out.size)⟩
    · have HB1 := hide hb1
      have hlv := lives_piece w1
      clear hli hb1 hn
      go_wp2_with (go_at_call 24; refine hlv.mono ?_; rintro e w7 ⟨rfl, hb7⟩; have HB7 := hide hb7; clear hb7 hlv)
      go_ret
      exact ⟨rfl, HB1.out.trans (HB7.out.mono HB1.out.size)⟩

theorem plays_any (s0 : ByteArray) (a : Option Addr) (ss : List Stp) (cap : Nat) (w : World) (hc : CameP w.heap.size w a ss) (hok : ∀ i, IntOk (ss.getD i stp0).at_) (hmx : ∀ i, (ss.getD i stp0).s.size ≤ 9223372036854775807) (hm0 : s0.size ≤ 9223372036854775807) :
    Calls Try.prog 3 #[.string s0, .slice a ss.length cap] w fun e w' => e = .returned (.bool true) ∧ Below w.heap.size w w' := by
  by_cases h : Light ss ∧ s0.size ≤ 2000
  · exact plays_go s0 a ss cap w hc hok hmx h.1 h.2
  · exact plays_not s0 a ss cap w hc hmx h

end Go.Proofs.Ytpmijaplkbmbiaa
