/- PieceClones. -/
import Derived.Test.YtpmijaplkbmbiaaPlaysP
namespace Go.Proofs.Ytpmijaplkbmbiaa
open Go.RowKit Go.By Go.Shelf
set_option linter.unusedVariables false

theorem BufIs.keep {W W' : World} {B g : Nat} {sv : Value} {lent : Bool} {ps : List ByteArray} {S : Nat → Prop} (h : BufIs W B g sv lent ps) (ho : Only S W W') (h1 : ¬ S g) (h2 : ∀ k, sv.ownBlock = some k → ¬ S k) : BufIs W' B g sv lent ps :=
  ⟨h.hB, (ho.block g (lt_of_heap h.blk) h1).trans h.blk, ownsRow_same h.row (fun k hk => ho.block k (ownBlock_lt h.row hk).2 (h2 k hk)), h.small, h.full⟩

set_option maxRecDepth 20000 in
set_option maxHeartbeats 2000000 in
theorem clone_buf {W : World} {B g : Nat} {sv : Value} {lent : Bool} {ps : List ByteArray} (h : BufIs W B g sv lent ps) (hB : B ≤ W.heap.size) :
    Calls Try.prog 34 #[.pointer (some ⟨g, 0, none⟩)] W fun e W' => e = .returned (.pointer (some ⟨W.heap.size, 0, none⟩)) ∧ BufIs W' B g sv true ps ∧ BufIs W' B W.heap.size sv true ps ∧ Only (fun k => k = g) W W' := by
  obtain ⟨a, c, rfl⟩ : ∃ a c, sv = .slice a ps.length c := by
    rcases row_open h.row with ⟨rfl, e⟩ | ⟨k, cap, L, rfl, _⟩
    · exact ⟨none, 0, by rw [e]; rfl⟩
    · exact ⟨_, _, rfl⟩
  have c0 := h.c0
  have c1 : W.cell? ⟨g, 1, none⟩ = some (.bool lent) := by rw [Joins.cell_of_block h.blk]; rfl
  have c2 := h.c2
  have c3 := h.c3
  have f1 : W.frozen? ⟨g, 1, none⟩ = false := by simp [World.frozen?, h.blk]
  have hg := lt_of_heap h.blk
  have hne : ∀ k, (Value.slice a ps.length c).ownBlock = some k → k ≠ g := fun k hk e => ownBlock_ne h.row h.blk (by decide) (by rw [hk, e])
  have hs := heap_setCell (i := 1) h.blk (.bool true)
  have H := hide h
  have HS := hide hs
  clear h hs
  go_enter Try.func34, Try.ntmps34
  go_wp2
  go_ret
  have ho : Only (fun k => k = g) W ((W.setCell ⟨g, 1, none⟩ (.bool true)).alloc (.cells #[.bool true, .bool true, .int .i64 (tot ps : Int), .slice a ps.length c] 51)) := (Only.setCell (S := fun k => k = g) W ⟨g, 1, none⟩ (.bool true) rfl).trans (Only.alloc _ _ _)
  have hrow : ((W.setCell ⟨g, 1, none⟩ (.bool true)).alloc (.cells #[.bool true, .bool true, .int .i64 (tot ps : Int), .slice a ps.length c] 51)).ownsRow B 9 1 (.slice a ps.length c) ps.length (strs ps) :=
    ownsRow_same H.out.row fun k hk => ho.block k (ownBlock_lt H.out.row hk).2 (hne k hk)
  refine ⟨by simp, ⟨H.out.hB, ?_, hrow, H.out.small, H.out.full⟩, ⟨hB, ?_, hrow, H.out.small, H.out.full⟩, ho⟩
  · rw [Below.heap_alloc _ _ _ (by simpa using hg), HS.out]; simp
  · have := World.alloc_heap_new (W.setCell ⟨g, 1, none⟩ (.bool true)) (.cells #[.bool true, .bool true, .int .i64 (tot ps : Int), .slice a ps.length c] 51)
    simpa using this

/-- A block is none that a step of the other buffer may turn. -/
def Sep (x : Option Nat) (g : Nat) (sv : Value) (lent : Bool) : Prop := ∀ k, x = some k → k ≠ g ∧ (lent = false → some k ≠ sv.ownBlock)

theorem Sep.step {x : Option Nat} {g : Nat} {sv sv' : Value} {lent lent' : Bool} {W : World} (h : Sep x g sv lent) (hf : Fr W sv sv' lent lent') (hx : ∀ k, x = some k → k < W.heap.size) : Sep x g sv' lent' := by
  intro k hk
  refine ⟨(h k hk).1, fun e => ?_⟩
  rcases hf with ⟨rfl, rfl⟩ | ⟨_, h2 | h2 | ⟨j, h2, h3⟩⟩
  · exact (h k hk).2 e
  · rw [h2.2]; exact (h k hk).2 h2.1
  · rw [h2]; intro e; cases e
  · rw [h2]; intro e; cases e; have := hx k hk; omega

theorem Sep.out {x : Option Nat} {g : Nat} {sv : Value} {lent : Bool} (h : Sep x g sv lent) : ∀ k, x = some k → ¬ Trn g sv lent k := fun k hk hS => by
  rcases hS with e | ⟨e1, e2⟩
  · exact (h k hk).1 e
  · exact (h k hk).2 e1 e2

/-- A buffer that stays, and another one, some steps on. -/
structure CC (w wr : World) (g g2 k : Nat) (sv v : Value) (ps : List ByteArray) (sv2 : Value) (lent2 : Bool) (v2 : Value) (ps2 : List ByteArray) : Prop where
  one : Two g g sv true v ps wr
  two : Two g g2 sv2 lent2 v2 ps2 wr
  s1 : Sep (some g) g2 sv2 lent2
  s2 : Sep sv.ownBlock g2 sv2 lent2
  s3 : Sep v.ownBlock g2 sv2 lent2
  blw : Below g w wr
  sz : g ≤ wr.heap.size
  len : ps2.length ≤ 400 + 3 * k

theorem CC.below {w wr wr' : World} {g g2 k : Nat} {sv v sv2 v2 : Value} {lent2 : Bool} {ps ps2 : List ByteArray} (h : CC w wr g g2 k sv v ps sv2 lent2 v2 ps2) (hb : Below wr.heap.size wr wr') : CC w wr' g g2 k sv v ps sv2 lent2 v2 ps2 :=
  ⟨h.one.below hb, h.two.below hb, h.s1, h.s2, h.s3, h.blw.trans (hb.mono h.sz), Nat.le_trans h.sz hb.size, h.len⟩

theorem do_cc {w wr : World} {g g2 k : Nat} {sv v sv2 v2 : Value} {lent2 : Bool} {ps ps2 : List ByteArray} (h : CC w wr g g2 k sv v ps sv2 lent2 v2 ps2) (hk : k ≤ 1000) (dl : Bool) (at_ mn : Int) (s : ByteArray) (ha : IntOk at_) (hs : s.size ≤ 500) :
    Calls Try.prog 28 #[.pointer (some ⟨g2, 0, none⟩), v2, .agg #[.bool dl, .int .i64 at_, .int .i64 mn, .string s]] wr fun e W' => ∃ v', e = .returned (.tuple #[v', .bool true]) ∧ ∃ ps' sv' lent', CC w W' g g2 (k + 1) sv v ps sv' lent' v' ps' := by
  refine (do_any ⟨dl, at_, mn, s⟩ h.sz h.two (by have := h.len; omega) ha hs).mono ?_
  rintro e W' ⟨v', ps', sv', lent', rfl, ht, ho, hf, hl⟩
  have hlt : g < wr.heap.size := lt_of_heap h.one.buf.blk
  refine ⟨v', rfl, ps', sv', lent', ⟨h.one.buf.keep ho (h.s1.out g rfl) h.s2.out, h.one.txs.same ho.size fun j hj => ho.block j (h.one.txs.lt j hj) (h.s3.out j hj), h.one.dis⟩, ht, h.s1.step hf (fun j hj => by cases hj; exact hlt), h.s2.step hf (fun j hj => (ownBlock_lt h.one.buf.row hj).2), h.s3.step hf (fun j hj => h.one.txs.lt j hj), h.blw.trans (ho.below h.sz ?_), Nat.le_trans h.sz ho.size, by have := h.len; omega⟩
  rintro i (rfl | ⟨_, e⟩)
  · exact h.two.buf.hB
  · exact (ownBlock_lt h.two.buf.row e.symm).1

theorem same_cc {w wr : World} {g g2 k : Nat} {sv v v2 : Value} {ps : List ByteArray} (h : ∃ ps2 sv2 lent2, CC w wr g g2 k sv v ps sv2 lent2 v2 ps2) (hl : ps.length ≤ 900000) :
    Calls Try.prog 27 #[.pointer (some ⟨g, 0, none⟩), v] wr fun e W' => e = .returned (.bool true) ∧ ∃ ps2 sv2 lent2, CC w W' g g2 k sv v ps sv2 lent2 v2 ps2 := by
  obtain ⟨ps2, sv2, lent2, h⟩ := h
  refine (same_buf h.one.buf h.one.txs hl).mono ?_
  rintro e W' ⟨rfl, hb⟩
  exact ⟨rfl, ps2, sv2, lent2, h.below hb⟩

/-- Behind the clone. -/
theorem cc_new {w wr W' : World} {g k : Nat} {sv v : Value} {lent : Bool} {ps : List ByteArray} (h : PP w wr g k sv lent v ps) (hk : k ≤ 100) (h1 : BufIs W' g g sv true ps) (h2 : BufIs W' g wr.heap.size sv true ps) (ho : Only (fun k => k = g) wr W') : CC w W' g wr.heap.size 0 sv v ps sv true v ps := by
  have ht : Txs W' v ps := h.1.txs.same ho.size fun j hj => ho.block j (h.1.txs.lt j hj) (h.1.dis j hj).1
  have hgl : g < wr.heap.size := lt_of_heap h.1.buf.blk
  have nf : ∀ (P : Prop), (true = false) → P := fun P e => by cases e
  refine ⟨⟨h1, ht, fun j hj => ⟨(h.1.dis j hj).1, nf _⟩⟩, ⟨h2, ht, fun j hj => ⟨by have := h.1.txs.lt j hj; omega, nf _⟩⟩, fun j hj => ⟨by cases hj; omega, nf _⟩, fun j hj => ⟨by have := (ownBlock_lt h.1.buf.row hj).2; omega, nf _⟩, fun j hj => ⟨by have := h.1.txs.lt j hj; omega, nf _⟩, h.2.1.trans (ho.below h.2.2.1 fun i hi => by omega), Nat.le_trans h.2.2.1 ho.size, by have := h.2.2.2; omega⟩

set_option maxRecDepth 20000 in
set_option maxHeartbeats 8000000 in
theorem clones_go (s0 : ByteArray) (a : Option Addr) (ss : List Stp) (cap : Nat) (a2 : Option Addr) (tt : List Stp) (cap2 : Nat) (w : World) (hc : CameP w.heap.size w a ss) (hok : ∀ i, IntOk (ss.getD i stp0).at_) (hmx : ∀ i, (ss.getD i stp0).s.size ≤ 9223372036854775807)
    (hc2 : CameP w.heap.size w a2 tt) (hok2 : ∀ i, IntOk (tt.getD i stp0).at_) (hmx2 : ∀ i, (tt.getD i stp0).s.size ≤ 9223372036854775807) (hL : Light ss) (hL2 : Light tt) (h2000 : s0.size ≤ 2000) :
    Calls Try.prog 6 #[.string s0, .slice a ss.length cap, .slice a2 tt.length cap2] w fun e w' => e = .returned (.bool true) ∧ Below w.heap.size w w' := by
  have hli := light_any a ss cap w hc hmx
  have HC := hide hc
  have HOK := hide hok
  have HL := hide hL
  have HC2 := hide hc2
  have HOK2 := hide hok2
  have HMX2 := hide hmx2
  have HL2 := hide hL2
  have hn2 : ¬ (2000 : Int) < (s0.size : Int) := by omega
  have H2 := hide h2000
  clear hc hok hmx hL hc2 hok2 hmx2 hL2
  go_enter Try.func6, Try.ntmps6
  go_wp2_with fail
  refine hli.mono ?_
  rintro e w0 ⟨hb0, (⟨_, rfl⟩ | ⟨hn, _⟩)⟩
  · have HB0 := hide hb0
    clear hli hb0
    have hli2 := light_any a2 tt cap2 w0 (by have := HC2.out.below HB0.out; exact this.imp_right fun ⟨b, off, e, hl, hc⟩ => ⟨b, off, e, Nat.lt_of_lt_of_le hl HB0.out.size, hc⟩) HMX2.out
    go_wp2_with fail
    refine hli2.mono ?_
    rintro e w1 ⟨hb1, (⟨_, rfl⟩ | ⟨hn, _⟩)⟩
    · have HB1 := hide (HB0.out.trans (hb1.mono HB0.out.size))
      clear hli2 hb1 HB0
      go_wp2_with fail
      refine (new_buf s0 w1 (by have := H2.out; omega)).mono ?_
      rintro e w2 ⟨rfl, sv, h1, h2⟩
      have H1 := hide h1
      have HB2 := hide h2
      clear h1 h2
      go_wp2_with fail
      refine (ref_new s0 w2 H2.out).mono ?_
      rintro e w3 ⟨v, rfl, h3, h4⟩
      have hgl : w.heap.size ≤ w1.heap.size := HB1.out.size
      have HP0 := hide (two_new H1.out HB2.out h3 h4)
      clear h3 h4 H1 HB2
      generalize hg : w1.heap.size = g at HP0 hgl ⊢
      have HG := hide hg
      clear hg
      go_wp2_with fail
      go_loopw [9, 51] (fun lv iv wr => ∃ (k : Nat) (sv : Value) (lent : Bool) (ps : List ByteArray), iv = .int .i64 (k : Int) ∧ k ≤ ss.length ∧ Hid (PP w1 wr g k sv lent lv ps)) (fun _ iv _ => ss.length - (intOf iv).toNat)
      case atStart => exact ⟨0, _, _, _, rfl, Nat.zero_le _, HP0⟩
      case round =>
        obtain ⟨k, sv, lent, ps, rfl, hk, HI⟩ := hrel
        have h100 : k ≤ 100 := by have := HL.out.1; omega
        by_cases hlt : k < ss.length
        · have hcp := HC.out.below (HB1.out.trans (HI.out.2.1.mono hgl))
          obtain ⟨b, off, rfl, hbl, s0, s1, s2, s3⟩ := hcp.get hlt
          have hat := HOK.out k
          have h5 := HL.out.2 k hlt
          obtain ⟨⟨dl, at_, mn, s⟩, hkd⟩ : ∃ t, t = ss.getD k stp0 := ⟨_, rfl⟩
          rw [← hkd] at s0 s1 s2 s3 hat h5
          replace s0 : wr.cell? ⟨b, off + k * 4, none⟩ = some (.bool dl) := s0
          replace s1 : wr.cell? ⟨b, off + k * 4 + 1, none⟩ = some (.int .i64 at_) := s1
          replace s2 : wr.cell? ⟨b, off + k * 4 + 2, none⟩ = some (.int .i64 mn) := s2
          replace s3 : wr.cell? ⟨b, off + k * 4 + 3, none⟩ = some (.string s) := s3
          replace hat : IntOk at_ := hat
          replace h5 : s.size ≤ 500 := h5
          have hlt' : (k : Int) < (ss.length : Int) := by omega
          have HAT := hide hat
          have H5 := hide h5
          clear hkd hat h5 hcp
          go_wp2_with (go_at_call 28; refine (do_pp (HI.out.below ((Below.refl _ _).alloc (Nat.le_refl _) _)) (by omega) dl at_ mn s HAT.out H5.out).mono ?_; rintro e w5 ⟨v', rfl, hpp⟩; have HI5 := hide hpp; clear hpp)
          go_roundw
          case rel => exact (let ⟨ps', sv', lent', h⟩ := HI5.out; ⟨k + 1, sv', lent', ps', by go_num, by omega, h⟩)
          case measure => simp [intOf]; omega
        · obtain rfl : k = ss.length := by omega
          clear HP0
          have hcl := clone_buf HI.out.1.buf HI.out.2.2.1
          have hwr : g ≤ wr.heap.size := HI.out.2.2.1
          go_wp2_with fail
          refine hcl.mono ?_
          rintro e w5 ⟨rfl, h51, h52, h53⟩
          have HC0 := hide (cc_new HI.out h100 h51 h52 h53)
          have HPL : Hid (ps.length ≤ 900000) := hide (by have := HI.out.2.2.2; omega)
          clear h51 h52 h53 hcl HI
          generalize wr.heap.size = g2 at *
          have hsm := same_buf HC0.out.two.buf HC0.out.two.txs (by have := HC0.out.len; omega)
          go_wp2_with (go_at_call 27; refine hsm.mono ?_; rintro e w6 ⟨rfl, hb6⟩; have HC6 := hide (HC0.out.below hb6); clear hb6 hsm HC0)
          go_loopw [15, 74] (fun lv iv wr => ∃ (k : Nat) (sv2 : Value) (lent2 : Bool) (ps2 : List ByteArray), iv = .int .i64 (k : Int) ∧ k ≤ tt.length ∧ Hid (CC w1 wr g g2 k sv u9 ps sv2 lent2 lv ps2)) (fun _ iv _ => tt.length - (intOf iv).toNat)
          case atStart => exact ⟨0, _, _, _, rfl, Nat.zero_le _, HC6⟩
          case round =>
            obtain ⟨k2, sv2, lent2, ps2, rfl, hk2, HJ⟩ := hrel
            have h200 : k2 ≤ 100 := by have := HL2.out.1; omega
            by_cases hlt2 : k2 < tt.length
            · have hcp := HC2.out.below (HB1.out.trans (HJ.out.blw.mono hgl))
              obtain ⟨b, off, rfl, hbl, s0, s1, s2, s3⟩ := hcp.get hlt2
              have hat := HOK2.out k2
              have h5 := HL2.out.2 k2 hlt2
              obtain ⟨⟨dl, at_, mn, s⟩, hkd⟩ : ∃ t, t = tt.getD k2 stp0 := ⟨_, rfl⟩
              rw [← hkd] at s0 s1 s2 s3 hat h5
              replace s0 : wr.cell? ⟨b, off + k2 * 4, none⟩ = some (.bool dl) := s0
              replace s1 : wr.cell? ⟨b, off + k2 * 4 + 1, none⟩ = some (.int .i64 at_) := s1
              replace s2 : wr.cell? ⟨b, off + k2 * 4 + 2, none⟩ = some (.int .i64 mn) := s2
              replace s3 : wr.cell? ⟨b, off + k2 * 4 + 3, none⟩ = some (.string s) := s3
              replace hat : IntOk at_ := hat
              replace h5 : s.size ≤ 500 := h5
              have hlt' : (k2 : Int) < (tt.length : Int) := by omega
              have HAT := hide hat
              have H5 := hide h5
              clear hkd hat h5 hcp HC6
              go_wp2_with (first
                | (go_at_call 28; refine (do_cc (HJ.out.below ((Below.refl _ _).alloc (Nat.le_refl _) _)) (by omega) dl at_ mn s HAT.out H5.out).mono ?_; rintro e w7 ⟨v', rfl, hpp⟩; have HI7 := hide hpp; clear hpp)
                | (go_at_call 27; refine (same_cc HI7.out HPL.out).mono ?_; rintro e w8 ⟨rfl, hpp⟩; have HI8 := hide hpp; clear hpp))
              go_roundw
              case rel => exact (let ⟨ps', sv', lent', h⟩ := HI8.out; ⟨k2 + 1, sv', lent', ps', by go_num, by omega, h⟩)
              case measure => simp [intOf]; omega
            · obtain rfl : k2 = tt.length := by omega
              have hlv := lives_piece wr
              clear HC6
              go_wp2_with (go_at_call 24; refine hlv.mono ?_; rintro e w9 ⟨rfl, hb9⟩; have HB9 := hide hb9; clear hb9 hlv)
              go_ret
              exact ⟨rfl, HB1.out.trans ((HJ.out.blw.trans (HB9.out.mono HJ.out.sz)).mono hgl)⟩
    · exact absurd HL2.out hn
  · exact absurd HL.out hn

set_option maxRecDepth 20000 in
set_option maxHeartbeats 4000000 in
theorem clones_not (s0 : ByteArray) (a : Option Addr) (ss : List Stp) (cap : Nat) (a2 : Option Addr) (tt : List Stp) (cap2 : Nat) (w : World) (hc : CameP w.heap.size w a ss) (hmx : ∀ i, (ss.getD i stp0).s.size ≤ 9223372036854775807)
    (hc2 : CameP w.heap.size w a2 tt) (hmx2 : ∀ i, (tt.getD i stp0).s.size ≤ 9223372036854775807) (hL : ¬ (Light ss ∧ Light tt ∧ s0.size ≤ 2000)) :
    Calls Try.prog 6 #[.string s0, .slice a ss.length cap, .slice a2 tt.length cap2] w fun e w' => e = .returned (.bool true) ∧ Below w.heap.size w w' := by
  have hli := light_any a ss cap w hc hmx
  have HC2 := hide hc2
  have HMX2 := hide hmx2
  have HL := hide hL
  clear hc hmx hc2 hmx2 hL
  go_enter Try.func6, Try.ntmps6
  go_wp2_with fail
  refine hli.mono ?_
  rintro e w0 ⟨hb0, (⟨hl1, rfl⟩ | ⟨hn, rfl⟩)⟩
  · have HB0 := hide hb0
    have HL1 := hide hl1
    clear hli hb0 hl1
    have hli2 := light_any a2 tt cap2 w0 (by have := HC2.out.below HB0.out; exact this.imp_right fun ⟨b, off, e, hl, hc⟩ => ⟨b, off, e, Nat.lt_of_lt_of_le hl HB0.out.size, hc⟩) HMX2.out
    go_wp2_with fail
    refine hli2.mono ?_
    rintro e w1 ⟨hb1, (⟨hl2, rfl⟩ | ⟨hn, rfl⟩)⟩
    · have HB1 := hide (HB0.out.trans (hb1.mono HB0.out.size))
      have hbig : ¬ s0.size ≤ 2000 := fun e => HL.out ⟨HL1.out, hl2, e⟩
      have hn2 : (2000 : Int) < (s0.size : Int) := by omega
      have hlv := lives_piece w1
      clear hli2 hb1 hl2 hbig
      go_wp2_with (go_at_call 24; refine hlv.mono ?_; rintro e w7 ⟨rfl, hb7⟩; have HB7 := hide hb7; clear hb7 hlv)
      go_ret
      exact ⟨rfl, HB1.out.trans (HB7.out.mono HB1.out.size)⟩
    · have HB1 := hide (HB0.out.trans (hb1.mono HB0.out.size))
      have hlv := lives_piece w1
      clear hli2 hb1 hn
      go_wp2_with (go_at_call 24; refine hlv.mono ?_; rintro e w7 ⟨rfl, hb7⟩; have HB7 := hide hb7; clear hb7 hlv)
      go_ret
      exact ⟨rfl, HB1.out.trans (HB7.out.mono HB1.out.size)⟩
  · have HB1 := hide hb0
    have hlv := lives_piece w0
    clear hli hb0 hn
    go_wp2_with (go_at_call 24; refine hlv.mono ?_; rintro e w7 ⟨rfl, hb7⟩; have HB7 := hide hb7; clear hb7 hlv)
    go_ret
    exact ⟨rfl, HB1.out.trans (HB7.out.mono HB1.out.size)⟩

theorem clones_any (s0 : ByteArray) (a : Option Addr) (ss : List Stp) (cap : Nat) (a2 : Option Addr) (tt : List Stp) (cap2 : Nat) (w : World) (hc : CameP w.heap.size w a ss) (hok : ∀ i, IntOk (ss.getD i stp0).at_) (hmx : ∀ i, (ss.getD i stp0).s.size ≤ 9223372036854775807)
    (hc2 : CameP w.heap.size w a2 tt) (hok2 : ∀ i, IntOk (tt.getD i stp0).at_) (hmx2 : ∀ i, (tt.getD i stp0).s.size ≤ 9223372036854775807) :
    Calls Try.prog 6 #[.string s0, .slice a ss.length cap, .slice a2 tt.length cap2] w fun e w' => e = .returned (.bool true) ∧ Below w.heap.size w w' := by
  by_cases h : Light ss ∧ Light tt ∧ s0.size ≤ 2000
  · exact clones_go s0 a ss cap a2 tt cap2 w hc hok hmx hc2 hok2 hmx2 h.1 h.2.1 h.2.2
  · exact clones_not s0 a ss cap a2 tt cap2 w hc hmx hc2 hmx2 h

end Go.Proofs.Ytpmijaplkbmbiaa
