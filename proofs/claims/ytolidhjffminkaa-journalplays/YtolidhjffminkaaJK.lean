/- JournalSince, walked. -/
import Derived.Test.YtolidhjffminkaaJI
namespace Go.Proofs.Ytolidhjffminkaa.J
open Go.Proofs.Ytolidhjffminkaa Go.RowKit Go.By
set_option linter.unusedVariables false
set_option linter.unusedSimpArgs false
attribute [local go_sem ↓] Go.wp_at_zero Go.wp_at_succ

theorem LS.take {W : World} {a : Option Addr} {l : List ByteArray} (h : LS W a l) (k : Nat) : LS W a (l.take k) := by
  rcases h with rfl | ⟨b, off, e, hc⟩
  · exact .inl (by simp)
  · refine .inr ⟨b, off, e, fun i hi => ?_⟩
    have h2 : i < k ∧ i < l.length := by rw [List.length_take] at hi; omega
    rw [hc i h2.2]
    simp [List.getD, h2.1, h2.2]
theorem cut_texts {W : World} {a : Option Addr} {l : List ByteArray} {n cap k : Nat} (h : LS W a l) (hn : l.length = n) (hc : n ≤ cap) (hk : k ≤ n) :
    ∃ L1 L2, LS W a L1 ∧ L1.length = k ∧ LS W (from_ a cap k) L2 ∧ L2.length = n - k :=
  ⟨l.take k, l.drop k, h.take k, by rw [List.length_take]; omega, h.drop cap k (by omega), by rw [List.length_drop]; omega⟩
theorem row_lc {W : World} {B : Nat} {v : Value} {l : List ByteArray} (h : W.ownsRow B 9 1 v l.length (l.map Value.string)) : ∃ a cap, v = .slice a l.length cap ∧ l.length ≤ cap ∧ LB B W a l := by
  have h2 := row_lb h
  obtain ⟨a, cap, rfl, hl, _⟩ := h2
  refine ⟨a, cap, rfl, ?_, hl⟩
  rcases h.2 with ⟨e, h0⟩ | ⟨g, c, cur, e, hg, hh, hn, hm, hs, ht⟩
  · omega
  · cases e; omega
theorem Jn.sinceC {w0 W : World} {j g most base : Nat} {r : Option Nat} {tx : List ByteArray} (i0 : Nat) (h : Jn w0 W j g most r base tx) (hb : base ≤ 1000000) (hi : i0 ≤ tx.length) :
    Calls Try.prog 14 #[.pointer (some ⟨j, 0, none⟩), .int .i64 ((base + i0 : Nat) : Int)] W fun e W' => (∃ a cap, e = .returned (.tuple #[.slice a (tx.drop i0).length cap, .int .i64 0]) ∧ (tx.drop i0).length ≤ cap ∧ LB W.heap.size W' a (tx.drop i0)) ∧ Jn w0 W' j g most r base tx ∧ Below W.heap.size W W' := by
  refine (since_ok i0 h.1 hb hi).mono ?_
  rintro e W' ⟨v, he, hr, hb2⟩
  obtain ⟨a, cap, rfl, hc, hl⟩ := row_lc hr
  exact ⟨⟨a, cap, he, hc, hl⟩, h.up hb2, hb2⟩
theorem Jn.since0 {w0 W : World} {j g most : Nat} {r : Option Nat} {tx : List ByteArray} (n : Nat) (hn : tx.length = n) (h : Jn w0 W j g most r 0 tx) :
    Calls Try.prog 14 #[.pointer (some ⟨j, 0, none⟩), .int .i64 0] W fun e W' => (∃ a cap, e = .returned (.tuple #[.slice a n cap, .int .i64 0]) ∧ n ≤ cap ∧ LB W.heap.size W' a tx) ∧ Jn w0 W' j g most r 0 tx ∧ Below W.heap.size W W' := by
  subst hn
  exact h.sinceC 0 (by omega) (Nat.zero_le _)
theorem Jn.sinceAt {w0 W : World} {j g most : Nat} {r : Option Nat} {A T : List ByteArray} (am tm : Nat) (ha : A.length = am) (ht : T.length = tm) (h : Jn w0 W j g most r 0 (A ++ T)) :
    Calls Try.prog 14 #[.pointer (some ⟨j, 0, none⟩), .int .i64 (am : Int)] W fun e W' => (∃ a cap, e = .returned (.tuple #[.slice a tm cap, .int .i64 0]) ∧ LB W.heap.size W' a T) ∧ Jn w0 W' j g most r 0 (A ++ T) ∧ Below W.heap.size W W' := by
  subst ha ht
  have := h.sinceB A.length (by omega) (by rw [List.length_append]; omega)
  rw [List.drop_left, Nat.zero_add] at this
  exact this
theorem Jn.head0 {w0 W : World} {j g most : Nat} {r : Option Nat} {tx : List ByteArray} (n : Nat) (hn : tx.length = n) (h : Jn w0 W j g most r 0 tx) :
    Calls Try.prog 13 #[.pointer (some ⟨j, 0, none⟩)] W fun e W' => e = .returned (.int .i64 (n : Int)) ∧ ∃ q, W' = W.drewN q := by
  have := h.head (by omega)
  rw [Nat.zero_add, hn] at this
  exact this
theorem S2.start {w0 W1 W2 : World} {j g most : Nat} {r0 : Option Nat} {aw : Option Addr} {A : List ByteArray} (h : Jn w0 W2 j g most r0 0 A) (hl : LB W1.heap.size W2 aw A) : S2 w0 j g most r0 W1.heap.size W2.heap.size aw A W2 r0 (.slice none 0 0) [] :=
  ⟨by rw [List.append_nil]; exact h, .inl rfl, hl, World.ownsRow_nil _ _ _ _, by simp [Value.ownBlock], Nat.le_refl _⟩
theorem LS.drewN {W : World} {a : Option Addr} {l : List ByteArray} (h : LS W a l) (q : Nat) : LS (W.drewN q) a l := h.block (below_drewN (Below.refl _ _) q)
theorem take_more (L2 : List ByteArray) (i d : Nat) (h1 : i < d) (h2 : i < L2.length) : L2.take (min (i + 1) d) = L2.take (min i d) ++ [L2.getD i ⟨#[]⟩] := by
  rw [Nat.min_eq_left (by omega), Nat.min_eq_left (by omega)]; exact take_next L2 i h2
theorem take_same (L2 : List ByteArray) (i d : Nat) (h1 : ¬ i < d) : L2.take (min (i + 1) d) = L2.take (min i d) := by
  rw [Nat.min_eq_right (by omega), Nat.min_eq_right (by omega)]

theorem Jn.more1 {w0 W : World} {j g most : Nat} {r : Option Nat} {l : List ByteArray} (i : Nat) (h : Jn w0 W j g most r 0 (l.take (min i most))) (hi : i < l.length) :
    Calls Try.prog 10 #[.pointer (some ⟨j, 0, none⟩), .string (l.getD i ⟨#[]⟩)] W fun e W' => (∃ z y : Int, e = .returned (.tuple #[.int .i64 z, .int .i64 y])) ∧ ∃ r', Jn w0 W' j g most r' 0 (l.take (min (i + 1) most)) := by
  have h2 := Jn.more (tx := []) (l := l) i (by rw [List.nil_append]; exact h) hi (Nat.zero_le _)
  refine h2.mono ?_
  rintro e W' ⟨⟨z, he⟩, r', hj, _⟩
  exact ⟨⟨z, _, he⟩, r', by rw [List.nil_append] at hj; exact hj⟩

set_option maxHeartbeats 4000000 in
theorem since_any (m0 cut : Int) (a1 : Option Addr) (l : List ByteArray) (n cap : Nat) (w : World) (hn : l.length = n) (hcap : n ≤ cap) (hL : LS w a1 l) :
    Calls Try.prog 4 #[.int .i64 m0, .slice a1 n cap, .int .i64 cut] w fun e W' => e = .returned (.bool true) ∧ Below w.heap.size w W' := by
  by_cases hbig : 100 < n
  · clear hL
    have HL := hide (lives_any w)
    go_enter Try.func4, Try.ntmps4
    go_wp2_with (go_at_call 6; refine HL.out.mono ?_; rintro e W1 ⟨rfl, hb⟩; have HB := hide hb; clear hb)
    go_ret
    exact ⟨rfl, HB.out⟩
  obtain ⟨M, hM, hM1, hM2⟩ := the_most m0
  obtain ⟨k, hk, hkn⟩ := the_cut cut n (by omega)
  obtain ⟨L1, L2, hL1, hl1, hL2, hl2⟩ := cut_texts hL hn hcap hkn
  have HN := hide (Jn.new M hM1 hM2 w)
  have hs1 := slice_h26 a1 n cap k (by omega)
  have hs2 := slice_l26 a1 n cap k hkn
  have hk100 : k ≤ 100 := by omega
  have hd100 : n - k ≤ 100 := by omega
  have HL1 := hide hL1
  have HL2 := hide hL2
  have Hl1 := hide hl1
  have Hl2 := hide hl2
  obtain ⟨i0, hi, hz0, hz1, hz2⟩ := info_parts Try.info9
  clear hL hn hL1 hL2 hl1 hl2
  generalize from_ a1 cap k = a2 at *
  generalize cap - k = cap2 at *
  generalize n - k = d at *
  go_enter Try.func4, Try.ntmps4
  go_wp2_with (go_at_call 7; rw [hM]; refine HN.out.mono ?_; rintro e W0 ⟨rfl, h⟩; have H0 := hide h; clear h HN)
  simp only [hk]
  clear hk hM
  go_loopw [47] (fun z wr => ∃ i : Nat, z = .int .i64 (i : Int) ∧ i ≤ k ∧ Hid (∃ r, Jn w wr (w.heap.size + 1) w.heap.size M r 0 (L1.take (min i M)))) (fun z _ => k - (intOf z).toNat)
  case atStart => exact ⟨0, rfl, Nat.zero_le _, hide ⟨none, by rw [Nat.zero_min, List.take_zero]; exact H0.out⟩⟩
  case round =>
    obtain ⟨i, rfl, hik, HI⟩ := hrel
    obtain ⟨r, hr⟩ := HI.out
    by_cases hlt : i < k
    · have hlt1 : i < L1.length := by rw [Hl1.out]; exact hlt
      obtain ⟨b, off, rfl, hc⟩ := (HL1.out.block hr.2).cell i hlt1
      have HC := hide (Jn.more1 i hr hlt1)
      generalize L1.getD i ⟨#[]⟩ = y at *
      clear hr HI hlt1 HL1 HL2 hs1 hs2
      go_wp2_with (go_at_call 10; refine HC.out.mono ?_; rintro e W1 ⟨⟨z, z2, rfl⟩, r', h⟩; have H1 := hide h; clear h)
      go_roundw
      case rel => exact ⟨i + 1, by go_num, by omega, hide ⟨r', H1.out⟩⟩
      case measure => simp [intOf]; omega
    · obtain rfl : i = k := by omega
      obtain ⟨A, hA, hAM, hA100⟩ : ∃ A, Jn w wr (w.heap.size + 1) w.heap.size M r 0 A ∧ A.length ≤ M ∧ A.length ≤ 100 := ⟨_, hr, by rw [List.length_take]; omega, by rw [List.length_take]; omega⟩
      obtain ⟨am, ham⟩ : ∃ am, A.length = am := ⟨_, rfl⟩
      have HA := hide hA
      have Ham := hide ham
      rw [ham] at hAM hA100
      clear hr HI HL1 Hl1 hA ham H0 hlt hik hs1
      go_wp2_with (first
        | (go_at_call 13; refine (HA.out.head0 am Ham.out).mono ?_; rintro e W1 ⟨rfl, q, hW1⟩; have HA1 := hide (hW1 ▸ HA.out.drewN q); clear hW1 HA)
        | (go_at_call 12; refine HA1.out.base.mono ?_; rintro e W2 ⟨rfl, hw⟩; subst hw)
        | (go_at_call 14; refine (HA1.out.since0 am Ham.out).mono ?_; rintro e W3 ⟨⟨aw, cw, rfl, hcw, hlb⟩, hj, hb⟩; have HS := hide (S2.start hj hlb); have HB3 := hide hb.size; clear hlb hj hb))
      have hJB : w.heap.size + 1 < W2.heap.size := HA1.out.1.lt
      have hr0 : ∀ q, r = some q → q < W2.heap.size := fun q hq => (HA1.out.1.2.2.room q hq).2
      have hwB : w.heap.size ≤ W2.heap.size := HA1.out.2.size
      have HFX := hide (And.intro hJB (And.intro hr0 hwB))
      have HAM := hide (And.intro Ham.out hAM)
      clear hJB hr0 hwB HA1
      generalize hB1 : W2.heap.size = B1 at *
      generalize hhx : W3.heap.size = hx at *
      go_loopw [14, 68] (fun v z wr2 => ∃ i2 : Nat, z = .int .i64 (i2 : Int) ∧ i2 ≤ d ∧ Hid (∃ r2, S2 w (w.heap.size + 1) w.heap.size M r B1 hx aw A wr2 r2 v (L2.take (min i2 (M - A.length))))) (fun _ z _ => d - (intOf z).toNat)
      case atStart => exact ⟨0, rfl, Nat.zero_le _, hide ⟨r, by rw [Nat.zero_min, List.take_zero]; exact HS.out⟩⟩
      case round =>
        obtain ⟨i2, rfl, hid, HI⟩ := hrel
        obtain ⟨r2, hs⟩ := HI.out
        by_cases hlt : i2 < d
        · have hlt2 : i2 < L2.length := by rw [Hl2.out]; exact hlt
          obtain ⟨b, off, rfl, hc⟩ := (HL2.out.block hs.jn.2).cell i2 hlt2
          have hm := hs.jn.more i2 hlt2 (by rw [HAM.out.1]; exact HAM.out.2)
          have HT : Hid (i2 < M - A.length → L2.take (min (i2 + 1) (M - A.length)) = L2.take (min i2 (M - A.length)) ++ [L2.getD i2 ⟨#[]⟩]) := hide fun h => take_more L2 i2 _ h hlt2
          have HLN : Hid ((L2.take (min i2 (M - A.length))).length ≤ 100) := hide (by rw [List.length_take]; omega)
          have HSS := hide hs
          clear hs HI
          generalize L2.getD i2 ⟨#[]⟩ = y at *
          by_cases hroom : i2 < M - A.length
          · rw [if_pos hroom] at hm
            have HC := hide hm
            have HT2 := hide (HT.out hroom)
            clear hm HT hlt2 hroom HL2
            generalize hTE : L2.take (min (i2 + 1) (M - A.length)) = T' at *
            have HTE := hide hTE
            generalize L2.take (min i2 (M - A.length)) = T at *
            obtain ⟨tl, hTl⟩ : ∃ tl, T.length = tl := ⟨_, rfl⟩
            have hln := HLN.out
            rw [hTl] at hln
            have HTl := hide hTl
            clear hTl HLN hTE
            go_wp2_with (first
              | (go_at_call 10; refine HC.out.mono ?_; rintro e W4 ⟨⟨z, rfl⟩, r', h, ht⟩; have H4 := hide (HSS.out.turn HFX.out.1 (by have := HFX.out.1; omega) HB3.out HFX.out.2.1 h ht); have HOW : Hid (W4.ownsRow hx 9 1 u14 tl (T.map Value.string)) := hide (by have h9 := H4.out.2.2.2.1; rw [HTl.out] at h9; exact h9); clear h ht HC)
              | (at_builtin; refine wpList_append_lies _ rfl _ _ 26 rfl hx 9 i0 (.string ⟨#[]⟩) 1 16 Try.underlying26 hi hz0 hz1 hz2 rfl (by decide) u14 tl (T.map Value.string) rfl (World.ownsRow.alloc HOW.out _) ⟨W4.heap.size, 0, none⟩ 1 1 [.string y] rfl rfl (cell_one_new _ _ _) (by simp [Value.oneCell']) (by omega) (by unfold maxLen; omega) (by omega) (by have := H4.out.2.2.2.2.2; simp; omega) (W4.heap.size + 1) (by simp) ?_; intro k3 cap3 W5 hr5 hgr hat hlt5; have H5 := hide (S2.more HFX.out.2.2 HFX.out.1 (by have := HFX.out.1; omega) HB3.out HFX.out.2.1 H4.out.1 H4.out.2.1 H4.out.2.2.1 H4.out.2.2.2.1 H4.out.2.2.2.2.1 H4.out.2.2.2.2.2 HT2.out (by rw [HTl.out]; exact hr5) hgr hat); clear hr5 hgr hat hlt5))
            go_roundw
            case rel => exact ⟨i2 + 1, by go_num, by omega, hide ⟨r', by have h9 := H5.out; rw [HTl.out] at h9; rw [HTE.out]; exact h9⟩⟩
            case measure => simp [intOf]; omega
          · rw [if_neg hroom] at hm
            have HC := hide hm
            have HT2 := hide (take_same L2 i2 _ hroom)
            clear hm HT hlt2 hroom HL2
            generalize hTE : L2.take (min (i2 + 1) (M - A.length)) = T' at *
            have HTE := hide hTE
            clear hTE
            generalize L2.take (min i2 (M - A.length)) = T at *
            go_wp2_with (first
              | (go_at_call 10; refine HC.out.mono ?_; rintro e W4 ⟨⟨z, rfl⟩, r', h, ht⟩; have H4 := hide (HSS.out.turn HFX.out.1 (by have := HFX.out.1; omega) HB3.out HFX.out.2.1 h ht); clear h ht HC))
            go_roundw
            case rel => exact ⟨i2 + 1, by go_num, by omega, hide ⟨r', by rw [HT2.out] at H4; rw [HTE.out, HT2.out]; exact ⟨H4.out.1, H4.out.2.1, H4.out.2.2.1, H4.out.2.2.2.1, H4.out.2.2.2.2.1, H4.out.2.2.2.2.2⟩⟩⟩
            case measure => simp [intOf]; omega
        · obtain rfl : i2 = d := by omega
          obtain ⟨r2, hs⟩ := HI.out
          have hT100 : (L2.take (min i2 (M - A.length))).length ≤ 100 := by rw [List.length_take]; omega
          generalize L2.take (min i2 (M - A.length)) = T at *
          obtain ⟨a3, c3, rfl, hls⟩ := row_ls hs.own
          obtain ⟨tm, htm⟩ : ∃ tm, T.length = tm := ⟨_, rfl⟩
          rw [htm] at hT100
          have Htm := hide htm
          have Hlen : Hid ((A ++ T).length = am + tm) := hide (by rw [List.length_append, Ham.out, htm])
          have HJ := hide hs.jn
          have HL3 := hide hls
          have HLA : Hid (LS wr aw A) := hide (hs.was.elim .inl fun ⟨b, off, e, _, _, hc⟩ => .inr ⟨b, off, e, hc⟩)
          have hs3 := slice_hm26 aw am cw hcw
          have HLV := hide lives_any
          simp only [htm]
          clear hs htm hls HI HS HFX HAM hid hlt hs2 hcw HL2
          go_wp2_with (first
            | (go_at_call 12; refine HJ.out.base.mono ?_; rintro e W5 ⟨rfl, hw⟩; subst hw)
            | (go_at_call 14; refine (HJ.out.since0 (am + tm) Hlen.out).mono ?_; rintro e W6 ⟨⟨aN, cN, rfl, hcN, hlb⟩, hj, hb⟩; have HN6 := hide hlb.ls; have HJ6 := hide hj; have HL36 := hide (HL3.out.block hb); have HLA6 := hide (HLA.out.block hb); clear hcN hlb hj hb HJ HL3 HLA)
            | (go_at_call 14; refine (HJ6.out.sinceAt am tm Ham.out Htm.out).mono ?_; rintro e W7 ⟨⟨aS, cS, rfl, hlb⟩, hj, hb⟩; have HS7 := hide hlb.ls; have HJ7 := hide hj; have HL37 := hide (HL36.out.block hb); have HLA7 := hide (HLA6.out.block hb); have HN7 := hide (HN6.out.block hb); clear hlb hj hb HJ6 HL36 HLA6 HN6)
            | (at_builtin; refine wpList_append_texts (by first | rfl | simp [Region.wanted, yielded]) (.tmp 115) (.tmp 116) rfl A T aw a3 am tm c3 Ham.out Htm.out HLA7.out HL37.out rfl rfl (by omega) ?_; intro u8 c8 W8 h8 hb8; have HU8 := hide h8; have HJ8 := hide (HJ7.out.up hb8); have HS8 := hide (HS7.out.block hb8); have HL38 := hide (HL37.out.block hb8); have HN8 := hide (HN7.out.block hb8); clear h8 hb8 HJ7 HS7 HL37 HN7 HLA7)
            | (go_at_call 16; refine (texts_same aN u8 (A ++ T) (am + tm) cN c8 W8 Hlen.out (by omega) HN8.out HU8.out).mono ?_; rintro e W9 ⟨rfl, q9, hW9⟩; have HJ9 := hide (hW9 ▸ HJ8.out.drewN q9); have HS9 := hide (HS8.out.drewN q9); have HL39 := hide (HL38.out.drewN q9); rw [← hW9] at HS9 HL39; clear hW9 HJ8 HS8 HL38 HN8 HU8)
            | (go_at_call 16; refine (texts_same aS a3 T tm cS c3 W9 Htm.out (by omega) HS9.out HL39.out).mono ?_; rintro e W10 ⟨rfl, q10, hW10⟩; have HJ10 := hide (hW10 ▸ HJ9.out.drewN q10); clear hW10 HJ9 HS9 HL39)
            | (go_at_call 6; refine (HLV.out W10).mono ?_; rintro e W11 ⟨rfl, hb⟩; have HB11 := hide (HJ10.out.2.trans (hb.mono HJ10.out.2.size)); clear hb))
          go_ret
          exact ⟨rfl, HB11.out⟩
end Go.Proofs.Ytolidhjffminkaa.J
