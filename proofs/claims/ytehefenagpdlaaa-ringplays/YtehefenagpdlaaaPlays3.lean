/- RingPlays. -/
import Derived.Test.YtehefenagpdlaaaPlays2
namespace Go.Proofs.Ytehefenagpdlaaa
open Go.RowKit Go.By Go.Shelf
set_option linter.unusedVariables false

set_option maxRecDepth 20000 in
set_option maxHeartbeats 8000000 in
theorem ringPlays_go (m : Nat) (a : Option Addr) (ss : List (Int × Int × Int)) (cap : Nat) (w : World) (hc : CameSt w.heap.size w a ss) (h200 : ss.length ≤ 200) (hm1 : 1 ≤ m) (hm2 : m ≤ 65536) :
    Calls Try.prog 3 #[.int .i64 (m : Int), .slice a ss.length cap] w fun e w' => e = .returned (.bool true) ∧ Below w.heap.size w w' := by
  have hnew := new_int (m : Int) w (by omega) (by omega)
  have hr0 := ring_new 54 3 m w hm1 hm2
  generalize hg : w.heap.size = g at hnew
  have hi0 : Inv w (w.alloc (.cells #[.int .i64 (m : Int), .slice none 0 0, .int .i64 0] 54)) g m none (.slice none 0 0) [] := by
    subst hg
    exact ⟨hr0, Lst.nil _, (fun k hk => nomatch hk), (Below.refl _ w).alloc (Nat.le_refl _) _⟩
  have hmo := most_int _ _ _ _ _ _ hi0.1
  have HG := hide hg
  have hn200 : ¬ (200 : Int) < (ss.length : Int) := by omega
  have hm1' : ¬ (m : Int) < 1 := by omega
  have hm2' : ¬ (65536 : Int) < (m : Int) := by omega
  have HI0 := hide hi0
  have HC := hide hc
  clear hr0 hg hi0 hc
  go_enter Try.func3, Try.ntmps3
  go_wp2_with (first | (go_at_call 10; refine hnew.mono ?_; rintro e w1 ⟨rfl, rfl⟩; clear hnew) | (go_at_call 11; refine hmo.mono ?_; rintro e w1 ⟨rfl, rfl⟩; clear hmo) | fail)
  go_loopw [6, 45] (fun lv iv wr => ∃ (k : Nat) (r : Option Nat) (l : List Int), iv = .int .i64 (k : Int) ∧ k ≤ ss.length ∧ Hid (Inv w wr g m r lv l)) (fun _ iv _ => ss.length - (intOf iv).toNat)
  case atStart => exact ⟨0, none, [], rfl, by omega, HI0⟩
  case round =>
    obtain ⟨k, r, l, rfl, hk, HI⟩ := hrel
    by_cases hlt : k < ss.length
    · have hcc := HC.out.below HI.out.2.2.2
      obtain ⟨b, off, rfl, hbl, hcell⟩ : ∃ b off, a = some ⟨b, off, none⟩ ∧ b < w.heap.size ∧ ∀ i, i < ss.length → wr.cell? ⟨b, off + i * 3, none⟩ = some (.int .i64 (ss.getD i (0, 0, 0)).1) ∧ wr.cell? ⟨b, off + i * 3 + 1, none⟩ = some (.int .i64 (ss.getD i (0, 0, 0)).2.1) ∧ wr.cell? ⟨b, off + i * 3 + 2, none⟩ = some (.int .i64 (ss.getD i (0, 0, 0)).2.2) := by
        rcases hcc with rfl | h
        · simp at hlt
        · exact h
      obtain ⟨s0, s1, s2⟩ := hcell k hlt
      obtain ⟨⟨kd, nn, x⟩, hkd⟩ : ∃ t, t = ss.getD k (0, 0, 0) := ⟨_, rfl⟩
      rw [← hkd] at s0 s1 s2
      replace s0 : wr.cell? ⟨b, off + k * 3, none⟩ = some (.int .i64 kd) := s0
      replace s1 : wr.cell? ⟨b, off + k * 3 + 1, none⟩ = some (.int .i64 nn) := s1
      replace s2 : wr.cell? ⟨b, off + k * 3 + 2, none⟩ = some (.int .i64 x) := s2
      obtain ⟨la, lcap, hlv⟩ : ∃ la lcap, u6 = .slice la l.length lcap := by obtain ⟨la, lcap, e, _⟩ := HI.out.2.1; exact ⟨la, lcap, e⟩
      subst hlv
      have hlt' : (k : Int) < (ss.length : Int) := by omega
      clear hcell hcc hkd
      go_upto_block 2 with fail
      have hi1 := HI.out.alloc (.cells #[.int .i64 kd, .int .i64 nn, .int .i64 x] 29)
      have hs1 := World.alloc_heap_new wr (.cells #[.int .i64 kd, .int .i64 nn, .int .i64 x] 29)
      have hgb : wr.heap.size ≠ g := by have := HI.out.1.lt.2; omega
      have hrb : some wr.heap.size ≠ r := fun e => by have := (HI.out.1.room _ e.symm).2; omega
      generalize wr.alloc (.cells #[.int .i64 kd, .int .i64 nn, .int .i64 x] 29) = W1 at hi1 hs1 ⊢
      generalize wr.heap.size = bs at hs1 hgb hrb ⊢
      have t0 : W1.cell? ⟨bs, 0, none⟩ = some (.int .i64 kd) := by rw [Joins.cell_of_block hs1]; rfl
      have t1 : W1.cell? ⟨bs, 1, none⟩ = some (.int .i64 nn) := by rw [Joins.cell_of_block hs1]; rfl
      have t2 : W1.cell? ⟨bs, 2, none⟩ = some (.int .i64 x) := by rw [Joins.cell_of_block hs1]; rfl
      have HI1 := hide hi1
      have HS1 := hide hs1
      have hlm := hi1.len.1
      clear hi1 hs1 HI s0 s1 s2 HI0 HC
      go_cut [6, 9, 10, 11, 12, 13, 14] from 51 to 128 (fun lv' e f n m' x13 x14 wc => ∃ (c d : Int) (r' : Option Nat) (l' : List Int), e = .int .i64 c ∧ f = .int .i64 c ∧ n = .int .i64 d ∧ m' = .int .i64 d ∧ Hid (Inv w wc g m r' lv' l') ∧ Hid (wc.heap[bs]? = some (.cells #[.int .i64 kd, .int .i64 nn, .int .i64 x] 29 (0, 0))))
      case first =>
        by_cases h01 : kd = 0 ∨ kd = 1
        · by_cases hful : l.length < m
          · have hpush := push_ok_int _ g m r (ints l) x W1 HI1.out.1 HI1.out.2.2.2.size (by simpa using hful)
            rcases h01 with rfl | rfl
            all_goals
              go_wp2_with (first
                | (go_at_call 12; refine hpush.mono ?_; rintro e W2 ⟨rfl, r', h2, tu2⟩; clear hpush; obtain ⟨hl2, ha2, hb2⟩ := HI1.out.half h2 tu2; have hs2 := step_kept HI1.out tu2 HS1.out hgb hrb; have u2 : W2.cell? ⟨bs, 2, none⟩ = some (.int .i64 x) := (by rw [Joins.cell_of_block hs2]; rfl); have hrp := ref_push_ok _ l m x W2 hl2 hful (by omega); have HH2 := hide h2; have HB2 := hide hb2; have HS2 := hide hs2; clear h2 hb2 hs2 tu2 hl2 ha2)
                | (go_at_call 13; refine hrp.mono ?_; rintro e W3 ⟨v', rfl, hr3, hb3⟩; clear hrp; have HR3 := hide hr3; have HB3 := hide hb3; clear hr3 hb3))
              go_meet
              refine ⟨0, 0, r', l ++ [x], rfl, rfl, rfl, rfl, hide (Inv.fresh ?_ HB2.out HR3.out HB3.out), hide ((HB3.out.block bs (lt_of_heap HS2.out)).trans HS2.out)⟩
              simpa using HH2.out
          · have hge : m ≤ l.length := by omega
            have hpush := push_full_int _ g m r (ints l) x W1 HI1.out.1 (by rw [List.length_map]; omega)
            have HGE := hide hge
            clear hge hful hlm
            rcases h01 with rfl | rfl
            all_goals
              go_wp2_with (first
                | (go_at_call 12; refine hpush.mono ?_; rintro e W2 ⟨rfl, q, rfl⟩; clear hpush; have hrp := ref_push_full _ l m x (W1.drewN q) (HI1.out.drewN q).2.1 HGE.out)
                | (go_at_call 13; refine hrp.mono ?_; rintro e W3 ⟨rfl, rfl⟩; clear hrp))
              go_meet
              exact ⟨31, 0, r, l, rfl, rfl, rfl, rfl, hide (HI1.out.drewN q), HS1⟩
        · have hk0 : ¬ kd = 0 := fun e => h01 (.inl e)
          have hk1 : ¬ kd = 1 := fun e => h01 (.inr e)
          clear h01
          by_cases h2 : kd = 2
          · subst h2
            cases l with
            | nil =>
              have htk := take_none_int _ g m r W1 HI1.out.1
              go_wp2_with (first
                | (go_at_call 14; refine htk.mono ?_; rintro e W2 ⟨rfl, q, rfl⟩; clear htk; have hrs := ref_skip _ [] 1 0 (W1.drewN q) (HI1.out.drewN q).2.1 (by simp))
                | (go_at_call 15; refine hrs.mono ?_; rintro e W3 ⟨v', rfl, hl3, rfl, hv3⟩; clear hrs; have HL3 := hide hl3; have HV3 := hide hv3; clear hl3 hv3))
              go_meet
              exact ⟨0, 0, r, [], rfl, rfl, rfl, rfl, hide (Inv.kept (HI1.out.drewN q).1 (HI1.out.drewN q).2.2.2 (by simpa using HL3.out) (HI1.out.drewN q).2.2.1 HV3.out), HS1⟩
            | cons y l2 =>
              have htk := take_some_int _ g m r (.int .i64 y) (ints l2) W1 HI1.out.1
              go_wp2_with (first
                | (go_at_call 14; refine htk.mono ?_; rintro e W2 ⟨rfl, h2, tu2⟩; clear htk; obtain ⟨hl2, ha2, hb2⟩ := HI1.out.half h2 tu2; have hs2 := step_kept HI1.out tu2 HS1.out hgb hrb; obtain ⟨b1, o1, hla, d0⟩ : ∃ b1 o1, la = some ⟨b1, o1, none⟩ ∧ W2.cell? ⟨b1, o1, none⟩ = some (.int .i64 y) := (by
                    obtain ⟨a', c', e, q1, q2, q3, q4⟩ := hl2
                    cases e
                    cases la with
                    | none => have := q3 rfl; simp at q1; omega
                    | some z =>
                      obtain ⟨b1, o1, rfl, _, hcc⟩ := q4 z rfl
                      exact ⟨b1, o1, rfl, by simpa using hcc 0 (by simp)⟩); subst hla; have hrs := ref_skip _ (y :: l2) 1 1 W2 hl2 (by simp; omega); have HH2 := hide h2; have HB2 := hide hb2; have HS2 := hide hs2; have HA2 := hide ha2; clear h2 hb2 hs2 tu2 hl2 ha2)
                | (go_at_call 15; refine hrs.mono ?_; rintro e W3 ⟨v', rfl, hl3, hw3, hv3⟩; subst hw3; clear hrs; have HL3 := hide hl3; have HV3 := hide hv3; clear hl3 hv3))
              go_meet
              exact ⟨0, 0, r, l2, rfl, rfl, rfl, rfl, hide (Inv.kept HH2.out HB2.out (by simpa using HL3.out) HA2.out HV3.out), HS2⟩
          · by_cases h3 : kd = 3
            · subst h3
              by_cases hin : 0 ≤ nn ∧ nn < (l.length : Int)
              · obtain ⟨i, rfl⟩ : ∃ i : Nat, nn = (i : Int) := ⟨nn.toNat, by omega⟩
                have hil : i < l.length := by omega
                have hset := set_ok_int _ g m r (ints l) i x W1 HI1.out.1 (by simpa using hil)
                clear hin
                go_wp2_with (first
                  | (go_at_call 16; refine hset.mono ?_; rintro e W2 ⟨rfl, h2, tu2⟩; clear hset; obtain ⟨hl2, ha2, hb2⟩ := HI1.out.half h2 tu2; have hs2 := step_kept HI1.out tu2 HS1.out hgb hrb; have v1 : W2.cell? ⟨bs, 1, none⟩ = some (.int .i64 (i : Int)) := (by rw [Joins.cell_of_block hs2]; rfl); have v2 : W2.cell? ⟨bs, 2, none⟩ = some (.int .i64 x) := (by rw [Joins.cell_of_block hs2]; rfl); have hrp := ref_set_ok _ l i x W2 hl2 hil (by omega); have HH2 := hide h2; have HB2 := hide hb2; have HS2 := hide hs2; clear h2 hb2 hs2 tu2 hl2 ha2)
                  | (go_at_call 17; refine hrp.mono ?_; rintro e W3 ⟨v', rfl, hr3, hb3⟩; clear hrp; have HR3 := hide hr3; have HB3 := hide hb3; clear hr3 hb3))
                go_meet
                refine ⟨0, 0, r, l.set i x, rfl, rfl, rfl, rfl, hide (Inv.fresh ?_ HB2.out HR3.out HB3.out), hide ((HB3.out.block bs (lt_of_heap HS2.out)).trans HS2.out)⟩
                simpa [List.map_set] using HH2.out
              · have hset := set_out_int _ g m r (ints l) nn x W1 HI1.out.1 (by simpa using hin)
                have HIN := hide hin
                clear hin
                go_wp2_with (first
                  | (go_at_call 16; refine hset.mono ?_; rintro e W2 ⟨rfl, q, rfl⟩; clear hset; have hrp := ref_set_out _ l nn x (W1.drewN q) (HI1.out.drewN q).2.1 HIN.out)
                  | (go_at_call 17; refine hrp.mono ?_; rintro e W3 ⟨rfl, rfl⟩; clear hrp))
                go_meet
                exact ⟨30, 0, r, l, rfl, rfl, rfl, rfl, hide (HI1.out.drewN q), HS1⟩
            · by_cases hsk : nn < 1 ∨ l = []
              · have hskp := skip_none_int _ g m r (ints l) nn W1 HI1.out.1 (hsk.elim .inl fun e => .inr (by rw [e]; rfl))
                have hz : ((0 : Nat) : Int) = if (if nn < 0 then 0 else nn) ≤ (l.length : Int) then (if nn < 0 then 0 else nn) else (l.length : Int) := by
                  rcases hsk with h | rfl
                  · split <;> split <;> omega
                  · have e0 : (([] : List Int).length : Int) = 0 := rfl
                    rw [e0]
                    by_cases h : nn < 0
                    · rw [if_pos h, if_pos (by omega)]; rfl
                    · rw [if_neg h]
                      by_cases h' : nn ≤ 0
                      · rw [if_pos h']; omega
                      · rw [if_neg h']; rfl
                have HZ := hide hz
                clear hsk hz
                go_wp2_with (first
                  | (go_at_call 18; refine hskp.mono ?_; rintro e W2 ⟨rfl, q, rfl⟩; clear hskp; have hrs := ref_skip _ l nn 0 (W1.drewN q) (HI1.out.drewN q).2.1 HZ.out)
                  | (go_at_call 15; refine hrs.mono ?_; rintro e W3 ⟨v', rfl, hl3, rfl, hv3⟩; clear hrs; have HL3 := hide hl3; have HV3 := hide hv3; clear hl3 hv3))
                go_meet
                exact ⟨0, 0, r, l, rfl, rfl, rfl, rfl, hide (Inv.kept (HI1.out.drewN q).1 (HI1.out.drewN q).2.2.2 (by simpa using HL3.out) (HI1.out.drewN q).2.2.1 HV3.out), HS1⟩
              · have hn1 : 1 ≤ nn := by
                  rcases Int.lt_or_le nn 1 with h | h
                  · exact absurd (.inl h) hsk
                  · exact h
                have hl1 : 1 ≤ l.length := by
                  rcases Nat.eq_zero_or_pos l.length with h | h
                  · exact absurd (.inr (List.length_eq_zero_iff.1 h)) hsk
                  · exact h
                obtain ⟨j, hj⟩ : ∃ j : Nat, (j : Int) = if nn ≤ (l.length : Int) then nn else (l.length : Int) := ⟨(if nn ≤ (l.length : Int) then nn else (l.length : Int)).toNat, by split <;> omega⟩
                have hj1 : 1 ≤ j := by split at hj <;> omega
                have hskp := skip_some_int _ g m r (ints l) nn j W1 HI1.out.1 hj1 (by simpa using hj)
                have hz : (j : Int) = if (if nn < 0 then 0 else nn) ≤ (l.length : Int) then (if nn < 0 then 0 else nn) else (l.length : Int) := by
                  rw [if_neg (by omega : ¬ nn < 0)]; exact hj
                have HZ := hide hz
                clear hsk hz hj
                go_wp2_with (first
                  | (go_at_call 18; refine hskp.mono ?_; rintro e W2 ⟨rfl, h2, tu2⟩; clear hskp; obtain ⟨hl2, ha2, hb2⟩ := HI1.out.half h2 tu2; have hs2 := step_kept HI1.out tu2 HS1.out hgb hrb; have v1 : W2.cell? ⟨bs, 1, none⟩ = some (.int .i64 nn) := (by rw [Joins.cell_of_block hs2]; rfl); have hrs := ref_skip _ l nn j W2 hl2 HZ.out; have HH2 := hide h2; have HB2 := hide hb2; have HS2 := hide hs2; have HA2 := hide ha2; clear h2 hb2 hs2 tu2 hl2 ha2)
                  | (go_at_call 15; refine hrs.mono ?_; rintro e W3 ⟨v', rfl, hl3, hw3, hv3⟩; subst hw3; clear hrs; have HL3 := hide hl3; have HV3 := hide hv3; clear hl3 hv3))
                go_meet
                exact ⟨0, (j : Int), r, l.drop j, rfl, rfl, rfl, rfl, hide (Inv.kept (by simpa [ints, List.map_drop] using HH2.out) HB2.out HL3.out HA2.out HV3.out), HS2⟩
      case rest =>
        obtain ⟨c, d, r', l', rfl, rfl, rfl, rfl, HI2, HS2⟩ := hcut
        obtain ⟨la', lcap', hlv'⟩ : ∃ la lcap, u6 = .slice la l'.length lcap := by obtain ⟨la, lcap, e, _⟩ := HI2.out.2.1; exact ⟨la, lcap, e⟩
        subst hlv'
        have y1 : wc.cell? ⟨bs, 1, none⟩ = some (.int .i64 nn) := by rw [Joins.cell_of_block HS2.out]; rfl
        have hlm2 := HI2.out.len.1
        have hL : ∀ q, Calls Try.prog 20 #[.pointer (some ⟨g, 0, none⟩)] (wc.drewN q) fun e w' => e = .returned (.int .i64 (l'.length : Int)) ∧ ∃ q', w' = (wc.drewN q).drewN q' := fun q => by
          have := len_int _ g m r' (ints l') (wc.drewN q) (HI2.out.drewN q).1
          rwa [List.length_map] at this
        clear HI1 HS1 t0 t1 t2 hlm
        by_cases hin : 0 ≤ nn ∧ nn < (l'.length : Int)
        · obtain ⟨i, rfl⟩ : ∃ i : Nat, nn = (i : Int) := ⟨nn.toNat, by omega⟩
          have hil : i < l'.length := by omega
          have hil' : (i : Int) < (l'.length : Int) := by omega
          have hat := at_in_int _ g m r' (ints l') i wc HI2.out.1 (by simpa using hil) (.int .i64 0)
          have ey : (ints l').getD i (.int .i64 0) = .int .i64 (l'.getD i 0) := by simp [ints, List.getD, hil]
          rw [ey] at hat
          obtain ⟨b1, o1, hla, d0⟩ : ∃ b1 o1, la' = some ⟨b1, o1, none⟩ ∧ wc.cell? ⟨b1, o1 + i, none⟩ = some (.int .i64 (l'.getD i 0)) := by
            obtain ⟨a', c', e, q1, q2, q3, q4⟩ := HI2.out.2.1
            cases e
            cases la' with
            | none => have := q3 rfl; omega
            | some z =>
              obtain ⟨b1, o1, rfl, _, hcc⟩ := q4 z rfl
              exact ⟨b1, o1, rfl, hcc i hil⟩
          subst hla
          generalize l'.getD i 0 = y at hat d0
          clear ey hin
          go_wp2_with fail
          refine hat.mono ?_
          rintro e w1 ⟨rfl, q1, rfl⟩
          clear hat
          go_wp2_with fail
          refine (hL q1).mono ?_
          rintro e w2 ⟨rfl, q2, rfl⟩
          clear hL
          rw [World.drewN_drewN]
          go_wp2_with fail
          refine (all_int _ g m r' l' (wc.drewN (q1 + q2)) (HI2.out.drewN _).1).mono ?_
          rintro e w3 ⟨v, rfl, hrow, hb3⟩
          have HI3 := hide ((HI2.out.drewN (q1 + q2)).grow hb3)
          have hsm := same_any _ _ _ _ _ (lst_of_row hrow) HI3.out.2.1
          clear hrow hb3
          go_wp2_with fail
          refine hsm.mono ?_
          rintro e w4 ⟨rfl, q4, rfl⟩
          clear hsm
          simp only [decide_true]
          go_wp2
          go_roundw
          case rel => exact ⟨k + 1, r', l', by simp, by omega, hide (HI3.out.drewN q4)⟩
          case measure => simp [intOf]; omega
        · have hat := at_out_int _ g m r' (ints l') nn wc HI2.out.1 (by simpa using hin)
          rcases Int.lt_or_le nn 0 with hneg | hpos
          · have hb0 : ¬ 0 ≤ nn := by omega
            clear hin
            go_wp2_with fail
            refine hat.mono ?_
            rintro e w1 ⟨rfl, q1, rfl⟩
            clear hat
            go_wp2_with fail
            refine (hL q1).mono ?_
            rintro e w2 ⟨rfl, q2, rfl⟩
            clear hL
            rw [World.drewN_drewN]
            go_wp2_with fail
            refine (all_int _ g m r' l' (wc.drewN (q1 + q2)) (HI2.out.drewN _).1).mono ?_
            rintro e w3 ⟨v, rfl, hrow, hb3⟩
            have HI3 := hide ((HI2.out.drewN (q1 + q2)).grow hb3)
            have hsm := same_any _ _ _ _ _ (lst_of_row hrow) HI3.out.2.1
            clear hrow hb3
            go_wp2_with fail
            refine hsm.mono ?_
            rintro e w4 ⟨rfl, q4, rfl⟩
            clear hsm
            simp only [decide_true]
            go_wp2
            go_roundw
            case rel => exact ⟨k + 1, r', l', by simp, by omega, hide (HI3.out.drewN q4)⟩
            case measure => simp [intOf]; omega
          · have hb0 : ¬ nn < (l'.length : Int) := fun h => hin ⟨hpos, h⟩
            have hb1 : (l'.length : Int) ≤ nn := by omega
            have hb2 : decide (nn < (l'.length : Int)) = false := decide_eq_false hb0
            clear hin
            go_wp2_with fail
            refine hat.mono ?_
            rintro e w1 ⟨rfl, q1, rfl⟩
            clear hat
            go_wp2_with fail
            refine (hL q1).mono ?_
            rintro e w2 ⟨rfl, q2, rfl⟩
            clear hL
            rw [World.drewN_drewN]
            go_wp2_with fail
            refine (all_int _ g m r' l' (wc.drewN (q1 + q2)) (HI2.out.drewN _).1).mono ?_
            rintro e w3 ⟨v, rfl, hrow, hb3⟩
            have HI3 := hide ((HI2.out.drewN (q1 + q2)).grow hb3)
            have hsm := same_any _ _ _ _ _ (lst_of_row hrow) HI3.out.2.1
            clear hrow hb3
            go_wp2_with fail
            refine hsm.mono ?_
            rintro e w4 ⟨rfl, q4, rfl⟩
            clear hsm
            simp only [decide_true]
            go_wp2
            go_roundw
            case rel => exact ⟨k + 1, r', l', by simp, by omega, hide (HI3.out.drewN q4)⟩
            case measure => simp [intOf]; omega
    · obtain rfl : k = ss.length := by omega
      have hb := HI.out.2.2.2
      go_wp2_with (go_at_call 9; refine (lives_any wr).mono ?_; rintro e w9 ⟨rfl, hb9⟩)
      go_ret
      exact ⟨rfl, HG.out ▸ hb.trans (hb9.mono hb.size)⟩

end Go.Proofs.Ytehefenagpdlaaa
