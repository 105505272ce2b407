/- RingQueues: the walk. -/
import Derived.Test.YtehefenagpdlaaaQueue
namespace Go.Proofs.Ytehefenagpdlaaa
open Go.RowKit Go.By Go.Shelf
set_option linter.unusedVariables false

set_option maxRecDepth 20000 in
set_option maxHeartbeats 8000000 in
theorem ringQueues_not (m : Int) (a b : Option Addr) (n cap k cap' : Nat) (w : World) (h : 200 < n ∨ 200 < k) :
    Calls Try.prog 4 #[.int .i64 m, .slice a n cap, .slice b k cap'] w fun e w' => e = .returned (.bool true) ∧ Below w.heap.size w w' := by
  by_cases h200 : (200 : Int) < (n : Int)
  · go_enter Try.func4, Try.ntmps4
    go_wp2_with (go_at_call 9; refine (lives_any w).mono ?_; rintro e w9 ⟨rfl, hb9⟩)
    go_ret
    exact ⟨rfl, hb9⟩
  · have hk : (200 : Int) < (k : Int) := by omega
    clear h
    go_enter Try.func4, Try.ntmps4
    go_wp2_with (go_at_call 9; refine (lives_any w).mono ?_; rintro e w9 ⟨rfl, hb9⟩)
    go_ret
    exact ⟨rfl, hb9⟩

theorem most9 (m : Int) : ∃ mm : Nat, 1 ≤ mm ∧ mm ≤ 9 ∧ wrap64 (1 + wrap64 ((IntKind.u64.wrap m).tmod 9)) = (mm : Int) := by
  have h0 : 0 ≤ IntKind.u64.wrap m := by
    simp only [IntKind.wrap, IntKind.signed, IntKind.bits]
    exact Int.emod_nonneg _ (by decide)
  generalize IntKind.u64.wrap m = z at h0
  have h1 : z.tmod 9 = z % 9 := Int.tmod_eq_emod_of_nonneg h0
  rw [h1]
  have h2 : 0 ≤ z % 9 ∧ z % 9 < 9 := ⟨Int.emod_nonneg _ (by decide), Int.emod_lt_of_pos _ (by decide)⟩
  generalize z % 9 = y at h2
  refine ⟨(1 + y).toNat, by omega, by omega, ?_⟩
  have e1 : wrap64 y = y := by unfold wrap64; omega
  rw [e1]
  unfold wrap64; omega

theorem QInv.len {w W : World} {g m : Nat} {r : Option Nat} {iv ov : Value} {I O xs : List ByteArray} (h : QInv w W g m r iv ov I O xs) : O.length + xs.length = I.length ∧ xs.length ≤ m := by
  obtain ⟨_, v, f, junk, _, _, _, _, _, _, _, _, h2⟩ := h.ring
  rw [List.length_map] at h2
  exact ⟨by rw [h.all]; simp, h2⟩

set_option maxRecDepth 20000 in
set_option maxHeartbeats 8000000 in
theorem ringQueues_go (m : Int) (a b : Option Addr) (l : List ByteArray) (cap : Nat) (tk : List Nat) (cap' : Nat) (w : World) (hm0 : -9223372036854775808 ≤ m) (hm1 : m ≤ 9223372036854775807)
    (hc : CameTx w.heap.size w a l) (hd : CameBy w.heap.size w b tk) (hl : l.length ≤ 200) (ht : tk.length ≤ 200) :
    Calls Try.prog 4 #[.int .i64 m, .slice a l.length cap, .slice b tk.length cap'] w fun e w' => e = .returned (.bool true) ∧ Below w.heap.size w w' := by
  have hl' : ¬ (200 : Int) < (l.length : Int) := by omega
  have ht' : ¬ (200 : Int) < (tk.length : Int) := by omega
  have HC := hide hc
  have HD := hide hd
  clear hc hd
  go_enter Try.func4, Try.ntmps4
  go_wp2_with fail
  obtain ⟨mm, hmm1, hmm2, hmm⟩ := most9 m
  rw [hmm]
  generalize wrap64 ((IntKind.u64.wrap m).tmod 9) = z3
  generalize (IntKind.u64.wrap m).tmod 9 = z2
  generalize IntKind.u64.wrap m = z1
  clear hmm
  refine (new_str (mm : Int) w (by omega) (by omega)).mono ?_
  have hr0 := ring_new 82 9 mm w hmm1 (by omega)
  have hi0 : QInv w (w.alloc (.cells #[.int .i64 (mm : Int), .slice none 0 0, .int .i64 0] 82)) w.heap.size mm none (.slice none 0 0) (.slice none 0 0) [] [] [] :=
    ⟨hr0, World.ownsRow_nil _ _ _ _, World.ownsRow_nil _ _ _ _, (fun k hk => nomatch hk), (fun k hk => nomatch hk), (fun k hk => nomatch hk), rfl, (Below.refl _ w).alloc (Nat.le_refl _) _⟩
  generalize hg : w.heap.size = g at hi0 ⊢
  rintro e w1 ⟨rfl, hw1⟩
  rw [← hw1] at hi0
  have HI0 := hide hi0
  have HG := hide hg
  clear hr0 hi0 hg hw1
  go_wp2_with fail
  go_loopw [8, 9, 34] (fun iv ov ix wr => ∃ (k : Nat) (r : Option Nat) (I O xs : List ByteArray), ix = .int .i64 (k : Int) ∧ k ≤ l.length ∧ I.length ≤ k ∧ Hid (QInv w wr g mm r iv ov I O xs)) (fun _ _ ix _ => l.length - (intOf ix).toNat)
  case atStart => exact ⟨0, none, [], [], [], rfl, by omega, by simp, HI0⟩
  case round =>
    obtain ⟨k, r, I, O, xs, rfl, hk, hIk, HI⟩ := hrel
    by_cases hlt : k < l.length
    · have hcc := HC.out.below HI.out.below
      obtain ⟨tb, tof, rfl, htb, hcell⟩ : ∃ tb tof, a = some ⟨tb, tof, none⟩ ∧ tb < w.heap.size ∧ ∀ i, i < l.length → wr.cell? ⟨tb, tof + i, none⟩ = some (.string (l.getD i ⟨#[]⟩)) := by
        rcases hcc with rfl | h
        · simp at hlt
        · exact h
      have s0 := hcell k hlt
      generalize l.getD k ⟨#[]⟩ = s at s0
      have hlt' : (k : Int) < (l.length : Int) := by omega
      obtain ⟨i0, hi, hz0, hz1, hz2⟩ := info_parts Try.info9
      have hIO := HI.out.len
      clear hcc hcell HI0
      by_cases hful : xs.length < mm
      · have hpush := push_ok_str _ g mm r (strs xs) s wr HI.out.ring (HI.out.below.size) (by simpa using hful)
        go_upto_region 12 with (first
          | (go_at_call 24; refine hpush.mono ?_; rintro e W2 ⟨rfl, r', h2, tu2⟩; clear hpush; obtain ⟨hn2, ho2, sp1, sp2, hb2⟩ := HI.out.turn h2 tu2; have HH2 := hide h2; have HN2 := hide hn2; have HO2 := hide ho2; have SP1 := hide sp1; have SP2 := hide sp2; have HB2 := hide hb2; clear h2 tu2 hn2 ho2 sp1 sp2 hb2)
          | (at_builtin; refine wpList_append_lies _ rfl _ _ 43 rfl w.heap.size 9 i0 (.string ⟨#[]⟩) 1 16 Try.underlying43 hi hz0 hz1 hz2 rfl (by decide) u8 I.length (strs I) rfl (HN2.out.alloc _) ⟨W2.heap.size, 0, none⟩ 1 1 [.string s] rfl rfl (cell_one_new _ _ _) (by simp [Value.oneCell']) (by omega) (by unfold maxLen; omega) (by omega) (by have := HB2.out.size; simp; omega) (W2.heap.size + 1) (by simp) ?_; intro kk cap1 WA hr' hgr hkk hltA; have HQ := hide (QInv.appIn (by simpa using HH2.out) HN2.out HO2.out SP1.out SP2.out HI.out.sepIO HI.out.all HB2.out hr' hgr hkk); clear hr' hgr hkk hltA))
        by_cases htk : k < tk.length
        · have hcb := HD.out.below HQ.out.below
          obtain ⟨bb, bo, rfl, hbl, hcell⟩ : ∃ bb bo, b = some ⟨bb, bo, none⟩ ∧ bb < w.heap.size ∧ ∀ i, i < tk.length → WA.cell? ⟨bb, bo + i, none⟩ = some (.int .u8 ((tk.getD i 0 : Nat) : Int)) := by
            rcases hcb.2 with rfl | h
            · simp at htk
            · exact h
          have d0 := hcell k htk
          have d1 : tk.getD k 0 < 256 := by
            have : tk.getD k 0 = tk[k] := by simp [List.getD, htk]
            rw [this]; exact hcb.1 _ (List.getElem_mem htk)
          generalize tk.getD k 0 = t at d0 d1
          have htk' : (k : Int) < (tk.length : Int) := by omega
          clear hcb hcell
          obtain ⟨cnt, hcnt, hc4⟩ : ∃ cnt : Nat, cnt = t % 4 ∧ cnt < 4 := ⟨t % 4, rfl, by omega⟩
          have hmod1 : (t : Int).tmod 4 = (cnt : Int) := by rw [Int.tmod_eq_emod_of_nonneg (by omega)]; omega
          have hmod2 : (t : Int) % 4 = (cnt : Int) := by omega
          clear hcnt
          go_wp2_with fail
          obtain ⟨r1, I1, O1, xs1, iv1, hiv1, hI1, HQ1⟩ : ∃ (r1 : Option Nat) (I1 O1 xs1 : List ByteArray) (iv1 : Value), iv1 = .slice (some ⟨kk, 0, none⟩) (I.length + 1) cap1 ∧ I1.length ≤ k + 1 ∧ Hid (QInv w WA g mm r1 iv1 u9 I1 O1 xs1) := ⟨_, _, _, _, _, rfl, by simp; omega, HQ⟩
          rw [← hiv1]
          clear HQ hiv1
          go_loopw [9, 56] (fun ov cx wx => ∃ (c : Nat) (r : Option Nat) (O xs : List ByteArray), cx = .int .u8 (c : Int) ∧ c ≤ cnt ∧ Hid (QInv w wx g mm r iv1 ov I1 O xs)) (fun _ cx _ => cnt - (intOf cx).toNat)
          case atStart => exact ⟨0, _, _, _, rfl, by omega, HQ1⟩
          case round =>
            obtain ⟨c, r2, O2, xs2, rfl, hcc, HQ2⟩ := hrel
            by_cases hcl : c < cnt
            · have hcl' : (c : Int) < (cnt : Int) := by omega
              have hIO2 := HQ2.out.len
              cases xs2 with
              | nil =>
                have htk2 := take_none_str _ g mm r2 wr HQ2.out.ring
                go_wp2_with (go_at_call 25; refine htk2.mono ?_; rintro e W3 ⟨rfl, q3, rfl⟩; clear htk2)
                go_roundw
                case rel => exact ⟨c + 1, _, _, _, by simp, by omega, hide (HQ2.out.drewN q3)⟩
                case measure => simp [intOf]; omega
              | cons y ys =>
                have htk2 := take_some_str _ g mm r2 (.string y) (strs ys) wr HQ2.out.ring
                go_wp2_with (first
                  | (go_at_call 25; refine htk2.mono ?_; rintro e W3 ⟨rfl, h3, tu3⟩; clear htk2; obtain ⟨hn3, ho3, sp1, sp2, hb3⟩ := HQ2.out.turn h3 tu3; have HH3 := hide h3; have HN3 := hide hn3; have HO3 := hide ho3; have SP1 := hide sp1; have SP2 := hide sp2; have HB3 := hide hb3; clear h3 tu3 hn3 ho3 sp1 sp2 hb3)
                  | (at_builtin; refine wpList_append_lies _ rfl _ _ 43 rfl w.heap.size 9 i0 (.string ⟨#[]⟩) 1 16 Try.underlying43 hi hz0 hz1 hz2 rfl (by decide) u9 O2.length (strs O2) rfl (HO3.out.alloc _) ⟨W3.heap.size, 0, none⟩ 1 1 [.string y] rfl rfl (cell_one_new _ _ _) (by simp [Value.oneCell']) (by omega) (by unfold maxLen; omega) (by omega) (by have := HB3.out.size; simp; omega) (W3.heap.size + 1) (by simp) ?_; intro k3 cap3 W4 hr' hgr hkk hltA; have HQ4 := hide (QInv.appOut (by simpa using HH3.out) HN3.out HO3.out SP1.out SP2.out HQ2.out.sepIO HQ2.out.all HB3.out hr' hgr hkk); clear hr' hgr hkk hltA))
                go_roundw
                case rel => exact ⟨c + 1, _, _, _, by simp, by omega, HQ4⟩
                case measure => simp [intOf]; omega
            · have hcl' : ¬ (c : Int) < (cnt : Int) := by omega
              go_wp2
              go_roundw
              case rel => exact ⟨k + 1, _, _, _, _, by simp, by omega, hI1, HQ2⟩
              case measure => simp [intOf]; omega
        · have htk' : ¬ (k : Int) < (tk.length : Int) := by omega
          go_wp2
          go_roundw
          case rel => exact ⟨k + 1, _, _, _, _, by simp, by omega, by simp; omega, HQ⟩
          case measure => simp [intOf]; omega
      · have hpush := push_full_str _ g mm r (strs xs) s wr HI.out.ring (by rw [List.length_map]; omega)
        go_upto_region 12 with (go_at_call 24; refine hpush.mono ?_; rintro e WA ⟨rfl, q, hWA⟩; clear hpush; have HQ := hide (HI.out.drewN q); rw [← hWA] at HQ; clear hWA)
        by_cases htk : k < tk.length
        · have hcb := HD.out.below HQ.out.below
          obtain ⟨bb, bo, rfl, hbl, hcell⟩ : ∃ bb bo, b = some ⟨bb, bo, none⟩ ∧ bb < w.heap.size ∧ ∀ i, i < tk.length → WA.cell? ⟨bb, bo + i, none⟩ = some (.int .u8 ((tk.getD i 0 : Nat) : Int)) := by
            rcases hcb.2 with rfl | h
            · simp at htk
            · exact h
          have d0 := hcell k htk
          have d1 : tk.getD k 0 < 256 := by
            have : tk.getD k 0 = tk[k] := by simp [List.getD, htk]
            rw [this]; exact hcb.1 _ (List.getElem_mem htk)
          generalize tk.getD k 0 = t at d0 d1
          have htk' : (k : Int) < (tk.length : Int) := by omega
          clear hcb hcell
          obtain ⟨cnt, hcnt, hc4⟩ : ∃ cnt : Nat, cnt = t % 4 ∧ cnt < 4 := ⟨t % 4, rfl, by omega⟩
          have hmod1 : (t : Int).tmod 4 = (cnt : Int) := by rw [Int.tmod_eq_emod_of_nonneg (by omega)]; omega
          have hmod2 : (t : Int) % 4 = (cnt : Int) := by omega
          clear hcnt
          go_wp2_with fail
          obtain ⟨r1, I1, O1, xs1, iv1, hiv1, hI1, HQ1⟩ : ∃ (r1 : Option Nat) (I1 O1 xs1 : List ByteArray) (iv1 : Value), iv1 = u8 ∧ I1.length ≤ k + 1 ∧ Hid (QInv w WA g mm r1 iv1 u9 I1 O1 xs1) := ⟨_, _, _, _, _, rfl, by omega, HQ⟩
          rw [← hiv1]
          clear HQ hiv1
          go_loopw [9, 56] (fun ov cx wx => ∃ (c : Nat) (r : Option Nat) (O xs : List ByteArray), cx = .int .u8 (c : Int) ∧ c ≤ cnt ∧ Hid (QInv w wx g mm r iv1 ov I1 O xs)) (fun _ cx _ => cnt - (intOf cx).toNat)
          case atStart => exact ⟨0, _, _, _, rfl, by omega, HQ1⟩
          case round =>
            obtain ⟨c, r2, O2, xs2, rfl, hcc, HQ2⟩ := hrel
            by_cases hcl : c < cnt
            · have hcl' : (c : Int) < (cnt : Int) := by omega
              have hIO2 := HQ2.out.len
              cases xs2 with
              | nil =>
                have htk2 := take_none_str _ g mm r2 wr HQ2.out.ring
                go_wp2_with (go_at_call 25; refine htk2.mono ?_; rintro e W3 ⟨rfl, q3, rfl⟩; clear htk2)
                go_roundw
                case rel => exact ⟨c + 1, _, _, _, by simp, by omega, hide (HQ2.out.drewN q3)⟩
                case measure => simp [intOf]; omega
              | cons y ys =>
                have htk2 := take_some_str _ g mm r2 (.string y) (strs ys) wr HQ2.out.ring
                go_wp2_with (first
                  | (go_at_call 25; refine htk2.mono ?_; rintro e W3 ⟨rfl, h3, tu3⟩; clear htk2; obtain ⟨hn3, ho3, sp1, sp2, hb3⟩ := HQ2.out.turn h3 tu3; have HH3 := hide h3; have HN3 := hide hn3; have HO3 := hide ho3; have SP1 := hide sp1; have SP2 := hide sp2; have HB3 := hide hb3; clear h3 tu3 hn3 ho3 sp1 sp2 hb3)
                  | (at_builtin; refine wpList_append_lies _ rfl _ _ 43 rfl w.heap.size 9 i0 (.string ⟨#[]⟩) 1 16 Try.underlying43 hi hz0 hz1 hz2 rfl (by decide) u9 O2.length (strs O2) rfl (HO3.out.alloc _) ⟨W3.heap.size, 0, none⟩ 1 1 [.string y] rfl rfl (cell_one_new _ _ _) (by simp [Value.oneCell']) (by omega) (by unfold maxLen; omega) (by omega) (by have := HB3.out.size; simp; omega) (W3.heap.size + 1) (by simp) ?_; intro k3 cap3 W4 hr' hgr hkk hltA; have HQ4 := hide (QInv.appOut (by simpa using HH3.out) HN3.out HO3.out SP1.out SP2.out HQ2.out.sepIO HQ2.out.all HB3.out hr' hgr hkk); clear hr' hgr hkk hltA))
                go_roundw
                case rel => exact ⟨c + 1, _, _, _, by simp, by omega, HQ4⟩
                case measure => simp [intOf]; omega
            · have hcl' : ¬ (c : Int) < (cnt : Int) := by omega
              go_wp2
              go_roundw
              case rel => exact ⟨k + 1, _, _, _, _, by simp, by omega, hI1, HQ2⟩
              case measure => simp [intOf]; omega
        · have htk' : ¬ (k : Int) < (tk.length : Int) := by omega
          go_wp2
          go_roundw
          case rel => exact ⟨k + 1, _, _, _, _, by simp, by omega, by omega, HQ⟩
          case measure => simp [intOf]; omega
    · obtain rfl : k = l.length := by omega
      have hIO := HI.out.len
      obtain ⟨ia, icap, hiv, hic, hin, hicell⟩ := row_cells (n := 0) HI.out.inn
      subst hiv
      have hall := all_str _ g mm r xs wr HI.out.ring
      have hnl : ¬ (l.length : Int) < (l.length : Int) := by omega
      go_wp2_with (first
        | (go_at_call 26; refine hall.mono ?_; rintro e W5 ⟨v, rfl, hrow, hb5⟩; clear hall; obtain ⟨va, vcap, hv, hvc, hvn, hvcell⟩ := row_cells (n := 0) hrow; subst hv; have hin5 := ownsRow_same HI.out.inn (fun j hj => hb5.block j (ownBlock_lt HI.out.inn hj).2); have hout5 := ownsRow_same HI.out.out (fun j hj => hb5.block j (ownBlock_lt HI.out.out hj).2); have hB5 := HI.out.below.trans (hb5.mono HI.out.below.size); have HIN5 := hide hin5; have HOUT5 := hide hout5; have HB5 := hide hB5; have HVC := hide hvcell; have HVN := hide hvn; clear hrow hb5 hin5 hout5 hB5 hvcell hvn)
        | (at_builtin; refine wpList_append_vals rfl _ _ 43 9 rfl Try.underlying43 (.string ⟨#[]⟩) 16 Try.info9 rfl w.heap.size u9 O.length (strs O) rfl HOUT5.out va (strs xs) xs.length vcap rfl (by simp) (fun y hy j u hu => by
              obtain ⟨kv, rfl, _, hcv⟩ := HVC.out y hy
              have hjl : j < xs.length := by
                rcases Nat.lt_or_ge j xs.length with h | h
                · exact h
                · simp [h] at hu
              rw [Addr.add_lit, Nat.zero_add, hcv j hjl]
              simp [hjl] at hu
              simp [List.getD, hjl, hu]) (fun e => ⟨by rw [(HVN.out e).1]; rfl, (HVN.out e).2⟩) (by intro u hu; obtain ⟨c, _, rfl⟩ := List.mem_map.1 hu; rfl) (by unfold maxLen; omega) (by omega) (HB5.out.size) ?_; intro v6 W6 hr6 hg6; have e6 : O.length + xs.length = I.length := hIO.1; have e7 : strs O ++ strs xs = strs I := (by rw [HI.out.all]; simp); rw [e6, e7] at hr6; have hin6 := ownsRow_same HIN5.out (fun j hj => hg6.block j (ownBlock_lt HIN5.out hj).2 (HI.out.sepIO j hj)); obtain ⟨oa, ocap, hov, hoc, hon, hocell⟩ := row_cells (n := 0) hr6; subst hov; have hB6 : Below w.heap.size w W6 := HB5.out.grown hg6 HB5.out.size (fun j hj => (ownBlock_lt HOUT5.out hj).1); obtain ⟨_, _, ee, _, hin7, hicell7⟩ := row_cells (n := 0) hin6; cases ee; have HC6 := hide hocell; have HC7 := hide hicell7; have HN6 := hide hon; have HN7 := hide hin7; have HB6 := hide hB6; clear hocell hicell7 hon hin7 hB6 hr6 hg6 hin6 e6 e7))
      have hIk' : I.length ≤ 200 := by omega
      go_loopw [81] (fun ix wx => ∃ (j q : Nat), ix = .int .i64 (j : Int) ∧ j ≤ I.length ∧ wx = W6.drewN q) (fun ix _ => I.length - (intOf ix).toNat)
      case atStart => exact ⟨0, 0, rfl, by omega, rfl⟩
      case round =>
        obtain ⟨j, q, rfl, hj, rfl⟩ := hrel
        by_cases hjl : j < I.length
        · have hjl' : (j : Int) < (I.length : Int) := by omega
          obtain ⟨x7, rfl⟩ : ∃ x, ia = some x := by
            cases ia with
            | none => have := (HN7.out rfl).1; subst this; simp at hjl
            | some x => exact ⟨x, rfl⟩
          obtain ⟨x6, rfl⟩ : ∃ x, oa = some x := by
            cases oa with
            | none => have := (HN6.out rfl).1; subst this; simp at hjl
            | some x => exact ⟨x, rfl⟩
          obtain ⟨k7, rfl, _, hc7⟩ := HC7.out x7 rfl
          obtain ⟨k6, rfl, _, hc6⟩ := HC6.out x6 rfl
          have f7 := hc7 j hjl
          have f6 := hc6 j hjl
          generalize I.getD j ⟨#[]⟩ = y at f7 f6
          clear hc7 hc6
          go_wp2_with fail
          go_quiet (fail)
          go_wp2
          go_roundw
          case rel => exact ⟨j + 1, _, by simp, by omega, by first | rfl | rw [World.drewN_drewN]⟩
          case measure => simp [intOf]; omega
        · obtain rfl : j = I.length := by omega
          go_wp2_with (go_at_call 9; refine (lives_any _).mono ?_; rintro e w9 ⟨rfl, hb9⟩)
          go_ret
          have hB6 : Below w.heap.size w (W6.drewN q) := HB6.out.trans ⟨rfl, rfl, rfl, Nat.le_refl _, fun _ _ => rfl⟩
          exact ⟨rfl, HG.out ▸ hB6.trans (hb9.mono hB6.size)⟩

end Go.Proofs.Ytehefenagpdlaaa
