/- The document's Two. -/
import Derived.Test.YtpmijaplkbmbiaaWU
import Derived.Test.YtpmijaplkbmbiaaWP
namespace Go.Proofs.Ytpmijaplkbmbiaa.E
open Go.Proofs.Ytpmijaplkbmbiaa Go.RowKit Go.By Go.Shelf
set_option linter.unusedVariables false
set_option linter.unusedSimpArgs false

theorem drop_some {ts : List Tok} {i : Nat} {t : Tok} (h : ts[i]? = some t) : ts.drop i = t :: ts.drop (i + 1) ∧ i < ts.length := by
  obtain ⟨hl, rfl⟩ := List.getElem?_eq_some_iff.1 h
  exact ⟨List.drop_eq_getElem_cons hl, hl⟩
theorem drop_none {ts : List Tok} {i : Nat} (h : ts[i]? = none) : ts.drop i = [] ∧ ts.length ≤ i := by
  have := List.getElem?_eq_none_iff.1 h
  exact ⟨List.drop_eq_nil_of_le this, this⟩
theorem unit_next2 {w X w3 : World} {B : Nat} {v v1 : Value} {L : List Tok} {t : Tok} (hB : B ≤ w.heap.size) (hbw : Below B w X) (hvo : OwnU X B v L)
    (hg : (X.alloc (.cells #[.int .i64 (kindT t), .string (addT t)] 162)).grownBy w3 v.ownBlock) (hr : w3.ownsRow B 162 2 v1 (L.length + 1) (cellsU L ++ cellsU [t])) :
    OwnU w3 B v1 (L ++ [t]) ∧ Below B w w3 := by
  have hal : Below X.heap.size X (X.alloc (.cells #[.int .i64 (kindT t), .string (addT t)] 162)) := Joins.below_alloc1 _ _
  have hX : B ≤ X.heap.size := Nat.le_trans hB hbw.size
  have ho : Only (fun k => v.ownBlock = some k) X (X.alloc (.cells #[.int .i64 (kindT t), .string (addT t)] 162)) := ⟨hal.os, hal.tape, hal.output, hal.size, fun k hk _ => hal.block k hk⟩
  exact ⟨ownU_snoc hr, hbw.trans ((ho.trans (Only.grown (S := fun k => v.ownBlock = some k) hg fun k hk => hk)).below hX fun k hk => (hvo.lt hk).1)⟩
/-- Where the document's scan stands. -/
def SC (xs ys : List Tok) (B : Nat) (V : World) (i k : Nat) (out : List Tok) (u : Value) (wr : World) : Prop :=
  OwnU wr B u out ∧ Below B V wr ∧ out ++ cT (xs.drop i) (ys.drop k) = cT xs ys ∧ tOut (xs.drop i) = tIn (ys.drop k)

theorem cT_nil : cT [] [] = [] := by simp [cT]

set_option maxRecDepth 100000 in
set_option maxHeartbeats 8000000 in
theorem rtwo_any (a b : Option Addr) (cap cap' : Nat) (rs ss : List Rn) (w : World) (hS : CameR w.heap.size w a rs) (hS' : CameR w.heap.size w b ss) (hlr : rs.length ≤ 100000) (hls : ss.length ≤ 100000)
    (hl : fit2 rs ss = true → (expand rs).length + (expand ss).length ≤ 60000) :
    Calls Try.prog 83 #[.slice a rs.length cap, .slice b ss.length cap'] w fun e W' => Gives2 w.heap.size w (twoO rs ss) (twoE rs ss) e W' := by
  obtain ⟨i0, hi, hz0, hz1, hz2⟩ := info_parts (show (Try.prog.info? 162).map (fun i => (i.zero, i.size, i.bytes)) = some (some (.agg #[.int .i64 0, .string ⟨#[]⟩]), 2, 24) by kernel_rfl)
  have HGA : Hid (∀ W, Below w.heap.size w W → Calls Try.prog 52 #[.slice a rs.length cap] W fun e W' => e = .returned (.bool (isG rs)) ∧ Below W.heap.size W W') := hide fun W hW => rgood_any a cap rs W ((hS.below hW).mono hW.size) (by omega)
  have HGB : Hid (∀ W, Below w.heap.size w W → Calls Try.prog 52 #[.slice b ss.length cap'] W fun e W' => e = .returned (.bool (isG ss)) ∧ Below W.heap.size W W') := hide fun W hW => rgood_any b cap' ss W ((hS'.below hW).mono hW.size) (by omega)
  have HOA : Hid (∀ W, Below w.heap.size w W → Calls Try.prog 56 #[.slice a rs.length cap] W fun e W' => e = .returned (.int .i64 (mOut (meas rs))) ∧ Below W.heap.size W W') := hide fun W hW => rout_any a cap rs W ((hS.below hW).mono hW.size) (by omega)
  have HIB : Hid (∀ W, Below w.heap.size w W → Calls Try.prog 54 #[.slice b ss.length cap'] W fun e W' => e = .returned (.int .i64 (mIn (meas ss))) ∧ Below W.heap.size W W') := hide fun W hW => rin_any b cap' ss W ((hS'.below hW).mono hW.size) (by omega)
  have HS := hide (And.intro hS hS')
  have HL := hide hl
  have HLL := hide (And.intro hlr hls)
  have HW0 := hide (Below.refl w.heap.size w)
  clear hS hS' hlr hls hl
  have hout : fit2 rs ss = false → Hid (twoO rs ss = [] ∧ twoE rs ss = 60) := fun h => hide (by rw [twoO, twoE, h]; exact ⟨rfl, rfl⟩)
  go_enter Try.func83, Try.ntmps83
  cases ga : isG rs with
  | false =>
    have HF := hout (by rw [fit2, ga]; rfl)
    rw [ga] at HGA
    clear hout ga
    go_wp2_with (go_at_call 52; with_reducible refine (HGA.out w HW0.out).mono ?_; rintro e W1 ⟨rfl, hb⟩; have HW1 := hide hb; clear hb)
    go_ret2
    exact ⟨none, 0, by rw [HF.out.1, HF.out.2]; rfl, by rw [HF.out.1]; exact .inl rfl, HW1.out⟩
  | true =>
    rw [ga] at HGA
    cases gb : isG ss with
    | false =>
      have HF := hout (by rw [fit2, ga, gb]; rfl)
      rw [gb] at HGB
      clear hout ga gb
      go_wp2_with (go_at_call 52; with_reducible refine (HGA.out w HW0.out).mono ?_; rintro e W1 ⟨rfl, hb⟩; have HW1 := hide hb; clear hb)
      go_wp2_with (go_at_call 52; with_reducible refine (HGB.out W1 HW1.out).mono ?_; rintro e W2 ⟨rfl, hb⟩; have HW2 := hide (HW1.out.trans (hb.mono HW1.out.size)); clear hb)
      go_ret2
      exact ⟨none, 0, by rw [HF.out.1, HF.out.2]; rfl, by rw [HF.out.1]; exact .inl rfl, HW2.out⟩
    | true =>
      rw [gb] at HGB
      by_cases hm : mOut (meas rs) = mIn (meas ss)
      · have hfit : fit2 rs ss = true := by rw [fit2, ga, gb, decide_eq_true hm]; rfl
        obtain ⟨mo, hmo⟩ : ∃ mo, mIn (meas ss) = mo := ⟨_, rfl⟩
        rw [hm, hmo] at HOA
        rw [hmo] at HIB
        obtain ⟨_, _, k1, k2, k3, _⟩ := fit2_facts hfit
        have hkl := HL.out hfit
        have HUA : Hid (∀ W, Below w.heap.size w W → Calls Try.prog 119 #[.slice a rs.length cap] W fun e W' => ∃ v, e = .returned v ∧ OwnU W' W.heap.size v (expand rs) ∧ Below W.heap.size W W') := hide fun W hW => units_any a cap rs W ((HS.out.1.below hW).mono hW.size) k1 HLL.out.1 (by omega)
        have HUB : Hid (∀ W, Below w.heap.size w W → Calls Try.prog 119 #[.slice b ss.length cap'] W fun e W' => ∃ v, e = .returned v ∧ OwnU W' W.heap.size v (expand ss) ∧ Below W.heap.size W W') := hide fun W hW => units_any b cap' ss W ((HS.out.2.below hW).mono hW.size) k2 HLL.out.2 (by omega)
        have hT : twoO rs ss = normK (cT (expand rs) (expand ss)) ∧ twoE rs ss = if normK (cT (expand rs) (expand ss)) = [] ∧ cT (expand rs) (expand ss) ≠ [] then 31 else 0 := by rw [twoO, twoE, hfit]; exact ⟨rfl, rfl⟩
        have hTL : (cT (expand rs) (expand ss)).length ≤ 60000 := Nat.le_trans (cT_len _ _) hkl
        have HT := hide (And.intro hT hTL)
        have HKT := hide k3
        have HKL := hide hkl
        clear hout ga gb hm hmo hfit k1 k2 k3 hkl hT hTL HL HLL
        generalize expand rs = xs at *
        generalize expand ss = ys at *
        go_wp2_with (go_at_call 52; with_reducible refine (HGA.out w HW0.out).mono ?_; rintro e W1 ⟨rfl, hb⟩; have HW1 := hide hb; clear hb)
        go_wp2_with (go_at_call 52; with_reducible refine (HGB.out W1 HW1.out).mono ?_; rintro e W2 ⟨rfl, hb⟩; have HW2 := hide (HW1.out.trans (hb.mono HW1.out.size)); clear hb)
        go_wp2_with (go_at_call 56; with_reducible refine (HOA.out W2 HW2.out).mono ?_; rintro e W3 ⟨rfl, hb⟩; have HW3 := hide (HW2.out.trans (hb.mono HW2.out.size)); clear hb)
        go_wp2_with (go_at_call 54; with_reducible refine (HIB.out W3 HW3.out).mono ?_; rintro e W4 ⟨rfl, hb⟩; have HW4 := hide (HW3.out.trans (hb.mono HW3.out.size)); clear hb)
        go_wp2_with (go_at_call 119; with_reducible refine (HUA.out W4 HW4.out).mono ?_; rintro e W5 ⟨v1, rfl, ho, hb⟩; obtain ⟨xa, xc, rfl⟩ := ho.form; have HX5 := hide ho; have HW5 := hide (HW4.out.trans (hb.mono HW4.out.size)); clear ho hb)
        go_wp2_with (go_at_call 119; with_reducible refine (HUB.out W5 HW5.out).mono ?_; rintro e V ⟨v2, rfl, ho, hb⟩; obtain ⟨ya, yc, rfl⟩ := ho.form; have HX6 := hide (HX5.out.up hb).came; have HY6 := hide ho.came; have HV := hide (HW5.out.trans (hb.mono HW5.out.size)); clear ho hb)
        have HC := hide (And.intro HX6.out HY6.out)
        clear HX6 HY6 HX5 HW5 HW4 HW3 HW2 HW1 HUA HUB HGA HGB HOA HIB
        go_loopw [8, 9, 10] (fun u iv kv wr => ∃ (i k : Nat) (out : List Tok), iv = .int .i64 (i : Int) ∧ kv = .int .i64 (k : Int) ∧ i ≤ xs.length ∧ k ≤ ys.length ∧ out.length ≤ i + k ∧ Hid (SC xs ys V.heap.size V i k out u wr)) (fun _ iv kv _ => xs.length + ys.length - ((intOf iv).toNat + (intOf kv).toNat))
        case atStart => exact ⟨0, 0, [], rfl, rfl, Nat.zero_le _, Nat.zero_le _, Nat.zero_le _, hide ⟨OwnU.nil _ _, Below.refl _ _, rfl, HKT.out⟩⟩
        case round =>
          obtain ⟨i, k, out, rfl, rfl, hi1, hk1, hol, HI⟩ := hrel
          obtain ⟨ua, uc, rfl⟩ := HI.out.1.form
          have hkl := HKL.out
          have HM : Hid (out.length ≤ 60000 ∧ i ≤ 60000 ∧ k ≤ 60000) := hide (by omega)
          have w6 : IntKind.i64.wrap ((i : Int) + 1) = (i : Int) + 1 := by rw [IntKind.wrap_i64]; omega
          have w7 : IntKind.i64.wrap ((k : Int) + 1) = (k : Int) + 1 := by rw [IntKind.wrap_i64]; omega
          clear hkl
          cases hx : xs[i]? with
          | none =>
            cases hy : ys[k]? with
            | none =>
              obtain ⟨hdx, hix⟩ := drop_none hx
              obtain ⟨hdy, hky⟩ := drop_none hy
              obtain rfl : i = xs.length := by omega
              obtain rfl : k = ys.length := by omega
              have hcT := HI.out.2.2.1
              rw [hdx, hdy, cT_nil, List.append_nil] at hcT
              rw [← hcT] at HT
              have HOU := hide HI.out.1
              have HBV := hide HI.out.2.1
              clear hx hy hdx hdy hix hky HI hcT
              have hru := runs_any ua uc out wr HOU.out.came (by have := HM.out; omega)
              have HRU := hide hru
              clear hru
              have HWR := hide (HV.out.trans (HBV.out.mono HV.out.size))
              have HNN : Hid (∀ W a' c', CameR W.heap.size W a' (runsT out) → Calls Try.prog 61 #[.slice a' (runsT out).length c'] W fun e W' => Gives W.heap.size W (normK out) e W') := hide fun W a' c' h => by
                have h := rnorm_any a' c' (runsT out) W h (by rw [runsT, List.length_map]; have := HM.out; omega)
                rwa [normR_K, expand_runsT] at h
              have HRL : Hid ((runsT out).length = out.length) := hide (by rw [runsT, List.length_map])
              have hT := HT.out.1
              have HRN := hide (show out = [] ↔ runsT out = [] by rw [runsT, List.map_eq_nil_iff])
              generalize normK out = O at *
              by_cases hO : O = []
              · by_cases hL : runsT out = []
                · have HX : Hid (twoO rs ss = O ∧ twoE rs ss = 0) := hide ⟨hT.1, by rw [hT.2, if_neg (fun h => h.2 (HRN.out.2 hL))]⟩
                  have hl0 : ¬ 0 < (runsT out).length := by rw [hL]; simp
                  clear hT hO hL
                  go_wp2_with (first
                    | (go_at_call 120; with_reducible refine HRU.out.mono ?_; rintro e W7 ⟨v7, rfl, ho, hb⟩; obtain ⟨a7, c7, rfl⟩ := ho.form; have HC7 := hide ho.came; have HB7 := hide (HWR.out.trans (hb.mono HWR.out.size)); clear ho hb)
                    | (go_at_call 61; refine (HNN.out W7 a7 c7 HC7.out).mono ?_; rintro e W8 ⟨a8, c8, rfl, hc, hb⟩; have HC8 := hide hc; have HB8 := hide (HB7.out.trans (hb.mono HB7.out.size)); clear hc hb))
                  go_ret2
                  exact ⟨a8, c8, by rw [HX.out.1, HX.out.2]; rfl, by rw [HX.out.1]; exact HC8.out, HB8.out⟩
                · have HX : Hid (twoO rs ss = O ∧ twoE rs ss = 31) := hide ⟨hT.1, by rw [hT.2, if_pos ⟨hO, fun h => hL (HRN.out.1 h)⟩]⟩
                  have hl0 : 0 < (runsT out).length := List.length_pos_iff.2 hL
                  subst hO
                  clear hT hL
                  go_wp2_with (first
                    | (go_at_call 120; with_reducible refine HRU.out.mono ?_; rintro e W7 ⟨v7, rfl, ho, hb⟩; obtain ⟨a7, c7, rfl⟩ := ho.form; have HC7 := hide ho.came; have HB7 := hide (HWR.out.trans (hb.mono HWR.out.size)); clear ho hb)
                    | (go_at_call 61; refine (HNN.out W7 a7 c7 HC7.out).mono ?_; rintro e W8 ⟨a8, c8, rfl, hc, hb⟩; have HB8 := hide (HB7.out.trans (hb.mono HB7.out.size)); clear hc hb))
                  go_ret2
                  exact ⟨none, 0, by rw [HX.out.1, HX.out.2]; rfl, by rw [HX.out.1]; exact .inl rfl, HB8.out⟩
              · have HX : Hid (twoO rs ss = O ∧ twoE rs ss = 0) := hide ⟨hT.1, by rw [hT.2, if_neg (fun h => hO h.1)]⟩
                have ho0 : ¬ O.length = 0 := fun h => hO (List.eq_nil_of_length_eq_zero h)
                clear hT hO
                go_wp2_with (first
                  | (go_at_call 120; with_reducible refine HRU.out.mono ?_; rintro e W7 ⟨v7, rfl, ho, hb⟩; obtain ⟨a7, c7, rfl⟩ := ho.form; have HC7 := hide ho.came; have HB7 := hide (HWR.out.trans (hb.mono HWR.out.size)); clear ho hb)
                  | (go_at_call 61; refine (HNN.out W7 a7 c7 HC7.out).mono ?_; rintro e W8 ⟨a8, c8, rfl, hc, hb⟩; have HC8 := hide hc; have HB8 := hide (HB7.out.trans (hb.mono HB7.out.size)); clear hc hb))
                all_goals go_ret2
                all_goals exact ⟨a8, c8, by rw [HX.out.1, HX.out.2]; rfl, by rw [HX.out.1]; exact HC8.out, HB8.out⟩
            | some y =>
              cases y with
              | K =>
                exfalso
                have htt := HI.out.2.2.2
                rw [(drop_none hx).1, (drop_some hy).1] at htt
                simp only [tIn, tOut] at htt
                omega
              | D =>
                exfalso
                have htt := HI.out.2.2.2
                rw [(drop_none hx).1, (drop_some hy).1] at htt
                simp only [tIn, tOut] at htt
                omega
              | A c =>
                obtain ⟨hdx, hix⟩ := drop_none hx
                have hix' : ¬ (i : Int) < (xs.length : Int) := by omega
                obtain ⟨hdy, hky⟩ := drop_some hy
                have hky' : (k : Int) < (ys.length : Int) := by omega
                obtain ⟨b2, off2, rfl, _, r0, r1⟩ := (HC.out.2.below HI.out.2.1) k _ hy
                have hcT := HI.out.2.2.1
                have htt := HI.out.2.2.2
                rw [hdx, hdy] at htt
                rw [hdx, hdy, cT] at hcT
                simp only [tIn, tOut] at htt
                have hcN : (out ++ [(Tok.A c)]) ++ cT (xs.drop i) (ys.drop (k + 1)) = cT xs ys := by rw [← hcT, hdx, List.append_assoc]; rfl
                have htN : tOut (xs.drop i) = tIn (ys.drop (k + 1)) := by rw [hdx]; simp only [tOut]; omega
                have HNT := hide (And.intro hcN htN)
                have HIX := hide hix
                have HKY := hide hky
                have HOW := hide (World.ownsRow.alloc HI.out.1 (.cells #[.int .i64 (kindT (Tok.A c)), .string (addT (Tok.A c))] 162))
                have HNEW := hide (cells_unit wr (Tok.A c))
                have HNX : Hid (∀ w3 v1, (wr.alloc (.cells #[.int .i64 (kindT (Tok.A c)), .string (addT (Tok.A c))] 162)).grownBy w3 (Value.slice ua out.length uc).ownBlock → w3.ownsRow V.heap.size 162 2 v1 (out.length + 1) (cellsU out ++ cellsU [(Tok.A c)]) → OwnU w3 V.heap.size v1 (out ++ [(Tok.A c)]) ∧ Below V.heap.size V w3) := hide fun w3 v1 hg hr => unit_next2 (Nat.le_refl _) HI.out.2.1 HI.out.1 hg hr
                have HSZ := hide HI.out.2.1.size
                dsimp only [kindT, addT] at r0 r1 HOW HNEW HNX
                clear hx hdx hcT htt hcN htN hix hy hdy hky HI
                go_wp2_with (at_builtin; refine wpList_append_own _ rfl _ _ 159 rfl V.heap.size 162 i0 (.agg #[.int .i64 0, .string ⟨#[]⟩]) 2 24 Try.underlying159 hi hz0 hz1 hz2 rfl (by decide) _ _ _ rfl HOW.out ⟨_, 0, none⟩ 1 1 _ rfl rfl HNEW.out (oneCellU _) (by have := HM.out; unfold maxLen; omega) (by have := HM.out; omega) (by have := HSZ.out; simp; omega) ?_; intro v1 w3 hr hg hx; have HN := hide (HNX.out w3 v1 hg hr); clear hr hg hx)
                go_roundw
                case rel => exact ⟨i, (k + 1), out ++ [(Tok.A c)], by go_num, by go_num, by first | omega | exact HIX.out | (have := HIX.out; omega), by first | omega | exact HKY.out | (have := HKY.out; omega), by rw [List.length_append]; show out.length + 1 ≤ _; omega, hide ⟨HN.out.1, HN.out.2, HNT.out.1, HNT.out.2⟩⟩
                case measure => simp [intOf]; have := HKY.out; omega
          | some x =>
            cases x with
            | D =>
              obtain ⟨hdx, hix⟩ := drop_some hx
              have hix' : (i : Int) < (xs.length : Int) := by omega
              obtain ⟨b1, off1, rfl, _, s0, s1⟩ := (HC.out.1.below HI.out.2.1) i _ hx
              have hcT := HI.out.2.2.1
              have htt := HI.out.2.2.2
              rw [hdx] at htt
              rw [hdx, cT] at hcT
              simp only [tIn, tOut] at htt
              have hcN : (out ++ [Tok.D]) ++ cT (xs.drop (i + 1)) (ys.drop k) = cT xs ys := by rw [← hcT, List.append_assoc]; rfl
              have htN : tOut (xs.drop (i + 1)) = tIn (ys.drop k) := by omega
              have HNT := hide (And.intro hcN htN)
              have HIX := hide hix
              have HOW := hide (World.ownsRow.alloc HI.out.1 (.cells #[.int .i64 (kindT Tok.D), .string (addT Tok.D)] 162))
              have HNEW := hide (cells_unit wr Tok.D)
              have HNX : Hid (∀ w3 v1, (wr.alloc (.cells #[.int .i64 (kindT Tok.D), .string (addT Tok.D)] 162)).grownBy w3 (Value.slice ua out.length uc).ownBlock → w3.ownsRow V.heap.size 162 2 v1 (out.length + 1) (cellsU out ++ cellsU [Tok.D]) → OwnU w3 V.heap.size v1 (out ++ [Tok.D]) ∧ Below V.heap.size V w3) := hide fun w3 v1 hg hr => unit_next2 (Nat.le_refl _) HI.out.2.1 HI.out.1 hg hr
              have HSZ := hide HI.out.2.1.size
              dsimp only [kindT, addT] at s0 s1 HOW HNEW HNX
              clear hx hdx hcT htt hcN htN hix HI
              go_wp2_with (at_builtin; refine wpList_append_own _ rfl _ _ 159 rfl V.heap.size 162 i0 (.agg #[.int .i64 0, .string ⟨#[]⟩]) 2 24 Try.underlying159 hi hz0 hz1 hz2 rfl (by decide) _ _ _ rfl HOW.out ⟨_, 0, none⟩ 1 1 _ rfl rfl HNEW.out (oneCellU _) (by have := HM.out; unfold maxLen; omega) (by have := HM.out; omega) (by have := HSZ.out; simp; omega) ?_; intro v1 w3 hr hg hx; have HN := hide (HNX.out w3 v1 hg hr); clear hr hg hx)
              go_roundw
              case rel => exact ⟨(i + 1), k, out ++ [Tok.D], by go_num, by go_num, by first | omega | exact HIX.out | (have := HIX.out; omega), by first | omega | exact HKY.out | (have := HKY.out; omega), by rw [List.length_append]; show out.length + 1 ≤ _; omega, hide ⟨HN.out.1, HN.out.2, HNT.out.1, HNT.out.2⟩⟩
              case measure => simp [intOf]; have := HIX.out; omega
            | K =>
              cases hy : ys[k]? with
              | none =>
                exfalso
                have htt := HI.out.2.2.2
                rw [(drop_some hx).1, (drop_none hy).1] at htt
                simp only [tIn, tOut] at htt
                omega
              | some y =>
                cases y with
                | A c =>
                  obtain ⟨hdx, hix⟩ := drop_some hx
                  have hix' : (i : Int) < (xs.length : Int) := by omega
                  obtain ⟨b1, off1, rfl, _, s0, s1⟩ := (HC.out.1.below HI.out.2.1) i _ hx
                  obtain ⟨hdy, hky⟩ := drop_some hy
                  have hky' : (k : Int) < (ys.length : Int) := by omega
                  obtain ⟨b2, off2, rfl, _, r0, r1⟩ := (HC.out.2.below HI.out.2.1) k _ hy
                  have hcT := HI.out.2.2.1
                  have htt := HI.out.2.2.2
                  rw [hdx, hdy] at htt
                  rw [hdx, hdy, cT] at hcT
                  simp only [tIn, tOut] at htt
                  have hcN : (out ++ [(Tok.A c)]) ++ cT (xs.drop i) (ys.drop (k + 1)) = cT xs ys := by rw [← hcT, hdx, List.append_assoc]; rfl
                  have htN : tOut (xs.drop i) = tIn (ys.drop (k + 1)) := by rw [hdx]; simp only [tOut]; omega
                  have HNT := hide (And.intro hcN htN)
                  have HIX := hide hix
                  have HKY := hide hky
                  have HOW := hide (World.ownsRow.alloc HI.out.1 (.cells #[.int .i64 (kindT (Tok.A c)), .string (addT (Tok.A c))] 162))
                  have HNEW := hide (cells_unit wr (Tok.A c))
                  have HNX : Hid (∀ w3 v1, (wr.alloc (.cells #[.int .i64 (kindT (Tok.A c)), .string (addT (Tok.A c))] 162)).grownBy w3 (Value.slice ua out.length uc).ownBlock → w3.ownsRow V.heap.size 162 2 v1 (out.length + 1) (cellsU out ++ cellsU [(Tok.A c)]) → OwnU w3 V.heap.size v1 (out ++ [(Tok.A c)]) ∧ Below V.heap.size V w3) := hide fun w3 v1 hg hr => unit_next2 (Nat.le_refl _) HI.out.2.1 HI.out.1 hg hr
                  have HSZ := hide HI.out.2.1.size
                  dsimp only [kindT, addT] at s0 s1 r0 r1 HOW HNEW HNX
                  clear hx hdx hcT htt hcN htN hix hy hdy hky HI
                  go_wp2_with (at_builtin; refine wpList_append_own _ rfl _ _ 159 rfl V.heap.size 162 i0 (.agg #[.int .i64 0, .string ⟨#[]⟩]) 2 24 Try.underlying159 hi hz0 hz1 hz2 rfl (by decide) _ _ _ rfl HOW.out ⟨_, 0, none⟩ 1 1 _ rfl rfl HNEW.out (oneCellU _) (by have := HM.out; unfold maxLen; omega) (by have := HM.out; omega) (by have := HSZ.out; simp; omega) ?_; intro v1 w3 hr hg hx; have HN := hide (HNX.out w3 v1 hg hr); clear hr hg hx)
                  go_roundw
                  case rel => exact ⟨i, (k + 1), out ++ [(Tok.A c)], by go_num, by go_num, by first | omega | exact HIX.out | (have := HIX.out; omega), by first | omega | exact HKY.out | (have := HKY.out; omega), by rw [List.length_append]; show out.length + 1 ≤ _; omega, hide ⟨HN.out.1, HN.out.2, HNT.out.1, HNT.out.2⟩⟩
                  case measure => simp [intOf]; have := HIX.out; have := HKY.out; omega
                | K =>
                  obtain ⟨hdx, hix⟩ := drop_some hx
                  have hix' : (i : Int) < (xs.length : Int) := by omega
                  obtain ⟨b1, off1, rfl, _, s0, s1⟩ := (HC.out.1.below HI.out.2.1) i _ hx
                  obtain ⟨hdy, hky⟩ := drop_some hy
                  have hky' : (k : Int) < (ys.length : Int) := by omega
                  obtain ⟨b2, off2, rfl, _, r0, r1⟩ := (HC.out.2.below HI.out.2.1) k _ hy
                  have hcT := HI.out.2.2.1
                  have htt := HI.out.2.2.2
                  rw [hdx, hdy] at htt
                  rw [hdx, hdy, cT] at hcT
                  simp only [tIn, tOut] at htt
                  have hcN : (out ++ [Tok.K]) ++ cT (xs.drop (i + 1)) (ys.drop (k + 1)) = cT xs ys := by rw [← hcT, List.append_assoc]; rfl
                  have htN : tOut (xs.drop (i + 1)) = tIn (ys.drop (k + 1)) := by omega
                  have HNT := hide (And.intro hcN htN)
                  have HIX := hide hix
                  have HKY := hide hky
                  have HOW := hide (World.ownsRow.alloc HI.out.1 (.cells #[.int .i64 (kindT Tok.K), .string (addT Tok.K)] 162))
                  have HNEW := hide (cells_unit wr Tok.K)
                  have HNX : Hid (∀ w3 v1, (wr.alloc (.cells #[.int .i64 (kindT Tok.K), .string (addT Tok.K)] 162)).grownBy w3 (Value.slice ua out.length uc).ownBlock → w3.ownsRow V.heap.size 162 2 v1 (out.length + 1) (cellsU out ++ cellsU [Tok.K]) → OwnU w3 V.heap.size v1 (out ++ [Tok.K]) ∧ Below V.heap.size V w3) := hide fun w3 v1 hg hr => unit_next2 (Nat.le_refl _) HI.out.2.1 HI.out.1 hg hr
                  have HSZ := hide HI.out.2.1.size
                  dsimp only [kindT, addT] at s0 s1 r0 r1 HOW HNEW HNX
                  clear hx hdx hcT htt hcN htN hix hy hdy hky HI
                  go_wp2_with (at_builtin; refine wpList_append_own _ rfl _ _ 159 rfl V.heap.size 162 i0 (.agg #[.int .i64 0, .string ⟨#[]⟩]) 2 24 Try.underlying159 hi hz0 hz1 hz2 rfl (by decide) _ _ _ rfl HOW.out ⟨_, 0, none⟩ 1 1 _ rfl rfl HNEW.out (oneCellU _) (by have := HM.out; unfold maxLen; omega) (by have := HM.out; omega) (by have := HSZ.out; simp; omega) ?_; intro v1 w3 hr hg hx; have HN := hide (HNX.out w3 v1 hg hr); clear hr hg hx)
                  go_roundw
                  case rel => exact ⟨(i + 1), (k + 1), out ++ [Tok.K], by go_num, by go_num, by first | omega | exact HIX.out | (have := HIX.out; omega), by first | omega | exact HKY.out | (have := HKY.out; omega), by rw [List.length_append]; show out.length + 1 ≤ _; omega, hide ⟨HN.out.1, HN.out.2, HNT.out.1, HNT.out.2⟩⟩
                  case measure => simp [intOf]; have := HIX.out; have := HKY.out; omega
                | D =>
                  obtain ⟨hdx, hix⟩ := drop_some hx
                  have hix' : (i : Int) < (xs.length : Int) := by omega
                  obtain ⟨b1, off1, rfl, _, s0, s1⟩ := (HC.out.1.below HI.out.2.1) i _ hx
                  obtain ⟨hdy, hky⟩ := drop_some hy
                  have hky' : (k : Int) < (ys.length : Int) := by omega
                  obtain ⟨b2, off2, rfl, _, r0, r1⟩ := (HC.out.2.below HI.out.2.1) k _ hy
                  have hcT := HI.out.2.2.1
                  have htt := HI.out.2.2.2
                  rw [hdx, hdy] at htt
                  rw [hdx, hdy, cT] at hcT
                  simp only [tIn, tOut] at htt
                  have hcN : (out ++ [Tok.D]) ++ cT (xs.drop (i + 1)) (ys.drop (k + 1)) = cT xs ys := by rw [← hcT, List.append_assoc]; rfl
                  have htN : tOut (xs.drop (i + 1)) = tIn (ys.drop (k + 1)) := by omega
                  have HNT := hide (And.intro hcN htN)
                  have HIX := hide hix
                  have HKY := hide hky
                  have HOW := hide (World.ownsRow.alloc HI.out.1 (.cells #[.int .i64 (kindT Tok.D), .string (addT Tok.D)] 162))
                  have HNEW := hide (cells_unit wr Tok.D)
                  have HNX : Hid (∀ w3 v1, (wr.alloc (.cells #[.int .i64 (kindT Tok.D), .string (addT Tok.D)] 162)).grownBy w3 (Value.slice ua out.length uc).ownBlock → w3.ownsRow V.heap.size 162 2 v1 (out.length + 1) (cellsU out ++ cellsU [Tok.D]) → OwnU w3 V.heap.size v1 (out ++ [Tok.D]) ∧ Below V.heap.size V w3) := hide fun w3 v1 hg hr => unit_next2 (Nat.le_refl _) HI.out.2.1 HI.out.1 hg hr
                  have HSZ := hide HI.out.2.1.size
                  dsimp only [kindT, addT] at s0 s1 r0 r1 HOW HNEW HNX
                  clear hx hdx hcT htt hcN htN hix hy hdy hky HI
                  go_wp2_with (at_builtin; refine wpList_append_own _ rfl _ _ 159 rfl V.heap.size 162 i0 (.agg #[.int .i64 0, .string ⟨#[]⟩]) 2 24 Try.underlying159 hi hz0 hz1 hz2 rfl (by decide) _ _ _ rfl HOW.out ⟨_, 0, none⟩ 1 1 _ rfl rfl HNEW.out (oneCellU _) (by have := HM.out; unfold maxLen; omega) (by have := HM.out; omega) (by have := HSZ.out; simp; omega) ?_; intro v1 w3 hr hg hx; have HN := hide (HNX.out w3 v1 hg hr); clear hr hg hx)
                  go_roundw
                  case rel => exact ⟨(i + 1), (k + 1), out ++ [Tok.D], by go_num, by go_num, by first | omega | exact HIX.out | (have := HIX.out; omega), by first | omega | exact HKY.out | (have := HKY.out; omega), by rw [List.length_append]; show out.length + 1 ≤ _; omega, hide ⟨HN.out.1, HN.out.2, HNT.out.1, HNT.out.2⟩⟩
                  case measure => simp [intOf]; have := HIX.out; have := HKY.out; omega
            | A d =>
              cases hy : ys[k]? with
              | none =>
                exfalso
                have htt := HI.out.2.2.2
                rw [(drop_some hx).1, (drop_none hy).1] at htt
                simp only [tIn, tOut] at htt
                omega
              | some y =>
                cases y with
                | A c =>
                  obtain ⟨hdx, hix⟩ := drop_some hx
                  have hix' : (i : Int) < (xs.length : Int) := by omega
                  obtain ⟨b1, off1, rfl, _, s0, s1⟩ := (HC.out.1.below HI.out.2.1) i _ hx
                  obtain ⟨hdy, hky⟩ := drop_some hy
                  have hky' : (k : Int) < (ys.length : Int) := by omega
                  obtain ⟨b2, off2, rfl, _, r0, r1⟩ := (HC.out.2.below HI.out.2.1) k _ hy
                  have hcT := HI.out.2.2.1
                  have htt := HI.out.2.2.2
                  rw [hdx, hdy] at htt
                  rw [hdx, hdy, cT] at hcT
                  simp only [tIn, tOut] at htt
                  have hcN : (out ++ [(Tok.A c)]) ++ cT (xs.drop i) (ys.drop (k + 1)) = cT xs ys := by rw [← hcT, hdx, List.append_assoc]; rfl
                  have htN : tOut (xs.drop i) = tIn (ys.drop (k + 1)) := by rw [hdx]; simp only [tOut]; omega
                  have HNT := hide (And.intro hcN htN)
                  have HIX := hide hix
                  have HKY := hide hky
                  have HOW := hide (World.ownsRow.alloc HI.out.1 (.cells #[.int .i64 (kindT (Tok.A c)), .string (addT (Tok.A c))] 162))
                  have HNEW := hide (cells_unit wr (Tok.A c))
                  have HNX : Hid (∀ w3 v1, (wr.alloc (.cells #[.int .i64 (kindT (Tok.A c)), .string (addT (Tok.A c))] 162)).grownBy w3 (Value.slice ua out.length uc).ownBlock → w3.ownsRow V.heap.size 162 2 v1 (out.length + 1) (cellsU out ++ cellsU [(Tok.A c)]) → OwnU w3 V.heap.size v1 (out ++ [(Tok.A c)]) ∧ Below V.heap.size V w3) := hide fun w3 v1 hg hr => unit_next2 (Nat.le_refl _) HI.out.2.1 HI.out.1 hg hr
                  have HSZ := hide HI.out.2.1.size
                  dsimp only [kindT, addT] at s0 s1 r0 r1 HOW HNEW HNX
                  clear hx hdx hcT htt hcN htN hix hy hdy hky HI
                  go_wp2_with (at_builtin; refine wpList_append_own _ rfl _ _ 159 rfl V.heap.size 162 i0 (.agg #[.int .i64 0, .string ⟨#[]⟩]) 2 24 Try.underlying159 hi hz0 hz1 hz2 rfl (by decide) _ _ _ rfl HOW.out ⟨_, 0, none⟩ 1 1 _ rfl rfl HNEW.out (oneCellU _) (by have := HM.out; unfold maxLen; omega) (by have := HM.out; omega) (by have := HSZ.out; simp; omega) ?_; intro v1 w3 hr hg hx; have HN := hide (HNX.out w3 v1 hg hr); clear hr hg hx)
                  go_roundw
                  case rel => exact ⟨i, (k + 1), out ++ [(Tok.A c)], by go_num, by go_num, by first | omega | exact HIX.out | (have := HIX.out; omega), by first | omega | exact HKY.out | (have := HKY.out; omega), by rw [List.length_append]; show out.length + 1 ≤ _; omega, hide ⟨HN.out.1, HN.out.2, HNT.out.1, HNT.out.2⟩⟩
                  case measure => simp [intOf]; have := HIX.out; have := HKY.out; omega
                | K =>
                  obtain ⟨hdx, hix⟩ := drop_some hx
                  have hix' : (i : Int) < (xs.length : Int) := by omega
                  obtain ⟨b1, off1, rfl, _, s0, s1⟩ := (HC.out.1.below HI.out.2.1) i _ hx
                  obtain ⟨hdy, hky⟩ := drop_some hy
                  have hky' : (k : Int) < (ys.length : Int) := by omega
                  obtain ⟨b2, off2, rfl, _, r0, r1⟩ := (HC.out.2.below HI.out.2.1) k _ hy
                  have hcT := HI.out.2.2.1
                  have htt := HI.out.2.2.2
                  rw [hdx, hdy] at htt
                  rw [hdx, hdy, cT] at hcT
                  simp only [tIn, tOut] at htt
                  have hcN : (out ++ [(Tok.A d)]) ++ cT (xs.drop (i + 1)) (ys.drop (k + 1)) = cT xs ys := by rw [← hcT, List.append_assoc]; rfl
                  have htN : tOut (xs.drop (i + 1)) = tIn (ys.drop (k + 1)) := by omega
                  have HNT := hide (And.intro hcN htN)
                  have HIX := hide hix
                  have HKY := hide hky
                  have HOW := hide (World.ownsRow.alloc HI.out.1 (.cells #[.int .i64 (kindT (Tok.A d)), .string (addT (Tok.A d))] 162))
                  have HNEW := hide (cells_unit wr (Tok.A d))
                  have HNX : Hid (∀ w3 v1, (wr.alloc (.cells #[.int .i64 (kindT (Tok.A d)), .string (addT (Tok.A d))] 162)).grownBy w3 (Value.slice ua out.length uc).ownBlock → w3.ownsRow V.heap.size 162 2 v1 (out.length + 1) (cellsU out ++ cellsU [(Tok.A d)]) → OwnU w3 V.heap.size v1 (out ++ [(Tok.A d)]) ∧ Below V.heap.size V w3) := hide fun w3 v1 hg hr => unit_next2 (Nat.le_refl _) HI.out.2.1 HI.out.1 hg hr
                  have HSZ := hide HI.out.2.1.size
                  dsimp only [kindT, addT] at s0 s1 r0 r1 HOW HNEW HNX
                  clear hx hdx hcT htt hcN htN hix hy hdy hky HI
                  go_wp2_with (at_builtin; refine wpList_append_own _ rfl _ _ 159 rfl V.heap.size 162 i0 (.agg #[.int .i64 0, .string ⟨#[]⟩]) 2 24 Try.underlying159 hi hz0 hz1 hz2 rfl (by decide) _ _ _ rfl HOW.out ⟨_, 0, none⟩ 1 1 _ rfl rfl HNEW.out (oneCellU _) (by have := HM.out; unfold maxLen; omega) (by have := HM.out; omega) (by have := HSZ.out; simp; omega) ?_; intro v1 w3 hr hg hx; have HN := hide (HNX.out w3 v1 hg hr); clear hr hg hx)
                  go_roundw
                  case rel => exact ⟨(i + 1), (k + 1), out ++ [(Tok.A d)], by go_num, by go_num, by first | omega | exact HIX.out | (have := HIX.out; omega), by first | omega | exact HKY.out | (have := HKY.out; omega), by rw [List.length_append]; show out.length + 1 ≤ _; omega, hide ⟨HN.out.1, HN.out.2, HNT.out.1, HNT.out.2⟩⟩
                  case measure => simp [intOf]; have := HIX.out; have := HKY.out; omega
                | D =>
                  obtain ⟨hdx, hix⟩ := drop_some hx
                  have hix' : (i : Int) < (xs.length : Int) := by omega
                  obtain ⟨b1, off1, rfl, _, s0, s1⟩ := (HC.out.1.below HI.out.2.1) i _ hx
                  obtain ⟨hdy, hky⟩ := drop_some hy
                  have hky' : (k : Int) < (ys.length : Int) := by omega
                  obtain ⟨b2, off2, rfl, _, r0, r1⟩ := (HC.out.2.below HI.out.2.1) k _ hy
                  have hcT := HI.out.2.2.1
                  have htt := HI.out.2.2.2
                  rw [hdx, hdy] at htt
                  rw [hdx, hdy, cT] at hcT
                  simp only [tIn, tOut] at htt
                  have hcN : out ++ cT (xs.drop (i + 1)) (ys.drop (k + 1)) = cT xs ys := hcT
                  have htN : tOut (xs.drop (i + 1)) = tIn (ys.drop (k + 1)) := by omega
                  have HNT := hide (And.intro hcN htN)
                  have HIX := hide hix
                  have HKY := hide hky
                  dsimp only [kindT, addT] at s0 s1 r0 r1
                  clear hx hdx hcT htt hcN htN hix hy hdy hky
                  go_wp2_with fail
                  go_roundw
                  case rel => exact ⟨(i + 1), (k + 1), out, by go_num, by go_num, by first | omega | exact HIX.out | (have := HIX.out; omega), by first | omega | exact HKY.out | (have := HKY.out; omega), by omega, hide ⟨HI.out.1, HI.out.2.1, HNT.out.1, HNT.out.2⟩⟩
                  case measure => simp [intOf]; have := HIX.out; have := HKY.out; omega
      · have HF := hout (by rw [fit2, decide_eq_false hm, Bool.and_false])
        obtain ⟨mo, hmo⟩ : ∃ mo, mIn (meas ss) = mo := ⟨_, rfl⟩
        obtain ⟨mi, hmi⟩ : ∃ mi, mOut (meas rs) = mi := ⟨_, rfl⟩
        rw [hmi] at HOA hm
        rw [hmo] at HIB hm
        clear hout ga gb hmo hmi
        go_wp2_with (go_at_call 52; with_reducible refine (HGA.out w HW0.out).mono ?_; rintro e W1 ⟨rfl, hb⟩; have HW1 := hide hb; clear hb)
        go_wp2_with (go_at_call 52; with_reducible refine (HGB.out W1 HW1.out).mono ?_; rintro e W2 ⟨rfl, hb⟩; have HW2 := hide (HW1.out.trans (hb.mono HW1.out.size)); clear hb)
        go_wp2_with (go_at_call 56; with_reducible refine (HOA.out W2 HW2.out).mono ?_; rintro e W3 ⟨rfl, hb⟩; have HW3 := hide (HW2.out.trans (hb.mono HW2.out.size)); clear hb)
        go_wp2_with (go_at_call 54; with_reducible refine (HIB.out W3 HW3.out).mono ?_; rintro e W4 ⟨rfl, hb⟩; have HW4 := hide (HW3.out.trans (hb.mono HW3.out.size)); clear hb)
        go_ret2
        exact ⟨none, 0, by rw [HF.out.1, HF.out.2]; rfl, by rw [HF.out.1]; exact .inl rfl, HW4.out⟩

end Go.Proofs.Ytpmijaplkbmbiaa.E
