/- PlaceMany, walked. -/
import Derived.Test.YtecmiphmefbpnaaPY
namespace Go.Proofs.Ytecmiphmefbpnaa.E
open Go.Proofs.Ytecmiphmefbpnaa Go.RowKit Go.By Go.Shelf
set_option linter.unusedVariables false
set_option linter.unusedSimpArgs false

/-- The span's own box. -/
def SB (w : World) (f t : Int) (W : World) : Prop := Below w.heap.size w W ∧ Box24 W w.heap.size f t
theorem SB.up {w : World} {f t : Int} {W Y : World} (h : SB w f t W) (hb : Below W.heap.size W Y) : SB w f t Y := ⟨h.1.trans (hb.mono h.1.size), h.2.up hb⟩
theorem SB.lo {w : World} {f t : Int} {W : World} (h : SB w f t W) : Below w.heap.size w W := h.1
theorem SB.alloc {w : World} {f t : Int} {W : World} (h : SB w f t W) (o : Obj) : SB w f t (W.alloc o) := h.up ((Below.refl _ W).alloc (Nat.le_refl _) o)
theorem sb_new (w : World) (f t : Int) : SB w f t (w.alloc (.cells #[.int .i64 f, .int .i64 t] 24)) := ⟨(Below.refl _ w).alloc (Nat.le_refl _) _, box24_new w f t⟩

theorem ownQ_more {wr WA W0 Y : World} {B gg c1 : Nat} {v : Value} {A : List Sp2} {x : Sp2} (h : OwnQ wr B v A) (hB : B ≤ wr.heap.size) (hY : Below wr.heap.size wr Y) (hb : Below B W0 wr)
    (hr : WA.ownsRow B 24 2 (.slice (some ⟨gg, 0, none⟩) (A.length + 1) c1) (A.length + 1) (cellsQ A ++ [.int .i64 x.1, .int .i64 x.2])) (hg : Y.grownBy WA v.ownBlock) :
    OwnQ WA B (.slice (some ⟨gg, 0, none⟩) (A.length + 1) c1) (A ++ [x]) ∧ Below B W0 WA := by
  refine ⟨?_, ?_⟩
  · show WA.ownsRow _ _ _ _ _ _
    rw [List.length_append, cellsQ_append]; exact hr
  · refine hb.trans ?_
    have h1 : Only (fun k => v.ownBlock = some k) wr WA := (⟨hY.os, hY.tape, hY.output, hY.size, fun k hk _ => hY.block k hk⟩ : Only (fun k => v.ownBlock = some k) wr Y).trans (Only.grown hg fun k hk => hk)
    refine h1.below hB fun k hk => ?_
    rcases h.2 with ⟨rfl, _⟩ | ⟨g, cap', cur, rfl, hbb, _⟩
    · cases hk
    · obtain rfl : g = k := by simpa [Value.ownBlock] using hk
      exact hbb
def mapS (rs : List Rn) (l : List Sp2) : List Sp2 := l.map fun s => spanP rs s.1 s.2
theorem mapS_take (rs : List Rn) (l : List Sp2) {k : Nat} (hk : k < l.length) : mapS rs (l.take (k + 1)) = mapS rs (l.take k) ++ [spanP rs (l.getD k sp0).1 (l.getD k sp0).2] := by
  unfold mapS
  rw [List.take_succ_eq_append_getElem hk, List.map_append]
  simp [List.getD, hk]
theorem moved_all (rs : List Rn) (l : List Sp2) (h : allB rs l = true) : movedL rs l = mapS rs l := by rw [movedL, if_pos h]; rfl
theorem moved_none (rs : List Rn) (l : List Sp2) (h : allB rs l = false) : movedL rs l = [] := by rw [movedL, if_neg (by rw [h]; simp)]

theorem CameL.mono {n₀ n₁ : Nat} {W : World} {a : Option Addr} {ls : List Ln} (h : CameL n₀ W a ls) (hn : n₀ ≤ n₁) : CameL n₁ W a ls := h.imp id fun ⟨b, off, e, hl, hc⟩ => ⟨b, off, e, Nat.lt_of_lt_of_le hl hn, fun i x hx => ⟨(hc i x hx).1, (hc i x hx).2.mono hn⟩⟩

set_option maxRecDepth 20000 in
set_option maxHeartbeats 8000000 in
theorem many_any (a a' b' : Option Addr) (cap cap' cap2 : Nat) (rs : List Rn) (l : List Sp2) (ls : List Ln) (f t : Int) (w : World) (hS : CameR w.heap.size w a rs) (hQ : CameQ w.heap.size w a' l) (hL : CameL w.heap.size w b' ls) :
    Calls Try.prog 4 #[.slice a rs.length cap, .slice a' l.length cap', .slice b' ls.length cap2, .agg #[.int .i64 f, .int .i64 t]] w fun e W' => e = .returned (.bool true) ∧ Below w.heap.size w W' := by
  obtain ⟨i0, hi, hz0, hz1, hz2⟩ := info_parts (show (Try.prog.info? 24).map (fun i => (i.zero, i.size, i.bytes)) = some (some (.agg #[.int .i64 0, .int .i64 0]), 2, 16) by kernel_rfl)
  have HX := hide (sb_new w f t)
  have HF : Hid (∀ W, SB w f t W → Calls Try.prog 7 #[.slice a rs.length cap] W fun e W' => e = .returned (.bool (fewB rs)) ∧ Below W.heap.size W W') := hide fun W h => few_any a cap rs W ((hS.below h.lo).mono h.lo.size)
  have HLV : Hid (∀ W, Calls Try.prog 8 #[] W fun e W' => e = .returned (.bool true) ∧ Below W.heap.size W W') := hide lives10
  have HC := hide (And.intro hS (And.intro hQ hL))
  clear hS hQ hL
  cases hf : fewB rs with
  | false =>
    rw [hf] at HF
    clear hf
    go_enter Try.func4, Try.ntmps4
    go_wp2_with (first
      | (go_at_call 7; refine (HF.out _ HX.out).mono ?_; rintro e W1 ⟨rfl, hb⟩; have HX1 := hide (HX.out.up hb); clear hb)
      | (go_at_call 8; refine (HLV.out _).mono ?_; rintro e W2 ⟨rfl, hb⟩; have HX2 := hide (HX1.out.up hb); clear hb))
    go_ret
    exact ⟨rfl, HX2.out.lo⟩
  | true =>
    rw [hf] at HF
    have hl : rs.length ≤ 1000000 := by have := few_hl hf; omega
    by_cases h1 : 60 < l.length
    · have h1' : (60 : Int) < (l.length : Int) := by omega
      clear hf h1
      go_enter Try.func4, Try.ntmps4
      go_wp2_with (first
        | (go_at_call 7; refine (HF.out _ HX.out).mono ?_; rintro e W1 ⟨rfl, hb⟩; have HX1 := hide (HX.out.up hb); clear hb)
        | (go_at_call 8; refine (HLV.out _).mono ?_; rintro e W2 ⟨rfl, hb⟩; have HX2 := hide (HX1.out.up hb); clear hb))
      go_ret
      exact ⟨rfl, HX2.out.lo⟩
    · by_cases h2 : 12 < ls.length
      · have h1' : ¬ (60 : Int) < (l.length : Int) := by omega
        have h2' : (12 : Int) < (ls.length : Int) := by omega
        clear hf h1 h2
        go_enter Try.func4, Try.ntmps4
        go_wp2_with (first
          | (go_at_call 7; refine (HF.out _ HX.out).mono ?_; rintro e W1 ⟨rfl, hb⟩; have HX1 := hide (HX.out.up hb); clear hb)
          | (go_at_call 8; refine (HLV.out _).mono ?_; rintro e W2 ⟨rfl, hb⟩; have HX2 := hide (HX1.out.up hb); clear hb))
        go_ret
        exact ⟨rfl, HX2.out.lo⟩
      · have h1' : ¬ (60 : Int) < (l.length : Int) := by omega
        have h2' : ¬ (12 : Int) < (ls.length : Int) := by omega
        have HNN := hide (And.intro h1 h2)
        clear hf h1 h2
        go_enter Try.func4, Try.ntmps4
        go_wp2_with (go_at_call 7; refine (HF.out _ HX.out).mono ?_; rintro e W1 ⟨rfl, hb⟩; have HX1 := hide (HX.out.up hb); clear hb)
        go_loopw [39] (fun s wr => ∃ k : Nat, s = .int .i64 (k : Int) ∧ k ≤ ls.length ∧ Hid ((∀ x ∈ ls.take k, fewB x.2 = true) ∧ SB w f t wr)) (fun s _ => ls.length - (intOf s).toNat)
        case atStart => exact ⟨0, rfl, by omega, hide ⟨fun x hx => by simp at hx, HX1.out⟩⟩
        case round =>
          obtain ⟨k, rfl, hk, HI⟩ := hrel
          by_cases hlt : k < ls.length
          · have hlt' : (k : Int) < (ls.length : Int) := by omega
            obtain ⟨b, off, X, rfl, hX, hcell, hcr⟩ := came_lat (HC.out.2.2.below HI.out.2.lo) hlt
            have hcall := few_any X.1.1 X.1.2 X.2 wr (hcr.mono HI.out.2.lo.size)
            have w1 : IntKind.i64.wrap ((k : Int) + 1) = (k : Int) + 1 := wrap_one (by omega)
            have HTK : Hid (∀ x ∈ ls.take (k + 1), x ∈ ls.take k ∨ x = X) := hide fun x hx => by
              rw [List.take_succ_eq_append_getElem hlt, List.mem_append] at hx
              rcases hx with hx | hx
              · exact .inl hx
              · right
                rw [List.mem_singleton] at hx
                rw [hx]; exact (List.getElem?_eq_some_iff.1 hX).2
            have HLT := hide hlt
            cases hfx : fewB X.2 with
            | true =>
              rw [hfx] at hcall
              have HFX := hide hfx
              clear hcr hX hfx hlt hk
              go_wp2_with (go_at_call 7; refine hcall.mono ?_; rintro e W2 ⟨rfl, hb⟩; have HX2 := hide (HI.out.2.up hb); clear hb hcall)
              go_roundw
              case rel => exact ⟨k + 1, by go_num, HLT.out, hide ⟨fun x hx => by rcases HTK.out x hx with h | h; exact HI.out.1 x h; rw [h]; exact HFX.out, HX2.out⟩⟩
              case measure => simp [intOf]; have := HLT.out; omega
            | false =>
              rw [hfx] at hcall
              clear hcr hX hfx hlt hk HTK
              go_wp2_with (first
                | (go_at_call 7; refine hcall.mono ?_; rintro e W2 ⟨rfl, hb⟩; have HX2 := hide (HI.out.2.up hb); clear hb hcall)
                | (go_at_call 8; refine (HLV.out _).mono ?_; rintro e W3 ⟨rfl, hb⟩; have HX3 := hide (HX2.out.up hb); clear hb))
              go_ret
              exact ⟨rfl, HX3.out.lo⟩
          · obtain rfl : k = ls.length := by omega
            have hlt' : ¬ (ls.length : Int) < (ls.length : Int) := by omega
            have HALL : Hid (∀ x ∈ ls, x.2.length ≤ 1000000) := hide fun x hx => by have := few_hl (HI.out.1 x (by rw [List.take_length]; exact hx)); omega
            have hsp := spans_any a a' cap cap' rs l wr ((HC.out.1.below HI.out.2.lo).mono HI.out.2.lo.size) ((HC.out.2.1.below HI.out.2.lo).mono HI.out.2.lo.size) hl (by have := HNN.out.1; omega)
            clear hlt hk
            go_wp2_with (go_at_call 13; refine hsp.mono ?_; rintro e W5 ⟨ga, gc, rfl, hG, hb⟩; have HG5 := hide hG; have HX5 := hide (HI.out.2.up hb); clear hb hG)
            go_loopw [13, 14, 56] (fun s13 s14 s56 wr => ∃ k : Nat, s56 = .int .i64 (k : Int) ∧ k ≤ l.length ∧ s14 = .bool (allB rs (l.take k)) ∧ Hid (OwnQ wr W5.heap.size s13 (mapS rs (l.take k)) ∧ Below W5.heap.size W5 wr)) (fun _ _ s _ => l.length - (intOf s).toNat)
            case atStart => exact ⟨0, rfl, by omega, by rw [List.take_zero]; rfl, hide ⟨⟨rfl, .inl ⟨rfl, rfl⟩⟩, Below.refl _ _⟩⟩
            case round =>
              obtain ⟨k, rfl, hk, rfl, HJ⟩ := hrel
              obtain ⟨M, hM⟩ : ∃ M, M = mapS rs (l.take k) := ⟨_, rfl⟩
              rw [← hM] at HJ
              have HML : Hid (M.length ≤ 1000) := hide (by rw [hM, mapS, List.length_map, List.length_take]; have := HNN.out.1; omega)
              have hSBr := HX5.out.up HJ.out.2
              have HSB := hide hSBr
              by_cases hlt : k < l.length
              · have hlt' : (k : Int) < (l.length : Int) := by omega
                obtain ⟨ua, uc, rfl⟩ := HJ.out.1.forms
                obtain ⟨b, off, rfl, c0, c1⟩ := (HC.out.2.1.below hSBr.lo).at hlt
                have HMT := hide (mapS_take rs l hlt)
                have HAT := hide (allB_take rs l hlt)
                generalize (l.getD k sp0).1 = x at *
                generalize (l.getD k sp0).2 = y at *
                have hal : Below wr.heap.size wr (wr.alloc (.cells #[.int .i64 x, .int .i64 y] 24)) := (Below.refl _ wr).alloc (Nat.le_refl _) _
                have hcall := rspan_any a cap rs x y (wr.alloc (.cells #[.int .i64 x, .int .i64 y] 24)) (came_up ((HC.out.1.below hSBr.lo).mono hSBr.lo.size) hal) hl
                obtain ⟨r1, hr1⟩ : ∃ r1, r1 = (spanP rs x y).1 := ⟨_, rfl⟩
                obtain ⟨r2, hr2⟩ : ∃ r2, r2 = (spanP rs x y).2 := ⟨_, rfl⟩
                obtain ⟨ok, hok⟩ : ∃ ok, ok = spanB rs x y := ⟨_, rfl⟩
                have hVV : spanV rs x y = .tuple #[.agg #[.int .i64 r1, .int .i64 r2], .bool ok] := by rw [hr1, hr2, hok]; rfl
                have HPR : Hid (mapS rs (l.take (k + 1)) = M ++ [(r1, r2)] ∧ allB rs (l.take (k + 1)) = (allB rs (l.take k) && ok)) := hide ⟨by rw [HMT.out, hM, hr1, hr2], by rw [HAT.out, hok]⟩
                rw [hVV] at hcall
                have w1 : IntKind.i64.wrap ((k : Int) + 1) = (k : Int) + 1 := wrap_one (by omega)
                have HAL := hide hal
                have HLT := hide hlt
                clear hM hSBr hal hr1 hr2 hok hVV hlt hk HMT HAT
                cases hbk : allB rs (l.take k) with
                | true =>
                  rw [hbk] at HPR
                  clear hbk
                  go_wp2_with (first
                | (go_at_call 12; refine hcall.mono ?_; rintro e W6 ⟨rfl, hb⟩; have hB6 : Below wr.heap.size wr ((W6.alloc (.cells #[.int .i64 r1, .int .i64 r2] 24)).alloc (.cells #[.int .i64 r1, .int .i64 r2] 24)) := (((HAL.out.trans (hb.mono HAL.out.size)).alloc (HAL.out.trans (hb.mono HAL.out.size)).size _).alloc (Nat.le_trans (HAL.out.trans (hb.mono HAL.out.size)).size (by simp)) _); have ho6 := HJ.out.1.below hB6; have hnews : ∀ i u, [Value.int .i64 r1, Value.int .i64 r2][i]? = some u → ((W6.alloc (.cells #[.int .i64 r1, .int .i64 r2] 24)).alloc (.cells #[.int .i64 r1, .int .i64 r2] 24)).cell? ((⟨W6.heap.size + 1, 0, none⟩ : Addr).add i) = some u := (fun i u hu => by have h := World.news_of_block (cs := #[.int .i64 r1, .int .i64 r2]) (World.alloc_heap_new (W6.alloc (.cells #[.int .i64 r1, .int .i64 r2] 24)) (.cells #[.int .i64 r1, .int .i64 r2] 24)) i u hu; rw [World.size_alloc] at h; exact h); have HO6 := hide (And.intro ho6 (And.intro hnews (And.intro hB6 (Nat.le_trans HJ.out.2.size hB6.size)))); clear hb hcall hB6 ho6 hnews)
                | (at_builtin; refine wpList_append_lies _ rfl (.tmp 70) (.tmp 72) 32 rfl W5.heap.size 24 i0 (.agg #[.int .i64 0, .int .i64 0]) 2 16 Try.underlying32 hi hz0 hz1 hz2 rfl (by decide) (.slice ua M.length uc) M.length (cellsQ M) rfl HO6.out.1 ⟨W6.heap.size + 1, 0, none⟩ 1 1 [.int .i64 r1, .int .i64 r2] rfl rfl HO6.out.2.1 (cellsQ_one [(r1, r2)]) (by decide) (by have := HML.out; unfold maxLen; omega) (by have := HML.out; omega) HO6.out.2.2.2 _ rfl ?_; intro gg c1 WA hr hgr hat hltA; have HQ7 := hide (ownQ_more (x := (r1, r2)) HJ.out.1 HJ.out.2.size HO6.out.2.2.1 HJ.out.2 hr hgr); clear hr hgr hat hltA))
                  go_roundw
                  case rel => exact ⟨k + 1, by go_num, HLT.out, by rw [HPR.out.2]; rfl, hide ⟨by rw [HPR.out.1]; exact HQ7.out.1, HQ7.out.2⟩⟩
                  case measure => simp [intOf]; have := HLT.out; omega
                | false =>
                  rw [hbk] at HPR
                  clear hbk
                  go_wp2_with (first
                | (go_at_call 12; refine hcall.mono ?_; rintro e W6 ⟨rfl, hb⟩; have hB6 : Below wr.heap.size wr ((W6.alloc (.cells #[.int .i64 r1, .int .i64 r2] 24)).alloc (.cells #[.int .i64 r1, .int .i64 r2] 24)) := (((HAL.out.trans (hb.mono HAL.out.size)).alloc (HAL.out.trans (hb.mono HAL.out.size)).size _).alloc (Nat.le_trans (HAL.out.trans (hb.mono HAL.out.size)).size (by simp)) _); have ho6 := HJ.out.1.below hB6; have hnews : ∀ i u, [Value.int .i64 r1, Value.int .i64 r2][i]? = some u → ((W6.alloc (.cells #[.int .i64 r1, .int .i64 r2] 24)).alloc (.cells #[.int .i64 r1, .int .i64 r2] 24)).cell? ((⟨W6.heap.size + 1, 0, none⟩ : Addr).add i) = some u := (fun i u hu => by have h := World.news_of_block (cs := #[.int .i64 r1, .int .i64 r2]) (World.alloc_heap_new (W6.alloc (.cells #[.int .i64 r1, .int .i64 r2] 24)) (.cells #[.int .i64 r1, .int .i64 r2] 24)) i u hu; rw [World.size_alloc] at h; exact h); have HO6 := hide (And.intro ho6 (And.intro hnews (And.intro hB6 (Nat.le_trans HJ.out.2.size hB6.size)))); clear hb hcall hB6 ho6 hnews)
                | (at_builtin; refine wpList_append_lies _ rfl (.tmp 70) (.tmp 72) 32 rfl W5.heap.size 24 i0 (.agg #[.int .i64 0, .int .i64 0]) 2 16 Try.underlying32 hi hz0 hz1 hz2 rfl (by decide) (.slice ua M.length uc) M.length (cellsQ M) rfl HO6.out.1 ⟨W6.heap.size + 1, 0, none⟩ 1 1 [.int .i64 r1, .int .i64 r2] rfl rfl HO6.out.2.1 (cellsQ_one [(r1, r2)]) (by decide) (by have := HML.out; unfold maxLen; omega) (by have := HML.out; omega) HO6.out.2.2.2 _ rfl ?_; intro gg c1 WA hr hgr hat hltA; have HQ7 := hide (ownQ_more (x := (r1, r2)) HJ.out.1 HJ.out.2.size HO6.out.2.2.1 HJ.out.2 hr hgr); clear hr hgr hat hltA))
                  go_roundw
                  case rel => exact ⟨k + 1, by go_num, HLT.out, by rw [HPR.out.2]; rfl, hide ⟨by rw [HPR.out.1]; exact HQ7.out.1, HQ7.out.2⟩⟩
                  case measure => simp [intOf]; have := HLT.out; omega
              · obtain rfl : k = l.length := by omega
                have hlt' : ¬ (l.length : Int) < (l.length : Int) := by omega
                rw [List.take_length] at hM
                have hbl : allB rs (l.take l.length) = allB rs l := by rw [List.take_length]
                rw [hbl]
                have hLS : ls.length ≤ 1000000 := by have := HNN.out.2; omega
                obtain ⟨o1, ho1⟩ : ∃ o1, o1 = (overF ls (f, t)).1.1 := ⟨_, rfl⟩
                obtain ⟨o2, ho2⟩ : ∃ o2, o2 = (overF ls (f, t)).1.2 := ⟨_, rfl⟩
                obtain ⟨ob, hob⟩ : ∃ ob, ob = (overF ls (f, t)).2 := ⟨_, rfl⟩
                have hVV : overV ls (f, t) = .tuple #[.agg #[.int .i64 o1, .int .i64 o2], .bool ob] := by rw [ho1, ho2, hob]; rfl
                have HO : Hid (∀ W, Below wr.heap.size wr W → Calls Try.prog 14 #[.slice b' ls.length cap2, .agg #[.int .i64 f, .int .i64 t]] W fun e W' => e = .returned (.tuple #[.agg #[.int .i64 o1, .int .i64 o2], .bool ob]) ∧ Below W.heap.size W W') := hide fun W h => by rw [← hVV]; exact over_any b' cap2 ls f t W (have h2 := hSBr.lo.trans (h.mono hSBr.lo.size); (HC.out.2.2.below h2).mono h2.size) hLS HALL.out
                have HRO : Hid (∀ W, Below wr.heap.size wr W → Calls Try.prog 15 #[.slice b' ls.length cap2, .agg #[.int .i64 f, .int .i64 t]] W fun e W' => e = .returned (.tuple #[.agg #[.int .i64 o1, .int .i64 o2], .bool ob]) ∧ Below W.heap.size W W') := hide fun W h => by rw [← hVV]; exact rover_any b' cap2 ls f t W (have h2 := hSBr.lo.trans (h.mono hSBr.lo.size); (HC.out.2.2.below h2).mono h2.size) hLS HALL.out
                have HX0 : Hid (wr.heap[w.heap.size]? = some (.cells #[.int .i64 f, .int .i64 t] 24 (0, 0))) := hide hSBr.2
                have HB0 := hide (Below.refl wr.heap.size wr)
                have HGr : Hid (CameQ wr.heap.size wr ga (movedL rs l)) := hide ((HG5.out.below HJ.out.2).mono HJ.out.2.size)
                have q1 := eq24 o1 o2 o1 o2
                rw [beq_self_eq_true, beq_self_eq_true] at q1
                clear hVV ho1 ho2 hob hSBr hbl hsp
                obtain ⟨ua, uc, rfl⟩ := HJ.out.1.forms
                have HUr : Hid (CameQ wr.heap.size wr ua M) := hide HJ.out.1.came
                cases hbk : allB rs l with
                | true =>
                  rw [moved_all rs l hbk, ← hM] at HGr
                  rw [moved_all rs l hbk, ← hM]
                  have HSM : Hid (∀ W, Below wr.heap.size wr W → Calls Try.prog 16 #[.slice ga M.length gc, .slice ua M.length uc] W fun e W' => e = .returned (.bool true) ∧ Below W.heap.size W W') := hide fun W h => rsame10 ga ua gc uc M W ((HGr.out.below h).mono h.size) ((HUr.out.below h).mono h.size) (by have := HML.out; omega)
                  clear hM hbk hlt hk
                  have hm : Try.prog.eqGuardType Try.prog.depth 24 = false := by kernel_rfl
                  obtain ⟨c0, c1⟩ := box2_cells HX0.out
                  go_wp2_with (first
                    | (go_at_call 14; refine (HO.out _ HB0.out).mono ?_; rintro e W7 ⟨rfl, hb⟩; have hx7 := (Below.heap_alloc W7 (.cells #[.int .i64 o1, .int .i64 o2] 24) _ (lt_of_heap (box2_up HX0.out hb))).trans (box2_up HX0.out hb); obtain ⟨d0, d1⟩ := box2_cells hx7; have HY7 := hide (World.alloc_heap_new W7 (.cells #[.int .i64 o1, .int .i64 o2] 24)); have HB7 := hide ((HB0.out.trans (hb.mono HB0.out.size)).alloc (HB0.out.trans (hb.mono HB0.out.size)).size (.cells #[.int .i64 o1, .int .i64 o2] 24)); clear hb hx7)
                    | (go_at_call 15; refine (HRO.out _ HB7.out).mono ?_; rintro e W8 ⟨rfl, hb⟩; have HY8 := hide ((Below.heap_alloc W8 (.cells #[.int .i64 o1, .int .i64 o2] 24) _ (lt_of_heap (box2_up HY7.out hb))).trans (box2_up HY7.out hb)); have HZ8 := hide (World.alloc_heap_new W8 (.cells #[.int .i64 o1, .int .i64 o2] 24)); have HB8 := hide ((HB7.out.trans (hb.mono HB7.out.size)).alloc (HB7.out.trans (hb.mono HB7.out.size)).size (.cells #[.int .i64 o1, .int .i64 o2] 24)); clear hb)
                    | (go_at_call 16; refine (HSM.out _ HB8.out).mono ?_; rintro e W9 ⟨rfl, hb⟩; obtain ⟨e0, e1⟩ := box2_cells (box2_up HY8.out hb); obtain ⟨f0, f1⟩ := box2_cells (box2_up HZ8.out hb); have HB9 := hide (HB8.out.trans (hb.mono HB8.out.size)); clear hb)
                    | (go_at_call 8; refine (HLV.out _).mono ?_; rintro e W10 ⟨rfl, hb⟩; have HB10 := hide (HB9.out.trans (hb.mono HB9.out.size)); clear hb))
                  go_ret
                  exact ⟨rfl, HSB.out.lo.trans (HB10.out.mono HSB.out.lo.size)⟩
                | false =>
                  rw [moved_none rs l hbk] at HGr
                  rw [moved_none rs l hbk]
                  have HSM : Hid (∀ W, Below wr.heap.size wr W → Calls Try.prog 16 #[.slice ga 0 gc, .slice none 0 0] W fun e W' => e = .returned (.bool true) ∧ Below W.heap.size W W') := hide fun W h => rsame10 ga none gc 0 [] W ((HGr.out.below h).mono h.size) (.inl rfl) (by simp)
                  rw [List.length_nil]
                  clear hM hbk hlt hk
                  have hm : Try.prog.eqGuardType Try.prog.depth 24 = false := by kernel_rfl
                  obtain ⟨c0, c1⟩ := box2_cells HX0.out
                  go_wp2_with (first
                    | (go_at_call 14; refine (HO.out _ HB0.out).mono ?_; rintro e W7 ⟨rfl, hb⟩; have hx7 := (Below.heap_alloc W7 (.cells #[.int .i64 o1, .int .i64 o2] 24) _ (lt_of_heap (box2_up HX0.out hb))).trans (box2_up HX0.out hb); obtain ⟨d0, d1⟩ := box2_cells hx7; have HY7 := hide (World.alloc_heap_new W7 (.cells #[.int .i64 o1, .int .i64 o2] 24)); have HB7 := hide ((HB0.out.trans (hb.mono HB0.out.size)).alloc (HB0.out.trans (hb.mono HB0.out.size)).size (.cells #[.int .i64 o1, .int .i64 o2] 24)); clear hb hx7)
                    | (go_at_call 15; refine (HRO.out _ HB7.out).mono ?_; rintro e W8 ⟨rfl, hb⟩; have HY8 := hide ((Below.heap_alloc W8 (.cells #[.int .i64 o1, .int .i64 o2] 24) _ (lt_of_heap (box2_up HY7.out hb))).trans (box2_up HY7.out hb)); have HZ8 := hide (World.alloc_heap_new W8 (.cells #[.int .i64 o1, .int .i64 o2] 24)); have HB8 := hide ((HB7.out.trans (hb.mono HB7.out.size)).alloc (HB7.out.trans (hb.mono HB7.out.size)).size (.cells #[.int .i64 o1, .int .i64 o2] 24)); clear hb)
                    | (go_at_call 16; refine (HSM.out _ HB8.out).mono ?_; rintro e W9 ⟨rfl, hb⟩; obtain ⟨e0, e1⟩ := box2_cells (box2_up HY8.out hb); obtain ⟨f0, f1⟩ := box2_cells (box2_up HZ8.out hb); have HB9 := hide (HB8.out.trans (hb.mono HB8.out.size)); clear hb)
                    | (go_at_call 8; refine (HLV.out _).mono ?_; rintro e W10 ⟨rfl, hb⟩; have HB10 := hide (HB9.out.trans (hb.mono HB9.out.size)); clear hb))
                  go_ret
                  exact ⟨rfl, HSB.out.lo.trans (HB10.out.mono HSB.out.lo.size)⟩

end Go.Proofs.Ytecmiphmefbpnaa.E
