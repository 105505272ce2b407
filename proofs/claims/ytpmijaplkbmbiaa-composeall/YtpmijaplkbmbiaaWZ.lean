/- compose's law ComposeAll. -/
import Derived.Test.YtpmijaplkbmbiaaWY
namespace Go.Proofs.Ytpmijaplkbmbiaa.E
open Go.Proofs.Ytpmijaplkbmbiaa Go.RowKit Go.By Go.Shelf
set_option linter.unusedVariables false
set_option linter.unusedSimpArgs false

set_option maxRecDepth 100000 in
set_option maxHeartbeats 4000000 in
theorem rall_any (n : Int) (a : Option Addr) (cap : Nat) (ls : List Ln) (w : World) (hS : CameL w.heap.size w a ls) (hcp : ∀ x ∈ ls, x.2.length ≤ x.1.2) (hfw : ∀ x ∈ ls, fewR x.2 = true) (hn : n ≤ 3000 ∨ 16777216 < n) (hl : ls.length ≤ 20) :
    Calls Try.prog 85 #[.int .i64 n, .slice a ls.length cap] w fun e W' => Gives2 w.heap.size w (allR n ls).1 (allR n ls).2 e W' := by
  have HS := hide hS
  have HX := hide (And.intro hcp hfw)
  clear hS hcp hfw
  go_enter Try.func85, Try.ntmps85
  by_cases h0 : n < 0
  · have HA : Hid (allR n ls = ([], 2)) := hide (by rw [allR, if_pos (.inl h0)])
    go_wp2
    go_ret2
    rw [HA.out]
    exact ⟨none, 0, rfl, .inl rfl, Below.refl _ _⟩
  by_cases h2 : 16777216 < n
  · have HA : Hid (allR n ls = ([], 2)) := hide (by rw [allR, if_pos (.inr h2)])
    go_wp2
    go_ret2
    rw [HA.out]
    exact ⟨none, 0, rfl, .inl rfl, Below.refl _ _⟩
  have HA : Hid (allR n ls = allGo (nothR n) ls) := hide (by rw [allR, if_neg (by omega)])
  have HOK := hide (okA_noth h0 (by omega))
  clear hn
  go_wp2_with (go_at_call 68; (with_reducible refine (rnothing_any n w).mono ?_); rintro e W1 ⟨a1, c1, rfl, hc, hb⟩; have HC1 := hide hc; have HB1 := hide hb; clear hc hb)
  go_loopw [6, 7] (fun u i wr => ∃ (k : Nat) (acc : List Rn) (ua : Option Addr) (uc : Nat), k ≤ ls.length ∧ i = .int .i64 (k : Int) ∧ u = .slice ua acc.length uc ∧ Hid (CameR wr.heap.size wr ua acc ∧ Below w.heap.size w wr ∧ OkA acc ∧ allGo (nothR n) ls = allGo acc (ls.drop k))) (fun _ i _ => ls.length - (intOf i).toNat)
  case atStart => exact ⟨0, nothR n, a1, c1, Nat.zero_le _, rfl, rfl, hide ⟨HC1.out, HB1.out, HOK.out, rfl⟩⟩
  case round =>
    obtain ⟨k, acc, ua, uc, hk, rfl, rfl, HI⟩ := hrel
    by_cases hlt : k < ls.length
    · have hlt' : (k : Int) < (ls.length : Int) := by omega
      obtain ⟨x, hxk⟩ : ∃ x, ls[k]? = some x := ⟨ls[k], List.getElem?_eq_getElem hlt⟩
      obtain ⟨b, off, rfl, hbl, hcell⟩ : ∃ b off, a = some ⟨b, off, none⟩ ∧ b < w.heap.size ∧ ∀ i x, ls[i]? = some x → wr.cell? ⟨b, off + i, none⟩ = some (.slice x.1.1 x.2.length x.1.2) ∧ CameR w.heap.size wr x.1.1 x.2 := by
        rcases HS.out.below HI.out.2.1 with rfl | h
        · simp at hlt
        · exact h
      obtain ⟨s0, hr⟩ := hcell k x hxk
      have hfx := HX.out.2 x (List.mem_of_getElem? hxk)
      have hcx := HX.out.1 x (List.mem_of_getElem? hxk)
      have htw := rtwo_any ua x.1.1 uc x.1.2 acc x.2 wr HI.out.1 (hr.mono HI.out.2.1.size) HI.out.2.2.1.2.2.2 (by have := (fewR_light hfx).2.1; omega) (fun h => okA_len HI.out.2.2.1 hfx h)
      have w6 : IntKind.i64.wrap ((k : Int) + 1) = (k : Int) + 1 := by rw [IntKind.wrap_i64]; omega
      have HNX : Hid (twoE acc x.2 = 0 → OkA (twoO acc x.2) ∧ allGo (nothR n) ls = allGo (twoO acc x.2) (ls.drop (k + 1))) := hide fun he => ⟨okA_next HI.out.2.2.1 hfx he, HI.out.2.2.2.trans (all_yes hxk he)⟩
      have HNO : Hid (¬ twoE acc x.2 = 0 → allGo (nothR n) ls = ([], twoE acc x.2)) := hide fun he => HI.out.2.2.2.trans (all_no hxk he)
      have HLT := hide hlt
      have HBW := hide HI.out.2.1
      obtain ⟨⟨xa, xc⟩, xr⟩ := x
      dsimp only at s0 htw HNX HNO
      have HTW := hide htw
      clear hcell hr hxk hfx hcx htw HI hlt
      generalize twoE acc xr = z at *
      generalize twoO acc xr = acc' at *
      by_cases hz : z = 0
      · obtain ⟨o1, o2⟩ := HNX.out hz
        have HO := hide (And.intro o1 o2)
        subst hz
        clear o1 o2
        go_wp2_with (go_at_call 83; (with_reducible refine HTW.out.mono ?_); rintro e W2 ⟨a2, c2, rfl, hc, hb⟩; have HC2 := hide hc; have HB2 := hide (HBW.out.trans (hb.mono HBW.out.size)); clear hc hb)
        go_roundw
        case rel => exact ⟨k + 1, acc', a2, c2, by have := HLT.out; omega, by go_num, rfl, hide ⟨HC2.out, HB2.out, HO.out.1, HO.out.2⟩⟩
        case measure => simp [intOf]; have := HLT.out; omega
      · have HO := hide (HNO.out hz)
        go_wp2_with (go_at_call 83; (with_reducible refine HTW.out.mono ?_); rintro e W2 ⟨a2, c2, rfl, hc, hb⟩; have HB2 := hide (HBW.out.trans (hb.mono HBW.out.size)); clear hc hb)
        go_ret2
        rw [HA.out, HO.out]
        exact ⟨none, 0, rfl, .inl rfl, HB2.out⟩
    · obtain rfl : k = ls.length := by omega
      have HE := hide (HI.out.2.2.2.trans (by rw [List.drop_length]; rfl : allGo acc (ls.drop ls.length) = (acc, 0)))
      go_wp2
      go_ret2
      rw [HA.out, HE.out]
      exact ⟨ua, uc, rfl, HI.out.1, HI.out.2.1⟩

theorem CameL.mono {n₀ n₁ : Nat} {W : World} {a : Option Addr} {ls : List Ln} (h : CameL n₀ W a ls) (hn : n₀ ≤ n₁) : CameL n₁ W a ls := by
  rcases h with h | ⟨b, off, e, hl, hc⟩
  · exact .inl h
  · exact .inr ⟨b, off, e, Nat.lt_of_lt_of_le hl hn, fun i x hx => ⟨(hc i x hx).1, (hc i x hx).2.mono hn⟩⟩
theorem allGo_len (ls : List Ln) : ∀ acc : List Rn, OkA acc → (∀ x ∈ ls, fewR x.2 = true) → (allGo acc ls).1.length ≤ 100000 := by
  induction ls with
  | nil => intro acc h _; exact h.2.2.2
  | cons x xs ih =>
    intro acc h hf
    rw [allGo]
    by_cases he : twoE acc x.2 = 0
    · rw [if_pos he]
      exact ih _ (okA_next h (hf x List.mem_cons_self) he) fun y hy => hf y (List.mem_cons_of_mem _ hy)
    · rw [if_neg he]; exact Nat.zero_le _
theorem allR_len {n : Int} {ls : List Ln} (hn : n ≤ 3000 ∨ 16777216 < n) (hf : ∀ x ∈ ls, fewR x.2 = true) : (allR n ls).1.length ≤ 100000 := by
  unfold allR
  by_cases h : n < 0 ∨ 16777216 < n
  · rw [if_pos h]; exact Nat.zero_le _
  · rw [if_neg h]; exact allGo_len ls _ (okA_noth (by omega) (by omega)) hf

set_option maxRecDepth 100000 in
set_option maxHeartbeats 4000000 in
theorem all8_any (n : Int) (a : Option Addr) (cap : Nat) (ls : List Ln) (w : World) (hS : CameL w.heap.size w a ls) (hcp : ∀ x ∈ ls, x.2.length ≤ x.1.2) :
    Calls Try.prog 20 #[.int .i64 n, .slice a ls.length cap] w fun e W' => e = .returned (.bool true) ∧ Below w.heap.size w W' := by
  have HS := hide hS
  have HX := hide hcp
  clear hS hcp
  go_enter Try.func20, Try.ntmps20
  by_cases hn : 3000 < n ∧ n ≤ 16777216
  · obtain ⟨h1, h2⟩ := hn
    go_wp2_with (go_at_call 81; (with_reducible refine (lives8_any w).mono ?_); rintro e W1 ⟨rfl, hb⟩; have HB := hide hb; clear hb)
    go_ret
    exact ⟨rfl, HB.out⟩
  have hn' : n ≤ 3000 ∨ 16777216 < n := by omega
  have HN := hide hn'
  by_cases hl : (20 : Int) < (ls.length : Int)
  · rcases hn' with h1 | h1
    · have h1' : ¬ 3000 < n := by omega
      clear hn h1
      go_wp2_with (go_at_call 81; (with_reducible refine (lives8_any w).mono ?_); rintro e W1 ⟨rfl, hb⟩; have HB := hide hb; clear hb)
      go_ret
      exact ⟨rfl, HB.out⟩
    · have h1' : 3000 < n := by omega
      have h2' : ¬ n ≤ 16777216 := by omega
      clear hn h1
      go_wp2_with (go_at_call 81; (with_reducible refine (lives8_any w).mono ?_); rintro e W1 ⟨rfl, hb⟩; have HB := hide hb; clear hb)
      go_ret
      exact ⟨rfl, HB.out⟩
  have HL : Hid (ls.length ≤ 20) := hide (by omega)
  have hfin : ∀ wr, Below w.heap.size w wr → (∀ x ∈ ls, fewR x.2 = true) → ∃ O z, O.length ≤ 1000000 ∧ (Calls Try.prog 84 #[.int .i64 n, .slice a ls.length cap] wr fun e W' => Gives2 wr.heap.size wr O z e W') ∧ ∀ W, Below w.heap.size w W → Calls Try.prog 85 #[.int .i64 n, .slice a ls.length cap] W fun e W' => Gives2 W.heap.size W O z e W' := fun wr hb hf =>
    ⟨(allR n ls).1, (allR n ls).2, Nat.le_trans (allR_len HN.out hf) (by omega), all_any n a cap ls wr ((HS.out.below hb).mono hb.size) HX.out hf HN.out HL.out, fun W hW => rall_any n a cap ls W ((HS.out.below hW).mono hW.size) HX.out hf HN.out HL.out⟩
  have HFIN := hide hfin
  clear hfin
  rcases hn' with h1 | h1
  · have h1' : ¬ 3000 < n := by omega
    clear hn h1
    go_wp2_with fail
    go_loopw [25] (fun i wr => ∃ (k : Nat), k ≤ ls.length ∧ i = .int .i64 (k : Int) ∧ Hid ((∀ y ∈ ls.take k, fewR y.2 = true) ∧ Below w.heap.size w wr)) (fun i _ => ls.length - (intOf i).toNat)
    case atStart => exact ⟨0, Nat.zero_le _, rfl, hide ⟨by simp, Below.refl _ _⟩⟩
    case round =>
      obtain ⟨k, hk, rfl, HI⟩ := hrel
      by_cases hlt : k < ls.length
      · have hlt' : (k : Int) < (ls.length : Int) := by omega
        obtain ⟨y, hyk⟩ : ∃ y, ls[k]? = some y := ⟨ls[k], List.getElem?_eq_getElem hlt⟩
        obtain ⟨b, off, rfl, hbl, hcell⟩ : ∃ b off, a = some ⟨b, off, none⟩ ∧ b < w.heap.size ∧ ∀ i x, ls[i]? = some x → wr.cell? ⟨b, off + i, none⟩ = some (.slice x.1.1 x.2.length x.1.2) ∧ CameR w.heap.size wr x.1.1 x.2 := by
          rcases HS.out.below HI.out.2 with rfl | h
          · simp at hlt
          · exact h
        obtain ⟨s0, hr⟩ := hcell k y hyk
        have hsn : ls.take (k + 1) = ls.take k ++ [y] := by rw [List.take_succ_eq_append_getElem hlt, (List.getElem?_eq_some_iff.1 hyk).2]
        have hfe := few_any y.1.1 y.1.2 y.2 wr (hr.mono HI.out.2.size)
        have HSN := hide hsn
        have w6 : IntKind.i64.wrap ((k : Int) + 1) = (k : Int) + 1 := by rw [IntKind.wrap_i64]; omega
        have HLT := hide hlt
        obtain ⟨⟨ya, yc⟩, yr⟩ := y
        dsimp only at s0 hfe
        clear hcell hr hyk hsn hlt
        cases hq : fewR yr with
        | true =>
          rw [hq] at hfe
          have HFE := hide hfe
          have HQ := hide hq
          clear hfe hq
          go_wp2_with (go_at_call 80; (with_reducible refine HFE.out.mono ?_); rintro e W1 ⟨rfl, hb⟩; have HB1 := hide (HI.out.2.trans (hb.mono HI.out.2.size)); clear hb)
          go_roundw
          case rel => exact ⟨k + 1, by have := HLT.out; omega, by go_num, hide ⟨fun z hz => (by rw [HSN.out] at hz; rcases List.mem_append.1 hz with hz | hz; exact HI.out.1 z hz; obtain rfl := List.mem_singleton.1 hz; exact HQ.out), HB1.out⟩⟩
          case measure => simp [intOf]; have := HLT.out; omega
        | false =>
          rw [hq] at hfe
          have HFE := hide hfe
          clear hfe hq
          go_wp2_with (go_at_call 80; (with_reducible refine HFE.out.mono ?_); rintro e W1 ⟨rfl, hb⟩; have HB1 := hide (HI.out.2.trans (hb.mono HI.out.2.size)); clear hb)
          go_wp2_with (go_at_call 81; (with_reducible refine (lives8_any W1).mono ?_); rintro e W2 ⟨rfl, hb⟩; have HB2 := hide (HB1.out.trans (hb.mono HB1.out.size)); clear hb)
          go_ret
          exact ⟨rfl, HB2.out⟩
      · obtain rfl : k = ls.length := by omega
        obtain ⟨O, z, hO, hA, hR⟩ := HFIN.out wr HI.out.2 (by have h := HI.out.1; rwa [List.take_length] at h)
        have HO := hide hO
        have HAA := hide hA
        have HRR := hide hR
        clear hO hA hR
        go_wp2_with (go_at_call 84; (with_reducible refine HAA.out.mono ?_); rintro e W1 ⟨a1, c1, rfl, hc, hb⟩; have HC1 := hide hc; have HB1 := hide (HI.out.2.trans (hb.mono HI.out.2.size)); clear hc hb)
        go_wp2_with (go_at_call 85; (with_reducible refine (HRR.out W1 HB1.out).mono ?_); rintro e W2 ⟨a2, c2, rfl, hc, hb⟩; have HC2 := hide hc; have HD2 := hide (came_up HC1.out hb); have HB2 := hide (HB1.out.trans (hb.mono HB1.out.size)); clear hc hb)
        go_wp2_with (go_at_call 59; (with_reducible refine (rsame_is a1 a2 c1 c2 O O W2 HD2.out HC2.out HO.out rfl).mono ?_); rintro e W3 ⟨rfl, hb⟩; have HB3 := hide (HB2.out.trans (hb.mono HB2.out.size)); clear hb)
        go_wp2_with (go_at_call 81; (with_reducible refine (lives8_any W3).mono ?_); rintro e W4 ⟨rfl, hb⟩; have HB4 := hide (HB3.out.trans (hb.mono HB3.out.size)); clear hb)
        go_ret
        exact ⟨rfl, HB4.out⟩
  · have h1' : 3000 < n := by omega
    have h2' : ¬ n ≤ 16777216 := by omega
    clear hn h1
    go_wp2_with fail
    go_loopw [25] (fun i wr => ∃ (k : Nat), k ≤ ls.length ∧ i = .int .i64 (k : Int) ∧ Hid ((∀ y ∈ ls.take k, fewR y.2 = true) ∧ Below w.heap.size w wr)) (fun i _ => ls.length - (intOf i).toNat)
    case atStart => exact ⟨0, Nat.zero_le _, rfl, hide ⟨by simp, Below.refl _ _⟩⟩
    case round =>
      obtain ⟨k, hk, rfl, HI⟩ := hrel
      by_cases hlt : k < ls.length
      · have hlt' : (k : Int) < (ls.length : Int) := by omega
        obtain ⟨y, hyk⟩ : ∃ y, ls[k]? = some y := ⟨ls[k], List.getElem?_eq_getElem hlt⟩
        obtain ⟨b, off, rfl, hbl, hcell⟩ : ∃ b off, a = some ⟨b, off, none⟩ ∧ b < w.heap.size ∧ ∀ i x, ls[i]? = some x → wr.cell? ⟨b, off + i, none⟩ = some (.slice x.1.1 x.2.length x.1.2) ∧ CameR w.heap.size wr x.1.1 x.2 := by
          rcases HS.out.below HI.out.2 with rfl | h
          · simp at hlt
          · exact h
        obtain ⟨s0, hr⟩ := hcell k y hyk
        have hsn : ls.take (k + 1) = ls.take k ++ [y] := by rw [List.take_succ_eq_append_getElem hlt, (List.getElem?_eq_some_iff.1 hyk).2]
        have hfe := few_any y.1.1 y.1.2 y.2 wr (hr.mono HI.out.2.size)
        have HSN := hide hsn
        have w6 : IntKind.i64.wrap ((k : Int) + 1) = (k : Int) + 1 := by rw [IntKind.wrap_i64]; omega
        have HLT := hide hlt
        obtain ⟨⟨ya, yc⟩, yr⟩ := y
        dsimp only at s0 hfe
        clear hcell hr hyk hsn hlt
        cases hq : fewR yr with
        | true =>
          rw [hq] at hfe
          have HFE := hide hfe
          have HQ := hide hq
          clear hfe hq
          go_wp2_with (go_at_call 80; (with_reducible refine HFE.out.mono ?_); rintro e W1 ⟨rfl, hb⟩; have HB1 := hide (HI.out.2.trans (hb.mono HI.out.2.size)); clear hb)
          go_roundw
          case rel => exact ⟨k + 1, by have := HLT.out; omega, by go_num, hide ⟨fun z hz => (by rw [HSN.out] at hz; rcases List.mem_append.1 hz with hz | hz; exact HI.out.1 z hz; obtain rfl := List.mem_singleton.1 hz; exact HQ.out), HB1.out⟩⟩
          case measure => simp [intOf]; have := HLT.out; omega
        | false =>
          rw [hq] at hfe
          have HFE := hide hfe
          clear hfe hq
          go_wp2_with (go_at_call 80; (with_reducible refine HFE.out.mono ?_); rintro e W1 ⟨rfl, hb⟩; have HB1 := hide (HI.out.2.trans (hb.mono HI.out.2.size)); clear hb)
          go_wp2_with (go_at_call 81; (with_reducible refine (lives8_any W1).mono ?_); rintro e W2 ⟨rfl, hb⟩; have HB2 := hide (HB1.out.trans (hb.mono HB1.out.size)); clear hb)
          go_ret
          exact ⟨rfl, HB2.out⟩
      · obtain rfl : k = ls.length := by omega
        obtain ⟨O, z, hO, hA, hR⟩ := HFIN.out wr HI.out.2 (by have h := HI.out.1; rwa [List.take_length] at h)
        have HO := hide hO
        have HAA := hide hA
        have HRR := hide hR
        clear hO hA hR
        go_wp2_with (go_at_call 84; (with_reducible refine HAA.out.mono ?_); rintro e W1 ⟨a1, c1, rfl, hc, hb⟩; have HC1 := hide hc; have HB1 := hide (HI.out.2.trans (hb.mono HI.out.2.size)); clear hc hb)
        go_wp2_with (go_at_call 85; (with_reducible refine (HRR.out W1 HB1.out).mono ?_); rintro e W2 ⟨a2, c2, rfl, hc, hb⟩; have HC2 := hide hc; have HD2 := hide (came_up HC1.out hb); have HB2 := hide (HB1.out.trans (hb.mono HB1.out.size)); clear hc hb)
        go_wp2_with (go_at_call 59; (with_reducible refine (rsame_is a1 a2 c1 c2 O O W2 HD2.out HC2.out HO.out rfl).mono ?_); rintro e W3 ⟨rfl, hb⟩; have HB3 := hide (HB2.out.trans (hb.mono HB2.out.size)); clear hb)
        go_wp2_with (go_at_call 81; (with_reducible refine (lives8_any W3).mono ?_); rintro e W4 ⟨rfl, hb⟩; have HB4 := hide (HB3.out.trans (hb.mono HB3.out.size)); clear hb)
        go_ret
        exact ⟨rfl, HB4.out⟩

end Go.Proofs.Ytpmijaplkbmbiaa.E
