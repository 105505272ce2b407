/- The edit between two texts makes the second of the first; the examples; RunBetween, walked. -/
import Derived.Test.YtpmijaplkbmbiaaU6
import Derived.Test.YtpmijaplkbmbiaaU3
namespace Go.Proofs.Ytpmijaplkbmbiaa.E
open Go.Proofs.Ytpmijaplkbmbiaa Go.RowKit Go.By Go.Shelf
set_option linter.unusedVariables false
set_option linter.unusedSimpArgs false

/-- Not many runs, not too many bytes: what Norm makes of them. -/
theorem norm_light {rs : List Rn} (h1 : tIn (expand rs) ≤ 16777216) (h2 : tOut (expand rs) ≤ 16777216) (hl : rs.length ≤ 1000) :
    normR rs = normT (expand rs) ∧ fitsR (normR rs) (tIn (expand rs) : Int) = true ∧ mOut (meas (normR rs)) = (tOut (expand rs) : Int) ∧ (normR rs).length ≤ 3 * rs.length + 3 := by
  have hlen := len_normT rs
  have e : normR rs = normT (expand rs) := by rw [normR, if_pos ⟨h1, h2, by omega⟩]
  obtain ⟨j, hj⟩ := meas_normT h1 h2 (by omega)
  refine ⟨e, ?_, by rw [e, hj]; rfl, by rw [e]; exact hlen⟩
  rw [fitsR, isG_normR, Bool.true_and, decide_eq_true_eq, e, hj]; rfl
theorem outB_norm {rs : List Rn} (s : ByteArray) (e : normR rs = normT (expand rs)) : outB s (normR rs) = outB s rs := by
  rw [outB, outB, e, applT, ascan_normT, ← applT]
theorem betS_sums (a b : ByteArray) : tIn (expand (betS a b)) = a.size ∧ tOut (expand (betS a b)) = b.size := by
  rw [betS_eq, tIn_betL, tOut_betL, sz_list, sz_list]; exact ⟨rfl, rfl⟩
theorem outB_bet (a b : ByteArray) : outB a (betS a b) = b := by
  apply ba_eq
  rw [outB, betS_eq, applT_betL]
/-- What Apply makes with the edit between two texts. -/
theorem apply_bet {a b : ByteArray} (ha : a.size ≤ 16777216) (hb : b.size ≤ 16777216) : applyV (betR a b) a = .tuple #[.string b, .int .i64 0] ∧ (betR a b).length ≤ 100 := by
  obtain ⟨s1, s2⟩ := betS_sums a b
  obtain ⟨e, hf, _, hl⟩ := norm_light (rs := betS a b) (by omega) (by omega) (by simp [betS])
  have hr : betR a b = normR (betS a b) := by rw [betR, if_pos (by omega)]
  rw [s1] at hf
  rw [hr]
  refine ⟨?_, by simp only [betS, List.length_cons, List.length_nil] at hl ⊢; omega⟩
  rw [applyV, if_pos hf, outB_norm a e, outB_bet]
theorem idle_bet (a : ByteArray) (ha : a.size ≤ 16777216) : idleB (betR a a) = true := by
  have hr : betR a a = normR (betS a a) := by rw [betR, if_pos (by omega)]
  have he : expand (betS a a) = expand [⟨(a.size : Int), ⟨#[]⟩, 0⟩] := by
    rw [betS_eq, betL_self, expand_one, toks_keep, sz_list, Int.toNat_natCast]
  rw [hr, normR_expand he, norm_noth, idleB]
  have hg : isG (nothR (a.size : Int)) = true := by rw [← norm_noth]; exact isG_normR _
  rw [hg, Bool.true_and, decide_eq_true_eq, nothR]
  split
  · exact .inl rfl
  · rename_i h
    exact .inr ⟨rfl, kind_one (show (0 : Int) < (a.size : Int) by omega) nil_toList rfl⟩

theorem live1 : applyV [⟨1, ⟨#[]⟩, 0⟩, ⟨0, ⟨#[120]⟩, 0⟩, ⟨0, ⟨#[]⟩, 1⟩] ⟨#[97, 98]⟩ = .tuple #[.string ⟨#[97, 120]⟩, .int .i64 0] := by
  have e : ([⟨1, ⟨#[]⟩, 0⟩, ⟨0, ⟨#[120]⟩, 0⟩, ⟨0, ⟨#[]⟩, 1⟩] : List Rn) = normT [.K, .A 120, .D] := rfl
  obtain ⟨j, hj⟩ := meas_normT (ts := [.K, .A 120, .D]) (by decide) (by decide) (by decide)
  have hf : fitsR (normT [.K, .A 120, .D]) 2 = true := by
    rw [fitsR, isG_normT (by decide) (by decide), hj]; rfl
  rw [e, applyV, show ((⟨#[97, 98]⟩ : ByteArray).size : Int) = 2 from rfl, if_pos hf, outB, applT, ascan_normT]
  rfl
theorem live2 : betR ⟨#[97, 98, 99, 100]⟩ ⟨#[97, 98, 88, 100]⟩ = [⟨2, ⟨#[]⟩, 0⟩, ⟨0, ⟨#[88]⟩, 0⟩, ⟨0, ⟨#[]⟩, 1⟩, ⟨1, ⟨#[]⟩, 0⟩] := by
  have e : expand (betS ⟨#[97, 98, 99, 100]⟩ ⟨#[97, 98, 88, 100]⟩) = [.K, .K, .A 88, .D, .K] := by
    rw [betS_eq, expand_betL]; rfl
  rw [betR, if_pos (by decide), normR, e]
  rfl

set_option maxRecDepth 20000 in
set_option maxHeartbeats 4000000 in
theorem lives7_any (w : World) : Calls Try.prog 69 #[] w fun e W' => e = .returned (.bool true) ∧ Below w.heap.size w W' := by
  have hA : Calls Try.prog 70 #[.slice (some ⟨w.heap.size, 0, none⟩) 3 3, .string ⟨#[97, 98]⟩] (w.alloc (.cells #[.int .i64 1, .string ⟨#[]⟩, .int .i64 0, .int .i64 0, .string ⟨#[120]⟩, .int .i64 0, .int .i64 0, .string ⟨#[]⟩, .int .i64 1] 91)) fun e W' => e = .returned (.tuple #[.string ⟨#[97, 120]⟩, .int .i64 0]) ∧ Hid (Below w.heap.size w W') :=
    (apply_any (some ⟨w.heap.size, 0, none⟩) 3 [⟨1, ⟨#[]⟩, 0⟩, ⟨0, ⟨#[120]⟩, 0⟩, ⟨0, ⟨#[]⟩, 1⟩] ⟨#[97, 98]⟩ _ (came_new w _) (by simp)).mono fun e W' ⟨he, hb⟩ =>
      ⟨by rw [he, live1], hide (((Below.refl _ w).alloc (Nat.le_refl _) _).trans (hb.mono (by simp)))⟩
  have hB : ∀ W, Calls Try.prog 76 #[.string ⟨#[97, 98, 99, 100]⟩, .string ⟨#[97, 98, 88, 100]⟩] W fun e W' => ∃ a c, e = .returned (.slice a 4 c) ∧ Hid (CameR W'.heap.size W' a [⟨2, ⟨#[]⟩, 0⟩, ⟨0, ⟨#[88]⟩, 0⟩, ⟨0, ⟨#[]⟩, 1⟩, ⟨1, ⟨#[]⟩, 0⟩]) ∧ Hid (Below W.heap.size W W') := fun W =>
    (between_any _ _ W).mono fun e W' ⟨a, c, he, hc, hb⟩ => by
      rw [live2] at he hc
      exact ⟨a, c, he, hc, hb⟩
  go_enter Try.func69, Try.ntmps69
  go_wp2_with (go_at_call 70; refine hA.mono ?_; rintro e W1 ⟨rfl, HB1⟩)
  go_wp2_with (go_at_call 76; refine (hB W1).mono ?_; rintro e W2 ⟨a2, c2, rfl, HC2, HB2⟩)
  go_wp2_with (go_at_call 59; refine (rsame_is a2 (some ⟨W2.heap.size, 0, none⟩) c2 4 _ [⟨2, ⟨#[]⟩, 0⟩, ⟨0, ⟨#[88]⟩, 0⟩, ⟨0, ⟨#[]⟩, 1⟩, ⟨1, ⟨#[]⟩, 0⟩] _ (up_new HC2.out _) (came_new W2 _) (by simp) rfl).mono ?_; rintro e W3 ⟨rfl, hb3⟩; have HB3 := hide hb3; clear hb3)
  go_ret
  refine ⟨rfl, ?_⟩
  have b2 := HB1.out.trans (HB2.out.mono HB1.out.size)
  have b3 := b2.alloc b2.size (.cells (cellsR [⟨2, ⟨#[]⟩, 0⟩, ⟨0, ⟨#[88]⟩, 0⟩, ⟨0, ⟨#[]⟩, 1⟩, ⟨1, ⟨#[]⟩, 0⟩]).toArray 91)
  exact b3.trans (HB3.out.mono b3.size)

set_option maxRecDepth 100000 in
set_option maxHeartbeats 4000000 in
theorem runbetween_any (a b : ByteArray) (w : World) : Calls Try.prog 17 #[.string a, .string b] w fun e W' => e = .returned (.bool true) ∧ Below w.heap.size w W' := by
  go_enter Try.func17, Try.ntmps17
  by_cases h1 : (2000 : Int) < (a.size : Int)
  · go_wp2_with (go_at_call 69; refine (lives7_any w).mono ?_; rintro e W1 ⟨rfl, hb⟩; have HB := hide hb; clear hb)
    go_ret
    exact ⟨rfl, HB.out⟩
  by_cases h2 : (2000 : Int) < (b.size : Int)
  · go_wp2_with (go_at_call 69; refine (lives7_any w).mono ?_; rintro e W1 ⟨rfl, hb⟩; have HB := hide hb; clear hb)
    go_ret
    exact ⟨rfl, HB.out⟩
  have ha : a.size ≤ 16777216 := by omega
  have hb : b.size ≤ 16777216 := by omega
  obtain ⟨hv, hl⟩ := apply_bet ha hb
  have hi := idle_bet a ha
  have hla := (apply_bet ha ha).2
  have HV := hide hv
  have HI := hide hi
  have HL := hide hl
  have HLA := hide hla
  have HAB := hide (And.intro ha hb)
  clear hv hl hi hla ha hb
  go_wp2_with (go_at_call 76; refine (between_any a b w).mono ?_; rintro e W1 ⟨a1, c1, rfl, hc, hb⟩; have HC1 := hide hc; have HB1 := hide hb; clear hc hb)
  go_wp2_with (go_at_call 70; refine (apply_any a1 c1 _ a W1 HC1.out (by have := HL.out; omega)).mono ?_; rintro e W2 ⟨rfl, hb⟩; rw [HV.out]; have HC2 := hide (came_up HC1.out hb); have HB2 := hide (HB1.out.trans (hb.mono HB1.out.size)); clear hb)
  go_wp2_with (go_at_call 77; refine (rbetween_any a b W2 HAB.out.1 HAB.out.2).mono ?_; rintro e W3 ⟨a3, c3, rfl, hc, hb⟩; have HC3 := hide hc; have HD3 := hide (came_up HC2.out hb); have HB3 := hide (HB2.out.trans (hb.mono HB2.out.size)); clear hc hb)
  go_wp2_with (go_at_call 59; refine (rsame_is a1 a3 c1 c3 _ _ W3 HD3.out HC3.out (by have := HL.out; omega) rfl).mono ?_; rintro e W4 ⟨rfl, hb⟩; have HB4 := hide (HB3.out.trans (hb.mono HB3.out.size)); clear hb)
  go_wp2_with (go_at_call 76; refine (between_any a a W4).mono ?_; rintro e W5 ⟨a5, c5, rfl, hc, hb⟩; have HC5 := hide hc; have HB5 := hide (HB4.out.trans (hb.mono HB4.out.size)); clear hc hb)
  go_wp2_with (go_at_call 57; refine (idle_any a5 c5 _ W5 HC5.out (by have := HLA.out; omega)).mono ?_; rintro e W6 ⟨rfl, hb⟩; rw [HI.out]; have HB6 := hide (HB5.out.trans (hb.mono HB5.out.size)); clear hb)
  go_wp2_with (go_at_call 69; refine (lives7_any W6).mono ?_; rintro e W7 ⟨rfl, hb⟩; have HB7 := hide (HB6.out.trans (hb.mono HB6.out.size)); clear hb)
  go_ret
  exact ⟨rfl, HB7.out⟩

end Go.Proofs.Ytpmijaplkbmbiaa.E
