/- compose's law ComposeApplies. -/
import Derived.Test.YtpmijaplkbmbiaaWP
namespace Go.Proofs.Ytpmijaplkbmbiaa.E
open Go.Proofs.Ytpmijaplkbmbiaa Go.RowKit Go.By Go.Shelf
set_option linter.unusedVariables false
set_option linter.unusedSimpArgs false

theorem fit2_fits {a b : List Rn} (s : ByteArray) (h : fitsR a (s.size : Int) = true) : fit2 a b = fitsR b ((outB s a).size : Int) := by
  obtain ⟨f1, f2, f3, f4, f5, f6⟩ := fits_facts h
  have hs : (outB s a).size = tOut (expand a) := outB_size (by omega)
  rw [fit2, f1, f6, hs, fitsR, Bool.true_and]
  congr 1
  simp only [eq_comm]
/-- What a text is, made by an edit that fits. -/
theorem applyV_fits {a : List Rn} {s : ByteArray} (h : fitsR a (s.size : Int) = true) : applyV a s = .tuple #[.string (outB s a), .int .i64 0] := by rw [applyV, if_pos h]
theorem applyV_not {a : List Rn} {s : ByteArray} (h : fitsR a (s.size : Int) = false) : applyV a s = .tuple #[.string ⟨#[]⟩, .int .i64 60] := by rw [applyV, if_neg (by rw [h]; simp)]

set_option maxRecDepth 100000 in
set_option maxHeartbeats 8000000 in
theorem applies8_any (a b : Option Addr) (cap cap' : Nat) (rs ss : List Rn) (s : ByteArray) (w : World) (hS : CameR w.heap.size w a rs) (hS' : CameR w.heap.size w b ss) (hc : rs.length ≤ cap) (hc' : ss.length ≤ cap') :
    Calls Try.prog 21 #[.slice a rs.length cap, .slice b ss.length cap', .string s] w fun e W' => e = .returned (.bool true) ∧ Below w.heap.size w W' := by
  have L0 := hide hS
  have M0 := hide hS'
  have HC := hide (And.intro hc hc')
  clear hS hS' hc hc'
  go_enter Try.func21, Try.ntmps21
  cases fa : fewR rs with
  | false =>
    have FA := hide fa
    clear fa
    go_wp2_with (go_at_call 80; refine (few_any a cap rs w L0.out).mono ?_; rintro e W1 ⟨rfl, hb⟩; rw [FA.out]; have L1 := hide (came_up L0.out hb); have M1 := hide (came_up M0.out hb); have HB1 := hide hb; clear hb L0 M0)
    go_wp2_with (go_at_call 81; refine (lives8_any W1).mono ?_; rintro e W2 ⟨rfl, hb⟩; have L2 := hide (came_up L1.out hb); have M2 := hide (came_up M1.out hb); have HB2 := hide (HB1.out.trans (hb.mono HB1.out.size)); clear hb L1 M1)
    go_ret
    exact ⟨rfl, HB2.out⟩
  | true =>
    have FA := hide fa
    obtain ⟨la1, la2, la3⟩ := fewR_light fa
    clear fa
    cases fb : fewR ss with
    | false =>
      have FB := hide fb
      clear fb la1 la2 la3
      go_wp2_with (go_at_call 80; refine (few_any a cap rs w L0.out).mono ?_; rintro e W1 ⟨rfl, hb⟩; rw [FA.out]; have L1 := hide (came_up L0.out hb); have M1 := hide (came_up M0.out hb); have HB1 := hide hb; clear hb L0 M0)
      go_wp2_with (go_at_call 80; refine (few_any b cap' ss W1 M1.out).mono ?_; rintro e W2 ⟨rfl, hb⟩; rw [FB.out]; have L2 := hide (came_up L1.out hb); have M2 := hide (came_up M1.out hb); have HB2 := hide (HB1.out.trans (hb.mono HB1.out.size)); clear hb L1 M1)
      go_wp2_with (go_at_call 81; refine (lives8_any W2).mono ?_; rintro e W3 ⟨rfl, hb⟩; have L3 := hide (came_up L2.out hb); have M3 := hide (came_up M2.out hb); have HB3 := hide (HB2.out.trans (hb.mono HB2.out.size)); clear hb L2 M2)
      go_ret
      exact ⟨rfl, HB3.out⟩
    | true =>
      have FB := hide fb
      obtain ⟨lb1, lb2, lb3⟩ := fewR_light fb
      clear fb
      by_cases h2 : (2000 : Int) < (s.size : Int)
      · clear la1 la2 la3 lb1 lb2 lb3
        go_wp2_with (go_at_call 80; refine (few_any a cap rs w L0.out).mono ?_; rintro e W1 ⟨rfl, hb⟩; rw [FA.out]; have L1 := hide (came_up L0.out hb); have M1 := hide (came_up M0.out hb); have HB1 := hide hb; clear hb L0 M0)
        go_wp2_with (go_at_call 80; refine (few_any b cap' ss W1 M1.out).mono ?_; rintro e W2 ⟨rfl, hb⟩; rw [FB.out]; have L2 := hide (came_up L1.out hb); have M2 := hide (came_up M1.out hb); have HB2 := hide (HB1.out.trans (hb.mono HB1.out.size)); clear hb L1 M1)
        go_wp2_with (go_at_call 81; refine (lives8_any W2).mono ?_; rintro e W3 ⟨rfl, hb⟩; have L3 := hide (came_up L2.out hb); have M3 := hide (came_up M2.out hb); have HB3 := hide (HB2.out.trans (hb.mono HB2.out.size)); clear hb L2 M2)
        go_ret
        exact ⟨rfl, HB3.out⟩
      have HLA : Hid (rs.length ≤ 1000000) := hide (by omega)
      have HLB : Hid (ss.length ≤ 1000000) := hide (by omega)
      cases hf : fitsR rs (s.size : Int) with
      | false =>
        have HF := hide hf
        clear hf la1 la2 la3 lb1 lb2 lb3
        go_wp2_with (go_at_call 80; refine (few_any a cap rs w L0.out).mono ?_; rintro e W1 ⟨rfl, hb⟩; rw [FA.out]; have L1 := hide (came_up L0.out hb); have M1 := hide (came_up M0.out hb); have HB1 := hide hb; clear hb L0 M0)
        go_wp2_with (go_at_call 80; refine (few_any b cap' ss W1 M1.out).mono ?_; rintro e W2 ⟨rfl, hb⟩; rw [FB.out]; have L2 := hide (came_up L1.out hb); have M2 := hide (came_up M1.out hb); have HB2 := hide (HB1.out.trans (hb.mono HB1.out.size)); clear hb L1 M1)
        go_wp2_with (go_at_call 75; refine (rfits_any a cap rs s W2 L2.out HLA.out).mono ?_; rintro e W3 ⟨rfl, hb⟩; rw [HF.out]; have L3 := hide (came_up L2.out hb); have M3 := hide (came_up M2.out hb); have HB3 := hide (HB2.out.trans (hb.mono HB2.out.size)); clear hb L2 M2)
        go_wp2_with (go_at_call 81; refine (lives8_any W3).mono ?_; rintro e W4 ⟨rfl, hb⟩; have L4 := hide (came_up L3.out hb); have M4 := hide (came_up M3.out hb); have HB4 := hide (HB3.out.trans (hb.mono HB3.out.size)); clear hb L3 M3)
        go_ret
        exact ⟨rfl, HB4.out⟩
      | true =>
        have HF := hide hf
        have V1 := hide (applyV_fits hf)
        have hfit := fit2_fits (b := ss) s hf
        have hga := (fits_facts hf).1
        cases hg : fitsR ss ((outB s rs).size : Int) with
        | false =>
          rw [hg] at hfit
          have V2 := hide (applyV_not hg)
          have HT : Hid (twoO rs ss = [] ∧ twoE rs ss = 60) := hide (by rw [twoO, twoE, hfit]; exact ⟨rfl, rfl⟩)
          have HTWO : Hid (∀ W, CameR W.heap.size W a rs → CameR W.heap.size W b ss → Calls Try.prog 82 #[.slice a rs.length cap, .slice b ss.length cap'] W fun e W' => Gives2C W.heap.size W [] 60 e W') := hide fun W h h' => by
            have h := two_any a b cap cap' rs ss W h h' HC.out.1 HC.out.2 HLA.out HLB.out (fun h => by rw [hfit] at h; cases h)
            rw [HT.out.1, HT.out.2] at h
            exact h
          clear hf hga hg hfit HT la1 la2 la3 lb1 lb2 lb3
          generalize outB s rs = t at *
          go_wp2_with (go_at_call 80; refine (few_any a cap rs w L0.out).mono ?_; rintro e W1 ⟨rfl, hb⟩; rw [FA.out]; have L1 := hide (came_up L0.out hb); have M1 := hide (came_up M0.out hb); have HB1 := hide hb; clear hb L0 M0)
          go_wp2_with (go_at_call 80; refine (few_any b cap' ss W1 M1.out).mono ?_; rintro e W2 ⟨rfl, hb⟩; rw [FB.out]; have L2 := hide (came_up L1.out hb); have M2 := hide (came_up M1.out hb); have HB2 := hide (HB1.out.trans (hb.mono HB1.out.size)); clear hb L1 M1)
          go_wp2_with (go_at_call 75; refine (rfits_any a cap rs s W2 L2.out HLA.out).mono ?_; rintro e W3 ⟨rfl, hb⟩; rw [HF.out]; have L3 := hide (came_up L2.out hb); have M3 := hide (came_up M2.out hb); have HB3 := hide (HB2.out.trans (hb.mono HB2.out.size)); clear hb L2 M2)
          go_wp2_with (go_at_call 70; refine (apply_any a cap rs s W3 L3.out HLA.out).mono ?_; rintro e W4 ⟨rfl, hb⟩; rw [V1.out]; have L4 := hide (came_up L3.out hb); have M4 := hide (came_up M3.out hb); have HB4 := hide (HB3.out.trans (hb.mono HB3.out.size)); clear hb L3 M3)
          go_wp2_with (go_at_call 70; refine (apply_any b cap' ss t W4 M4.out HLB.out).mono ?_; rintro e W5 ⟨rfl, hb⟩; rw [V2.out]; have L5 := hide (came_up L4.out hb); have M5 := hide (came_up M4.out hb); have HB5 := hide (HB4.out.trans (hb.mono HB4.out.size)); clear hb L4 M4)
          go_wp2_with (go_at_call 82; refine (HTWO.out W5 L5.out M5.out).mono ?_; rintro e W6 ⟨a6, c6, rfl, hc, hcp, hb⟩; have P6 := hide hc; have PC := hide hcp; have HB6 := hide (HB5.out.trans (hb.mono HB5.out.size)); clear hb hc hcp L5 M5)
          go_wp2_with (go_at_call 81; refine (lives8_any W6).mono ?_; rintro e W7 ⟨rfl, hb⟩; have P7 := hide (came_up P6.out hb); have HB7 := hide (HB6.out.trans (hb.mono HB6.out.size)); clear hb P6)
          go_ret
          exact ⟨rfl, HB7.out⟩
        | true =>
          rw [hg] at hfit
          obtain ⟨_, hgb, _⟩ := fit2_facts hfit
          have hlen : (expand rs).length + (expand ss).length ≤ 12000 := by have := (la3 hga).2.2; have := (lb3 hgb).2.2; omega
          have V2 := hide (applyV_fits hg)
          obtain ⟨o1, o2, o3, o4, o5, o6, o7⟩ := two_ok hfit (by omega)
          have hmk := two_makes hfit (by omega) s hf
          have hft := two_fits hfit (by omega) _ hf
          have V3 : Hid (applyV (twoO rs ss) s = .tuple #[.string (outB (outB s rs) ss), .int .i64 0]) := hide (by rw [applyV_fits hft, hmk])
          have HTWO : Hid (∀ W, CameR W.heap.size W a rs → CameR W.heap.size W b ss → Calls Try.prog 82 #[.slice a rs.length cap, .slice b ss.length cap'] W fun e W' => Gives2C W.heap.size W (twoO rs ss) 0 e W') := hide fun W h h' => by
            have h := two_any a b cap cap' rs ss W h h' HC.out.1 HC.out.2 HLA.out HLB.out (fun _ => by omega)
            rw [o1] at h
            exact h
          have HO : Hid ((twoO rs ss).length ≤ 1000000) := hide (by omega)
          have HG : Hid ((meas (twoO rs ss)).isSome = true) := hide o3
          clear hf hga hg hfit hgb hlen o1 o2 o3 o4 o5 o6 o7 hmk hft la1 la2 la3 lb1 lb2 lb3
          generalize twoO rs ss = O at *
          generalize outB (outB s rs) ss = u at *
          generalize outB s rs = t at *
          go_wp2_with (go_at_call 80; refine (few_any a cap rs w L0.out).mono ?_; rintro e W1 ⟨rfl, hb⟩; rw [FA.out]; have L1 := hide (came_up L0.out hb); have M1 := hide (came_up M0.out hb); have HB1 := hide hb; clear hb L0 M0)
          go_wp2_with (go_at_call 80; refine (few_any b cap' ss W1 M1.out).mono ?_; rintro e W2 ⟨rfl, hb⟩; rw [FB.out]; have L2 := hide (came_up L1.out hb); have M2 := hide (came_up M1.out hb); have HB2 := hide (HB1.out.trans (hb.mono HB1.out.size)); clear hb L1 M1)
          go_wp2_with (go_at_call 75; refine (rfits_any a cap rs s W2 L2.out HLA.out).mono ?_; rintro e W3 ⟨rfl, hb⟩; rw [HF.out]; have L3 := hide (came_up L2.out hb); have M3 := hide (came_up M2.out hb); have HB3 := hide (HB2.out.trans (hb.mono HB2.out.size)); clear hb L2 M2)
          go_wp2_with (go_at_call 70; refine (apply_any a cap rs s W3 L3.out HLA.out).mono ?_; rintro e W4 ⟨rfl, hb⟩; rw [V1.out]; have L4 := hide (came_up L3.out hb); have M4 := hide (came_up M3.out hb); have HB4 := hide (HB3.out.trans (hb.mono HB3.out.size)); clear hb L3 M3)
          go_wp2_with (go_at_call 70; refine (apply_any b cap' ss t W4 M4.out HLB.out).mono ?_; rintro e W5 ⟨rfl, hb⟩; rw [V2.out]; have L5 := hide (came_up L4.out hb); have M5 := hide (came_up M4.out hb); have HB5 := hide (HB4.out.trans (hb.mono HB4.out.size)); clear hb L4 M4)
          go_wp2_with (go_at_call 82; refine (HTWO.out W5 L5.out M5.out).mono ?_; rintro e W6 ⟨a6, c6, rfl, hc, hcp, hb⟩; have P6 := hide hc; have PC := hide hcp; have HB6 := hide (HB5.out.trans (hb.mono HB5.out.size)); clear hb hc hcp L5 M5)
          go_wp2_with (go_at_call 70; refine (apply_any a6 c6 O s W6 P6.out HO.out).mono ?_; rintro e W7 ⟨rfl, hb⟩; rw [V3.out]; have P7 := hide (came_up P6.out hb); have HB7 := hide (HB6.out.trans (hb.mono HB6.out.size)); clear hb P6)
          go_wp2_with (go_at_call 51; refine (good_any a6 c6 O W7 P7.out HO.out).mono ?_; rintro e W8 ⟨rfl, hb⟩; rw [HG.out]; have P8 := hide (came_up P7.out hb); have HB8 := hide (HB7.out.trans (hb.mono HB7.out.size)); clear hb P7)
          go_wp2_with (go_at_call 81; refine (lives8_any W8).mono ?_; rintro e W9 ⟨rfl, hb⟩; have P9 := hide (came_up P8.out hb); have HB9 := hide (HB8.out.trans (hb.mono HB8.out.size)); clear hb P8)
          go_ret
          exact ⟨rfl, HB9.out⟩

end Go.Proofs.Ytpmijaplkbmbiaa.E
