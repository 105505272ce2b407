/- EditTells, walked. -/
import Derived.Test.YtpmijaplkbmbiaaEdT
namespace Go.Proofs.Ytpmijaplkbmbiaa.E
open Go.Proofs.Ytpmijaplkbmbiaa Go.RowKit Go.By Go.Shelf
set_option linter.unusedVariables false
set_option linter.unusedSimpArgs false

set_option maxRecDepth 100000 in
set_option maxHeartbeats 8000000 in
theorem tells_any (a a' : Option Addr) (cap cap' : Nat) (rs rs' : List Rn) (w : World) (hS : CameR w.heap.size w a rs) (hS' : CameR w.heap.size w a' rs') :
    Calls Try.prog 12 #[.slice a rs.length cap, .slice a' rs'.length cap'] w fun e W' => e = .returned (.bool true) ∧ Below w.heap.size w W' := by
  have L0 := hide hS
  have M0 := hide hS'
  clear hS hS'
  go_enter Try.func12, Try.ntmps12
  by_cases hli : LightR rs
  · have HLI : Hid (decide (LightR rs) = true) := hide (decide_eq_true hli)
    have HN : Hid (rs.length ≤ 100) := hide hli.1
    clear hli
    by_cases hli' : LightR rs'
    · have HLI' : Hid (decide (LightR rs') = true) := hide (decide_eq_true hli')
      clear hli'
      obtain ⟨g, hg⟩ : ∃ g, isG rs = g := ⟨_, rfl⟩
      have HG1 : Hid ((meas rs).isSome = g) := hide hg
      have HG2 := hide hg
      obtain ⟨ib, hib⟩ : ∃ ib, idleB rs = ib := ⟨_, rfl⟩
      have HIB := hide hib
      obtain ⟨sb, hsb⟩ : ∃ sb, decide (rs = rs') = sb := ⟨_, rfl⟩
      have HSB := hide hsb
      obtain ⟨xi, hxi⟩ : ∃ xi, mIn (meas rs) = xi := ⟨_, rfl⟩
      have HXI := hide hxi
      obtain ⟨xo, hxo⟩ : ∃ xo, mOut (meas rs) = xo := ⟨_, rfl⟩
      have HXO := hide hxo
      have HNR := hide (normR_bounds rs)
      clear hg hib hsb hxi hxo
      go_wp2_with (go_at_call 49; refine (light_any a cap rs w L0.out).mono ?_; rintro e W1 ⟨rfl, hb⟩; rw [HLI.out]; have L1 := hide (came_up L0.out hb); have M1 := hide (came_up M0.out hb); have HB1 := hide hb; clear hb L0 M0)
      go_wp2_with (go_at_call 49; refine (light_any a' cap' rs' W1 M1.out).mono ?_; rintro e W2 ⟨rfl, hb⟩; rw [HLI'.out]; have L2 := hide (came_up L1.out hb); have M2 := hide (came_up M1.out hb); have HB2 := hide (HB1.out.trans (hb.mono HB1.out.size)); clear hb L1 M1)
      go_wp2_with (go_at_call 51; refine (good_any a cap rs W2 L2.out (by have := HN.out; omega)).mono ?_; rintro e W3 ⟨rfl, hb⟩; rw [HG1.out]; have L3 := hide (came_up L2.out hb); have M3 := hide (came_up M2.out hb); have HB3 := hide (HB2.out.trans (hb.mono HB2.out.size)); clear hb L2 M2)
      go_wp2_with (go_at_call 52; refine (rgood_any a cap rs W3 L3.out (by have := HN.out; omega)).mono ?_; rintro e W4 ⟨rfl, hb⟩; rw [HG2.out]; have L4 := hide (came_up L3.out hb); have M4 := hide (came_up M3.out hb); have HB4 := hide (HB3.out.trans (hb.mono HB3.out.size)); clear hb L3 M3)
      go_wp2_with (go_at_call 53; refine (in_any a cap rs W4 L4.out (by have := HN.out; omega)).mono ?_; rintro e W5 ⟨rfl, hb⟩; rw [HXI.out]; have L5 := hide (came_up L4.out hb); have M5 := hide (came_up M4.out hb); have HB5 := hide (HB4.out.trans (hb.mono HB4.out.size)); clear hb L4 M4)
      go_wp2_with (go_at_call 54; refine (rin_any a cap rs W5 L5.out (by have := HN.out; omega)).mono ?_; rintro e W6 ⟨rfl, hb⟩; rw [HXI.out]; have L6 := hide (came_up L5.out hb); have M6 := hide (came_up M5.out hb); have HB6 := hide (HB5.out.trans (hb.mono HB5.out.size)); clear hb L5 M5)
      go_wp2_with (go_at_call 55; refine (out_any a cap rs W6 L6.out (by have := HN.out; omega)).mono ?_; rintro e W7 ⟨rfl, hb⟩; rw [HXO.out]; have L7 := hide (came_up L6.out hb); have M7 := hide (came_up M6.out hb); have HB7 := hide (HB6.out.trans (hb.mono HB6.out.size)); clear hb L6 M6)
      go_wp2_with (go_at_call 56; refine (rout_any a cap rs W7 L7.out (by have := HN.out; omega)).mono ?_; rintro e W8 ⟨rfl, hb⟩; rw [HXO.out]; have L8 := hide (came_up L7.out hb); have M8 := hide (came_up M7.out hb); have HB8 := hide (HB7.out.trans (hb.mono HB7.out.size)); clear hb L7 M7)
      go_wp2_with (go_at_call 57; refine (idle_any a cap rs W8 L8.out (by have := HN.out; omega)).mono ?_; rintro e W9 ⟨rfl, hb⟩; rw [HIB.out]; have L9 := hide (came_up L8.out hb); have M9 := hide (came_up M8.out hb); have HB9 := hide (HB8.out.trans (hb.mono HB8.out.size)); clear hb L8 M8)
      go_wp2_with (go_at_call 58; refine (ridle_any a cap rs W9 L9.out (by have := HN.out; omega)).mono ?_; rintro e W10 ⟨rfl, hb⟩; rw [HIB.out]; have L10 := hide (came_up L9.out hb); have M10 := hide (came_up M9.out hb); have HB10 := hide (HB9.out.trans (hb.mono HB9.out.size)); clear hb L9 M9)
      go_wp2_with (go_at_call 60; refine (norm_any a cap rs W10 L10.out (by have := HN.out; omega)).mono ?_; rintro e W11 ⟨a11, c11, rfl, hc, hb⟩; have L11 := hide (came_up L10.out hb); have M11 := hide (came_up M10.out hb); have P11 := hide hc; have HB11 := hide (HB10.out.trans (hb.mono HB10.out.size)); clear hb hc L10 M10)
      go_wp2_with (go_at_call 61; refine (rnorm_any a cap rs W11 L11.out (by have := HN.out; omega)).mono ?_; rintro e W12 ⟨a12, c12, rfl, hc, hb⟩; have L12 := hide (came_up L11.out hb); have M12 := hide (came_up M11.out hb); have P12 := hide (came_up P11.out hb); have Q12 := hide hc; have HB12 := hide (HB11.out.trans (hb.mono HB11.out.size)); clear hb hc L11 M11 P11)
      go_wp2_with (go_at_call 59; refine (rsame_is a11 a12 c11 c12 _ _ W12 P12.out Q12.out (by have := HNR.out; omega) rfl).mono ?_; rintro e W13 ⟨rfl, hb⟩; have L13 := hide (came_up L12.out hb); have M13 := hide (came_up M12.out hb); have P13 := hide (came_up P12.out hb); have Q13 := hide (came_up Q12.out hb); have HB13 := hide (HB12.out.trans (hb.mono HB12.out.size)); clear hb L12 M12 P12 Q12)
      go_wp2_with (go_at_call 62; refine (same_any a a' cap cap' rs rs' W13 L13.out M13.out (by have := HN.out; omega)).mono ?_; rintro e W14 ⟨rfl, hb⟩; rw [HSB.out]; have L14 := hide (came_up L13.out hb); have M14 := hide (came_up M13.out hb); have P14 := hide (came_up P13.out hb); have Q14 := hide (came_up Q13.out hb); have HB14 := hide (HB13.out.trans (hb.mono HB13.out.size)); clear hb L13 M13 P13 Q13)
      go_wp2_with (go_at_call 59; refine (rsame_any a a' cap cap' rs rs' W14 L14.out M14.out (by have := HN.out; omega)).mono ?_; rintro e W15 ⟨rfl, hb⟩; rw [HSB.out]; have L15 := hide (came_up L14.out hb); have M15 := hide (came_up M14.out hb); have P15 := hide (came_up P14.out hb); have Q15 := hide (came_up Q14.out hb); have HB15 := hide (HB14.out.trans (hb.mono HB14.out.size)); clear hb L14 M14 P14 Q14)
      go_wp2_with (go_at_call 50; refine (lives_any W15).mono ?_; rintro e W16 ⟨rfl, hb⟩; have L16 := hide (came_up L15.out hb); have M16 := hide (came_up M15.out hb); have P16 := hide (came_up P15.out hb); have Q16 := hide (came_up Q15.out hb); have HB16 := hide (HB15.out.trans (hb.mono HB15.out.size)); clear hb L15 M15 P15 Q15)
      go_ret
      exact ⟨rfl, HB16.out⟩
    · have HLI' : Hid (decide (LightR rs') = false) := hide (decide_eq_false hli')
      clear hli'
      go_wp2_with (go_at_call 49; refine (light_any a cap rs w L0.out).mono ?_; rintro e W1 ⟨rfl, hb⟩; rw [HLI.out]; have L1 := hide (came_up L0.out hb); have M1 := hide (came_up M0.out hb); have HB1 := hide hb; clear hb L0 M0)
      go_wp2_with (go_at_call 49; refine (light_any a' cap' rs' W1 M1.out).mono ?_; rintro e W2 ⟨rfl, hb⟩; rw [HLI'.out]; have L2 := hide (came_up L1.out hb); have M2 := hide (came_up M1.out hb); have HB2 := hide (HB1.out.trans (hb.mono HB1.out.size)); clear hb L1 M1)
      go_wp2_with (go_at_call 50; refine (lives_any W2).mono ?_; rintro e W3 ⟨rfl, hb⟩; have L3 := hide (came_up L2.out hb); have M3 := hide (came_up M2.out hb); have HB3 := hide (HB2.out.trans (hb.mono HB2.out.size)); clear hb L2 M2)
      go_ret
      exact ⟨rfl, HB3.out⟩
  · have HLI : Hid (decide (LightR rs) = false) := hide (decide_eq_false hli)
    clear hli
    go_wp2_with (go_at_call 49; refine (light_any a cap rs w L0.out).mono ?_; rintro e W1 ⟨rfl, hb⟩; rw [HLI.out]; have L1 := hide (came_up L0.out hb); have M1 := hide (came_up M0.out hb); have HB1 := hide hb; clear hb L0 M0)
    go_wp2_with (go_at_call 50; refine (lives_any W1).mono ?_; rintro e W2 ⟨rfl, hb⟩; have L2 := hide (came_up L1.out hb); have M2 := hide (came_up M1.out hb); have HB2 := hide (HB1.out.trans (hb.mono HB1.out.size)); clear hb L1 M1)
    go_ret
    exact ⟨rfl, HB2.out⟩

end Go.Proofs.Ytpmijaplkbmbiaa.E
