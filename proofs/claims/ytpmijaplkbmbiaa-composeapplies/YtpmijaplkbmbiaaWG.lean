/- compose's law: few. -/
import Derived.Test.YtpmijaplkbmbiaaWF
import Derived.Test.YtpmijaplkbmbiaaEdM
namespace Go.Proofs.Ytpmijaplkbmbiaa.E
open Go.Proofs.Ytpmijaplkbmbiaa Go.RowKit Go.By Go.Shelf
set_option linter.unusedVariables false
set_option linter.unusedSimpArgs false

/-- Is an edit not of more than is looked at? -/
def fewR (rs : List Rn) : Bool := decide (LightR rs) && (!isG rs || (decide (mIn (meas rs) ≤ 3000) && decide (mOut (meas rs) ≤ 3000)))

set_option maxRecDepth 20000 in
set_option maxHeartbeats 4000000 in
theorem few_any (a : Option Addr) (cap : Nat) (rs : List Rn) (w : World) (hS : CameR w.heap.size w a rs) :
    Calls Try.prog 80 #[.slice a rs.length cap] w fun e W' => e = .returned (.bool (fewR rs)) ∧ Below w.heap.size w W' := by
  have L0 := hide hS
  clear hS
  go_enter Try.func80, Try.ntmps80
  by_cases hli : LightR rs
  · have HLI : Hid (decide (LightR rs) = true) := hide (decide_eq_true hli)
    have HN : Hid (rs.length ≤ 100) := hide hli.1
    clear hli
    cases hg : isG rs with
    | false =>
      have HG := hide hg
      clear hg
      go_wp2_with (go_at_call 49; refine (light_any a cap rs w L0.out).mono ?_; rintro e W1 ⟨rfl, hb⟩; rw [HLI.out]; have L1 := hide (came_up L0.out hb); have HB1 := hide hb; clear hb L0)
      go_wp2_with (go_at_call 52; refine (rgood_any a cap rs W1 L1.out (by have := HN.out; omega)).mono ?_; rintro e W2 ⟨rfl, hb⟩; rw [HG.out]; have HB2 := hide (HB1.out.trans (hb.mono HB1.out.size)); clear hb L1)
      go_ret
      exact ⟨by rw [fewR, HLI.out, HG.out]; rfl, HB2.out⟩
    | true =>
      have HG := hide hg
      clear hg
      obtain ⟨m, hm⟩ : ∃ m, mIn (meas rs) = m := ⟨_, rfl⟩
      obtain ⟨o, ho⟩ : ∃ o, mOut (meas rs) = o := ⟨_, rfl⟩
      have HF : Hid (fewR rs = (decide (m ≤ 3000) && decide (o ≤ 3000))) := hide (by rw [fewR, HLI.out, HG.out, hm, ho]; rfl)
      have hin : ∀ W, CameR W.heap.size W a rs → Calls Try.prog 54 #[.slice a rs.length cap] W fun e W' => e = .returned (.int .i64 m) ∧ Below W.heap.size W W' := fun W h => by rw [← hm]; exact rin_any a cap rs W h (by have := HN.out; omega)
      have hou : ∀ W, CameR W.heap.size W a rs → Calls Try.prog 56 #[.slice a rs.length cap] W fun e W' => e = .returned (.int .i64 o) ∧ Below W.heap.size W W' := fun W h => by rw [← ho]; exact rout_any a cap rs W h (by have := HN.out; omega)
      have HIN := hide hin
      have HOU := hide hou
      clear hm ho hin hou
      by_cases h1 : m ≤ 3000
      · go_wp2_with (go_at_call 49; refine (light_any a cap rs w L0.out).mono ?_; rintro e W1 ⟨rfl, hb⟩; rw [HLI.out]; have L1 := hide (came_up L0.out hb); have HB1 := hide hb; clear hb L0)
        go_wp2_with (go_at_call 52; refine (rgood_any a cap rs W1 L1.out (by have := HN.out; omega)).mono ?_; rintro e W2 ⟨rfl, hb⟩; rw [HG.out]; have L2 := hide (came_up L1.out hb); have HB2 := hide (HB1.out.trans (hb.mono HB1.out.size)); clear hb L1)
        go_wp2_with (go_at_call 54; refine (HIN.out W2 L2.out).mono ?_; rintro e W3 ⟨rfl, hb⟩; have L3 := hide (came_up L2.out hb); have HB3 := hide (HB2.out.trans (hb.mono HB2.out.size)); clear hb L2)
        go_wp2_with (go_at_call 56; refine (HOU.out W3 L3.out).mono ?_; rintro e W4 ⟨rfl, hb⟩; have HB4 := hide (HB3.out.trans (hb.mono HB3.out.size)); clear hb L3)
        go_ret
        exact ⟨by rw [HF.out, decide_eq_true h1]; simp, HB4.out⟩
      · go_wp2_with (go_at_call 49; refine (light_any a cap rs w L0.out).mono ?_; rintro e W1 ⟨rfl, hb⟩; rw [HLI.out]; have L1 := hide (came_up L0.out hb); have HB1 := hide hb; clear hb L0)
        go_wp2_with (go_at_call 52; refine (rgood_any a cap rs W1 L1.out (by have := HN.out; omega)).mono ?_; rintro e W2 ⟨rfl, hb⟩; rw [HG.out]; have L2 := hide (came_up L1.out hb); have HB2 := hide (HB1.out.trans (hb.mono HB1.out.size)); clear hb L1)
        go_wp2_with (go_at_call 54; refine (HIN.out W2 L2.out).mono ?_; rintro e W3 ⟨rfl, hb⟩; have HB3 := hide (HB2.out.trans (hb.mono HB2.out.size)); clear hb L2)
        go_ret
        exact ⟨by rw [HF.out, decide_eq_false (by omega : ¬ m ≤ 3000)]; rfl, HB3.out⟩
  · have HLI : Hid (decide (LightR rs) = false) := hide (decide_eq_false hli)
    clear hli
    go_wp2_with (go_at_call 49; refine (light_any a cap rs w L0.out).mono ?_; rintro e W1 ⟨rfl, hb⟩; rw [HLI.out]; have HB1 := hide hb; clear hb L0)
    go_ret
    exact ⟨by rw [fewR, HLI.out]; rfl, HB1.out⟩

end Go.Proofs.Ytpmijaplkbmbiaa.E
