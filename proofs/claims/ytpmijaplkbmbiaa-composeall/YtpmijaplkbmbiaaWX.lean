/- compose's law ComposeTwo. -/
import Derived.Test.YtpmijaplkbmbiaaWV
import Derived.Test.YtpmijaplkbmbiaaWQ
namespace Go.Proofs.Ytpmijaplkbmbiaa.E
open Go.Proofs.Ytpmijaplkbmbiaa Go.RowKit Go.By Go.Shelf
set_option linter.unusedVariables false
set_option linter.unusedSimpArgs false

set_option maxRecDepth 100000 in
set_option maxHeartbeats 2000000 in
theorem two8_any (a b : Option Addr) (cap cap' : Nat) (rs ss : List Rn) (w : World) (hS : CameR w.heap.size w a rs) (hS' : CameR w.heap.size w b ss) (hc : rs.length ≤ cap) (hc' : ss.length ≤ cap') :
    Calls Try.prog 19 #[.slice a rs.length cap, .slice b ss.length cap'] w fun e W' => e = .returned (.bool true) ∧ Below w.heap.size w W' := by
  have L0 := hide hS
  have M0 := hide hS'
  have HC := hide (And.intro hc hc')
  clear hS hS' hc hc'
  go_enter Try.func19, Try.ntmps19
  cases fa : fewR rs with
  | false =>
    have FA := hide fa
    clear fa
    go_wp2_with (go_at_call 80; (with_reducible refine (few_any a cap rs w L0.out).mono ?_); rintro e W1 ⟨rfl, hb⟩; rw [FA.out]; have L1 := hide (came_up L0.out hb); have M1 := hide (came_up M0.out hb); have HB1 := hide hb; clear hb L0 M0)
    go_wp2_with (go_at_call 81; (with_reducible refine (lives8_any W1).mono ?_); rintro e W2 ⟨rfl, hb⟩; have L2 := hide (came_up L1.out hb); have M2 := hide (came_up M1.out hb); have HB2 := hide (HB1.out.trans (hb.mono HB1.out.size)); clear hb L1 M1)
    go_ret
    exact ⟨rfl, HB2.out⟩
  | true =>
    have FA := hide fa
    obtain ⟨la1, la2, la3⟩ := fewR_light fa
    clear fa
    cases fb : fewR ss with
    | false =>
      have FB := hide fb
      clear fb la1 la2 la3
      go_wp2_with (go_at_call 80; (with_reducible refine (few_any a cap rs w L0.out).mono ?_); rintro e W1 ⟨rfl, hb⟩; rw [FA.out]; have L1 := hide (came_up L0.out hb); have M1 := hide (came_up M0.out hb); have HB1 := hide hb; clear hb L0 M0)
      go_wp2_with (go_at_call 80; (with_reducible refine (few_any b cap' ss W1 M1.out).mono ?_); rintro e W2 ⟨rfl, hb⟩; rw [FB.out]; have L2 := hide (came_up L1.out hb); have M2 := hide (came_up M1.out hb); have HB2 := hide (HB1.out.trans (hb.mono HB1.out.size)); clear hb L1 M1)
      go_wp2_with (go_at_call 81; (with_reducible refine (lives8_any W2).mono ?_); rintro e W3 ⟨rfl, hb⟩; have L3 := hide (came_up L2.out hb); have M3 := hide (came_up M2.out hb); have HB3 := hide (HB2.out.trans (hb.mono HB2.out.size)); clear hb L2 M2)
      go_ret
      exact ⟨rfl, HB3.out⟩
    | true =>
      have FB := hide fb
      obtain ⟨lb1, lb2, lb3⟩ := fewR_light fb
      clear fb
      have hkl : fit2 rs ss = true → (expand rs).length + (expand ss).length ≤ 60000 := fun h => by
        obtain ⟨g1, g2, _⟩ := fit2_facts h
        have := (la3 g1).2.2
        have := (lb3 g2).2.2
        omega
      have HTWO : Hid (∀ W, CameR W.heap.size W a rs → CameR W.heap.size W b ss → Calls Try.prog 82 #[.slice a rs.length cap, .slice b ss.length cap'] W fun e W' => Gives2C W.heap.size W (twoO rs ss) (twoE rs ss) e W') := hide fun W h h' =>
        two_any a b cap cap' rs ss W h h' HC.out.1 HC.out.2 (by omega) (by omega) (fun h => Nat.le_trans (hkl h) (by omega))
      have HREF : Hid (∀ W, CameR W.heap.size W a rs → CameR W.heap.size W b ss → Calls Try.prog 83 #[.slice a rs.length cap, .slice b ss.length cap'] W fun e W' => Gives2 W.heap.size W (twoO rs ss) (twoE rs ss) e W') := hide fun W h h' =>
        rtwo_any a b cap cap' rs ss W h h' (by omega) (by omega) hkl
      have HO : Hid ((twoO rs ss).length ≤ 1000000) := hide (by
        cases hf : fit2 rs ss with
        | false => rw [twoO, hf]; exact Nat.zero_le _
        | true => have := (two_ok hf (hkl hf)).2.2.2.2.2.2; omega)
      have HE : Hid (IntKind.i64.wrap (twoE rs ss) = twoE rs ss) := hide (by rw [IntKind.wrap_i64]; unfold twoE; split <;> (try split) <;> decide)
      clear hkl la1 la2 la3 lb1 lb2 lb3
      generalize twoO rs ss = O at *
      generalize twoE rs ss = x at *
      go_wp2_with (go_at_call 80; (with_reducible refine (few_any a cap rs w L0.out).mono ?_); rintro e W1 ⟨rfl, hb⟩; rw [FA.out]; have L1 := hide (came_up L0.out hb); have M1 := hide (came_up M0.out hb); have HB1 := hide hb; clear hb L0 M0)
      go_wp2_with (go_at_call 80; (with_reducible refine (few_any b cap' ss W1 M1.out).mono ?_); rintro e W2 ⟨rfl, hb⟩; rw [FB.out]; have L2 := hide (came_up L1.out hb); have M2 := hide (came_up M1.out hb); have HB2 := hide (HB1.out.trans (hb.mono HB1.out.size)); clear hb L1 M1)
      go_wp2_with (go_at_call 82; (with_reducible refine (HTWO.out W2 L2.out M2.out).mono ?_); rintro e W3 ⟨a6, c6, rfl, hc, hcp, hb⟩; have L3 := hide (came_up L2.out hb); have M3 := hide (came_up M2.out hb); have P3 := hide hc; have PC := hide hcp; have HB3 := hide (HB2.out.trans (hb.mono HB2.out.size)); clear hb hc hcp L2 M2)
      go_wp2_with (go_at_call 83; (with_reducible refine (HREF.out W3 L3.out M3.out).mono ?_); rintro e W4 ⟨a7, c7, rfl, hc, hb⟩; have P4 := hide (came_up P3.out hb); have Q4 := hide hc; have HB4 := hide (HB3.out.trans (hb.mono HB3.out.size)); clear hb hc L3 M3 P3)
      go_wp2_with (go_at_call 59; (with_reducible refine (rsame_is a6 a7 c6 c7 O O W4 P4.out Q4.out HO.out rfl).mono ?_); rintro e W5 ⟨rfl, hb⟩; have P5 := hide (came_up P4.out hb); have Q5 := hide (came_up Q4.out hb); have HB5 := hide (HB4.out.trans (hb.mono HB4.out.size)); clear hb P4 Q4)
      go_wp2_with (go_at_call 81; (with_reducible refine (lives8_any W5).mono ?_); rintro e W6 ⟨rfl, hb⟩; have HB6 := hide (HB5.out.trans (hb.mono HB5.out.size)); clear hb P5 Q5)
      go_ret
      exact ⟨rfl, HB6.out⟩

end Go.Proofs.Ytpmijaplkbmbiaa.E
