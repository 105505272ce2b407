/- RunApplies, walked. -/
import Derived.Test.YtpmijaplkbmbiaaV9
import Derived.Test.YtpmijaplkbmbiaaV5
import Derived.Test.YtpmijaplkbmbiaaV1
import Derived.Test.YtpmijaplkbmbiaaU9
namespace Go.Proofs.Ytpmijaplkbmbiaa.E
open Go.Proofs.Ytpmijaplkbmbiaa Go.RowKit Go.By Go.Shelf
set_option linter.unusedVariables false
set_option linter.unusedSimpArgs false

set_option maxRecDepth 100000 in
set_option maxHeartbeats 8000000 in
theorem runapplies_any (a : Option Addr) (cap : Nat) (rs : List Rn) (s : ByteArray) (w : World) (hS : CameR w.heap.size w a rs) : Calls Try.prog 15 #[.slice a rs.length cap, .string s] w fun e W' => e = .returned (.bool true) ∧ Below w.heap.size w W' := by
  have L0 := hide hS
  clear hS
  go_enter Try.func15, Try.ntmps15
  by_cases hli : LightR rs
  · have HLI : Hid (decide (LightR rs) = true) := hide (decide_eq_true hli)
    have HN : Hid (rs.length ≤ 100) := hide hli.1
    clear hli
    by_cases h2 : (2000 : Int) < (s.size : Int)
    · go_wp2_with (go_at_call 49; refine (light_any a cap rs w L0.out).mono ?_; rintro e W1 ⟨rfl, hb⟩; rw [HLI.out]; have HB1 := hide hb; clear hb L0)
      go_wp2_with (go_at_call 69; refine (lives7_any W1).mono ?_; rintro e W2 ⟨rfl, hb⟩; have HB2 := hide (HB1.out.trans (hb.mono HB1.out.size)); clear hb)
      go_ret
      exact ⟨rfl, HB2.out⟩
    have HSZ : Hid (s.size ≤ 2000) := hide (by omega)
    cases hf : fitsR rs (s.size : Int) with
    | false =>
      have V1 : Hid (applyV rs s = .tuple #[.string ⟨#[]⟩, .int .i64 60]) := hide (by rw [applyV, if_neg (by rw [hf]; simp)])
      have V2 : Hid (backO rs s = [] ∧ backE rs s = 60) := hide ⟨by rw [backO, if_neg (by rw [hf]; simp)], by rw [backE, if_neg (by rw [hf]; simp)]⟩
      have HF := hide hf
      have hB : ∀ W (cap : Nat), CameR W.heap.size W a rs → Calls Try.prog 72 #[.slice a rs.length cap, .string s] W fun e W' => Gives2 W.heap.size W [] 60 e W' := fun W cap h => by
        have := back_any a cap rs s W h (by have := HN.out; omega)
        rw [V2.out.1, V2.out.2] at this; exact this
      have hC : ∀ W (cap : Nat), CameR W.heap.size W a rs → Calls Try.prog 73 #[.slice a rs.length cap, .string s] W fun e W' => Gives2 W.heap.size W [] 60 e W' := fun W cap h => by
        have := rback_any a cap rs s W h (by have := HN.out; omega)
        rw [V2.out.1, V2.out.2] at this; exact this
      have HB' := hide hB
      have HC' := hide hC
      clear hf V2 hB hC
      go_wp2_with (go_at_call 49; refine (light_any a cap rs w L0.out).mono ?_; rintro e W1 ⟨rfl, hb⟩; rw [HLI.out]; have L1 := hide (came_up L0.out hb); have HB1 := hide hb; clear hb L0)
      go_wp2_with (go_at_call 70; refine (apply_any a cap rs s W1 L1.out (by have := HN.out; omega)).mono ?_; rintro e W2 ⟨rfl, hb⟩; rw [V1.out]; have L2 := hide (came_up L1.out hb); have HB2 := hide (HB1.out.trans (hb.mono HB1.out.size)); clear hb L1)
      go_wp2_with (go_at_call 71; refine (rapply_any a cap rs s W2 L2.out (by have := HN.out; omega)).mono ?_; rintro e W3 ⟨rfl, hb⟩; rw [V1.out]; have L3 := hide (came_up L2.out hb); have HB3 := hide (HB2.out.trans (hb.mono HB2.out.size)); clear hb L2)
      go_wp2_with (go_at_call 72; refine (HB'.out W3 cap L3.out).mono ?_; rintro e W4 ⟨a4, c4, rfl, hc, hb⟩; have L4 := hide (came_up L3.out hb); have M4 := hide hc; have HB4 := hide (HB3.out.trans (hb.mono HB3.out.size)); clear hb hc L3)
      go_wp2_with (go_at_call 73; refine (HC'.out W4 cap L4.out).mono ?_; rintro e W5 ⟨a5, c5, rfl, hc, hb⟩; have L5 := hide (came_up L4.out hb); have M5 := hide hc; have N5 := hide (came_up M4.out hb); have HB5 := hide (HB4.out.trans (hb.mono HB4.out.size)); clear hb hc L4 M4)
      go_wp2_with (go_at_call 59; refine (rsame_is a4 a5 c4 c5 [] [] W5 N5.out M5.out (by simp) rfl).mono ?_; rintro e W6 ⟨rfl, hb⟩; have L6 := hide (came_up L5.out hb); have HB6 := hide (HB5.out.trans (hb.mono HB5.out.size)); clear hb L5 N5 M5)
      go_wp2_with (go_at_call 25; refine (bt_new s W6 HSZ.out).mono ?_; rintro e W7 ⟨rfl, ht, hb⟩; have HT7 := hide ht; have L7 := hide (L6.out.below hb); have HZ7 := hide hb.size; have HB7 := hide (HB6.out.trans (hb.mono HB6.out.size)); clear hb ht L6)
      go_wp2_with (go_at_call 74; refine (onto_no W6.heap.size W6.heap.size 1 a cap rs s W7 HZ7.out L7.out HT7.out HN.out (by omega) HF.out).mono ?_; rintro e W8 ⟨rfl, ht, hb⟩; have HT8 := hide ht; have HB8 := hide (HB7.out.trans (hb.mono HB6.out.size)); clear hb ht L7 HT7)
      go_wp2_with (go_at_call 74; refine (onto_nil _ W8).mono ?_; rintro e W9 ⟨rfl, hw'⟩; have hw2 := hw'.symm; clear hw'; subst hw2)
      go_wp2_with (go_at_call 31; refine (bt_text HT8.out (by omega)).mono ?_; rintro e W9 ⟨rfl, hb⟩; have HB9 := hide (HB8.out.trans (hb.mono HB8.out.size)); clear hb HT8)
      go_wp2_with (go_at_call 69; refine (lives7_any W9).mono ?_; rintro e W10 ⟨rfl, hb⟩; have HB10 := hide (HB9.out.trans (hb.mono HB9.out.size)); clear hb)
      go_ret
      exact ⟨rfl, HB10.out⟩
    | true =>
      obtain ⟨_, _, k3, _⟩ := back_facts hf (by have := HN.out; omega)
      have V1 : Hid (applyV rs s = .tuple #[.string (outB s rs), .int .i64 0]) := hide (by rw [applyV, if_pos hf])
      have V2 : Hid (backO rs s = backR s rs ∧ backE rs s = 0) := hide ⟨by rw [backO, if_pos hf], by rw [backE, if_pos hf]⟩
      have HNB : Hid ((backR s rs).length ≤ 1000) := hide (by have := HN.out; omega)
      have HF := hide hf
      have hB : ∀ W (cap : Nat), CameR W.heap.size W a rs → Calls Try.prog 72 #[.slice a rs.length cap, .string s] W fun e W' => Gives2 W.heap.size W (backR s rs) 0 e W' := fun W cap h => by
        have := back_any a cap rs s W h (by have := HN.out; omega)
        rw [V2.out.1, V2.out.2] at this; exact this
      have hC : ∀ W (cap : Nat), CameR W.heap.size W a rs → Calls Try.prog 73 #[.slice a rs.length cap, .string s] W fun e W' => Gives2 W.heap.size W (backR s rs) 0 e W' := fun W cap h => by
        have := rback_any a cap rs s W h (by have := HN.out; omega)
        rw [V2.out.1, V2.out.2] at this; exact this
      have hO : ∀ (B g : Nat) (W : World), B ≤ W.heap.size → CameR B W a rs → BT B g 1 s.data.toList W → Calls Try.prog 74 #[.slice a rs.length cap, .pointer (some ⟨g, 0, none⟩)] W fun e W' => e = .returned (.int .i64 0) ∧ BT B g 900000 (outB s rs).data.toList W' ∧ Below B W W' := fun B g W h1 h2 h3 =>
        onto_yes B g 1 a cap rs s W h1 h2 h3 HN.out (by omega) HSZ.out HF.out
      have HB' := hide hB
      have HC' := hide hC
      have HO' := hide hO
      clear hf k3 V2 hB hC hO
      generalize backR s rs = B at *
      generalize outB s rs = t at *
      go_wp2_with (go_at_call 49; refine (light_any a cap rs w L0.out).mono ?_; rintro e W1 ⟨rfl, hb⟩; rw [HLI.out]; have L1 := hide (came_up L0.out hb); have HB1 := hide hb; clear hb L0)
      go_wp2_with (go_at_call 70; refine (apply_any a cap rs s W1 L1.out (by have := HN.out; omega)).mono ?_; rintro e W2 ⟨rfl, hb⟩; rw [V1.out]; have L2 := hide (came_up L1.out hb); have HB2 := hide (HB1.out.trans (hb.mono HB1.out.size)); clear hb L1)
      go_wp2_with (go_at_call 71; refine (rapply_any a cap rs s W2 L2.out (by have := HN.out; omega)).mono ?_; rintro e W3 ⟨rfl, hb⟩; rw [V1.out]; have L3 := hide (came_up L2.out hb); have HB3 := hide (HB2.out.trans (hb.mono HB2.out.size)); clear hb L2)
      go_wp2_with (go_at_call 72; refine (HB'.out W3 cap L3.out).mono ?_; rintro e W4 ⟨a4, c4, rfl, hc, hb⟩; have L4 := hide (came_up L3.out hb); have M4 := hide hc; have HB4 := hide (HB3.out.trans (hb.mono HB3.out.size)); clear hb hc L3)
      go_wp2_with (go_at_call 73; refine (HC'.out W4 cap L4.out).mono ?_; rintro e W5 ⟨a5, c5, rfl, hc, hb⟩; have L5 := hide (came_up L4.out hb); have M5 := hide hc; have N5 := hide (came_up M4.out hb); have HB5 := hide (HB4.out.trans (hb.mono HB4.out.size)); clear hb hc L4 M4)
      go_wp2_with (go_at_call 59; refine (rsame_is a4 a5 c4 c5 B B W5 N5.out M5.out (by have := HNB.out; omega) rfl).mono ?_; rintro e W6 ⟨rfl, hb⟩; have L6 := hide (came_up L5.out hb); have HB6 := hide (HB5.out.trans (hb.mono HB5.out.size)); clear hb L5 N5 M5)
      go_wp2_with (go_at_call 25; refine (bt_new s W6 HSZ.out).mono ?_; rintro e W7 ⟨rfl, ht, hb⟩; have HT7 := hide ht; have L7 := hide (L6.out.below hb); have HZ7 := hide hb.size; have HB7 := hide (HB6.out.trans (hb.mono HB6.out.size)); clear hb ht L6)
      go_wp2_with (go_at_call 74; refine (HO'.out W6.heap.size W6.heap.size W7 HZ7.out L7.out HT7.out).mono ?_; rintro e W8 ⟨rfl, ht, hb⟩; have HT8 := hide ht; have HB8 := hide (HB7.out.trans (hb.mono HB6.out.size)); clear hb ht L7 HT7)
      go_wp2_with (go_at_call 74; refine (onto_nil _ W8).mono ?_; rintro e W9 ⟨rfl, hw'⟩; have hw2 := hw'.symm; clear hw'; subst hw2)
      go_wp2_with (go_at_call 31; refine (bt_text HT8.out (by omega)).mono ?_; rintro e W9 ⟨rfl, hb⟩; have HB9 := hide (HB8.out.trans (hb.mono HB8.out.size)); clear hb HT8)
      go_wp2_with (go_at_call 69; refine (lives7_any W9).mono ?_; rintro e W10 ⟨rfl, hb⟩; have HB10 := hide (HB9.out.trans (hb.mono HB9.out.size)); clear hb)
      go_ret
      exact ⟨rfl, HB10.out⟩
  · have HLI : Hid (decide (LightR rs) = false) := hide (decide_eq_false hli)
    clear hli
    go_wp2_with (go_at_call 49; refine (light_any a cap rs w L0.out).mono ?_; rintro e W1 ⟨rfl, hb⟩; rw [HLI.out]; have HB1 := hide hb; clear hb L0)
    go_wp2_with (go_at_call 69; refine (lives7_any W1).mono ?_; rintro e W2 ⟨rfl, hb⟩; have HB2 := hide (HB1.out.trans (hb.mono HB1.out.size)); clear hb)
    go_ret
    exact ⟨rfl, HB2.out⟩

end Go.Proofs.Ytpmijaplkbmbiaa.E
