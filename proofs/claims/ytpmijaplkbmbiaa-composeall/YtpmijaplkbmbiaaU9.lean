/- What undoes an edit gives the text again; RunBack, walked. -/
import Derived.Test.YtpmijaplkbmbiaaX9
import Derived.Test.YtpmijaplkbmbiaaU8
namespace Go.Proofs.Ytpmijaplkbmbiaa.E
open Go.Proofs.Ytpmijaplkbmbiaa Go.RowKit Go.By Go.Shelf
set_option linter.unusedVariables false
set_option linter.unusedSimpArgs false

set_option maxRecDepth 20000 in
set_option maxHeartbeats 4000000 in
theorem rfits_any (a : Option Addr) (cap : Nat) (rs : List Rn) (s : ByteArray) (w : World) (hS : CameR w.heap.size w a rs) (hl : rs.length ≤ 1000000) :
    Calls Try.prog 75 #[.slice a rs.length cap, .string s] w fun e W' => e = .returned (.bool (fitsR rs (s.size : Int))) ∧ Below w.heap.size w W' := by
  have hg := rgood_any a cap rs w hS hl
  obtain ⟨g, hgg⟩ : ∃ g, isG rs = g := ⟨_, rfl⟩
  have HF : Hid (fitsR rs (s.size : Int) = (g && decide (mIn (meas rs) = (s.size : Int)))) := hide (by rw [fitsR, hgg])
  rw [hgg] at hg
  have HS := hide hS
  clear hgg hS
  obtain ⟨m, hm⟩ : ∃ m, mIn (meas rs) = m := ⟨_, rfl⟩
  have hin : ∀ W, CameR W.heap.size W a rs → Calls Try.prog 54 #[.slice a rs.length cap] W fun e W' => e = .returned (.int .i64 m) ∧ Below W.heap.size W W' := fun W h => by rw [← hm]; exact rin_any a cap rs W h hl
  rw [hm] at HF
  clear hm
  go_enter Try.func75, Try.ntmps75
  cases g with
  | false =>
    go_wp2_with (go_at_call 52; refine hg.mono ?_; rintro e W1 ⟨rfl, hb⟩; have HB := hide hb; clear hb)
    go_ret
    exact ⟨by rw [HF.out]; rfl, HB.out⟩
  | true =>
    go_wp2_with (first
      | (go_at_call 52; refine hg.mono ?_; rintro e W1 ⟨rfl, hb⟩; have HB := hide hb; clear hb)
      | (go_at_call 54; refine (hin W1 (came_up HS.out HB.out)).mono ?_; rintro e W2 ⟨rfl, hb⟩; have HB2 := hide (HB.out.trans (hb.mono HB.out.size)); clear hb))
    go_ret
    exact ⟨by rw [HF.out, Bool.true_and]; rfl, HB2.out⟩

/-- What undoes an edit. -/
theorem back_facts {rs : List Rn} {s : ByteArray} (hf : fitsR rs (s.size : Int) = true) (hl : rs.length ≤ 1000) :
    fitsR (backR s rs) ((outB s rs).size : Int) = true ∧ outB (outB s rs) (backR s rs) = s ∧ (backR s rs).length ≤ 3 * rs.length + 3 ∧ ((outB s rs).size : Int) = mOut (meas rs) := by
  obtain ⟨f1, f2, f3, f4, f5, f6⟩ := fits_facts hf
  have hk := good_kinds f1
  have hsz : tIn (expand rs) = s.data.toList.length := by rw [sz_list]; omega
  have hto : (outB s rs).size = tOut (expand rs) := outB_size (by rw [← sz_list]; omega)
  have hex := expand_backS s rs hk 0
  obtain ⟨b1, b2⟩ := bT_sums s.data.toList (expand rs) 0 (by omega)
  rw [← hex] at b1 b2
  obtain ⟨e, n1, n2, n3⟩ := norm_light (rs := backS s rs 0) (by rw [b1]; exact f3) (by rw [b2]; exact f4) (by rw [len_backS]; exact hl)
  rw [b1, ← hto] at n1
  rw [len_backS] at n3
  refine ⟨n1, ?_, n3, by rw [f6, hto]⟩
  rw [backR, outB_norm _ e]
  apply ba_eq
  rw [outB, hex]
  have := undone hsz
  rwa [show (outB s rs).data.toList = applT s.data.toList (expand rs) from rfl]

set_option maxRecDepth 100000 in
set_option maxHeartbeats 4000000 in
theorem runback_any (a : Option Addr) (cap : Nat) (rs : List Rn) (s : ByteArray) (w : World) (hS : CameR w.heap.size w a rs) : Calls Try.prog 16 #[.slice a rs.length cap, .string s] w fun e W' => e = .returned (.bool true) ∧ Below w.heap.size w W' := by
  have L0 := hide hS
  clear hS
  go_enter Try.func16, Try.ntmps16
  by_cases hli : LightR rs
  · have HLI : Hid (decide (LightR rs) = true) := hide (decide_eq_true hli)
    have HN : Hid (rs.length ≤ 100) := hide hli.1
    clear hli
    by_cases h2 : (2000 : Int) < (s.size : Int)
    · go_wp2_with (go_at_call 49; refine (light_any a cap rs w L0.out).mono ?_; rintro e W1 ⟨rfl, hb⟩; rw [HLI.out]; have HB1 := hide hb; clear hb L0)
      go_wp2_with (go_at_call 69; refine (lives7_any W1).mono ?_; rintro e W2 ⟨rfl, hb⟩; have HB2 := hide (HB1.out.trans (hb.mono HB1.out.size)); clear hb)
      go_ret
      exact ⟨rfl, HB2.out⟩
    cases hf : fitsR rs (s.size : Int) with
    | false =>
      have HF := hide hf
      clear hf
      go_wp2_with (go_at_call 49; refine (light_any a cap rs w L0.out).mono ?_; rintro e W1 ⟨rfl, hb⟩; rw [HLI.out]; have L1 := hide (came_up L0.out hb); have HB1 := hide hb; clear hb L0)
      go_wp2_with (go_at_call 75; refine (rfits_any a cap rs s W1 L1.out (by have := HN.out; omega)).mono ?_; rintro e W2 ⟨rfl, hb⟩; rw [HF.out]; have HB2 := hide (HB1.out.trans (hb.mono HB1.out.size)); clear hb L1)
      go_wp2_with (go_at_call 69; refine (lives7_any W2).mono ?_; rintro e W3 ⟨rfl, hb⟩; have HB3 := hide (HB2.out.trans (hb.mono HB2.out.size)); clear hb)
      go_ret
      exact ⟨rfl, HB3.out⟩
    | true =>
      obtain ⟨k1, k2, k3, k4⟩ := back_facts hf (by have := HN.out; omega)
      obtain ⟨m1, m2, m3, _⟩ := back_facts k1 (by have := HN.out; omega)
      have V1 : Hid (applyV rs s = .tuple #[.string (outB s rs), .int .i64 0]) := hide (by rw [applyV, if_pos hf])
      have V2 : Hid (backO rs s = backR s rs ∧ backE rs s = 0) := hide ⟨by rw [backO, if_pos hf], by rw [backE, if_pos hf]⟩
      have V3 : Hid (applyV (backR s rs) (outB s rs) = .tuple #[.string s, .int .i64 0]) := hide (by rw [applyV, if_pos k1, k2])
      have V4 : Hid (backO (backR s rs) (outB s rs) = backR (outB s rs) (backR s rs) ∧ backE (backR s rs) (outB s rs) = 0) := hide ⟨by rw [backO, if_pos k1], by rw [backE, if_pos k1]⟩
      rw [k2] at m1 m2
      have V5 : Hid (applyV (backR (outB s rs) (backR s rs)) s = .tuple #[.string (outB s rs), .int .i64 0]) := hide (by rw [applyV, if_pos m1, m2])
      have V6 : Hid (mOut (meas rs) = ((outB s rs).size : Int)) := hide k4.symm
      have HNB : Hid ((backR s rs).length ≤ 1000) := hide (by have := HN.out; omega)
      have HNA : Hid ((backR (outB s rs) (backR s rs)).length ≤ 10000) := hide (by have := HN.out; omega)
      have HF := hide hf
      have hB : ∀ W (cap : Nat), CameR W.heap.size W a rs → Calls Try.prog 72 #[.slice a rs.length cap, .string s] W fun e W' => Gives2 W.heap.size W (backR s rs) 0 e W' := fun W cap h => by
        have := back_any a cap rs s W h (by have := HN.out; omega)
        rw [V2.out.1, V2.out.2] at this; exact this
      have hC : ∀ W (a : Option Addr) (cap : Nat), CameR W.heap.size W a (backR s rs) → Calls Try.prog 72 #[.slice a (backR s rs).length cap, .string (outB s rs)] W fun e W' => Gives2 W.heap.size W (backR (outB s rs) (backR s rs)) 0 e W' := fun W a cap h => by
        have := back_any a cap (backR s rs) (outB s rs) W h (by have := HNB.out; omega)
        rw [V4.out.1, V4.out.2] at this; exact this
      have HB' := hide hB
      have HC' := hide hC
      clear k1 k2 k3 k4 m1 m2 m3 hf V2 V4 hB hC
      generalize backR (outB s rs) (backR s rs) = A at *
      generalize backR s rs = B at *
      generalize outB s rs = t at *
      go_wp2_with (go_at_call 49; refine (light_any a cap rs w L0.out).mono ?_; rintro e W1 ⟨rfl, hb⟩; rw [HLI.out]; have L1 := hide (came_up L0.out hb); have HB1 := hide hb; clear hb L0)
      go_wp2_with (go_at_call 75; refine (rfits_any a cap rs s W1 L1.out (by have := HN.out; omega)).mono ?_; rintro e W2 ⟨rfl, hb⟩; rw [HF.out]; have L2 := hide (came_up L1.out hb); have HB2 := hide (HB1.out.trans (hb.mono HB1.out.size)); clear hb L1)
      go_wp2_with (go_at_call 70; refine (apply_any a cap rs s W2 L2.out (by have := HN.out; omega)).mono ?_; rintro e W3 ⟨rfl, hb⟩; rw [V1.out]; have L3 := hide (came_up L2.out hb); have HB3 := hide (HB2.out.trans (hb.mono HB2.out.size)); clear hb L2)
      go_wp2_with (go_at_call 72; refine (HB'.out W3 cap L3.out).mono ?_; rintro e W4 ⟨a4, c4, rfl, hc, hb⟩; have L4 := hide (came_up L3.out hb); have M4 := hide hc; have HB4 := hide (HB3.out.trans (hb.mono HB3.out.size)); clear hb hc L3)
      go_wp2_with (go_at_call 70; refine (apply_any a4 c4 B t W4 M4.out (by have := HNB.out; omega)).mono ?_; rintro e W5 ⟨rfl, hb⟩; rw [V3.out]; have L5 := hide (came_up L4.out hb); have M5 := hide (came_up M4.out hb); have HB5 := hide (HB4.out.trans (hb.mono HB4.out.size)); clear hb L4 M4)
      go_wp2_with (go_at_call 72; refine (HC'.out W5 a4 c4 M5.out).mono ?_; rintro e W6 ⟨a6, c6, rfl, hc, hb⟩; have L6 := hide (came_up L5.out hb); have M6 := hide hc; have HB6 := hide (HB5.out.trans (hb.mono HB5.out.size)); clear hb hc L5 M5)
      go_wp2_with (go_at_call 70; refine (apply_any a6 c6 A s W6 M6.out (by have := HNA.out; omega)).mono ?_; rintro e W7 ⟨rfl, hb⟩; rw [V5.out]; have L7 := hide (came_up L6.out hb); have HB7 := hide (HB6.out.trans (hb.mono HB6.out.size)); clear hb L6 M6)
      go_wp2_with (go_at_call 55; refine (out_any a cap rs W7 L7.out (by have := HN.out; omega)).mono ?_; rintro e W8 ⟨rfl, hb⟩; rw [V6.out]; have HB8 := hide (HB7.out.trans (hb.mono HB7.out.size)); clear hb L7)
      go_wp2_with (go_at_call 69; refine (lives7_any W8).mono ?_; rintro e W9 ⟨rfl, hb⟩; have HB9 := hide (HB8.out.trans (hb.mono HB8.out.size)); clear hb)
      go_ret
      exact ⟨rfl, HB9.out⟩
  · have HLI : Hid (decide (LightR rs) = false) := hide (decide_eq_false hli)
    clear hli
    go_wp2_with (go_at_call 49; refine (light_any a cap rs w L0.out).mono ?_; rintro e W1 ⟨rfl, hb⟩; rw [HLI.out]; have HB1 := hide hb; clear hb L0)
    go_wp2_with (go_at_call 69; refine (lives7_any W1).mono ?_; rintro e W2 ⟨rfl, hb⟩; have HB2 := hide (HB1.out.trans (hb.mono HB1.out.size)); clear hb)
    go_ret
    exact ⟨rfl, HB2.out⟩

end Go.Proofs.Ytpmijaplkbmbiaa.E
