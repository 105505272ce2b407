/- PlaceKeeps, walked. -/
import Derived.Test.YtecmiphmefbpnaaQA
import Derived.Test.YtecmiphmefbpnaaPO
namespace Go.Proofs.Ytecmiphmefbpnaa.E
open Go.Proofs.Ytecmiphmefbpnaa Go.RowKit Go.By Go.Shelf
set_option linter.unusedVariables false
set_option linter.unusedSimpArgs false

set_option maxRecDepth 20000 in
set_option maxHeartbeats 4000000 in
theorem rfits_any (a : Option Addr) (cap : Nat) (rs : List Rn) (s : ByteArray) (w : World) (hS : CameR w.heap.size w a rs) (hl : rs.length ≤ 1000000) :
    Calls Try.prog 17 #[.slice a rs.length cap, .string s] w fun e W' => e = .returned (.bool (fitsR rs (s.size : Int))) ∧ Below w.heap.size w W' := by
  have hg := rgood_any a cap rs w hS hl
  obtain ⟨g, hgg⟩ : ∃ g, isG rs = g := ⟨_, rfl⟩
  have HF : Hid (fitsR rs (s.size : Int) = (g && decide (mIn (meas rs) = (s.size : Int)))) := hide (by rw [fitsR, hgg])
  rw [hgg] at hg
  have HS := hide hS
  clear hgg hS
  obtain ⟨m, hm⟩ : ∃ m, mIn (meas rs) = m := ⟨_, rfl⟩
  have hin : ∀ W, CameR W.heap.size W a rs → Calls Try.prog 22 #[.slice a rs.length cap] W fun e W' => e = .returned (.int .i64 m) ∧ Below W.heap.size W W' := fun W h => by rw [← hm]; exact rin_any a cap rs W h hl
  rw [hm] at HF
  clear hm
  go_enter Try.func17, Try.ntmps17
  cases g with
  | false =>
    go_wp2_with (go_at_call 21; refine hg.mono ?_; rintro e W1 ⟨rfl, hb⟩; have HB := hide hb; clear hb)
    go_ret
    exact ⟨by rw [HF.out]; rfl, HB.out⟩
  | true =>
    go_wp2_with (first
      | (go_at_call 21; refine hg.mono ?_; rintro e W1 ⟨rfl, hb⟩; have HB := hide hb; clear hb)
      | (go_at_call 22; refine (hin W1 (came_up HS.out HB.out)).mono ?_; rintro e W2 ⟨rfl, hb⟩; have HB2 := hide (HB.out.trans (hb.mono HB.out.size)); clear hb))
    go_ret
    exact ⟨by rw [HF.out, Bool.true_and]; rfl, HB2.out⟩

theorem nonempty_text {s : ByteArray} (h : ¬ s = ⟨#[]⟩) : s.toList.isEmpty = false := by
  rw [List.isEmpty_eq_false_iff, ByteArray.toList_eq]
  intro e
  apply h
  cases s with
  | mk d => simp at e; rw [e]
/-- The span's own box. -/
def SK (w : World) (f t : Int) (W : World) : Prop := Below w.heap.size w W ∧ W.heap[w.heap.size]? = some (.cells #[.int .i64 f, .int .i64 t] 24 (0, 0))
theorem bx_up {W Y : World} {q : Nat} {x y : Value} (h : W.heap[q]? = some (.cells #[x, y] 24 (0, 0))) (hb : Below W.heap.size W Y) : Y.heap[q]? = some (.cells #[x, y] 24 (0, 0)) := (hb.block _ (lt_of_heap h)).trans h
theorem bx_cells {W : World} {q : Nat} {x y : Value} (h : W.heap[q]? = some (.cells #[x, y] 24 (0, 0))) : W.cell? ⟨q, 0, none⟩ = some x ∧ W.cell? ⟨q, 1, none⟩ = some y :=
  ⟨by rw [Joins.cell_of_block h]; rfl, by rw [Joins.cell_of_block h]; rfl⟩
theorem SK.up {w : World} {f t : Int} {W Y : World} (h : SK w f t W) (hb : Below W.heap.size W Y) : SK w f t Y := ⟨h.1.trans (hb.mono h.1.size), bx_up h.2 hb⟩
theorem SK.lo {w : World} {f t : Int} {W : World} (h : SK w f t W) : Below w.heap.size w W := h.1
theorem sk_new (w : World) (f t : Int) : SK w f t (w.alloc (.cells #[.int .i64 f, .int .i64 t] 24)) := ⟨(Below.refl _ w).alloc (Nat.le_refl _) _, World.alloc_heap_new w _⟩

theorem keptN_step (D : List Bool) {f i : Nat} (h : f ≤ i) : keptN D f (i + 1 - f) = keptN D f (i - f) + if D.getD i false = true then 0 else 1 := by
  rw [show i + 1 - f = (i - f) + 1 by omega, keptN, show f + (i - f) = i by omega]
theorem plainB_step (D : List Bool) (A : List ByteArray) {f i : Nat} (h : f ≤ i) : plainB D A f (i + 1 - f) = (plainB D A f (i - f) && !D.getD i false && (decide (i = f) || decide (A.getD i ⟨#[]⟩ = ⟨#[]⟩))) := by
  rw [show i + 1 - f = (i - f) + 1 by omega, plainB, show f + (i - f) = i by omega]
  have : (decide (i - f = 0)) = decide (i = f) := by rw [decide_eq_decide]; omega
  rw [this]

set_option maxRecDepth 20000 in
set_option maxHeartbeats 16000000 in
theorem keeps_any (a : Option Addr) (cap : Nat) (rs : List Rn) (s : ByteArray) (f t : Int) (w : World) (hS : CameR w.heap.size w a rs) :
    Calls Try.prog 5 #[.slice a rs.length cap, .string s, .agg #[.int .i64 f, .int .i64 t]] w fun e W' => e = .returned (.bool true) ∧ Below w.heap.size w W' := by
  have HX := hide (sk_new w f t)
  have HF : Hid (∀ W, SK w f t W → Calls Try.prog 7 #[.slice a rs.length cap] W fun e W' => e = .returned (.bool (fewB rs)) ∧ Below W.heap.size W W') := hide fun W h => few_any a cap rs W ((hS.below h.lo).mono h.lo.size)
  have HLV : Hid (∀ W, Calls Try.prog 8 #[] W fun e W' => e = .returned (.bool true) ∧ Below W.heap.size W W') := hide lives10
  have HC := hide hS
  clear hS
  cases hf : fewB rs with
  | false =>
    rw [hf] at HF
    clear hf
    go_enter Try.func5, Try.ntmps5
    go_wp2_with (first
      | (go_at_call 7; refine (HF.out _ HX.out).mono ?_; rintro e W1 ⟨rfl, hb⟩; have HX1 := hide (HX.out.up hb); clear hb)
      | (go_at_call 8; refine (HLV.out _).mono ?_; rintro e W2 ⟨rfl, hb⟩; have HX2 := hide (HX1.out.up hb); clear hb))
    go_ret
    exact ⟨rfl, HX2.out.lo⟩
  | true =>
    rw [hf] at HF
    have hl : rs.length ≤ 1000000 := by have := few_hl hf; omega
    clear hf
    by_cases h1 : 2000 < s.size
    · have h1' : (2000 : Int) < (s.size : Int) := by omega
      clear h1
      go_enter Try.func5, Try.ntmps5
      go_wp2_with (first
        | (go_at_call 7; refine (HF.out _ HX.out).mono ?_; rintro e W1 ⟨rfl, hb⟩; have HX1 := hide (HX.out.up hb); clear hb)
        | (go_at_call 8; refine (HLV.out _).mono ?_; rintro e W2 ⟨rfl, hb⟩; have HX2 := hide (HX1.out.up hb); clear hb))
      go_ret
      exact ⟨rfl, HX2.out.lo⟩
    · have h1' : ¬ (2000 : Int) < (s.size : Int) := by omega
      have HS1 := hide h1
      have HFT : Hid (∀ W, SK w f t W → Calls Try.prog 17 #[.slice a rs.length cap, .string s] W fun e W' => e = .returned (.bool (fitsR rs (s.size : Int))) ∧ Below W.heap.size W W') := hide fun W h => rfits_any a cap rs s W ((HC.out.below h.lo).mono h.lo.size) hl
      clear h1
      cases hft : fitsR rs (s.size : Int) with
      | false =>
        rw [hft] at HFT
        clear hft
        go_enter Try.func5, Try.ntmps5
        go_wp2_with (first
          | (go_at_call 7; refine (HF.out _ HX.out).mono ?_; rintro e W1 ⟨rfl, hb⟩; have HX1 := hide (HX.out.up hb); clear hb)
          | (go_at_call 17; refine (HFT.out _ HX1.out).mono ?_; rintro e W2 ⟨rfl, hb⟩; have HX2 := hide (HX1.out.up hb); clear hb)
          | (go_at_call 8; refine (HLV.out _).mono ?_; rintro e W3 ⟨rfl, hb⟩; have HX3 := hide (HX2.out.up hb); clear hb))
        go_ret
        exact ⟨rfl, HX3.out.lo⟩
      | true =>
        rw [hft] at HFT
        obtain ⟨f1, f2, f3, f4, f5, f6⟩ := fits_facts hft
        by_cases h2 : f < 0 ∨ t < f ∨ (s.size : Int) < t
        · clear f1 f2 f3 f4 f5 f6 hft
          have key : ∀ (P : Prop), P → P := fun _ h => h
          rcases h2 with h2 | h2 | h2
          · clear key
            go_enter Try.func5, Try.ntmps5
            go_wp2_with (first
              | (go_at_call 7; refine (HF.out _ HX.out).mono ?_; rintro e W1 ⟨rfl, hb⟩; have HX1 := hide (HX.out.up hb); clear hb)
              | (go_at_call 17; refine (HFT.out _ HX1.out).mono ?_; rintro e W2 ⟨rfl, hb⟩; have HX2 := hide (HX1.out.up hb); obtain ⟨c0, c1⟩ := bx_cells HX2.out.2; clear hb)
              | (go_at_call 8; refine (HLV.out _).mono ?_; rintro e W3 ⟨rfl, hb⟩; have HX3 := hide (HX2.out.up hb); clear hb))
            go_ret
            exact ⟨rfl, HX3.out.lo⟩
          · clear key
            by_cases h3 : f < 0
            · go_enter Try.func5, Try.ntmps5
              go_wp2_with (first
                | (go_at_call 7; refine (HF.out _ HX.out).mono ?_; rintro e W1 ⟨rfl, hb⟩; have HX1 := hide (HX.out.up hb); clear hb)
                | (go_at_call 17; refine (HFT.out _ HX1.out).mono ?_; rintro e W2 ⟨rfl, hb⟩; have HX2 := hide (HX1.out.up hb); obtain ⟨c0, c1⟩ := bx_cells HX2.out.2; clear hb)
                | (go_at_call 8; refine (HLV.out _).mono ?_; rintro e W3 ⟨rfl, hb⟩; have HX3 := hide (HX2.out.up hb); clear hb))
              go_ret
              exact ⟨rfl, HX3.out.lo⟩
            · go_enter Try.func5, Try.ntmps5
              go_wp2_with (first
                | (go_at_call 7; refine (HF.out _ HX.out).mono ?_; rintro e W1 ⟨rfl, hb⟩; have HX1 := hide (HX.out.up hb); clear hb)
                | (go_at_call 17; refine (HFT.out _ HX1.out).mono ?_; rintro e W2 ⟨rfl, hb⟩; have HX2 := hide (HX1.out.up hb); obtain ⟨c0, c1⟩ := bx_cells HX2.out.2; clear hb)
                | (go_at_call 8; refine (HLV.out _).mono ?_; rintro e W3 ⟨rfl, hb⟩; have HX3 := hide (HX2.out.up hb); clear hb))
              go_ret
              exact ⟨rfl, HX3.out.lo⟩
          · clear key
            by_cases h3 : f < 0
            · go_enter Try.func5, Try.ntmps5
              go_wp2_with (first
                | (go_at_call 7; refine (HF.out _ HX.out).mono ?_; rintro e W1 ⟨rfl, hb⟩; have HX1 := hide (HX.out.up hb); clear hb)
                | (go_at_call 17; refine (HFT.out _ HX1.out).mono ?_; rintro e W2 ⟨rfl, hb⟩; have HX2 := hide (HX1.out.up hb); obtain ⟨c0, c1⟩ := bx_cells HX2.out.2; clear hb)
                | (go_at_call 8; refine (HLV.out _).mono ?_; rintro e W3 ⟨rfl, hb⟩; have HX3 := hide (HX2.out.up hb); clear hb))
              go_ret
              exact ⟨rfl, HX3.out.lo⟩
            · by_cases h4 : t < f
              · go_enter Try.func5, Try.ntmps5
                go_wp2_with (first
                  | (go_at_call 7; refine (HF.out _ HX.out).mono ?_; rintro e W1 ⟨rfl, hb⟩; have HX1 := hide (HX.out.up hb); clear hb)
                  | (go_at_call 17; refine (HFT.out _ HX1.out).mono ?_; rintro e W2 ⟨rfl, hb⟩; have HX2 := hide (HX1.out.up hb); obtain ⟨c0, c1⟩ := bx_cells HX2.out.2; clear hb)
                  | (go_at_call 8; refine (HLV.out _).mono ?_; rintro e W3 ⟨rfl, hb⟩; have HX3 := hide (HX2.out.up hb); clear hb))
                go_ret
                exact ⟨rfl, HX3.out.lo⟩
              · go_enter Try.func5, Try.ntmps5
                go_wp2_with (first
                  | (go_at_call 7; refine (HF.out _ HX.out).mono ?_; rintro e W1 ⟨rfl, hb⟩; have HX1 := hide (HX.out.up hb); clear hb)
                  | (go_at_call 17; refine (HFT.out _ HX1.out).mono ?_; rintro e W2 ⟨rfl, hb⟩; have HX2 := hide (HX1.out.up hb); obtain ⟨c0, c1⟩ := bx_cells HX2.out.2; clear hb)
                  | (go_at_call 8; refine (HLV.out _).mono ?_; rintro e W3 ⟨rfl, hb⟩; have HX3 := hide (HX2.out.up hb); clear hb))
                go_ret
                exact ⟨rfl, HX3.out.lo⟩
        · have h3 : ¬ f < 0 := by omega
          have h4 : ¬ t < f := by omega
          have h5 : ¬ (s.size : Int) < t := by omega
          have hk := good_kinds f1
          have hsum := sums_tok hk
          have hB : spanB rs f t = true := by rw [spanB, f1, decide_eq_true (by omega)]; rfl
          obtain ⟨fn, rfl⟩ := Int.eq_ofNat_of_zero_le (by omega : 0 ≤ f)
          obtain ⟨tn, rfl⟩ := Int.eq_ofNat_of_zero_le (by omega : 0 ≤ t)
          obtain ⟨an, bn, hab, g1, g2, g3, g4⟩ := sp_facts f1 (f := fn) (t := tn) (by omega) (by omega)
          have hV : spanV rs fn tn = .tuple #[.agg #[.int .i64 (an : Int), .int .i64 (bn : Int)], .bool true] := by rw [spanV, spanP, if_pos hB, hB, Int.toNat_natCast, Int.toNat_natCast, hab]
          have hosz := outB_size (s := s) (rs := rs) (by omega)
          have hap : applyV rs s = .tuple #[.string (outB s rs), .int .i64 0] := by rw [applyV, if_pos hft]
          have HSA : Hid (∀ A : List ByteArray, A.map (·.size) = aT (expand rs) → fn < tn → plainB (dT (expand rs)) A fn (tn - fn) = true → (outB s rs).extract an bn = s.extract fn tn) := hide fun A hA hlt hp => plain_same f1 hA (by omega) hlt (by omega) hp hab
          have HAP : Hid (∀ W, SK w fn tn W → Calls Try.prog 18 #[.slice a rs.length cap, .string s] W fun e W' => e = .returned (.tuple #[.string (outB s rs), .int .i64 0]) ∧ Below W.heap.size W W') := hide fun W h => by rw [← hap]; exact apply_any a cap rs s W ((HC.out.below h.lo).mono h.lo.size) hl
          have HSP : Hid (∀ W, SK w fn tn W → Calls Try.prog 11 #[.slice a rs.length cap, .agg #[.int .i64 (fn : Int), .int .i64 (tn : Int)]] W fun e W' => e = .returned (.tuple #[.agg #[.int .i64 (an : Int), .int .i64 (bn : Int)], .bool true]) ∧ Below W.heap.size W W') := hide fun W h => by rw [← hV]; exact span_any a cap rs fn tn W ((HC.out.below h.lo).mono h.lo.size) hl
          have HA : Hid (∀ W, SK w fn tn W → Calls Try.prog 19 #[.slice a rs.length cap] W fun e W' => ∃ da dc A, e = .returned (.slice da A.length dc) ∧ A.map (·.size) = aT (expand rs) ∧ TextsAt W'.heap.size W' da A ∧ Below W.heap.size W W') := hide fun W h => adds_any a cap rs W ((HC.out.below h.lo).mono h.lo.size) hk hl (by omega) (by omega)
          have HD : Hid (∀ W, SK w fn tn W → Calls Try.prog 20 #[.slice a rs.length cap] W fun e W' => ∃ da dc, e = .returned (.slice da (dT (expand rs)).length dc) ∧ BoolsAt W'.heap.size W' da (dT (expand rs)) ∧ Below W.heap.size W W') := hide fun W h => drops_any a cap rs W ((HC.out.below h.lo).mono h.lo.size) hk hl (by omega)
          have HN : Hid ((aT (expand rs)).length = tIn (expand rs) + 1 ∧ (dT (expand rs)).length = tIn (expand rs) ∧ tIn (expand rs) = s.size) := hide ⟨aT_len _, dT_len _, by omega⟩
          have HFT2 : Hid (fn ≤ tn ∧ tn ≤ s.size ∧ s.size ≤ 2000) := hide ⟨by omega, by omega, by have := HS1.out; omega⟩
          rw [← hosz] at g2
          have HG : Hid (an ≤ bn ∧ bn ≤ (outB s rs).size ∧ (outB s rs).size ≤ 16777216 ∧ (keptN (dT (expand rs)) fn (tn - fn) = 0 → an = bn) ∧ an + keptN (dT (expand rs)) fn (tn - fn) ≤ bn) := hide ⟨g1, g2, by omega, g3, g4⟩
          have e1 : ¬ (an : Int) < 0 := by omega
          have e2 : ¬ (bn : Int) < (an : Int) := by omega
          have e3 : ¬ ((outB s rs).size : Int) < (bn : Int) := by omega
          generalize outB s rs = o at *
          generalize tIn (expand rs) = T at *
          generalize aT (expand rs) = AL at *
          generalize dT (expand rs) = DL at *
          clear f1 f2 f3 f4 f5 f6 hft h2 hk hsum hB hab g1 g2 g3 g4 hV hosz hap
          have h3' : ¬ (fn : Int) < 0 := by omega
          go_enter Try.func5, Try.ntmps5
          go_wp2_with (first
            | (go_at_call 7; refine (HF.out _ HX.out).mono ?_; rintro e W1 ⟨rfl, hb⟩; have HX1 := hide (HX.out.up hb); clear hb)
            | (go_at_call 17; refine (HFT.out _ HX1.out).mono ?_; rintro e W2 ⟨rfl, hb⟩; have HX2 := hide (HX1.out.up hb); obtain ⟨c0, c1⟩ := bx_cells HX2.out.2; clear hb)
            | (go_at_call 18; refine (HAP.out _ HX2.out).mono ?_; rintro e W3 ⟨rfl, hb⟩; have HX3 := hide (HX2.out.up hb); obtain ⟨c0', c1'⟩ := bx_cells HX3.out.2; clear hb)
            | (go_at_call 11; refine (HSP.out _ HX3.out).mono ?_; rintro e W4 ⟨rfl, hb⟩; have hal : Below W4.heap.size W4 (W4.alloc (.cells #[.int .i64 (an : Int), .int .i64 (bn : Int)] 24)) := (Below.refl _ W4).alloc (Nat.le_refl _) _; have HX4 := hide ((HX3.out.up hb).up hal); have HY4 := hide (World.alloc_heap_new W4 (.cells #[.int .i64 (an : Int), .int .i64 (bn : Int)] 24)); obtain ⟨d0, d1⟩ := bx_cells HY4.out; clear hb hal)
            | (go_at_call 19; refine (HA.out _ HX4.out).mono ?_; rintro e W5 ⟨da, dc, A, rfl, hA, hT, hb⟩; have HT := hide (And.intro hA hT); have HX5 := hide (HX4.out.up hb); have HY5 := hide (bx_up HY4.out hb); clear hb hA hT)
            | (go_at_call 20; refine (HD.out _ HX5.out).mono ?_; rintro e W6 ⟨ea, ec, rfl, hD, hb⟩; have HT6 := hide (HT.out.2.up hb); have HD6 := hide hD; have HX6 := hide (HX5.out.up hb); have HY6 := hide (bx_up HY5.out hb); obtain ⟨c60, c61⟩ := bx_cells HX6.out.2; obtain ⟨d60, d61⟩ := bx_cells HY6.out; clear hb hD))
          have HCL : Hid (∀ i, i ≤ T → ∃ g, da = some ⟨g, 0, none⟩ ∧ W6.cell? ⟨g, i, none⟩ = some (.string (A.getD i ⟨#[]⟩))) := hide fun i hi => by
            obtain ⟨g, hg, _, hc⟩ := HT6.out
            have hlA : A.length = T + 1 := by rw [← HN.out.1, ← HT.out.1, List.length_map]
            exact ⟨g, hg, hc i (by omega)⟩
          have HDL : Hid (∀ i, i < T → ∃ g, ea = some ⟨g, 0, none⟩ ∧ W6.cell? ⟨g, i, none⟩ = some (.bool (DL.getD i false))) := hide fun i hi => by
            have hlD := HN.out.2.1
            rcases HD6.out with h | ⟨g, hg, _, hc⟩
            · rw [h] at hlD; simp at hlD; omega
            · exact ⟨g, hg, hc i (by omega)⟩
          have HAL : Hid (A.length = T + 1 ∧ DL.length = T) := hide ⟨by rw [← HN.out.1, ← HT.out.1, List.length_map], HN.out.2.1⟩
          have HTS : Hid (T = s.size) := hide HN.out.2.2
          have HSB : Hid (fn < tn → plainB DL A fn (tn - fn) = true → o.extract an bn = s.extract fn tn) := hide fun h hp => HSA.out A HT.out.1 h hp
          clear HN HT HT6 HD6 HSA HAP HSP HA HD HF HFT HX1 HX2 HX3 HX4 HX5 HY4 HY5 c0 c1 c0' c1' d0 d1
          generalize A.length = Al at *
          generalize DL.length = Dl at *
          obtain ⟨rfl, rfl⟩ := HAL.out
          clear HAL
          go_loopw [13, 14, 15] (fun s13 s14 s15 wr => ∃ i : Nat, s15 = .int .i64 (i : Int) ∧ fn ≤ i ∧ i ≤ tn ∧ s13 = .int .i64 ((keptN DL fn (i - fn) : Nat) : Int) ∧ s14 = .bool (plainB DL A fn (i - fn)) ∧ wr = W6) (fun _ _ s _ => tn - (intOf s).toNat)
          case atStart => exact ⟨fn, rfl, Nat.le_refl _, HFT2.out.1, by rw [Nat.sub_self]; rfl, by rw [Nat.sub_self]; rfl, rfl⟩
          case round =>
            obtain ⟨i, rfl, hfi, hi, rfl, rfl, rfl⟩ := hrel
            have hkl := keptN_le DL fn (i - fn)
            by_cases hlt : i < tn
            · have hlt' : (i : Int) < (tn : Int) := by omega
              have hT := HTS.out
              obtain ⟨g, rfl, hcx⟩ := HCL.out i (by have := HFT2.out; omega)
              obtain ⟨dg, rfl, hcd⟩ := HDL.out i (by have := HFT2.out; omega)
              have HK := hide (keptN_step DL hfi)
              have HP := hide (plainB_step DL A hfi)
              have hbT : (i : Int) < ((Dl + 1 : Nat) : Int) := by have := HFT2.out; omega
              have hbD : (i : Int) < (Dl : Int) := by have := HFT2.out; omega
              have hkb : keptN DL fn (i - fn) ≤ 2000 := by have := HFT2.out; omega
              generalize keptN DL fn (i - fn) = kn at *
              generalize plainB DL A fn (i - fn) = pb at *
              generalize A.getD i ⟨#[]⟩ = tx at *
              have w1 : IntKind.i64.wrap ((kn : Int) + 1) = (kn : Int) + 1 := wrap_one (by omega)
              have w2 : IntKind.i64.wrap ((i : Int) + 1) = (i : Int) + 1 := wrap_one (by have := HFT2.out; omega)
              have HLT := hide (And.intro hlt hfi)
              clear hlt hfi hi hkl hkb hT
              cases hd : DL.getD i false with
              | true =>
                rw [hd] at hcd HK HP
                have HR : Hid (keptN DL fn (i + 1 - fn) = kn ∧ plainB DL A fn (i + 1 - fn) = false) := hide ⟨by rw [HK.out]; rfl, by rw [HP.out]; simp⟩
                clear hd HK HP
                cases pb with
                | true =>
                  go_wp2
                  go_roundw
                  case rel => exact ⟨i + 1, by go_num, by have := HLT.out; omega, by have := HLT.out; omega, by rw [HR.out.1], by rw [HR.out.2], by trivial⟩
                  case measure => simp [intOf]; have := HLT.out; omega
                | false =>
                  go_wp2
                  go_roundw
                  case rel => exact ⟨i + 1, by go_num, by have := HLT.out; omega, by have := HLT.out; omega, by rw [HR.out.1], by rw [HR.out.2], by trivial⟩
                  case measure => simp [intOf]; have := HLT.out; omega
              | false =>
                rw [hd] at hcd HK HP
                have HR : Hid (keptN DL fn (i + 1 - fn) = kn + 1) := hide HK.out
                clear hd HK
                cases pb with
                | false =>
                  have HR2 : Hid (plainB DL A fn (i + 1 - fn) = false) := hide (by rw [HP.out]; simp)
                  clear HP
                  go_wp2
                  go_roundw
                  case rel => exact ⟨i + 1, by go_num, by have := HLT.out; omega, by have := HLT.out; omega, by rw [HR.out]; rfl, by rw [HR2.out], by trivial⟩
                  case measure => simp [intOf]; have := HLT.out; omega
                | true =>
                  by_cases hif : i = fn
                  · have HR2 : Hid (plainB DL A fn (i + 1 - fn) = true) := hide (by rw [HP.out, decide_eq_true hif]; simp)
                    clear HP
                    subst hif
                    go_wp2
                    go_roundw
                    case rel => exact ⟨i + 1, by go_num, by have := HLT.out; omega, by have := HLT.out; omega, by rw [HR.out]; rfl, by rw [HR2.out], by trivial⟩
                    case measure => simp [intOf]; have := HLT.out; omega
                  · have hne : ¬ (i : Int) = (fn : Int) := by omega
                    by_cases htx : tx = ⟨#[]⟩
                    · have HR2 : Hid (plainB DL A fn (i + 1 - fn) = true) := hide (by rw [HP.out, decide_eq_true htx]; simp)
                      clear HP hif
                      subst htx
                      go_wp2
                      go_roundw
                      case rel => exact ⟨i + 1, by go_num, by have := HLT.out; omega, by have := HLT.out; omega, by rw [HR.out]; rfl, by rw [HR2.out], by trivial⟩
                      case measure => simp [intOf]; have := HLT.out; omega
                    · have HR2 : Hid (plainB DL A fn (i + 1 - fn) = false) := hide (by rw [HP.out, decide_eq_false htx, decide_eq_false hif]; simp)
                      have HTX := hide (nonempty_text htx)
                      have HNE := hide hne
                      clear HP hif
                      go_wp2
                      go_roundw
                      case rel => exact ⟨i + 1, by go_num, by have := HLT.out; omega, by have := HLT.out; omega, by rw [HR.out]; rfl, by rw [HR2.out, HTX.out]; have := HNE.out; simpa using this, by trivial⟩
                      case measure => simp [intOf]; have := HLT.out; omega
            · obtain rfl : i = tn := by omega
              have hlt' : ¬ (i : Int) < (i : Int) := by omega
              have HKL : Hid (keptN DL fn (i - fn) ≤ i - fn) := hide hkl
              generalize keptN DL fn (i - fn) = kn at *
              generalize plainB DL A fn (i - fn) = pb at *
              clear hlt hkl
              by_cases hk0 : kn = 0
              · subst hk0
                obtain rfl := HG.out.2.2.2.1 rfl
                go_wp2_with (go_at_call 8; refine (HLV.out _).mono ?_; rintro e W7 ⟨rfl, hb⟩; have HX7 := hide (HX6.out.up hb); clear hb)
                go_ret
                exact ⟨rfl, HX7.out.lo⟩
              · have hk1 : ¬ (kn : Int) = 0 := by omega
                have hge : (kn : Int) ≤ (bn : Int) - (an : Int) := by have := HG.out; omega
                have w3 : IntKind.i64.wrap ((bn : Int) - (an : Int)) = (bn : Int) - (an : Int) := by have := HG.out; rw [IntKind.wrap_i64]; omega
                clear hk0
                cases pb with
                | false =>
                  go_wp2_with fail
                  go_quiet (fail)
                  obtain ⟨Y, hY⟩ : ∃ Y, Y = wr.drewN nq := ⟨_, rfl⟩
                  have hbD : Below wr.heap.size wr Y := by rw [hY]; exact below_drwN (Below.refl _ _) _
                  have HXD := hide (HX6.out.up hbD)
                  obtain ⟨p0, p1⟩ := bx_cells (bx_up HY6.out hbD)
                  rw [← hY]
                  clear hY hbD d60 d61 c60 c61
                  go_wp2_with (go_at_call 8; refine (HLV.out _).mono ?_; rintro e W7 ⟨rfl, hb⟩; have HX7 := hide (HXD.out.up hb); clear hb)
                  go_ret
                  exact ⟨rfl, HX7.out.lo⟩
                | true =>
                  have hex : o.extract an bn = s.extract fn i := HSB.out (by have := HKL.out; omega) rfl
                  go_wp2_with fail
                  go_quiet (fail)
                  obtain ⟨Y, hY⟩ : ∃ Y, Y = wr.drewN nq := ⟨_, rfl⟩
                  have hbD : Below wr.heap.size wr Y := by rw [hY]; exact below_drwN (Below.refl _ _) _
                  have HXD := hide (HX6.out.up hbD)
                  obtain ⟨p0, p1⟩ := bx_cells (bx_up HY6.out hbD)
                  rw [← hY]
                  clear hY hbD d60 d61 c60 c61
                  go_wp2_with (go_at_call 8; refine (HLV.out _).mono ?_; rintro e W7 ⟨rfl, hb⟩; have HX7 := hide (HXD.out.up hb); clear hb)
                  go_ret
                  exact ⟨rfl, HX7.out.lo⟩

end Go.Proofs.Ytecmiphmefbpnaa.E
