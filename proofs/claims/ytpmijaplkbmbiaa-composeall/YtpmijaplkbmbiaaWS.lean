/- compose's law ComposeThree. -/
import Derived.Test.YtpmijaplkbmbiaaWQ
namespace Go.Proofs.Ytpmijaplkbmbiaa.E
open Go.Proofs.Ytpmijaplkbmbiaa Go.RowKit Go.By Go.Shelf
set_option linter.unusedVariables false
set_option linter.unusedSimpArgs false

theorem norm_newC (w : World) (L : List Rn) (cap : Nat) (hl : L.length ≤ 1000000) :
    Calls Try.prog 60 #[.slice (some ⟨w.heap.size, 0, none⟩) L.length cap] (w.alloc (.cells (cellsR L).toArray 91)) fun e W' => GivesC w.heap.size w (normR L) e W' :=
  (norm_cap _ cap L _ (came_new w L) hl).mono fun e W' ⟨a, c, he, hc, hcp, hb⟩ => ⟨a, c, he, hc, hcp, ((Below.refl _ w).alloc (Nat.le_refl _) _).trans (hb.mono (by simp))⟩
set_option maxRecDepth 20000 in
set_option maxHeartbeats 4000000 in
theorem nothing_cap (n : Int) (w : World) : Calls Try.prog 67 #[.int .i64 n] w fun e W' => GivesC w.heap.size w (nothR n) e W' := by
  have hN := norm_newC w [⟨n, ⟨#[]⟩, 0⟩] 1 (by simp)
  go_enter Try.func67, Try.ntmps67
  go_wp2_with (go_at_call 60; refine hN.mono ?_; rintro e W' ⟨a, c, rfl, hc, hcp, hb⟩; rw [norm_noth] at hc hcp ⊢; have HC := hide hc; have HP := hide hcp; have HB := hide hb; clear hc hcp hb)
  go_ret
  exact ⟨a, c, rfl, HC.out, HP.out, HB.out⟩
theorem noth_facts {n : Nat} (hn : n ≤ 16777216) : isG (nothR (n : Int)) = true ∧ expand (nothR (n : Int)) = List.replicate n .K ∧ (nothR (n : Int)).length ≤ 1 := by
  refine ⟨by rw [← norm_noth]; exact isG_normR _, ?_, ?_⟩
  · unfold nothR
    by_cases h : n = 0
    · subst h; rfl
    · rw [if_neg (by omega)]
      show expand [rK n] = _
      rw [expand_cons, toks_rK h]
      simp [expand]
  · unfold nothR; split <;> simp
theorem tIn_Ks (n : Nat) : tIn (List.replicate n .K) = n := tIn_K n
theorem good_sums {a : List Rn} (h : isG a = true) : mIn (meas a) = ((tIn (expand a) : Nat) : Int) ∧ mOut (meas a) = ((tOut (expand a) : Nat) : Int) := by
  obtain ⟨j, e, _⟩ := good_facts h
  rw [e]
  exact ⟨rfl, rfl⟩
theorem fit2_of {a b : List Rn} (h1 : isG a = true) (h2 : isG b = true) (h : tOut (expand a) = tIn (expand b)) : fit2 a b = true := by
  rw [fit2, h1, h2, (good_sums h1).2, (good_sums h2).1, h]
  simp
/-- With one that changes nothing an edit composes to itself. -/
theorem two_noth {a : List Rn} (h : isG a = true) (hl : (expand a).length ≤ 6000) {n : Nat} (hn : n ≤ 6000) :
    (tIn (expand a) = n → fit2 (nothR (n : Int)) a = true ∧ twoO (nothR (n : Int)) a = a ∧ twoE (nothR (n : Int)) a = 0) ∧ (tOut (expand a) = n → fit2 a (nothR (n : Int)) = true ∧ twoO a (nothR (n : Int)) = a ∧ twoE a (nothR (n : Int)) = 0) := by
  obtain ⟨g, e, _⟩ := noth_facts (n := n) (by omega)
  constructor
  · intro hi
    have hf := fit2_of g h (by rw [e, tOut_K, hi])
    obtain ⟨o1, o2, _⟩ := two_ok hf (by rw [e, List.length_replicate]; omega)
    refine ⟨hf, ?_, o1⟩
    rw [o2, twoT, e, ← hi, cT_idle_left, normT_good h]
  · intro ho
    have hf := fit2_of h g (by rw [e, tIn_K, ho])
    obtain ⟨o1, o2, _⟩ := two_ok hf (by rw [e, List.length_replicate]; omega)
    refine ⟨hf, ?_, o1⟩
    rw [o2, twoT, e, ← ho, cT_idle_right, normT_good h]
theorem in_le (ts : List Tok) : tIn ts ≤ ts.length ∧ tOut ts ≤ ts.length := by
  induction ts with
  | nil => exact ⟨Nat.le_refl _, Nat.le_refl _⟩
  | cons t ts ih => cases t <;> simp only [List.length_cons, tIn, tOut] <;> omega
theorem two_len {a b : List Rn} (h : fit2 a b = true) (hl : (expand a).length + (expand b).length ≤ 60000) : (expand (twoO a b)).length ≤ (expand a).length + (expand b).length := by
  obtain ⟨_, _, _, s1, s2, he, _⟩ := two_ok h hl
  have h1 := tok_len (expand (twoO a b))
  rw [he, tIn_normT, tOut_normT, s1, s2] at h1
  have h2 := (in_le (expand a)).1
  have h3 := (in_le (expand b)).2
  rw [he]
  omega
theorem fit2_comp {a b c : List Rn} (h : fit2 a b = true) (h' : fit2 b c = true) (hl : (expand a).length + (expand b).length ≤ 60000) (hl' : (expand b).length + (expand c).length ≤ 60000) :
    fit2 (twoO a b) c = true ∧ fit2 a (twoO b c) = true := by
  obtain ⟨_, _, g1, s1, s2, e1, _⟩ := two_ok h hl
  obtain ⟨_, _, g2, s3, s4, e2, _⟩ := two_ok h' hl'
  obtain ⟨f1, f2, _, _, f3, _⟩ := fit2_facts h
  obtain ⟨f4, f5, _, _, f6, _⟩ := fit2_facts h'
  exact ⟨fit2_of g1 f5 (by rw [e1, tOut_normT, s2, f6]), fit2_of f1 g2 (by rw [e2, tIn_normT, s3, f3])⟩

set_option maxRecDepth 100000 in
set_option maxHeartbeats 16000000 in
theorem three8_any (a b c : Option Addr) (cap cap' cap2 : Nat) (rs ss cs : List Rn) (s : ByteArray) (w : World) (hS : CameR w.heap.size w a rs) (hS' : CameR w.heap.size w b ss) (hS2 : CameR w.heap.size w c cs) (hc : rs.length ≤ cap) (hc' : ss.length ≤ cap') (hc2 : cs.length ≤ cap2) :
    Calls Try.prog 22 #[.slice a rs.length cap, .slice b ss.length cap', .slice c cs.length cap2, .string s] w fun e W' => e = .returned (.bool true) ∧ Below w.heap.size w W' := by
  have L0 := hide hS
  have M0 := hide hS'
  have N0 := hide hS2
  have HC := hide (And.intro hc (And.intro hc' hc2))
  clear hS hS' hS2 hc hc' hc2
  go_enter Try.func22, Try.ntmps22
  cases fa : fewR rs with
  | false =>
    have FA := hide fa
    clear fa
    go_wp2_with (go_at_call 80; (with_reducible refine (few_any a cap rs w L0.out).mono ?_); rintro e W1 ⟨rfl, hb⟩; rw [FA.out]; have L1 := hide (came_up L0.out hb); have M1 := hide (came_up M0.out hb); have N1 := hide (came_up N0.out hb); have HB1 := hide hb; clear hb L0 M0 N0)
    go_wp2_with (go_at_call 81; (with_reducible refine (lives8_any W1).mono ?_); rintro e W2 ⟨rfl, hb⟩; have L2 := hide (came_up L1.out hb); have M2 := hide (came_up M1.out hb); have N2 := hide (came_up N1.out hb); have HB2 := hide (HB1.out.trans (hb.mono HB1.out.size)); clear hb L1 M1 N1)
    go_ret
    exact ⟨rfl, HB2.out⟩
  | true =>
    have FA := hide fa
    obtain ⟨la1, la2, la3⟩ := fewR_light fa
    clear fa
    cases fb : fewR ss with
    | false =>
      have FB := hide fb
      clear fb la1 la2 la3
      go_wp2_with (go_at_call 80; (with_reducible refine (few_any a cap rs w L0.out).mono ?_); rintro e W1 ⟨rfl, hb⟩; rw [FA.out]; have L1 := hide (came_up L0.out hb); have M1 := hide (came_up M0.out hb); have N1 := hide (came_up N0.out hb); have HB1 := hide hb; clear hb L0 M0 N0)
      go_wp2_with (go_at_call 80; (with_reducible refine (few_any b cap' ss W1 M1.out).mono ?_); rintro e W2 ⟨rfl, hb⟩; rw [FB.out]; have L2 := hide (came_up L1.out hb); have M2 := hide (came_up M1.out hb); have N2 := hide (came_up N1.out hb); have HB2 := hide (HB1.out.trans (hb.mono HB1.out.size)); clear hb L1 M1 N1)
      go_wp2_with (go_at_call 81; (with_reducible refine (lives8_any W2).mono ?_); rintro e W3 ⟨rfl, hb⟩; have L3 := hide (came_up L2.out hb); have M3 := hide (came_up M2.out hb); have N3 := hide (came_up N2.out hb); have HB3 := hide (HB2.out.trans (hb.mono HB2.out.size)); clear hb L2 M2 N2)
      go_ret
      exact ⟨rfl, HB3.out⟩
    | true =>
      have FB := hide fb
      obtain ⟨lb1, lb2, lb3⟩ := fewR_light fb
      clear fb
      cases fc : fewR cs with
      | false =>
        have FC := hide fc
        clear fc la1 la2 la3 lb1 lb2 lb3
        go_wp2_with (go_at_call 80; (with_reducible refine (few_any a cap rs w L0.out).mono ?_); rintro e W1 ⟨rfl, hb⟩; rw [FA.out]; have L1 := hide (came_up L0.out hb); have M1 := hide (came_up M0.out hb); have N1 := hide (came_up N0.out hb); have HB1 := hide hb; clear hb L0 M0 N0)
        go_wp2_with (go_at_call 80; (with_reducible refine (few_any b cap' ss W1 M1.out).mono ?_); rintro e W2 ⟨rfl, hb⟩; rw [FB.out]; have L2 := hide (came_up L1.out hb); have M2 := hide (came_up M1.out hb); have N2 := hide (came_up N1.out hb); have HB2 := hide (HB1.out.trans (hb.mono HB1.out.size)); clear hb L1 M1 N1)
        go_wp2_with (go_at_call 80; (with_reducible refine (few_any c cap2 cs W2 N2.out).mono ?_); rintro e W3 ⟨rfl, hb⟩; rw [FC.out]; have L3 := hide (came_up L2.out hb); have M3 := hide (came_up M2.out hb); have N3 := hide (came_up N2.out hb); have HB3 := hide (HB2.out.trans (hb.mono HB2.out.size)); clear hb L2 M2 N2)
        go_wp2_with (go_at_call 81; (with_reducible refine (lives8_any W3).mono ?_); rintro e W4 ⟨rfl, hb⟩; have L4 := hide (came_up L3.out hb); have M4 := hide (came_up M3.out hb); have N4 := hide (came_up N3.out hb); have HB4 := hide (HB3.out.trans (hb.mono HB3.out.size)); clear hb L3 M3 N3)
        go_ret
        exact ⟨rfl, HB4.out⟩
      | true =>
        have FC := hide fc
        obtain ⟨lc1, lc2, lc3⟩ := fewR_light fc
        clear fc
        by_cases h2 : (2000 : Int) < (s.size : Int)
        · clear la1 la2 la3 lb1 lb2 lb3 lc1 lc2 lc3
          go_wp2_with (go_at_call 80; (with_reducible refine (few_any a cap rs w L0.out).mono ?_); rintro e W1 ⟨rfl, hb⟩; rw [FA.out]; have L1 := hide (came_up L0.out hb); have M1 := hide (came_up M0.out hb); have N1 := hide (came_up N0.out hb); have HB1 := hide hb; clear hb L0 M0 N0)
          go_wp2_with (go_at_call 80; (with_reducible refine (few_any b cap' ss W1 M1.out).mono ?_); rintro e W2 ⟨rfl, hb⟩; rw [FB.out]; have L2 := hide (came_up L1.out hb); have M2 := hide (came_up M1.out hb); have N2 := hide (came_up N1.out hb); have HB2 := hide (HB1.out.trans (hb.mono HB1.out.size)); clear hb L1 M1 N1)
          go_wp2_with (go_at_call 80; (with_reducible refine (few_any c cap2 cs W2 N2.out).mono ?_); rintro e W3 ⟨rfl, hb⟩; rw [FC.out]; have L3 := hide (came_up L2.out hb); have M3 := hide (came_up M2.out hb); have N3 := hide (came_up N2.out hb); have HB3 := hide (HB2.out.trans (hb.mono HB2.out.size)); clear hb L2 M2 N2)
          go_wp2_with (go_at_call 81; (with_reducible refine (lives8_any W3).mono ?_); rintro e W4 ⟨rfl, hb⟩; have L4 := hide (came_up L3.out hb); have M4 := hide (came_up M3.out hb); have N4 := hide (came_up N3.out hb); have HB4 := hide (HB3.out.trans (hb.mono HB3.out.size)); clear hb L3 M3 N3)
          go_ret
          exact ⟨rfl, HB4.out⟩
        have HLA : Hid (rs.length ≤ 1000000) := hide (by omega)
        have HLB : Hid (ss.length ≤ 1000000) := hide (by omega)
        have HLC : Hid (cs.length ≤ 1000000) := hide (by omega)
        cases hf : fitsR rs (s.size : Int) with
        | false =>
          have HF := hide hf
          clear hf la1 la2 la3 lb1 lb2 lb3 lc1 lc2 lc3
          go_wp2_with (go_at_call 80; (with_reducible refine (few_any a cap rs w L0.out).mono ?_); rintro e W1 ⟨rfl, hb⟩; rw [FA.out]; have L1 := hide (came_up L0.out hb); have M1 := hide (came_up M0.out hb); have N1 := hide (came_up N0.out hb); have HB1 := hide hb; clear hb L0 M0 N0)
          go_wp2_with (go_at_call 80; (with_reducible refine (few_any b cap' ss W1 M1.out).mono ?_); rintro e W2 ⟨rfl, hb⟩; rw [FB.out]; have L2 := hide (came_up L1.out hb); have M2 := hide (came_up M1.out hb); have N2 := hide (came_up N1.out hb); have HB2 := hide (HB1.out.trans (hb.mono HB1.out.size)); clear hb L1 M1 N1)
          go_wp2_with (go_at_call 80; (with_reducible refine (few_any c cap2 cs W2 N2.out).mono ?_); rintro e W3 ⟨rfl, hb⟩; rw [FC.out]; have L3 := hide (came_up L2.out hb); have M3 := hide (came_up M2.out hb); have N3 := hide (came_up N2.out hb); have HB3 := hide (HB2.out.trans (hb.mono HB2.out.size)); clear hb L2 M2 N2)
          go_wp2_with (go_at_call 75; (with_reducible refine (rfits_any a cap rs s W3 L3.out HLA.out).mono ?_); rintro e W4 ⟨rfl, hb⟩; rw [HF.out]; have L4 := hide (came_up L3.out hb); have M4 := hide (came_up M3.out hb); have N4 := hide (came_up N3.out hb); have HB4 := hide (HB3.out.trans (hb.mono HB3.out.size)); clear hb L3 M3 N3)
          go_wp2_with (go_at_call 81; (with_reducible refine (lives8_any W4).mono ?_); rintro e W5 ⟨rfl, hb⟩; have L5 := hide (came_up L4.out hb); have M5 := hide (came_up M4.out hb); have N5 := hide (came_up N4.out hb); have HB5 := hide (HB4.out.trans (hb.mono HB4.out.size)); clear hb L4 M4 N4)
          go_ret
          exact ⟨rfl, HB5.out⟩
        | true =>
          have HF := hide hf
          obtain ⟨hga, hin, -⟩ := fits_facts hf
          obtain ⟨ta1, ta2, ta3⟩ := la3 hga
          obtain ⟨gs1, gs2⟩ := good_sums hga
          obtain ⟨m, hm⟩ : ∃ m : Nat, mOut (meas rs) = (m : Int) := ⟨_, gs2⟩
          have htm : tOut (expand rs) = m := by omega
          have htn : tIn (expand rs) = s.size := by omega
          have hm3 : m ≤ 3000 := by omega
          have hs2 : s.size ≤ 2000 := by omega
          obtain ⟨t1, -⟩ := two_noth hga ta3 (n := s.size) (by omega)
          obtain ⟨-, t2⟩ := two_noth hga ta3 (n := m) (by omega)
          obtain ⟨n1, n2, n3⟩ := t1 htn
          obtain ⟨n4, n5, n6⟩ := t2 htm
          obtain ⟨k1, k2, k3⟩ := noth_facts (n := s.size) (by omega)
          obtain ⟨k4, k5, k6⟩ := noth_facts (n := m) (by omega)
          have HMO : Hid (mOut (meas rs) = (m : Int)) := hide hm
          have HX : Hid (∀ W a' c', CameR W.heap.size W a' (nothR (s.size : Int)) → (nothR (s.size : Int)).length ≤ c' → CameR W.heap.size W a rs → Calls Try.prog 82 #[.slice a' (nothR (s.size : Int)).length c', .slice a rs.length cap] W fun e W' => Gives2C W.heap.size W rs 0 e W') := hide fun W a' c' h hcp h' => by
            have h := two_any a' a c' cap (nothR (s.size : Int)) rs W h h' hcp HC.out.1 (by omega) HLA.out (fun _ => by rw [k2, List.length_replicate]; omega)
            rw [n2, n3] at h
            exact h
          have HY : Hid (∀ W a' c', CameR W.heap.size W a' (nothR (m : Int)) → (nothR (m : Int)).length ≤ c' → CameR W.heap.size W a rs → Calls Try.prog 82 #[.slice a rs.length cap, .slice a' (nothR (m : Int)).length c'] W fun e W' => Gives2C W.heap.size W rs 0 e W') := hide fun W a' c' h hcp h' => by
            have h := two_any a a' cap c' rs (nothR (m : Int)) W h' h HC.out.1 hcp HLA.out (by omega) (fun _ => by rw [k5, List.length_replicate]; omega)
            rw [n5, n6] at h
            exact h
          have HAB : Hid (∀ W, CameR W.heap.size W a rs → CameR W.heap.size W b ss → Calls Try.prog 82 #[.slice a rs.length cap, .slice b ss.length cap'] W fun e W' => Gives2C W.heap.size W (twoO rs ss) (twoE rs ss) e W') := hide fun W h h' =>
            two_any a b cap cap' rs ss W h h' HC.out.1 HC.out.2.1 HLA.out HLB.out (fun hq => by have := (lb3 (fit2_facts hq).2.1).2.2; omega)
          have HBC : Hid (∀ W, CameR W.heap.size W b ss → CameR W.heap.size W c cs → Calls Try.prog 82 #[.slice b ss.length cap', .slice c cs.length cap2] W fun e W' => Gives2C W.heap.size W (twoO ss cs) (twoE ss cs) e W') := hide fun W h h' =>
            two_any b c cap' cap2 ss cs W h h' HC.out.2.1 HC.out.2.2 HLB.out HLC.out (fun hq => by have := (lb3 (fit2_facts hq).1).2.2; have := (lc3 (fit2_facts hq).2.1).2.2; omega)
          clear n1 n2 n3 n4 n5 n6 k1 k2 k3 k4 k5 k6 t1 t2 gs1 gs2 htm htn hin
          cases hab : fit2 rs ss with
          | false =>
            have he : twoE rs ss = 60 := by rw [twoE, hab]; rfl
            rw [he] at HAB
            clear he hab la1 la2 la3 lb1 lb2 lb3 lc1 lc2 lc3 hf hga ta1 ta2 ta3 hm hm3 hs2
            generalize twoE ss cs = ebc at *
            generalize twoO ss cs = bc at *
            generalize twoO rs ss = ab at *
            go_wp2_with (go_at_call 80; (with_reducible refine (few_any a cap rs w L0.out).mono ?_); rintro e W1 ⟨rfl, hb⟩; rw [FA.out]; have L1 := hide (came_up L0.out hb); have M1 := hide (came_up M0.out hb); have N1 := hide (came_up N0.out hb); have HB1 := hide hb; clear hb L0 M0 N0)
            go_wp2_with (go_at_call 80; (with_reducible refine (few_any b cap' ss W1 M1.out).mono ?_); rintro e W2 ⟨rfl, hb⟩; rw [FB.out]; have L2 := hide (came_up L1.out hb); have M2 := hide (came_up M1.out hb); have N2 := hide (came_up N1.out hb); have HB2 := hide (HB1.out.trans (hb.mono HB1.out.size)); clear hb L1 M1 N1)
            go_wp2_with (go_at_call 80; (with_reducible refine (few_any c cap2 cs W2 N2.out).mono ?_); rintro e W3 ⟨rfl, hb⟩; rw [FC.out]; have L3 := hide (came_up L2.out hb); have M3 := hide (came_up M2.out hb); have N3 := hide (came_up N2.out hb); have HB3 := hide (HB2.out.trans (hb.mono HB2.out.size)); clear hb L2 M2 N2)
            go_wp2_with (go_at_call 75; (with_reducible refine (rfits_any a cap rs s W3 L3.out HLA.out).mono ?_); rintro e W4 ⟨rfl, hb⟩; rw [HF.out]; have L4 := hide (came_up L3.out hb); have M4 := hide (came_up M3.out hb); have N4 := hide (came_up N3.out hb); have HB4 := hide (HB3.out.trans (hb.mono HB3.out.size)); clear hb L3 M3 N3)
            go_wp2_with (go_at_call 67; (with_reducible refine (nothing_cap (s.size : Int) W4).mono ?_); rintro e W5 ⟨a5, c5, rfl, hc, hcp, hb⟩; have L5 := hide (came_up L4.out hb); have M5 := hide (came_up M4.out hb); have N5 := hide (came_up N4.out hb); have P5 := hide hc; have PC := hide hcp; have HB5 := hide (HB4.out.trans (hb.mono HB4.out.size)); clear hb hc hcp L4 M4 N4)
            go_wp2_with (go_at_call 82; (with_reducible refine (HX.out W5 a5 c5 P5.out PC.out L5.out).mono ?_); rintro e W6 ⟨a6, c6, rfl, hc, hcp, hb⟩; have L6 := hide (came_up L5.out hb); have M6 := hide (came_up M5.out hb); have N6 := hide (came_up N5.out hb); have X6 := hide hc; have XC := hide hcp; have HB6 := hide (HB5.out.trans (hb.mono HB5.out.size)); clear hb hc hcp L5 M5 N5 P5)
            go_wp2_with (go_at_call 55; (with_reducible refine (out_any a cap rs W6 L6.out HLA.out).mono ?_); rintro e W7 ⟨rfl, hb⟩; rw [HMO.out]; have L7 := hide (came_up L6.out hb); have M7 := hide (came_up M6.out hb); have N7 := hide (came_up N6.out hb); have X7 := hide (came_up X6.out hb); have HB7 := hide (HB6.out.trans (hb.mono HB6.out.size)); clear hb L6 M6 N6 X6)
            go_wp2_with (go_at_call 67; (with_reducible refine (nothing_cap (m : Int) W7).mono ?_); rintro e W8 ⟨a8, c8, rfl, hc, hcp, hb⟩; have L8 := hide (came_up L7.out hb); have M8 := hide (came_up M7.out hb); have N8 := hide (came_up N7.out hb); have X8 := hide (came_up X7.out hb); have Q8 := hide hc; have QC := hide hcp; have HB8 := hide (HB7.out.trans (hb.mono HB7.out.size)); clear hb hc hcp L7 M7 N7 X7)
            go_wp2_with (go_at_call 82; (with_reducible refine (HY.out W8 a8 c8 Q8.out QC.out L8.out).mono ?_); rintro e W9 ⟨a9, c9, rfl, hc, hcp, hb⟩; have L9 := hide (came_up L8.out hb); have M9 := hide (came_up M8.out hb); have N9 := hide (came_up N8.out hb); have X9 := hide (came_up X8.out hb); have Y9 := hide hc; have YC := hide hcp; have HB9 := hide (HB8.out.trans (hb.mono HB8.out.size)); clear hb hc hcp L8 M8 N8 X8 Q8)
            go_wp2_with (go_at_call 59; (with_reducible refine (rsame_is a6 a c6 cap rs rs W9 X9.out L9.out HLA.out rfl).mono ?_); rintro e W10 ⟨rfl, hb⟩; have L10 := hide (came_up L9.out hb); have M10 := hide (came_up M9.out hb); have N10 := hide (came_up N9.out hb); have Y10 := hide (came_up Y9.out hb); have HB10 := hide (HB9.out.trans (hb.mono HB9.out.size)); clear hb L9 M9 N9 X9 Y9)
            go_wp2_with (go_at_call 59; (with_reducible refine (rsame_is a9 a c9 cap rs rs W10 Y10.out L10.out HLA.out rfl).mono ?_); rintro e W11 ⟨rfl, hb⟩; have L11 := hide (came_up L10.out hb); have M11 := hide (came_up M10.out hb); have N11 := hide (came_up N10.out hb); have HB11 := hide (HB10.out.trans (hb.mono HB10.out.size)); clear hb L10 M10 N10 Y10)
            go_wp2_with (go_at_call 82; (with_reducible refine (HAB.out W11 L11.out M11.out).mono ?_); rintro e W12 ⟨aab, cab, rfl, hc, hcp, hb⟩; have L12 := hide (came_up L11.out hb); have M12 := hide (came_up M11.out hb); have N12 := hide (came_up N11.out hb); have U12 := hide hc; have UC := hide hcp; have HB12 := hide (HB11.out.trans (hb.mono HB11.out.size)); clear hb hc hcp L11 M11 N11)
            go_wp2_with (go_at_call 82; (with_reducible refine (HBC.out W12 M12.out N12.out).mono ?_); rintro e W13 ⟨abc, cbc, rfl, hc, hcp, hb⟩; have L13 := hide (came_up L12.out hb); have N13 := hide (came_up N12.out hb); have U13 := hide (came_up U12.out hb); have V13 := hide hc; have VC := hide hcp; have HB13 := hide (HB12.out.trans (hb.mono HB12.out.size)); clear hb hc hcp L12 M12 N12 U12)
            go_wp2_with (go_at_call 81; (with_reducible refine (lives8_any W13).mono ?_); rintro e W14 ⟨rfl, hb⟩; have L14 := hide (came_up L13.out hb); have N14 := hide (came_up N13.out hb); have U14 := hide (came_up U13.out hb); have V14 := hide (came_up V13.out hb); have HB14 := hide (HB13.out.trans (hb.mono HB13.out.size)); clear hb L13 N13 U13 V13)
            go_ret
            exact ⟨rfl, HB14.out⟩
          | true =>
            obtain ⟨-, hgb, -⟩ := fit2_facts hab
            have tb3 := (lb3 hgb).2.2
            obtain ⟨o1, o2, o3, o4, o5, o6, o7⟩ := two_ok hab (by omega)
            rw [o1] at HAB
            cases hbc : fit2 ss cs with
            | false =>
              have he : twoE ss cs = 60 := by rw [twoE, hbc]; rfl
              rw [he] at HBC
              clear he hab hbc hgb tb3 o1 o2 o3 o4 o5 o6 o7 la1 la2 la3 lb1 lb2 lb3 lc1 lc2 lc3 hf hga ta1 ta2 ta3 hm hm3 hs2
              generalize twoO ss cs = bc at *
              generalize twoO rs ss = ab at *
              go_wp2_with (go_at_call 80; (with_reducible refine (few_any a cap rs w L0.out).mono ?_); rintro e W1 ⟨rfl, hb⟩; rw [FA.out]; have L1 := hide (came_up L0.out hb); have M1 := hide (came_up M0.out hb); have N1 := hide (came_up N0.out hb); have HB1 := hide hb; clear hb L0 M0 N0)
              go_wp2_with (go_at_call 80; (with_reducible refine (few_any b cap' ss W1 M1.out).mono ?_); rintro e W2 ⟨rfl, hb⟩; rw [FB.out]; have L2 := hide (came_up L1.out hb); have M2 := hide (came_up M1.out hb); have N2 := hide (came_up N1.out hb); have HB2 := hide (HB1.out.trans (hb.mono HB1.out.size)); clear hb L1 M1 N1)
              go_wp2_with (go_at_call 80; (with_reducible refine (few_any c cap2 cs W2 N2.out).mono ?_); rintro e W3 ⟨rfl, hb⟩; rw [FC.out]; have L3 := hide (came_up L2.out hb); have M3 := hide (came_up M2.out hb); have N3 := hide (came_up N2.out hb); have HB3 := hide (HB2.out.trans (hb.mono HB2.out.size)); clear hb L2 M2 N2)
              go_wp2_with (go_at_call 75; (with_reducible refine (rfits_any a cap rs s W3 L3.out HLA.out).mono ?_); rintro e W4 ⟨rfl, hb⟩; rw [HF.out]; have L4 := hide (came_up L3.out hb); have M4 := hide (came_up M3.out hb); have N4 := hide (came_up N3.out hb); have HB4 := hide (HB3.out.trans (hb.mono HB3.out.size)); clear hb L3 M3 N3)
              go_wp2_with (go_at_call 67; (with_reducible refine (nothing_cap (s.size : Int) W4).mono ?_); rintro e W5 ⟨a5, c5, rfl, hc, hcp, hb⟩; have L5 := hide (came_up L4.out hb); have M5 := hide (came_up M4.out hb); have N5 := hide (came_up N4.out hb); have P5 := hide hc; have PC := hide hcp; have HB5 := hide (HB4.out.trans (hb.mono HB4.out.size)); clear hb hc hcp L4 M4 N4)
              go_wp2_with (go_at_call 82; (with_reducible refine (HX.out W5 a5 c5 P5.out PC.out L5.out).mono ?_); rintro e W6 ⟨a6, c6, rfl, hc, hcp, hb⟩; have L6 := hide (came_up L5.out hb); have M6 := hide (came_up M5.out hb); have N6 := hide (came_up N5.out hb); have X6 := hide hc; have XC := hide hcp; have HB6 := hide (HB5.out.trans (hb.mono HB5.out.size)); clear hb hc hcp L5 M5 N5 P5)
              go_wp2_with (go_at_call 55; (with_reducible refine (out_any a cap rs W6 L6.out HLA.out).mono ?_); rintro e W7 ⟨rfl, hb⟩; rw [HMO.out]; have L7 := hide (came_up L6.out hb); have M7 := hide (came_up M6.out hb); have N7 := hide (came_up N6.out hb); have X7 := hide (came_up X6.out hb); have HB7 := hide (HB6.out.trans (hb.mono HB6.out.size)); clear hb L6 M6 N6 X6)
              go_wp2_with (go_at_call 67; (with_reducible refine (nothing_cap (m : Int) W7).mono ?_); rintro e W8 ⟨a8, c8, rfl, hc, hcp, hb⟩; have L8 := hide (came_up L7.out hb); have M8 := hide (came_up M7.out hb); have N8 := hide (came_up N7.out hb); have X8 := hide (came_up X7.out hb); have Q8 := hide hc; have QC := hide hcp; have HB8 := hide (HB7.out.trans (hb.mono HB7.out.size)); clear hb hc hcp L7 M7 N7 X7)
              go_wp2_with (go_at_call 82; (with_reducible refine (HY.out W8 a8 c8 Q8.out QC.out L8.out).mono ?_); rintro e W9 ⟨a9, c9, rfl, hc, hcp, hb⟩; have L9 := hide (came_up L8.out hb); have M9 := hide (came_up M8.out hb); have N9 := hide (came_up N8.out hb); have X9 := hide (came_up X8.out hb); have Y9 := hide hc; have YC := hide hcp; have HB9 := hide (HB8.out.trans (hb.mono HB8.out.size)); clear hb hc hcp L8 M8 N8 X8 Q8)
              go_wp2_with (go_at_call 59; (with_reducible refine (rsame_is a6 a c6 cap rs rs W9 X9.out L9.out HLA.out rfl).mono ?_); rintro e W10 ⟨rfl, hb⟩; have L10 := hide (came_up L9.out hb); have M10 := hide (came_up M9.out hb); have N10 := hide (came_up N9.out hb); have Y10 := hide (came_up Y9.out hb); have HB10 := hide (HB9.out.trans (hb.mono HB9.out.size)); clear hb L9 M9 N9 X9 Y9)
              go_wp2_with (go_at_call 59; (with_reducible refine (rsame_is a9 a c9 cap rs rs W10 Y10.out L10.out HLA.out rfl).mono ?_); rintro e W11 ⟨rfl, hb⟩; have L11 := hide (came_up L10.out hb); have M11 := hide (came_up M10.out hb); have N11 := hide (came_up N10.out hb); have HB11 := hide (HB10.out.trans (hb.mono HB10.out.size)); clear hb L10 M10 N10 Y10)
              go_wp2_with (go_at_call 82; (with_reducible refine (HAB.out W11 L11.out M11.out).mono ?_); rintro e W12 ⟨aab, cab, rfl, hc, hcp, hb⟩; have L12 := hide (came_up L11.out hb); have M12 := hide (came_up M11.out hb); have N12 := hide (came_up N11.out hb); have U12 := hide hc; have UC := hide hcp; have HB12 := hide (HB11.out.trans (hb.mono HB11.out.size)); clear hb hc hcp L11 M11 N11)
              go_wp2_with (go_at_call 82; (with_reducible refine (HBC.out W12 M12.out N12.out).mono ?_); rintro e W13 ⟨abc, cbc, rfl, hc, hcp, hb⟩; have L13 := hide (came_up L12.out hb); have N13 := hide (came_up N12.out hb); have U13 := hide (came_up U12.out hb); have V13 := hide hc; have VC := hide hcp; have HB13 := hide (HB12.out.trans (hb.mono HB12.out.size)); clear hb hc hcp L12 M12 N12 U12)
              go_wp2_with (go_at_call 81; (with_reducible refine (lives8_any W13).mono ?_); rintro e W14 ⟨rfl, hb⟩; have L14 := hide (came_up L13.out hb); have N14 := hide (came_up N13.out hb); have U14 := hide (came_up U13.out hb); have V14 := hide (came_up V13.out hb); have HB14 := hide (HB13.out.trans (hb.mono HB13.out.size)); clear hb L13 N13 U13 V13)
              go_ret
              exact ⟨rfl, HB14.out⟩
            | true =>
              obtain ⟨-, hgc, -⟩ := fit2_facts hbc
              have tc3 := (lc3 hgc).2.2
              obtain ⟨p1, p2, p3, p4, p5, p6, p7⟩ := two_ok hbc (by omega)
              rw [p1] at HBC
              have lab := two_len hab (by omega)
              have lbc := two_len hbc (by omega)
              obtain ⟨hx, hy⟩ := fit2_comp hab hbc (by omega) (by omega)
              obtain ⟨x1, -, -, -, -, -, x7⟩ := two_ok hx (by omega)
              obtain ⟨y1, -, -, -, -, -, y7⟩ := two_ok hy (by omega)
              have fab := two_fits hab (by omega) _ hf
              have fx := two_fits hx (by omega) _ fab
              have fy := two_fits hy (by omega) _ hf
              have fb2 : fitsR ss ((outB s rs).size : Int) = true := by rw [← fit2_fits s hf]; exact hab
              have mx := two_makes hx (by omega) s fab
              have my := two_makes hy (by omega) s hf
              rw [two_makes hab (by omega) s hf] at mx
              rw [two_makes hbc (by omega) (outB s rs) fb2] at my
              have VX : Hid (applyV (twoO (twoO rs ss) cs) s = .tuple #[.string (outB (outB (outB s rs) ss) cs), .int .i64 0]) := hide (by rw [applyV_fits fx, mx])
              have VY : Hid (applyV (twoO rs (twoO ss cs)) s = .tuple #[.string (outB (outB (outB s rs) ss) cs), .int .i64 0]) := hide (by rw [applyV_fits fy, my])
              have HXX : Hid (∀ W a' c', CameR W.heap.size W a' (twoO rs ss) → (twoO rs ss).length ≤ c' → CameR W.heap.size W c cs → Calls Try.prog 82 #[.slice a' (twoO rs ss).length c', .slice c cs.length cap2] W fun e W' => Gives2C W.heap.size W (twoO (twoO rs ss) cs) 0 e W') := hide fun W a' c' h hcp h' => by
                have h := two_any a' c c' cap2 (twoO rs ss) cs W h h' hcp HC.out.2.2 (by omega) HLC.out (fun _ => by omega)
                rw [x1] at h
                exact h
              have HYY : Hid (∀ W a' c', CameR W.heap.size W a' (twoO ss cs) → (twoO ss cs).length ≤ c' → CameR W.heap.size W a rs → Calls Try.prog 82 #[.slice a rs.length cap, .slice a' (twoO ss cs).length c'] W fun e W' => Gives2C W.heap.size W (twoO rs (twoO ss cs)) 0 e W') := hide fun W a' c' h hcp h' => by
                have h := two_any a a' cap c' rs (twoO ss cs) W h' h HC.out.1 hcp HLA.out (by omega) (fun _ => by omega)
                rw [y1] at h
                exact h
              have HLX : Hid ((twoO (twoO rs ss) cs).length ≤ 1000000) := hide (by omega)
              have HLY : Hid ((twoO rs (twoO ss cs)).length ≤ 1000000) := hide (by omega)
              clear hab hbc hgb hgc tb3 tc3 o1 o2 o3 o4 o5 o6 o7 p1 p2 p3 p4 p5 p6 p7 lab lbc hx hy x1 x7 y1 y7 fab fx fy fb2 mx my la1 la2 la3 lb1 lb2 lb3 lc1 lc2 lc3 hf hga ta1 ta2 ta3 hm hm3 hs2
              generalize outB (outB (outB s rs) ss) cs = u at *
              generalize twoO (twoO rs ss) cs = xx at *
              generalize twoO rs (twoO ss cs) = yy at *
              generalize twoO ss cs = bc at *
              generalize twoO rs ss = ab at *
              go_wp2_with (go_at_call 80; (with_reducible refine (few_any a cap rs w L0.out).mono ?_); rintro e W1 ⟨rfl, hb⟩; rw [FA.out]; have L1 := hide (came_up L0.out hb); have M1 := hide (came_up M0.out hb); have N1 := hide (came_up N0.out hb); have HB1 := hide hb; clear hb L0 M0 N0)
              go_wp2_with (go_at_call 80; (with_reducible refine (few_any b cap' ss W1 M1.out).mono ?_); rintro e W2 ⟨rfl, hb⟩; rw [FB.out]; have L2 := hide (came_up L1.out hb); have M2 := hide (came_up M1.out hb); have N2 := hide (came_up N1.out hb); have HB2 := hide (HB1.out.trans (hb.mono HB1.out.size)); clear hb L1 M1 N1)
              go_wp2_with (go_at_call 80; (with_reducible refine (few_any c cap2 cs W2 N2.out).mono ?_); rintro e W3 ⟨rfl, hb⟩; rw [FC.out]; have L3 := hide (came_up L2.out hb); have M3 := hide (came_up M2.out hb); have N3 := hide (came_up N2.out hb); have HB3 := hide (HB2.out.trans (hb.mono HB2.out.size)); clear hb L2 M2 N2)
              go_wp2_with (go_at_call 75; (with_reducible refine (rfits_any a cap rs s W3 L3.out HLA.out).mono ?_); rintro e W4 ⟨rfl, hb⟩; rw [HF.out]; have L4 := hide (came_up L3.out hb); have M4 := hide (came_up M3.out hb); have N4 := hide (came_up N3.out hb); have HB4 := hide (HB3.out.trans (hb.mono HB3.out.size)); clear hb L3 M3 N3)
              go_wp2_with (go_at_call 67; (with_reducible refine (nothing_cap (s.size : Int) W4).mono ?_); rintro e W5 ⟨a5, c5, rfl, hc, hcp, hb⟩; have L5 := hide (came_up L4.out hb); have M5 := hide (came_up M4.out hb); have N5 := hide (came_up N4.out hb); have P5 := hide hc; have PC := hide hcp; have HB5 := hide (HB4.out.trans (hb.mono HB4.out.size)); clear hb hc hcp L4 M4 N4)
              go_wp2_with (go_at_call 82; (with_reducible refine (HX.out W5 a5 c5 P5.out PC.out L5.out).mono ?_); rintro e W6 ⟨a6, c6, rfl, hc, hcp, hb⟩; have L6 := hide (came_up L5.out hb); have M6 := hide (came_up M5.out hb); have N6 := hide (came_up N5.out hb); have X6 := hide hc; have XC := hide hcp; have HB6 := hide (HB5.out.trans (hb.mono HB5.out.size)); clear hb hc hcp L5 M5 N5 P5)
              go_wp2_with (go_at_call 55; (with_reducible refine (out_any a cap rs W6 L6.out HLA.out).mono ?_); rintro e W7 ⟨rfl, hb⟩; rw [HMO.out]; have L7 := hide (came_up L6.out hb); have M7 := hide (came_up M6.out hb); have N7 := hide (came_up N6.out hb); have X7 := hide (came_up X6.out hb); have HB7 := hide (HB6.out.trans (hb.mono HB6.out.size)); clear hb L6 M6 N6 X6)
              go_wp2_with (go_at_call 67; (with_reducible refine (nothing_cap (m : Int) W7).mono ?_); rintro e W8 ⟨a8, c8, rfl, hc, hcp, hb⟩; have L8 := hide (came_up L7.out hb); have M8 := hide (came_up M7.out hb); have N8 := hide (came_up N7.out hb); have X8 := hide (came_up X7.out hb); have Q8 := hide hc; have QC := hide hcp; have HB8 := hide (HB7.out.trans (hb.mono HB7.out.size)); clear hb hc hcp L7 M7 N7 X7)
              go_wp2_with (go_at_call 82; (with_reducible refine (HY.out W8 a8 c8 Q8.out QC.out L8.out).mono ?_); rintro e W9 ⟨a9, c9, rfl, hc, hcp, hb⟩; have L9 := hide (came_up L8.out hb); have M9 := hide (came_up M8.out hb); have N9 := hide (came_up N8.out hb); have X9 := hide (came_up X8.out hb); have Y9 := hide hc; have YC := hide hcp; have HB9 := hide (HB8.out.trans (hb.mono HB8.out.size)); clear hb hc hcp L8 M8 N8 X8 Q8)
              go_wp2_with (go_at_call 59; (with_reducible refine (rsame_is a6 a c6 cap rs rs W9 X9.out L9.out HLA.out rfl).mono ?_); rintro e W10 ⟨rfl, hb⟩; have L10 := hide (came_up L9.out hb); have M10 := hide (came_up M9.out hb); have N10 := hide (came_up N9.out hb); have Y10 := hide (came_up Y9.out hb); have HB10 := hide (HB9.out.trans (hb.mono HB9.out.size)); clear hb L9 M9 N9 X9 Y9)
              go_wp2_with (go_at_call 59; (with_reducible refine (rsame_is a9 a c9 cap rs rs W10 Y10.out L10.out HLA.out rfl).mono ?_); rintro e W11 ⟨rfl, hb⟩; have L11 := hide (came_up L10.out hb); have M11 := hide (came_up M10.out hb); have N11 := hide (came_up N10.out hb); have HB11 := hide (HB10.out.trans (hb.mono HB10.out.size)); clear hb L10 M10 N10 Y10)
              go_wp2_with (go_at_call 82; (with_reducible refine (HAB.out W11 L11.out M11.out).mono ?_); rintro e W12 ⟨aab, cab, rfl, hc, hcp, hb⟩; have L12 := hide (came_up L11.out hb); have M12 := hide (came_up M11.out hb); have N12 := hide (came_up N11.out hb); have U12 := hide hc; have UC := hide hcp; have HB12 := hide (HB11.out.trans (hb.mono HB11.out.size)); clear hb hc hcp L11 M11 N11)
              go_wp2_with (go_at_call 82; (with_reducible refine (HBC.out W12 M12.out N12.out).mono ?_); rintro e W13 ⟨abc, cbc, rfl, hc, hcp, hb⟩; have L13 := hide (came_up L12.out hb); have N13 := hide (came_up N12.out hb); have U13 := hide (came_up U12.out hb); have V13 := hide hc; have VC := hide hcp; have HB13 := hide (HB12.out.trans (hb.mono HB12.out.size)); clear hb hc hcp L12 M12 N12 U12)
              go_wp2_with (go_at_call 82; (with_reducible refine (HXX.out W13 aab cab U13.out UC.out N13.out).mono ?_); rintro e W14 ⟨axx, cxx, rfl, hc, hcp, hb⟩; have L14 := hide (came_up L13.out hb); have V14 := hide (came_up V13.out hb); have R14 := hide hc; have RC := hide hcp; have HB14 := hide (HB13.out.trans (hb.mono HB13.out.size)); clear hb hc hcp L13 N13 U13 V13)
              go_wp2_with (go_at_call 82; (with_reducible refine (HYY.out W14 abc cbc V14.out VC.out L14.out).mono ?_); rintro e W15 ⟨ayy, cyy, rfl, hc, hcp, hb⟩; have R15 := hide (came_up R14.out hb); have S15 := hide hc; have SC := hide hcp; have HB15 := hide (HB14.out.trans (hb.mono HB14.out.size)); clear hb hc hcp L14 V14 R14)
              go_wp2_with (go_at_call 70; (with_reducible refine (apply_any axx cxx xx s W15 R15.out HLX.out).mono ?_); rintro e W16 ⟨rfl, hb⟩; rw [VX.out]; have S16 := hide (came_up S15.out hb); have HB16 := hide (HB15.out.trans (hb.mono HB15.out.size)); clear hb R15 S15)
              go_wp2_with (go_at_call 70; (with_reducible refine (apply_any ayy cyy yy s W16 S16.out HLY.out).mono ?_); rintro e W17 ⟨rfl, hb⟩; rw [VY.out]; have HB17 := hide (HB16.out.trans (hb.mono HB16.out.size)); clear hb S16)
              go_wp2_with (go_at_call 81; (with_reducible refine (lives8_any W17).mono ?_); rintro e W18 ⟨rfl, hb⟩; have HB18 := hide (HB17.out.trans (hb.mono HB17.out.size)); clear hb)
              go_ret
              exact ⟨rfl, HB18.out⟩

end Go.Proofs.Ytpmijaplkbmbiaa.E
