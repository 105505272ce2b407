/- compose: what Two tells; the chapter's example. -/
import Derived.Test.YtpmijaplkbmbiaaWO
import Derived.Test.YtpmijaplkbmbiaaU9
namespace Go.Proofs.Ytpmijaplkbmbiaa.E
open Go.Proofs.Ytpmijaplkbmbiaa Go.RowKit Go.By Go.Shelf
set_option linter.unusedVariables false
set_option linter.unusedSimpArgs false

theorem tok_len (ts : List Tok) : ts.length ≤ tIn ts + tOut ts := by
  induction ts with
  | nil => exact Nat.le_refl _
  | cons t ts ih => cases t <;> simp only [List.length_cons, tIn, tOut] <;> omega
theorem tok_nil {ts : List Tok} (h : normT ts = []) : ts = [] := by
  have h1 := tIn_normT ts
  have h2 := tOut_normT ts
  rw [h] at h1 h2
  have h1' : tIn ts = 0 := h1.symm
  have h2' : tOut ts = 0 := h2.symm
  have := tok_len ts
  exact List.eq_nil_of_length_eq_zero (by omega)
/-- Of two edits that fit, and are not too many, Two tells the one that they make. -/
theorem two_ok {a b : List Rn} (h : fit2 a b = true) (hl : (expand a).length + (expand b).length ≤ 60000) :
    twoE a b = 0 ∧ twoO a b = normT (twoT a b) ∧ isG (twoO a b) = true ∧ tIn (twoT a b) = tIn (expand a) ∧ tOut (twoT a b) = tOut (expand b) ∧ expand (twoO a b) = expand (normT (twoT a b)) ∧ (twoO a b).length ≤ 60000 := by
  obtain ⟨g1, g2, g3, g4, g5, g6, g7⟩ := fit2_facts h
  obtain ⟨j, e1, b1, b2, l1⟩ := good_facts g1
  obtain ⟨j', e2, b3, b4, l2⟩ := good_facts g2
  obtain ⟨s1, s2⟩ := cT_sums (expand a) (expand b) g5
  have hlen : (normT (twoT a b)).length ≤ 60000 := Nat.le_trans (len_normW _) (Nat.le_trans (cT_len _ _) hl)
  have hk : normK (twoT a b) = normT (twoT a b) := by
    rw [normK, if_pos ⟨by rw [show tIn (twoT a b) = _ from s1]; exact b1, by rw [show tOut (twoT a b) = _ from s2]; exact b4, by omega⟩]
  have ho : twoO a b = normT (twoT a b) := by rw [twoO, if_pos h, hk]
  refine ⟨?_, ho, ?_, s1, s2, by rw [ho], by rw [ho]; exact hlen⟩
  · rw [twoE, if_pos h, if_neg]
    rintro ⟨h1, h2⟩
    rw [hk] at h1
    exact h2 (tok_nil h1)
  · rw [ho, isG_normT (by rw [show tIn (twoT a b) = _ from s1]; exact b1) (by rw [show tOut (twoT a b) = _ from s2]; exact b4), decide_eq_true (by omega)]
theorem two_fits {a b : List Rn} (h : fit2 a b = true) (hl : (expand a).length + (expand b).length ≤ 60000) (n : Int) (hn : fitsR a n = true) : fitsR (twoO a b) n = true := by
  obtain ⟨_, ho, hg, s1, s2, he, _⟩ := two_ok h hl
  obtain ⟨f1, f2, _⟩ := fits_facts hn
  obtain ⟨j, e, _⟩ := good_facts hg
  unfold fitsR
  rw [hg, e, Bool.true_and, decide_eq_true_eq]
  show ((tIn (expand (twoO a b)) : Nat) : Int) = n
  rw [he, tIn_normT, s1]
  exact f2
theorem two_makes {a b : List Rn} (h : fit2 a b = true) (hl : (expand a).length + (expand b).length ≤ 60000) (s : ByteArray) (hn : fitsR a (s.size : Int) = true) : outB s (twoO a b) = outB (outB s a) b := by
  obtain ⟨_, ho, hg, s1, s2, he, _⟩ := two_ok h hl
  obtain ⟨g1, g2, g3, g4, g5, _⟩ := fit2_facts h
  obtain ⟨f1, f2, _⟩ := fits_facts hn
  have hsz : tIn (expand a) = s.data.toList.length := by rw [sz_list]; omega
  have e1 : applT s.data.toList (expand (twoO a b)) = applT s.data.toList (twoT a b) := by rw [he, applT, ascan_normT]; rfl
  have e2 : applT s.data.toList (twoT a b) = ap s.data.toList (twoT a b) := applT_ap (by rw [s1, hsz]; exact Nat.le_refl _)
  have e3 : applT s.data.toList (expand a) = ap s.data.toList (expand a) := applT_ap (by rw [hsz]; exact Nat.le_refl _)
  have e4 : (ap s.data.toList (expand a)).length = tOut (expand a) := ap_len _ _ (by rw [hsz]; exact Nat.le_refl _)
  have e5 : applT (ap s.data.toList (expand a)) (expand b) = ap (ap s.data.toList (expand a)) (expand b) := applT_ap (by rw [e4, g5]; exact Nat.le_refl _)
  have e6 := cT_ap (expand a) (expand b) s.data.toList g5 (by rw [hsz]; exact Nat.le_refl _)
  unfold outB
  rw [e1, e2, e3]
  show (⟨(ap s.data.toList (twoT a b)).toArray⟩ : ByteArray) = ⟨(applT ((ap s.data.toList (expand a)).toArray.toList) (expand b)).toArray⟩
  rw [List.toList_toArray, e5, ← e6]
  rfl

theorem fewR_light {rs : List Rn} (h : fewR rs = true) : LightR rs ∧ rs.length ≤ 100 ∧ (isG rs = true → mIn (meas rs) ≤ 3000 ∧ mOut (meas rs) ≤ 3000 ∧ (expand rs).length ≤ 6000) := by
  unfold fewR at h
  rw [Bool.and_eq_true, decide_eq_true_eq] at h
  refine ⟨h.1, h.1.1, fun hg => ?_⟩
  have h2 := h.2
  rw [hg] at h2
  simp only [Bool.not_true, Bool.false_or, Bool.and_eq_true, decide_eq_true_eq] at h2
  refine ⟨h2.1, h2.2, ?_⟩
  obtain ⟨j, e, _⟩ := good_facts hg
  rw [e] at h2
  have h3 : ((tIn (expand rs) : Nat) : Int) ≤ 3000 := h2.1
  have h4 : ((tOut (expand rs) : Nat) : Int) ≤ 3000 := h2.2
  have := tok_len (expand rs)
  omega

/-- The chapter's example. -/
def exA : List Rn := [⟨1, ⟨#[]⟩, 0⟩, ⟨0, ⟨#[120, 121]⟩, 0⟩, ⟨1, ⟨#[]⟩, 0⟩]
def exB : List Rn := [⟨2, ⟨#[]⟩, 0⟩, ⟨0, ⟨#[]⟩, 1⟩, ⟨1, ⟨#[]⟩, 0⟩]
def exC : List Rn := [⟨1, ⟨#[]⟩, 0⟩, ⟨0, ⟨#[120]⟩, 0⟩, ⟨1, ⟨#[]⟩, 0⟩]
theorem ex_tokA : expand exA = [.K, .A 120, .A 121, .K] := by
  show expand [rK 1, rA [120, 121], rK 1] = _
  rw [expand_cons, expand_cons, expand_cons, toks_rK (by decide), toks_rA (by decide)]; rfl
theorem ex_tokB : expand exB = [.K, .K, .D, .K] := by
  show expand [rK 2, rD 1, rK 1] = _
  rw [expand_cons, expand_cons, expand_cons, toks_rK (by decide), toks_rK (by decide), toks_rD (by decide)]; rfl
theorem ex_T : twoT exA exB = [.K, .A 120, .K] := by
  rw [twoT, ex_tokA, ex_tokB]
  simp [cT]
theorem ex_good : isG exA = true ∧ isG exB = true := by
  have hA : normT (expand exA) = exA := by rw [ex_tokA]; rfl
  have hB : normT (expand exB) = exB := by rw [ex_tokB]; rfl
  constructor
  · rw [← hA, isG_normT (by rw [ex_tokA]; decide) (by rw [ex_tokA]; decide), hA]; rfl
  · rw [← hB, isG_normT (by rw [ex_tokB]; decide) (by rw [ex_tokB]; decide), hB]; rfl
theorem ex_fit : fit2 exA exB = true := by
  obtain ⟨j, e1, _⟩ := good_facts ex_good.1
  obtain ⟨j', e2, _⟩ := good_facts ex_good.2
  rw [fit2, ex_good.1, ex_good.2, e1, e2, ex_tokA, ex_tokB]
  rfl
theorem ex_two : twoO exA exB = exC ∧ twoE exA exB = 0 := by
  obtain ⟨h1, h2, _⟩ := two_ok ex_fit (by rw [ex_tokA, ex_tokB]; decide)
  refine ⟨?_, h1⟩
  rw [h2, ex_T]
  rfl

set_option maxRecDepth 20000 in
set_option maxHeartbeats 2000000 in
theorem lives8_any (w : World) : Calls Try.prog 81 #[] w fun e W' => e = .returned (.bool true) ∧ Below w.heap.size w W' := by
  have h2 : ∀ (W : World) (a b : Option Addr), CameR W.heap.size W a exA → CameR W.heap.size W b exB → Calls Try.prog 82 #[.slice a 3 3, .slice b 3 3] W fun e W' => Gives2C W.heap.size W exC 0 e W' := fun W a b ha hb => by
    have h := two_any a b 3 3 exA exB W ha hb (Nat.le_refl _) (Nat.le_refl _) (by decide) (by decide) (fun _ => by rw [ex_tokA, ex_tokB]; decide)
    rw [ex_two.1, ex_two.2] at h
    exact h
  have H2 := hide h2
  clear h2
  go_enter Try.func81, Try.ntmps81
  have HA : Hid (CameR ((w.alloc (.cells (cellsR exA).toArray 91)).alloc (.cells (cellsR exB).toArray 91)).heap.size ((w.alloc (.cells (cellsR exA).toArray 91)).alloc (.cells (cellsR exB).toArray 91)) (some ⟨w.heap.size, 0, none⟩) exA) := hide (up_new (came_new w exA) _)
  have HB : Hid (CameR ((w.alloc (.cells (cellsR exA).toArray 91)).alloc (.cells (cellsR exB).toArray 91)).heap.size ((w.alloc (.cells (cellsR exA).toArray 91)).alloc (.cells (cellsR exB).toArray 91)) (some ⟨w.heap.size + 1, 0, none⟩) exB) := hide (by have h := came_new (w.alloc (.cells (cellsR exA).toArray 91)) exB; rw [show (w.alloc (.cells (cellsR exA).toArray 91)).heap.size = w.heap.size + 1 from World.size_alloc _ _] at h; exact h)
  have HBL := hide (Joins.below_alloc2 w (.cells (cellsR exA).toArray 91) (.cells (cellsR exB).toArray 91))
  go_wp2_with (go_at_call 82; refine (H2.out _ _ _ HA.out HB.out).mono ?_; rintro e W1 ⟨a1, c1, rfl, hc, hcp, hb⟩; have HC1 := hide hc; have HB1 : Hid (Below w.heap.size w W1) := hide (HBL.out.trans (hb.mono HBL.out.size)); clear hc hcp hb HA HB HBL)
  go_wp2_with (go_at_call 59; refine (rsame_is a1 (some ⟨W1.heap.size, 0, none⟩) c1 3 exC exC _ (up_new HC1.out _) (came_new W1 exC) (by decide) rfl).mono ?_; rintro e W2 ⟨rfl, hb⟩; have HB2 : Hid (Below w.heap.size w W2) := hide ((HB1.out.alloc HB1.out.size (.cells (cellsR exC).toArray 91)).trans (hb.mono (HB1.out.alloc HB1.out.size (.cells (cellsR exC).toArray 91)).size)); clear hb)
  go_ret
  exact ⟨rfl, HB2.out⟩

end Go.Proofs.Ytpmijaplkbmbiaa.E
