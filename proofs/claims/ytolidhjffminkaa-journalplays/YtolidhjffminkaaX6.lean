/- A statement whose order Go leaves open, within a round of a range over a function. No program is named here. And more of the same. -/
import Derived.Test.YtolidhjffminkaaDraw
import Derived.Deep.RegionHeld3
import Derived.BigRegionIn
import Derived.Deep.RegionLaw
import Derived.RangeFuncCalls
/- A statement whose order Go leaves open, within a round of a range over a function. No program is named here. -/
namespace Go.By
open Go.RowKit
set_option linter.unusedVariables false
section
variable {P : Program} {ops : Array Oper} {Q : Exit → Act → World → Prop} {md : Region.Mode} {S : World → Prop}

theorem oper_round {o : Oper} {a : Act} {w : World} {K : Act → World → Prop} {l n : Nat} (hd : ∀ c, o.op ≠ .defer c) (h : Oper.wp P o a w K Q) : Oper.wpIn (Fence.wide.inRound l) n P o a w K Q := by
  refine ⟨fun _ _ => trivial, ?_⟩
  rw [Oper.semAt_eq _ _ _ hd]
  unfold Oper.wp at h
  revert h
  generalize (execOp a.eval o).run P w = r
  intro h
  cases r with
  | ok v w' =>
    cases v with
    | value v => exact h
    | skip => exact h
    | defer d => exact h
    | enter f args => exact ⟨fun e => (by cases e), (callsIn_wide (n := n - 1)).2 h⟩
    | row r args => exact ⟨fun e => (by cases e), fun c cs _ => let ⟨v, w', r, s⟩ := h c cs; ⟨v, w', r, stepsIn_wide.2 s⟩⟩
    | round l f t a b => exact h.elim
    | _ => exact h.elim
  | halt e w' =>
    cases e with
    | panic v => exact h
    | _ => exact h.elim

theorem oper_value {o : Oper} {a : Act} {w w' : World} {K : Act → World → Prop} {v : Value} (h : (execOp a.eval o).run P w = .ok (.value v) w') (hk : K (a.put o.dst v) w') : Oper.wp P o a w K Q := by
  unfold Oper.wp
  rw [h]
  exact hk

theorem oper_skip {o : Oper} {a : Act} {w w' : World} {K : Act → World → Prop} (h : (execOp a.eval o).run P w = .ok .skip w') (hk : K (a.put o.dst undef) w') : Oper.wp P o a w K Q := by
  unfold Oper.wp
  rw [h]
  exact hk

/-- No operation of these is a defer statement. -/
def noDefer (ops : Array Oper) : Bool := ops.all fun o => match o.op with | .defer _ => false | _ => true
theorem noDefer_at (h : noDefer ops = true) {i : Nat} {o : Oper} (ho : ops[i]? = some o) : ∀ c, o.op ≠ .defer c := by
  intro c hc
  obtain ⟨hi, rfl⟩ := Array.getElem?_eq_some_iff.1 ho
  have := Array.all_eq_true.1 h i hi
  rw [hc] at this
  cases this

theorem any_round (hd : noDefer ops = true) (hno : ¬ LetsOut Q) {l n : Nat} : ∀ (fuel : Nat) (listed : Array Bool) (a : Act) (w : World), wpAny P md ops Q fuel listed a w → wpAnyIn (Fence.wide.inRound l) n P md ops Q fuel listed a w
  | 0, _, _, _, h => h
  | fuel + 1, _, _, _, h => ⟨h.1, fun i hi => by
      have h2 := h.2 i hi
      unfold wpOp at h2
      unfold wpOpIn
      split
      · rename_i ho
        rw [ho] at h2
        exact any_round hd hno fuel _ _ _ h2
      · rename_i o ho
        rw [ho] at h2
        dsimp only at h2
        split
        · rename_i hw
          rw [if_pos hw] at h2
          replace h2 := h2.resolve_right fun hh => hno hh.2
          exact Oper.wpIn_mono (fun a' w' h' => any_round hd hno fuel _ a' w' h') (oper_round (noDefer_at hd ho) h2)
        · rename_i hw
          rw [if_neg hw] at h2
          exact ⟨fun _ _ => trivial, any_round hd hno fuel _ _ _ h2⟩⟩

/-- From here on: whatever order, while S stays. -/
def HeldS (P : Program) (md : Region.Mode) (ops : Array Oper) (Q : Exit → Act → World → Prop) (S : World → Prop) (fuel : Nat) (listed : Array Bool) (a : Act) (w : World) : Prop :=
  S w ∧ wpAnyH P md ops Q S fuel listed a w

theorem heldS_start {id l n : Nat} {a : Act} {w : World} (hm : P.follows .mixedOrders = true) (hd : noDefer ops = true) (hno : ¬ LetsOut Q)
    (h : HeldS P .any ops Q S ops.size (Array.replicate ops.size false) a w.drew) : (Code.region id ops true).wpIn (Fence.wide.inRound l) n P Q a w :=
  wpIn_region_any hm (any_round hd hno _ _ _ _ (wpAny_of_held _ _ _ _ h.2))

theorem heldS_take {i : Nat} {oi : Oper} {v : Value} {fuel : Nat} {listed : Array Bool} {a : Act} {w : World} (hi : ops[i]? = some oi)
    (hs : Region.noSelect ops = true) (hf : Region.free md ops listed i = true) (hr : (Region.ready md ops listed).contains i = true)
    (hQ : ∀ c a w, Q (.panic c) (a.put oi.dst v) w → Q (.panic c) a w)
    (hw : Region.wanted oi (yielded ops a.tmps) = true) (hy : ∀ w', S w' → (execOp a.eval oi).run P w' = .ok (.value v) w')
    (hS : S w) (h : HeldS P md ops Q S fuel (listed.setIfInBounds i true) (a.put oi.dst v) w) : HeldS P md ops Q S (fuel + 1) listed a w :=
  ⟨hS, wpAnyH_take hi hs hf hr hQ (.inl ⟨hw, hy⟩) hS h.2⟩

theorem heldS_step {i : Nat} {o : Oper} {fuel : Nat} {listed : Array Bool} {a : Act} {w : World} (hr : Region.ready md ops listed = [i]) (ho : ops[i]? = some o)
    (hw : Region.wanted o (yielded ops a.tmps) = true) (hS : S w)
    (h : ∀ K' : Act → World → Prop, Shut (∀ a' w', HeldS P md ops Q S fuel (listed.setIfInBounds i true) a' w' → K' a' w') → Oper.wp P o a w K' Q) :
    HeldS P md ops Q S (fuel + 1) listed a w := by
  refine ⟨hS, wpAnyH_ready hr (by simp) (AllReadyH.cons ho (fun K' hK => ?_) AllReadyH.nil)⟩
  rw [if_pos hw]
  refine h K' fun a' w' hg => hK.out a' w' hg.1 fun _ => hg.2

theorem heldS_fork {i j : Nat} {oi oj : Oper} {fuel : Nat} {listed : Array Bool} {a : Act} {w : World} (hr : Region.ready md ops listed = [i, j]) (ho : ops[i]? = some oi) (ho' : ops[j]? = some oj)
    (hw : Region.wanted oi (yielded ops a.tmps) = true) (hw' : Region.wanted oj (yielded ops a.tmps) = true) (hS : S w)
    (h : ∀ K' : Act → World → Prop, Shut (∀ a' w', HeldS P md ops Q S fuel (listed.setIfInBounds i true) a' w' → K' a' w') → Oper.wp P oi a w K' Q)
    (h' : ∀ K' : Act → World → Prop, Shut (∀ a' w', HeldS P md ops Q S fuel (listed.setIfInBounds j true) a' w' → K' a' w') → Oper.wp P oj a w K' Q) :
    HeldS P md ops Q S (fuel + 1) listed a w := by
  refine ⟨hS, wpAnyH_ready hr (by simp) (AllReadyH.cons ho (fun K' hK => ?_) (AllReadyH.cons ho' (fun K' hK => ?_) AllReadyH.nil))⟩
  · rw [if_pos hw]
    exact h K' fun a' w' hg => hK.out a' w' hg.1 fun _ => hg.2
  · rw [if_pos hw']
    exact h' K' fun a' w' hg => hK.out a' w' hg.1 fun _ => hg.2

theorem heldS_done {listed : Array Bool} {a : Act} {w : World} {fuel : Nat} (hr : Region.ready md ops listed = []) (hS : S w) (h : Q .normal a w) : HeldS P md ops Q S fuel listed a w :=
  ⟨hS, wpAnyH_done hr h fuel⟩

end
end Go.By

/- A statement whose order Go leaves open, outside a round. No program is named here. -/
namespace Go.By
open Go.RowKit
set_option linter.unusedVariables false
theorem heldS_startP {P : Program} {ops : Array Oper} {Q : Exit → Act → World → Prop} {S : World → Prop} {id : Nat} {a : Act} {w : World} (hm : P.follows .mixedOrders = true)
    (h : HeldS P .any ops Q S ops.size (Array.replicate ops.size false) a w.drew) : (Code.region id ops true).wp P Q a w :=
  wp_region_held hm h.2
end Go.By

/- A statement whose order Go leaves open, within a function that is called by a range: as it is outside, and up to a call of yield. No program is named here. -/
namespace Go.By
open Go.RowKit
set_option linter.unusedVariables false
section
variable {P : Program} {ops : Array Oper} {Q : Exit → Act → World → Prop} {md : Region.Mode} {S : World → Prop}

theorem oper_wide {o : Oper} {a : Act} {w : World} {K : Act → World → Prop} {n : Nat} (hd : ∀ c, o.op ≠ .defer c) (h : Oper.wp P o a w K Q) : Oper.wpIn Fence.wide n P o a w K Q := by
  refine ⟨fun _ _ => trivial, ?_⟩
  rw [Oper.semAt_eq _ _ _ hd]
  unfold Oper.wp at h
  revert h
  generalize (execOp a.eval o).run P w = r
  intro h
  cases r with
  | ok v w' =>
    cases v with
    | value v => exact h
    | skip => exact h
    | defer d => exact h
    | enter f args => exact ⟨fun e => (by cases e), (callsIn_wide (n := n - 1)).2 h⟩
    | row r args => exact ⟨fun e => (by cases e), fun c cs _ => let ⟨v, w', r, s⟩ := h c cs; ⟨v, w', r, stepsIn_wide.2 s⟩⟩
    | round l f t a b => exact h.elim
    | _ => exact h.elim
  | halt e w' =>
    cases e with
    | panic v => exact h
    | _ => exact h.elim

theorem any_wide (hd : noDefer ops = true) (hno : ¬ LetsOut Q) {n : Nat} : ∀ (fuel : Nat) (listed : Array Bool) (a : Act) (w : World), wpAny P md ops Q fuel listed a w → wpAnyIn Fence.wide n P md ops Q fuel listed a w
  | 0, _, _, _, h => h
  | fuel + 1, _, _, _, h => ⟨h.1, fun i hi => by
      have h2 := h.2 i hi
      unfold wpOp at h2
      unfold wpOpIn
      split
      · rename_i ho
        rw [ho] at h2
        exact any_wide hd hno fuel _ _ _ h2
      · rename_i o ho
        rw [ho] at h2
        dsimp only at h2
        split
        · rename_i hw
          rw [if_pos hw] at h2
          replace h2 := h2.resolve_right fun hh => hno hh.2
          exact Oper.wpIn_mono (fun a' w' h' => any_wide hd hno fuel _ a' w' h') (oper_wide (noDefer_at hd ho) h2)
        · rename_i hw
          rw [if_neg hw] at h2
          exact ⟨fun _ _ => trivial, any_wide hd hno fuel _ _ _ h2⟩⟩

theorem heldS_startW {id n : Nat} {a : Act} {w : World} (hm : P.follows .mixedOrders = true) (hd : noDefer ops = true) (hno : ¬ LetsOut Q)
    (h : HeldS P .any ops Q S ops.size (Array.replicate ops.size false) a w.drew) : (Code.region id ops true).wpIn Fence.wide n P Q a w :=
  wpIn_region_any hm (any_wide hd hno _ _ _ _ (wpAny_of_held _ _ _ _ h.2))

/-- All ahead of one operation, in whatever order; then R. -/
def wpAnyC (P : Program) (md : Region.Mode) (ops : Array Oper) (Q : Exit → Act → World → Prop) (S : World → Prop) (R : Array Bool → Act → World → Prop) : Nat → Array Bool → Act → World → Prop
  | 0, listed, a, w => R listed a w
  | fuel + 1, listed, a, w => Region.ready md ops listed ≠ [] ∧
    ∀ i ∈ Region.ready md ops listed, wpOp P ops Q i (fun a' w' => S w' ∧ wpAnyC P md ops Q S R fuel (listed.setIfInBounds i true) a' w') a w

/-- Each that was listed waits for none that was not. -/
def closedB (md : Region.Mode) (ops : Array Oper) (L : Array Bool) : Bool :=
  (List.range ops.size).all fun j => !(L.getD j false) || match ops[j]? with
    | none => true
    | some o => o.after.all fun e => !(Region.binds md e) || L.getD e.on false
theorem closedB_iff {L : Array Bool} : closedB md ops L = true ↔ ∀ j o, ops[j]? = some o → L.getD j false = true → ∀ e ∈ o.after, Region.binds md e = true → L.getD e.on false = true := by
  constructor
  · intro h j o ho hl e he hb
    have hj : j < ops.size := (Array.getElem?_eq_some_iff.1 ho).1
    have h1 := List.all_eq_true.1 h j (List.mem_range.2 hj)
    simp only [hl, ho, Bool.not_true, Bool.false_or] at h1
    have h2 := Array.all_eq_true.1 h1
    obtain ⟨k, hk, rfl⟩ := Array.mem_iff_getElem.1 he
    have h3 := h2 k hk
    simpa [hb] using h3
  · intro h
    refine List.all_eq_true.2 fun j hj => ?_
    cases hl : L.getD j false with
    | false => rfl
    | true =>
      simp only [Bool.not_true, Bool.false_or]
      split
      · rfl
      · rename_i o ho
        refine Array.all_eq_true.2 fun k hk => ?_
        cases hb : Region.binds md o.after[k] with
        | false => rfl
        | true => simpa using h j o ho hl _ (Array.getElem_mem hk) hb
theorem closed_next {L : Array Bool} {j : Nat} (h : closedB md ops L = true) (hj : j ∈ Region.ready md ops L) : closedB md ops (L.setIfInBounds j true) = true := by
  rw [closedB_iff] at h ⊢
  obtain ⟨hu, oj, hoj, hall⟩ := mem_ready.1 hj
  intro k o ho hl e he hb
  have up : ∀ x, L.getD x false = true → (L.setIfInBounds j true).getD x false = true := fun x hx => by
    by_cases hjx : j = x
    · subst hjx
      have hlt : j < L.size := by
        rcases Nat.lt_or_ge j L.size with h | h
        · exact h
        · rw [Array.getD_eq_getD_getElem?, Array.getElem?_eq_none h] at hx; cases hx
      rw [Array.getD_eq_getD_getElem?, Array.getElem?_setIfInBounds_self_of_lt hlt]; rfl
    · rw [getD_set_ne false hjx]; exact hx
  refine up _ ?_
  by_cases hjk : j = k
  · subst hjk
    rw [hoj] at ho
    cases ho
    exact hall e he hb
  · exact h k o ho (by rw [getD_set_ne false hjk] at hl; exact hl) e he hb

/-- The last one alone is ready, and it is not before each of those ahead was. -/
def LastIs (md : Region.Mode) (ops : Array Oper) (L : Array Bool) : Bool :=
  match Region.ready md ops L with
  | [y] => (List.range L.size).all fun i => !(L.getD i false) || !(closedB md ops (L.setIfInBounds i false)) || !((Region.ready md ops (L.setIfInBounds i false)).contains y)
  | _ => false
theorem lastIs_one {L : Array Bool} (h : LastIs md ops L = true) : ∃ y, Region.ready md ops L = [y] ∧ (List.range L.size).all (fun i => !(L.getD i false) || !(closedB md ops (L.setIfInBounds i false)) || !((Region.ready md ops (L.setIfInBounds i false)).contains y)) = true := by
  unfold LastIs at h
  split at h
  · rename_i y e
    exact ⟨y, e, h⟩
  · cases h

theorem wpAnyC_first {R : Array Bool → Act → World → Prop} {L : Array Bool} (hL : LastIs md ops L = true) (hR : ∀ l a w, R l a w → l = L) {i : Nat} {oi : Oper} {v : Value} (hi : ops[i]? = some oi) (hsel : ∀ (j : Nat) (o : Oper) cs b, ops[j]? = some o → o.op ≠ .select cs b)
    (hQ : ∀ c a w, Q (.panic c) (a.put oi.dst v) w → Q (.panic c) a w) :
    ∀ (fuel : Nat) (listed : Array Bool) (a : Act) (w : World),
      closedB md ops listed = true → (∀ j oj, ops[j]? = some oj → j ≠ i → listed.getD j true = false → (∀ e ∈ oj.after, Region.binds md e = true → e.on ≠ i) → oi.apart ops oj = true) →
      i ∈ Region.ready md ops listed → YieldsIf P ops S oi v a → S w →
      wpAnyC P md ops Q S R fuel (listed.setIfInBounds i true) (a.put oi.dst v) w → wpAnyC P md ops Q S R (fuel + 1) listed a w := by
  obtain ⟨y, hL1', hL2⟩ := lastIs_one hL
  intro fuel
  induction fuel with
  | zero =>
    intro listed a w hcl _ hr hy hS H
    refine ⟨List.ne_nil_of_mem hr, fun j hj => ?_⟩
    by_cases hji : j = i
    · subst hji; exact hy.wpOp hi hS ⟨hS, H⟩
    · exfalso
      have e := hR _ _ _ H
      have hm := ready_mono hj hji
      rw [e, hL1'] at hm
      obtain rfl : j = y := by simpa using hm
      have h0 := (mem_ready.1 hr).1
      have hlt : i < listed.size := by
        rcases Nat.lt_or_ge i listed.size with h | h
        · exact h
        · rw [Array.getD_eq_getD_getElem?, Array.getElem?_eq_none h] at h0; cases h0
      have hz : listed[i] = false := by
        rw [Array.getD_eq_getD_getElem?, Array.getElem?_eq_getElem hlt] at h0; exact h0
      have hb := List.all_eq_true.1 hL2 i (by rw [List.mem_range, ← e]; simpa using hlt)
      have hu : L.setIfInBounds i false = listed := by
        rw [← e]
        apply Array.ext
        · simp
        · intro k h1 h2
          by_cases hk : i = k
          · subst hk; rw [Array.getElem_setIfInBounds_self]; exact hz.symm
          · rw [Array.getElem_setIfInBounds_ne (h := hk) (hj := by simpa using h1)]; rw [Array.getElem_setIfInBounds_ne (h := hk) (hj := h2)]
      have hg : L.getD i false = true := by rw [← e]; simp [Array.getD_eq_getD_getElem?, hlt]
      rw [hu, hg, hcl] at hb
      simp only [Bool.not_true, Bool.false_or, Bool.not_eq_true'] at hb
      have : (Region.ready md ops listed).contains j = true := List.contains_iff_mem.2 hj
      rw [hb] at this
      cases this
  | succ fuel ih =>
    intro listed a w hcl hfree hr hy hS H
    refine ⟨List.ne_nil_of_mem hr, fun j hj => ?_⟩
    by_cases hji : j = i
    · subst hji; exact hy.wpOp hi hS ⟨hS, H⟩
    · have h1 := H.2 j (ready_mono hj hji)
      obtain ⟨hjun, oj, hoj, hall⟩ := mem_ready.1 hj
      have hnot : ∀ e ∈ oj.after, Region.binds md e = true → e.on ≠ i := fun e he hb heq => by
        have h1 := hall e he hb
        have h0 := (mem_ready.1 hr).1
        rw [heq] at h1
        rcases Nat.lt_or_ge i listed.size with h' | h'
        · simp [h'] at h0 h1; rw [h0] at h1; cases h1
        · simp [Array.getElem?_eq_none h'] at h1
      have h2 := wpOp_putIf hoj (hfree j oj hoj hji hjun hnot) (fun cs b => hsel i oi cs b hi) (fun cs b => hsel j oj cs b hoj) hQ hy h1
      refine wpOp_mono (fun a' w' h3 => ⟨h3.2.1, ih (listed.setIfInBounds j true) a' w' (closed_next hcl hj) (fun k ok hk hki hun hno => ?_) (ready_mono hr (Ne.symm hji)) h3.1 h3.2.1 ?_⟩) h2
      · refine hfree k ok hk hki ?_ hno
        by_cases hjk : j = k
        · subst hjk; exact hjun
        · rw [getD_set_ne true hjk] at hun; exact hun
      · rw [Array.setIfInBounds_comm _ _ hji]
        exact h3.2.2

theorem anyC_wide (hd : noDefer ops = true) (hno : ¬ LetsOut Q) {n : Nat} {R : Array Bool → Act → World → Prop} (m : Nat) (hR : ∀ l a w, R l a w → wpAnyIn Fence.wide n P md ops Q m l a w) : ∀ (fuel : Nat) (listed : Array Bool) (a : Act) (w : World), wpAnyC P md ops Q S R fuel listed a w → wpAnyIn Fence.wide n P md ops Q (m + fuel) listed a w
  | 0, _, _, _, h => hR _ _ _ h
  | fuel + 1, _, _, _, h => ⟨fun e => absurd e h.1, fun i hi => by
      have h2 := h.2 i hi
      unfold wpOp at h2
      unfold wpOpIn
      split
      · rename_i ho
        rw [ho] at h2
        exact anyC_wide hd hno m hR fuel _ _ _ h2.2
      · rename_i o ho
        rw [ho] at h2
        dsimp only at h2
        split
        · rename_i hw
          rw [if_pos hw] at h2
          replace h2 := h2.resolve_right fun hh => hno hh.2
          exact Oper.wpIn_mono (fun a' w' h' => anyC_wide hd hno m hR fuel _ a' w' h'.2) (oper_wide (noDefer_at hd ho) h2)
        · rename_i hw
          rw [if_neg hw] at h2
          exact ⟨fun _ _ => trivial, anyC_wide hd hno m hR fuel _ _ _ h2.2⟩⟩

theorem anyC_plain {R : Array Bool → Act → World → Prop} (m : Nat) (hR : ∀ l a w, R l a w → wpAny P md ops Q m l a w) : ∀ (fuel : Nat) (listed : Array Bool) (a : Act) (w : World), wpAnyC P md ops Q S R fuel listed a w → wpAny P md ops Q (m + fuel) listed a w
  | 0, _, _, _, h => hR _ _ _ h
  | fuel + 1, _, _, _, h => ⟨fun e => absurd e h.1, fun i hi => wpOp_mono (fun a' w' h' => anyC_plain m hR fuel _ a' w' h'.2) (h.2 i hi)⟩

/-- From here on, up to the cut: whatever order, while S stays. -/
def HeldC (P : Program) (md : Region.Mode) (ops : Array Oper) (Q : Exit → Act → World → Prop) (S : World → Prop) (L : Array Bool) (R : Array Bool → Act → World → Prop) (fuel : Nat) (listed : Array Bool) (a : Act) (w : World) : Prop :=
  S w ∧ wpAnyC P md ops Q S (fun l a w => l = L ∧ R l a w) fuel listed a w

variable {L : Array Bool} {n : Nat} {R : Array Bool → Act → World → Prop}

theorem heldC_startW (m : Nat) {id fuel : Nat} {a : Act} {w : World} (hf : m + fuel = ops.size) (hm : P.follows .mixedOrders = true) (hd : noDefer ops = true) (hno : ¬ LetsOut Q)
    (h : HeldC P .any ops Q S L (wpAnyIn Fence.wide n P .any ops Q m) fuel (Array.replicate ops.size false) a w.drew) : (Code.region id ops true).wpIn Fence.wide n P Q a w :=
  wpIn_region_any hm (by
    have := anyC_wide (R := fun l a w => l = L ∧ wpAnyIn Fence.wide n P .any ops Q m l a w) hd hno m (fun _ _ _ h => h.2) fuel _ _ _ h.2
    rw [hf] at this
    exact this)
theorem heldC_startP (m : Nat) {id fuel : Nat} {a : Act} {w : World} (hf : m + fuel = ops.size) (hm : P.follows .mixedOrders = true)
    (h : HeldC P .any ops Q S L (wpAny P .any ops Q m) fuel (Array.replicate ops.size false) a w.drew) : (Code.region id ops true).wp P Q a w :=
  wp_region_any hm (by
    have := anyC_plain (R := fun l a w => l = L ∧ wpAny P .any ops Q m l a w) m (fun _ _ _ h => h.2) fuel _ _ _ h.2
    rw [hf] at this
    exact this)

theorem heldC_take {i : Nat} {oi : Oper} {v : Value} {fuel : Nat} {listed : Array Bool} {a : Act} {w : World} (hi : ops[i]? = some oi)
    (hs : Region.noSelect ops = true) (hf : Region.free md ops listed i = true) (hr : (Region.ready md ops listed).contains i = true)
    (hQ : ∀ c a w, Q (.panic c) (a.put oi.dst v) w → Q (.panic c) a w)
    (hw : Region.wanted oi (yielded ops a.tmps) = true) (hy : ∀ w', S w' → (execOp a.eval oi).run P w' = .ok (.value v) w')
    (hS : S w) (hL : (LastIs md ops L && closedB md ops listed) = true) (h : HeldC P md ops Q S L R fuel (listed.setIfInBounds i true) (a.put oi.dst v) w) : HeldC P md ops Q S L R (fuel + 1) listed a w :=
  ⟨hS, wpAnyC_first (Bool.and_eq_true_iff.1 hL).1 (fun _ _ _ h => h.1) hi (Region.noSelect_spec hs) hQ fuel listed a w (Bool.and_eq_true_iff.1 hL).2 (Region.free_spec hi hf) (by simpa using hr) (.inl ⟨hw, hy⟩) hS h.2⟩

theorem heldC_skip {i : Nat} {oi : Oper} {fuel : Nat} {listed : Array Bool} {a : Act} {w : World} (hi : ops[i]? = some oi)
    (hs : Region.noSelect ops = true) (hf : Region.free md ops listed i = true) (hr : (Region.ready md ops listed).contains i = true)
    (hQ : ∀ c a w, Q (.panic c) (a.put oi.dst undef) w → Q (.panic c) a w)
    (hw : Region.wanted oi (yielded ops a.tmps) = false)
    (hS : S w) (hL : (LastIs md ops L && closedB md ops listed) = true) (h : HeldC P md ops Q S L R fuel (listed.setIfInBounds i true) (a.put oi.dst undef) w) : HeldC P md ops Q S L R (fuel + 1) listed a w :=
  ⟨hS, wpAnyC_first (Bool.and_eq_true_iff.1 hL).1 (fun _ _ _ h => h.1) hi (Region.noSelect_spec hs) hQ fuel listed a w (Bool.and_eq_true_iff.1 hL).2 (Region.free_spec hi hf) (by simpa using hr) (.inr ⟨hw, rfl⟩) hS h.2⟩
theorem heldS_skip {i : Nat} {oi : Oper} {fuel : Nat} {listed : Array Bool} {a : Act} {w : World} (hi : ops[i]? = some oi)
    (hs : Region.noSelect ops = true) (hf : Region.free md ops listed i = true) (hr : (Region.ready md ops listed).contains i = true)
    (hQ : ∀ c a w, Q (.panic c) (a.put oi.dst undef) w → Q (.panic c) a w)
    (hw : Region.wanted oi (yielded ops a.tmps) = false)
    (hS : S w) (h : HeldS P md ops Q S fuel (listed.setIfInBounds i true) (a.put oi.dst undef) w) : HeldS P md ops Q S (fuel + 1) listed a w :=
  ⟨hS, wpAnyH_take hi hs hf hr hQ (.inr ⟨hw, rfl⟩) hS h.2⟩

theorem heldC_step {i : Nat} {o : Oper} {fuel : Nat} {listed : Array Bool} {a : Act} {w : World} (hr : Region.ready md ops listed = [i]) (ho : ops[i]? = some o)
    (hw : Region.wanted o (yielded ops a.tmps) = true) (hS : S w)
    (h : ∀ K' : Act → World → Prop, Shut (∀ a' w', HeldC P md ops Q S L R fuel (listed.setIfInBounds i true) a' w' → K' a' w') → Oper.wp P o a w K' Q) :
    HeldC P md ops Q S L R (fuel + 1) listed a w := by
  refine ⟨hS, by rw [hr]; simp, ?_⟩
  rw [hr]
  intro j hj
  obtain rfl : j = i := by simpa using hj
  unfold wpOp
  rw [ho]
  dsimp only
  rw [if_pos hw]
  exact .inl (h _ (fun a' w' hg => hg))

theorem heldC_fork {i j : Nat} {oi oj : Oper} {fuel : Nat} {listed : Array Bool} {a : Act} {w : World} (hr : Region.ready md ops listed = [i, j]) (ho : ops[i]? = some oi) (ho' : ops[j]? = some oj)
    (hw : Region.wanted oi (yielded ops a.tmps) = true) (hw' : Region.wanted oj (yielded ops a.tmps) = true) (hS : S w)
    (h : ∀ K' : Act → World → Prop, Shut (∀ a' w', HeldC P md ops Q S L R fuel (listed.setIfInBounds i true) a' w' → K' a' w') → Oper.wp P oi a w K' Q)
    (h' : ∀ K' : Act → World → Prop, Shut (∀ a' w', HeldC P md ops Q S L R fuel (listed.setIfInBounds j true) a' w' → K' a' w') → Oper.wp P oj a w K' Q) :
    HeldC P md ops Q S L R (fuel + 1) listed a w := by
  refine ⟨hS, by rw [hr]; simp, ?_⟩
  rw [hr]
  intro k hk
  unfold wpOp
  rcases List.mem_cons.1 hk with rfl | hk
  · rw [ho]
    dsimp only
    rw [if_pos hw]
    exact .inl (h _ (fun a' w' hg => hg))
  · obtain rfl : k = j := by simpa using hk
    rw [ho']
    dsimp only
    rw [if_pos hw']
    exact .inl (h' _ (fun a' w' hg => hg))

theorem heldC_cut {listed : Array Bool} {a : Act} {w : World} (hl : listed = L) (hS : S w) (h : R listed a w) : HeldC P md ops Q S L R 0 listed a w := ⟨hS, hl, h⟩

/-- Behind the cut: one by one. -/
theorem any_last {i : Nat} {o : Oper} {m : Nat} {listed : Array Bool} {a : Act} {w : World} (hr : Region.ready md ops listed = [i]) (ho : ops[i]? = some o)
    (hw : Region.wanted o (yielded ops a.tmps) = true) (hr' : Region.ready md ops (listed.setIfInBounds i true) = [])
    (h : Oper.wp P o a w (fun a' w' => Q .normal a' w') Q) : wpAny P md ops Q (m + 1) listed a w := by
  refine ⟨fun e => (by rw [hr] at e; cases e), ?_⟩
  rw [hr]
  intro j hj
  obtain rfl : j = i := by simpa using hj
  unfold wpOp
  rw [ho]
  dsimp only
  rw [if_pos hw]
  refine .inl (Oper.wp_mono (fun a' w' h' => ?_) h)
  cases m with
  | zero => exact ⟨hr', h'⟩
  | succ m => exact ⟨fun _ => h', by rw [hr']; intro k hk; cases hk⟩
theorem anyIn_next {F : Fence} {i : Nat} {o : Oper} {m : Nat} {listed : Array Bool} {a : Act} {w : World} (hr : Region.ready md ops listed = [i]) (ho : ops[i]? = some o)
    (hw : Region.wanted o (yielded ops a.tmps) = true)
    (h : Oper.wpIn F n P o a w (wpAnyIn F n P md ops Q m (listed.setIfInBounds i true)) Q) : wpAnyIn F n P md ops Q (m + 1) listed a w := by
  refine ⟨fun e => (by rw [hr] at e; cases e), ?_⟩
  rw [hr]
  intro j hj
  obtain rfl : j = i := by simpa using hj
  unfold wpOpIn
  rw [ho]
  dsimp only
  rw [if_pos hw]
  exact h
end
end Go.By
