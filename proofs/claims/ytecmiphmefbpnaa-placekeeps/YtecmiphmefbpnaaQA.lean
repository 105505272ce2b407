/- What a span keeps. -/
import Derived.Test.YtecmiphmefbpnaaPQ
import Derived.Test.YtecmiphmefbpnaaU3
namespace Go.Proofs.Ytecmiphmefbpnaa.E
open Go.Proofs.Ytecmiphmefbpnaa Go.RowKit Go.By Go.Shelf
set_option linter.unusedVariables false
set_option linter.unusedSimpArgs false

theorem out_keeps (s : List UInt8) (ts : List Tok) : ∀ (x : As) (j : Nat), j < x.out.length → (ts.foldl (astep s) x).out[j]? = x.out[j]? := by
  induction ts with
  | nil => intro x j h; rfl
  | cons t ts ih =>
    intro x j h
    rw [List.foldl_cons]
    cases t with
    | A c => rw [ih _ j (by show j < (x.out ++ [c]).length; simp; omega)]; show (x.out ++ [c])[j]? = _; rw [List.getElem?_append_left h]
    | K => rw [ih _ j (by show j < (x.out ++ (s.drop x.pos).take 1).length; simp; omega)]; show (x.out ++ (s.drop x.pos).take 1)[j]? = _; rw [List.getElem?_append_left h]
    | D => exact ih _ j h
/-- A byte that is kept stands where the place behind what is added ahead of it is. -/
theorem out_byte (s : List UInt8) (ts : List Tok) : ∀ (x : As) (i : Nat), x.pos + tIn ts ≤ s.length → i < tIn ts → (dT ts).getD i false = false →
    (ts.foldl (astep s) x).out[x.out.length + tMv ts i true]? = s[x.pos + i]? := by
  induction ts with
  | nil => intro x i _ h; exact absurd h (Nat.not_lt_zero _)
  | cons t ts ih =>
    intro x i hp hi hd
    rw [List.foldl_cons]
    cases t with
    | A c =>
      have h := ih (astep s x (.A c)) i hp hi hd
      have e : (astep s x (.A c)).out = x.out ++ [c] := rfl
      have e2 : (astep s x (.A c)).pos = x.pos := rfl
      rw [e, e2, List.length_append, List.length_singleton] at h
      have e3 : tMv (.A c :: ts) i true = 1 + tMv ts i true := by rw [tMv]; simp
      rw [e3, ← Nat.add_assoc]; exact h
    | K =>
      have hp' : x.pos + (tIn ts + 1) ≤ s.length := hp
      have e : (astep s x .K).out = x.out ++ (s.drop x.pos).take 1 := rfl
      have e2 : (astep s x .K).pos = x.pos + 1 := rfl
      have e4 : ((s.drop x.pos).take 1).length = 1 := by simp; omega
      cases i with
      | zero =>
        have e3 : tMv (.K :: ts) 0 true = 0 := by rw [tMv]; simp
        rw [e3, Nat.add_zero, Nat.add_zero, out_keeps s ts _ _ (by rw [e, List.length_append, e4]; omega), e, List.getElem?_append_right (Nat.le_refl _), Nat.sub_self]
        simp [List.getElem?_take]
      | succ i =>
        have hi' : i + 1 < tIn ts + 1 := hi
        have h := ih (astep s x .K) i (by rw [e2]; omega) (by omega) hd
        rw [e, e2, List.length_append, e4] at h
        have e3 : tMv (.K :: ts) (i + 1) true = 1 + tMv ts i true := by rw [tMv]; simp
        rw [e3, ← Nat.add_assoc, h]; congr 1; omega
    | D =>
      have hp' : x.pos + (tIn ts + 1) ≤ s.length := hp
      cases i with
      | zero => cases hd
      | succ i =>
        have hi' : i + 1 < tIn ts + 1 := hi
        have e2 : (astep s x .D).pos = x.pos + 1 := rfl
        have h := ih (astep s x .D) i (by rw [e2]; omega) (by omega) hd
        have e3 : tMv (.D :: ts) (i + 1) true = tMv ts i true := by rw [tMv]; simp
        rw [e3]
        have e5 : (astep s x .D).out = x.out := rfl
        rw [e5, e2] at h
        rw [h]; congr 1; omega
theorem byte_kept {s : List UInt8} {ts : List Tok} {i : Nat} (h : tIn ts ≤ s.length) (hi : i < tIn ts) (hd : (dT ts).getD i false = false) : (applT s ts)[tMv ts i true]? = s[i]? := by
  have := out_byte s ts as0 i (by simpa [as0] using h) hi hd
  simpa [as0, applT, ascan] using this

/-- How many are kept. -/
def keptN (D : List Bool) (f : Nat) : Nat → Nat
  | 0 => 0
  | k + 1 => keptN D f k + if D.getD (f + k) false = true then 0 else 1
/-- Are all kept, and nothing is added between them? -/
def plainB (D : List Bool) (A : List ByteArray) (f : Nat) : Nat → Bool
  | 0 => true
  | k + 1 => plainB D A f k && !D.getD (f + k) false && (decide (k = 0) || decide (A.getD (f + k) ⟨#[]⟩ = ⟨#[]⟩))

theorem keptN_le (D : List Bool) (f : Nat) : ∀ k, keptN D f k ≤ k := by
  intro k
  induction k with
  | zero => exact Nat.le_refl _
  | succ k ih => rw [keptN]; split <;> omega
theorem keptN_zero {D : List Bool} {f : Nat} : ∀ {k : Nat}, keptN D f k = 0 → ∀ j, f ≤ j → j < f + k → D.getD j false = true := by
  intro k
  induction k with
  | zero => intro _ j h1 h2; omega
  | succ k ih =>
    intro h j h1 h2
    rw [keptN] at h
    have hd : D.getD (f + k) false = true := by
      cases hd : D.getD (f + k) false with
      | true => rfl
      | false => rw [hd] at h; simp at h
    by_cases hj : j = f + k
    · rw [hj]; exact hd
    · exact ih (by omega) j h1 (by omega)
theorem keptN_drop {D : List Bool} {f : Nat} : ∀ {k k' : Nat}, k ≤ k' → (∀ j, f + k ≤ j → j < f + k' → D.getD j false = true) → keptN D f k' = keptN D f k := by
  intro k k'
  induction k' with
  | zero => intro h _; obtain rfl : k = 0 := by omega
            rfl
  | succ k' ih =>
    intro h hd
    by_cases hk : k = k' + 1
    · rw [hk]
    · rw [keptN, if_pos (hd (f + k') (by omega) (by omega)), Nat.add_zero]
      exact ih (by omega) fun j h1 h2 => hd j h1 (by omega)
theorem mvS_kept (A : List Nat) (D : List Bool) (f : Nat) : ∀ k, mvS A D f + A.getD f 0 + keptN D f (k + 1) ≤ mvS A D (f + (k + 1)) := by
  intro k
  induction k with
  | zero => show _ ≤ mvS A D f + _; rw [keptN, keptN]; show _ ≤ mvS A D f + (A.getD f 0 + if D.getD f false = true then 0 else 1); simp only [Nat.add_zero]; omega
  | succ k ih =>
    rw [keptN]
    show _ ≤ mvS A D (f + (k + 1)) + (A.getD (f + (k + 1)) 0 + if D.getD (f + (k + 1)) false = true then 0 else 1)
    omega

/-- The span behind an edit. -/
theorem sp_facts {rs : List Rn} (hg : isG rs = true) {f t : Nat} (hft : f ≤ t) (ht : t ≤ tIn (expand rs)) :
    ∃ a b : Nat, spV rs f t = ((a : Int), (b : Int)) ∧ a ≤ b ∧ b ≤ tOut (expand rs) ∧ (keptN (dT (expand rs)) f (t - f) = 0 → a = b) ∧ a + keptN (dT (expand rs)) f (t - f) ≤ b := by
  obtain ⟨p, hp, p1, p2, p3⟩ := p1_facts hg ht
  unfold spV
  rw [hp, Int.toNat_natCast]
  by_cases h : (f : Int) < (p : Int)
  · have h' : f < p := by omega
    rw [if_pos h]
    obtain ⟨k, hk⟩ : ∃ k, p = f + (k + 1) := ⟨p - f - 1, by omega⟩
    have hkk : keptN (dT (expand rs)) f (t - f) = keptN (dT (expand rs)) f (k + 1) := keptN_drop (by omega) fun j h1 h2 => p2 j (by omega) (by omega)
    have hm := mvS_kept (aT (expand rs)) (dT (expand rs)) f k
    have e1 : tMv (expand rs) f true = mvS (aT (expand rs)) (dT (expand rs)) f + (aT (expand rs)).getD f 0 := by rw [mv_lists _ _ _ (by omega), mvL, if_pos rfl]
    have e2 : tMv (expand rs) p false = mvS (aT (expand rs)) (dT (expand rs)) p := by rw [mv_lists _ _ _ (by omega), mvL, if_neg (by simp)]; rfl
    refine ⟨_, _, rfl, ?_, mv_le _ _ _, fun h0 => ?_, ?_⟩
    · rw [e1, e2, hk]; omega
    · have := keptN_zero h0 (p - 1) (by omega) (by omega)
      rcases p3 with p3 | p3
      · omega
      · rw [p3] at this; cases this
    · rw [hkk, e1, e2, hk]; exact hm
  · rw [if_neg h]
    refine ⟨_, _, rfl, Nat.le_refl _, mv_le _ _ _, fun _ => rfl, ?_⟩
    have : keptN (dT (expand rs)) f (t - f) = keptN (dT (expand rs)) f 0 := keptN_drop (by omega) fun j h1 h2 => p2 j (by omega) (by omega)
    rw [this]; exact Nat.le_refl _

theorem plain_at {D : List Bool} {A : List ByteArray} {f : Nat} : ∀ {k : Nat}, plainB D A f k = true → ∀ j, j < k → D.getD (f + j) false = false ∧ (j = 0 ∨ A.getD (f + j) ⟨#[]⟩ = ⟨#[]⟩) := by
  intro k
  induction k with
  | zero => intro _ j h; omega
  | succ k ih =>
    intro h j hj
    rw [plainB, Bool.and_eq_true, Bool.and_eq_true, Bool.or_eq_true] at h
    by_cases e : j = k
    · subst e
      refine ⟨by simpa using h.1.2, ?_⟩
      rcases h.2 with h2 | h2
      · exact .inl (of_decide_eq_true h2)
      · exact .inr (of_decide_eq_true h2)
    · exact ih h.1.1 j (by omega)
theorem sizes_get {A : List ByteArray} {L : List Nat} (h : A.map (·.size) = L) (i : Nat) (hz : A.getD i ⟨#[]⟩ = ⟨#[]⟩) : L.getD i 0 = 0 := by
  subst h
  by_cases hi : i < A.length
  · simp [List.getD, hi] at hz ⊢
    rw [hz]; rfl
  · simp [List.getD, hi]

/-- What is plain has the same bytes. -/
theorem plain_same {rs : List Rn} (hg : isG rs = true) {A : List ByteArray} (hA : A.map (·.size) = aT (expand rs)) {s : ByteArray} (hs : tIn (expand rs) = s.size) {f t : Nat} (hft : f < t) (ht : t ≤ tIn (expand rs))
    (hp : plainB (dT (expand rs)) A f (t - f) = true) {a b : Nat} (hab : spV rs f t = ((a : Int), (b : Int))) : (outB s rs).extract a b = s.extract f t := by
  obtain ⟨p, hpp, p1, p2, p3⟩ := p1_facts hg ht
  have hpl := plain_at hp
  have hpt : p = t := by
    rcases Nat.lt_or_ge p t with h | h
    · have h1 := p2 (t - 1) (by omega) (by omega)
      have h2 := (hpl (t - 1 - f) (by omega)).1
      rw [show f + (t - 1 - f) = t - 1 by omega, h1] at h2; cases h2
    · omega
  unfold spV at hab
  rw [hpp, Int.toNat_natCast, hpt, if_pos (by omega)] at hab
  injection hab with ha hb
  have ha' : tMv (expand rs) f true = a := by omega
  have hb' : tMv (expand rs) t false = b := by omega
  have step : ∀ j, j < t - f → tMv (expand rs) (f + j) true = a + j := by
    intro j
    induction j with
    | zero => intro _; exact ha'
    | succ j ih =>
      intro hj
      have i1 := ih (by omega)
      have d1 := (hpl j (by omega)).1
      have d2 := (hpl (j + 1) hj).2
      have z : (aT (expand rs)).getD (f + (j + 1)) 0 = 0 := by
        rcases d2 with d2 | d2
        · omega
        · exact sizes_get hA _ d2
      have e1 := mv_kept (ts := expand rs) (i := f + j) (by omega) d1
      have e2 : tMv (expand rs) (f + j + 1) true = tMv (expand rs) (f + j + 1) false := by
        rw [mv_lists _ _ _ (by omega), mv_lists _ _ _ (by omega), mvL, mvL, if_pos rfl, if_neg (by simp)]
        rw [show f + j + 1 = f + (j + 1) by omega, z]
      rw [show f + (j + 1) = f + j + 1 by omega, e2, e1, i1]; omega
  have hlast : b = a + (t - f) := by
    have e1 := mv_kept (ts := expand rs) (i := t - 1) (by omega) (by have := (hpl (t - 1 - f) (by omega)).1; rwa [show f + (t - 1 - f) = t - 1 by omega] at this)
    have e2 := step (t - 1 - f) (by omega)
    rw [show f + (t - 1 - f) = t - 1 by omega] at e2
    rw [show t - 1 + 1 = t by omega] at e1
    omega
  apply ba_eq
  rw [ext_list, ext_list]
  have hsl : s.data.toList.length = s.size := by rw [Array.length_toList]; rfl
  show ((applT s.data.toList (expand rs)).toArray.toList.drop a).take (b - a) = _
  rw [show (applT s.data.toList (expand rs)).toArray.toList = applT s.data.toList (expand rs) from rfl]
  apply List.ext_getElem?
  intro j
  rw [List.getElem?_take, List.getElem?_take]
  by_cases hj : j < t - f
  · rw [if_pos (by omega), if_pos (by omega), List.getElem?_drop, List.getElem?_drop, ← step j hj]
    exact byte_kept (by omega) (by omega) (hpl j hj).1
  · rw [if_neg (by omega), if_neg (by omega)]

end Go.Proofs.Ytecmiphmefbpnaa.E
