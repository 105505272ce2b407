/- The document's span is the program's. -/
import Derived.Test.YtecmiphmefbpnaaPO
namespace Go.Proofs.Ytecmiphmefbpnaa.E
open Go.Proofs.Ytecmiphmefbpnaa Go.RowKit Go.By Go.Shelf
set_option linter.unusedVariables false

/-- Nothing is added right behind what is dropped. -/
def noDA : Bool → List Tok → Prop
  | _, [] => True
  | p, .A _ :: ts => p = false ∧ noDA false ts
  | _, .K :: ts => noDA false ts
  | _, .D :: ts => noDA true ts
theorem noDA_zero (ts : List Tok) : ∀ p, noDA p ts → (∀ i, (dT ts).getD i false = true → (aT ts).getD (i + 1) 0 = 0) ∧ (p = true → (aT ts).getD 0 0 = 0) := by
  induction ts with
  | nil => intro p h; exact ⟨fun i hi => by simp [dT] at hi, fun _ => rfl⟩
  | cons t ts ih =>
    intro p h
    cases t with
    | A c =>
      obtain ⟨x, u, e⟩ := aT_ne ts
      have := ih false h.2
      rw [e] at this
      rw [aT_A c ts e]
      exact ⟨fun i hi => by have := this.1 i hi; simpa using this, fun hp => by rw [h.1] at hp; cases hp⟩
    | K =>
      have := ih false h
      refine ⟨fun i hi => ?_, fun _ => rfl⟩
      show (0 :: aT ts).getD (i + 1) 0 = 0
      cases i with
      | zero => cases hi
      | succ i => rw [List.getD_cons_succ]; exact this.1 i hi
    | D =>
      have := ih true h
      refine ⟨fun i hi => ?_, fun _ => rfl⟩
      show (0 :: aT ts).getD (i + 1) 0 = 0
      rw [List.getD_cons_succ]
      cases i with
      | zero => exact this.2 rfl
      | succ i => exact this.1 i hi

/-- How it ends: was a byte dropped last? -/
def endD : Bool → List Tok → Bool
  | p, [] => p
  | _, .A _ :: ts => endD false ts
  | _, .K :: ts => endD false ts
  | _, .D :: ts => endD true ts
theorem endD_append (xs ys : List Tok) : ∀ p, endD p (xs ++ ys) = endD (endD p xs) ys := by
  induction xs with
  | nil => intro p; rfl
  | cons t xs ih => intro p; cases t <;> exact ih _
theorem noDA_append (xs ys : List Tok) : ∀ p, noDA p xs → noDA (endD p xs) ys → noDA p (xs ++ ys) := by
  induction xs with
  | nil => intro p _ h; exact h
  | cons t xs ih =>
    intro p h1 h2
    cases t with
    | A c => exact ⟨h1.1, ih _ h1.2 h2⟩
    | K => exact ih _ h1 h2
    | D => exact ih _ h1 h2
theorem endD_K (n : Nat) (hn : n ≠ 0) (p : Bool) : endD p (List.replicate n .K) = false ∧ noDA p (List.replicate n .K) := by
  obtain ⟨m, rfl⟩ := Nat.exists_eq_succ_of_ne_zero hn
  have : ∀ m, endD false (List.replicate m .K) = false ∧ noDA false (List.replicate m .K) := fun m => by
    induction m with
    | zero => exact ⟨rfl, trivial⟩
    | succ m ih => rw [List.replicate_succ]; exact ih
  rw [List.replicate_succ]; exact this m
theorem endD_D (n : Nat) (hn : n ≠ 0) (p : Bool) : endD p (List.replicate n .D) = true ∧ noDA p (List.replicate n .D) := by
  obtain ⟨m, rfl⟩ := Nat.exists_eq_succ_of_ne_zero hn
  have : ∀ m, endD true (List.replicate m .D) = true ∧ noDA true (List.replicate m .D) := fun m => by
    induction m with
    | zero => exact ⟨rfl, trivial⟩
    | succ m ih => rw [List.replicate_succ]; exact ih
  rw [List.replicate_succ]; exact this m
theorem endD_A (l : List UInt8) (hl : l ≠ []) : endD false (l.map .A) = false ∧ noDA false (l.map .A) := by
  induction l with
  | nil => exact absurd rfl hl
  | cons c l ih =>
    by_cases h : l = []
    · subst h; exact ⟨rfl, rfl, trivial⟩
    · have := ih h
      exact ⟨this.1, rfl, this.2⟩
/-- Runs of an edit end so, and are so. -/
theorem kscan_ends (rs : List Rn) : ∀ h j, rs.foldl kstep (some h) = some j → endD (decide (h = 3)) (expand rs) = decide (j = 3) ∧ noDA (decide (h = 3)) (expand rs) := by
  induction rs with
  | nil => intro h j e; cases e; exact ⟨rfl, trivial⟩
  | cons r rs ih =>
    intro h j e
    rw [List.foldl_cons] at e
    by_cases hb : kbad h r
    · have : kstep (some h) r = none := by simp [kstep, hb]
      rw [this] at e
      have hn : ∀ l : List Rn, l.foldl kstep none = none := fun l => by
        induction l with
        | nil => rfl
        | cons x l ih => exact ih
      rw [hn] at e; cases e
    · rw [kstep_ok hb] at e
      have hk : kind r ≠ 0 := by intro h0; apply hb; unfold kbad; simp [h0]
      obtain ⟨i1, i2⟩ := ih _ _ e
      rw [expand_cons]
      have key : endD (decide (h = 3)) (toks r) = decide (kind r = 3) ∧ noDA (decide (h = 3)) (toks r) := by
        rcases kind_cases hk with ⟨n, hn, rfl⟩ | ⟨a, ha, rfl⟩ | ⟨n, hn, rfl⟩
        · rw [toks_rK hn, kind_rK hn]; exact endD_K n hn _
        · rw [toks_rA ha, kind_rA ha]
          have h3 : ¬ h = 3 := by intro h3; apply hb; unfold kbad; simp [h3, kind_rA ha]
          rw [decide_eq_false h3]; exact endD_A a ha
        · rw [toks_rD hn, kind_rD hn]; exact endD_D n hn _
      rw [endD_append, key.1]
      exact ⟨i1, noDA_append _ _ _ key.2 (by rw [key.1]; exact i2)⟩

theorem last_kept (ts : List Tok) : ∀ p, noDA p ts → endD p ts = false → (tIn ts = 0 ∧ p = false) ∨ (0 < tIn ts ∧ (dT ts).getD (tIn ts - 1) false = false) := by
  induction ts with
  | nil => intro p _ h; exact .inl ⟨rfl, h⟩
  | cons t ts ih =>
    intro p h1 h2
    cases t with
    | A c =>
      rcases ih false h1.2 h2 with h | h
      · exact .inl ⟨h.1, h1.1⟩
      · exact .inr h
    | K =>
      right
      refine ⟨Nat.succ_pos _, ?_⟩
      show (false :: dT ts).getD (tIn ts + 1 - 1) false = false
      rcases ih false h1 h2 with h | h
      · rw [h.1]; rfl
      · obtain ⟨m, hm⟩ : ∃ m, tIn ts = m + 1 := ⟨tIn ts - 1, by omega⟩
        rw [hm] at h ⊢
        simpa using h.2
    | D =>
      right
      refine ⟨Nat.succ_pos _, ?_⟩
      show (true :: dT ts).getD (tIn ts + 1 - 1) false = false
      rcases ih true h1 h2 with h | h
      · cases h.2
      · obtain ⟨m, hm⟩ : ∃ m, tIn ts = m + 1 := ⟨tIn ts - 1, by omega⟩
        rw [hm] at h ⊢
        simpa using h.2

theorem getD_left {α : Type} (a b : List α) (d : α) {i : Nat} (h : i < a.length) : (a ++ b).getD i d = a.getD i d := by unfold List.getD; rw [List.getElem?_append_left h]
theorem getD_right {α : Type} (a b : List α) (d : α) {i : Nat} (h : a.length ≤ i) : (a ++ b).getD i d = b.getD (i - a.length) d := by unfold List.getD; rw [List.getElem?_append_right h]
theorem good_scan {rs : List Rn} (h : isG rs = true) : ∃ j, kscan rs = some j := by
  cases hk : kscan rs with
  | none => rw [meas_none_k hk] at h; cases h
  | some j => exact ⟨j, rfl⟩
theorem good_noDA {rs : List Rn} (h : isG rs = true) : noDA false (expand rs) := by
  obtain ⟨j, hj⟩ := good_scan h
  exact (kscan_ends rs 0 j hj).2
theorem rep_get {b : Bool} {n i : Nat} (h : i < n) : (List.replicate n b).getD i false = b := by simp [List.getD, h]

/-- Where the last kept byte ends. -/
theorem p1_facts {rs : List Rn} (hg : isG rs = true) {t : Nat} (ht : t ≤ tIn (expand rs)) : ∃ p : Nat, p1V rs t = (p : Int) ∧ p ≤ t ∧ (∀ j, p ≤ j → j < t → (dT (expand rs)).getD j false = true) ∧ (p = 0 ∨ (dT (expand rs)).getD (p - 1) false = false) := by
  have hk := good_kinds hg
  rcases lastP_cases hk t false with ⟨e, h0⟩ | ⟨k, hkl, e, h1, h2⟩
  · have hp : p1V rs t = (t : Int) := by rw [p1V, e]; rfl
    refine ⟨t, hp, Nat.le_refl _, fun j h1 h2 => by omega, ?_⟩
    left
    rcases h0 with rfl | h0
    · have : tIn (expand []) = 0 := rfl
      omega
    · exact h0.1
  · have h1' : tIn (expand (rs.take k)) < t := by rcases h1 with h1 | h1; exact h1; cases h1.2
    have hkx := kind_getD hk hkl
    have hsp := split_at hkl
    have htot : tIn (expand rs) = tIn (expand (rs.take k)) + (tIn (toks (rs.getD k rn0)) + tIn (expand (rs.drop (k + 1)))) := by rw [hsp, tIn_append, tIn_append]
    have h3 : t ≤ tIn (expand (rs.take k)) + tIn (toks (rs.getD k rn0)) := by
      rcases h2 with h2 | h2 | h2
      · have : rs.drop (k + 1) = [] := by rw [h2, List.drop_length]
        rw [this] at htot
        have e0 : tIn (expand []) = 0 := rfl
        omega
      · omega
      · omega
    have hd : dT (expand rs) = dT (expand (rs.take k)) ++ (dT (toks (rs.getD k rn0)) ++ dT (expand (rs.drop (k + 1)))) := by rw [hsp, dT_append, dT_append]
    have hlen : (dT (expand (rs.take k))).length = tIn (expand (rs.take k)) := dT_len _
    have hget : ∀ j, tIn (expand (rs.take k)) ≤ j → j < tIn (expand (rs.take k)) + tIn (toks (rs.getD k rn0)) → (dT (expand rs)).getD j false = (dT (toks (rs.getD k rn0))).getD (j - tIn (expand (rs.take k))) false := fun j hj1 hj2 => by
      rw [hd]
      have e1 : (dT (toks (rs.getD k rn0))).length = tIn (toks (rs.getD k rn0)) := dT_len _
      rw [getD_right _ _ _ (by omega), hlen, getD_left _ _ _ (by omega)]
    have hpre : ∀ j, j < tIn (expand (rs.take k)) → (dT (expand rs)).getD j false = (dT (expand (rs.take k))).getD j false := fun j hj => by
      rw [hd, getD_left _ _ _ (by omega)]
    rcases kind_cases hkx with ⟨n, hn, hr⟩ | ⟨a, ha, hr⟩ | ⟨n, hn, hr⟩
    · have hp : p1V rs t = (t : Int) := by rw [p1V, e, hr]; rfl
      refine ⟨t, hp, Nat.le_refl _, fun j h1 h2 => by omega, .inr ?_⟩
      rw [hget (t - 1) (by omega) (by omega), hr, toks_rK hn, dT_K]
      rw [hr, toks_rK hn, tIn_K] at h3
      exact rep_get (by omega)
    · rw [hr, toks_rA ha, tIn_A] at h3; omega
    · have hp : p1V rs t = ((tIn (expand (rs.take k)) : Nat) : Int) := by
        rw [p1V, e, if_pos (by show (0 : Int) < (rs.getD k rn0).drop; rw [hr]; show (0 : Int) < (n : Int); omega)]
      refine ⟨tIn (expand (rs.take k)), hp, by omega, fun j hj1 hj2 => ?_, ?_⟩
      · rw [hget j hj1 (by omega), hr, toks_rD hn, dT_D]
        rw [hr, toks_rD hn, tIn_D] at h3
        exact rep_get (by omega)
      · obtain ⟨j, hj⟩ := good_scan hg
        have hsplit : rs = rs.take k ++ rs.drop k := (List.take_append_drop k rs).symm
        have hpref : ∃ h, kscan (rs.take k) = some h := by
          cases hq : kscan (rs.take k) with
          | some h => exact ⟨h, rfl⟩
          | none =>
            rw [hsplit, kscan, List.foldl_append, ← kscan, hq, foldl_kstep_none] at hj; cases hj
        obtain ⟨h, hh⟩ := hpref
        have hb : ¬ kbad h (rs.getD k rn0) := fun hb => by
          have hs2 : rs = rs.take k ++ ([rs.getD k rn0] ++ rs.drop (k + 1)) := by
            conv => lhs; rw [← List.take_append_drop (k + 1) rs, List.take_succ_eq_append_getElem hkl]
            simp [List.getD, hkl]
          have e2 : kscan (rs.take k ++ [rs.getD k rn0]) = none := kscan_bad hh hb
          rw [hs2, ← List.append_assoc, kscan, List.foldl_append, ← kscan, e2, foldl_kstep_none] at hj
          cases hj
        have hh3 : ¬ h = 3 := fun h3 => hb (by rw [hr]; right; left; rw [kind_rD hn, h3])
        have hend := kscan_ends (rs.take k) 0 h hh
        rw [decide_eq_false hh3] at hend
        rcases last_kept _ _ hend.2 hend.1 with h4 | h4
        · exact .inl h4.1
        · right; rw [hpre _ (by omega)]; exact h4.2

end Go.Proofs.Ytecmiphmefbpnaa.E
