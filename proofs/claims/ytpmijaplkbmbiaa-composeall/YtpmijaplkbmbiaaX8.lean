/- Two edits as one: part by part. And more of the same. -/
import Derived.Test.YtpmijaplkbmbiaaWC
import Derived.Test.YtpmijaplkbmbiaaX4
/- Two edits as one: part by part. -/
namespace Go.Proofs.Ytpmijaplkbmbiaa.E
open Go.Proofs.Ytpmijaplkbmbiaa Go.RowKit Go.By Go.Shelf
set_option linter.unusedVariables false
set_option linter.unusedSimpArgs false

theorem cT_D (n : Nat) (xs ys : List Tok) : cT (List.replicate n .D ++ xs) ys = List.replicate n .D ++ cT xs ys := by
  induction n with
  | zero => rfl
  | succ n ih => rw [List.replicate_succ, List.cons_append, cT, ih, List.cons_append]
def noD : List Tok → Prop
  | .D :: _ => False
  | _ => True
theorem cT_A {xs : List Tok} (h : noD xs) (l : List UInt8) (ys : List Tok) : cT xs (l.map .A ++ ys) = l.map .A ++ cT xs ys := by
  induction l with
  | nil => rfl
  | cons b l ih =>
    rcases xs with _ | ⟨x, xs⟩
    · rw [List.map_cons, List.cons_append, cT, ih, List.cons_append]
    · cases x with
      | K => rw [List.map_cons, List.cons_append, cT, ih, List.cons_append]
      | A c => rw [List.map_cons, List.cons_append, cT, ih, List.cons_append]
      | D => exact h.elim
theorem cT_KK (n : Nat) (xs ys : List Tok) : cT (List.replicate n .K ++ xs) (List.replicate n .K ++ ys) = List.replicate n .K ++ cT xs ys := by
  induction n with
  | zero => rfl
  | succ n ih => rw [List.replicate_succ, List.cons_append, List.cons_append, cT, ih, List.cons_append]
theorem cT_KD (n : Nat) (xs ys : List Tok) : cT (List.replicate n .K ++ xs) (List.replicate n .D ++ ys) = List.replicate n .D ++ cT xs ys := by
  induction n with
  | zero => rfl
  | succ n ih => rw [List.replicate_succ, List.replicate_succ, List.cons_append, List.cons_append, cT, ih, List.cons_append]
theorem cT_AK (l : List UInt8) (xs ys : List Tok) : cT (l.map .A ++ xs) (List.replicate l.length .K ++ ys) = l.map .A ++ cT xs ys := by
  induction l with
  | nil => rfl
  | cons b l ih => rw [List.length_cons, List.replicate_succ, List.map_cons, List.cons_append, List.cons_append, cT, ih, List.cons_append]
theorem cT_AD (l : List UInt8) (xs ys : List Tok) : cT (l.map .A ++ xs) (List.replicate l.length .D ++ ys) = cT xs ys := by
  induction l with
  | nil => rfl
  | cons b l ih => rw [List.length_cons, List.replicate_succ, List.map_cons, List.cons_append, List.cons_append, cT, ih]

theorem sz_list' (a : ByteArray) : a.data.toList.length = a.size := by rw [Array.length_toList]; rfl
/-- How long a run is. -/
def lenR (x : Rn) : Nat := x.keep.toNat + x.add.size + x.drop.toNat
theorem toks_zero {x : Rn} (h : kind x = 0) : toks x = [] := by rw [toks, if_pos h]
theorem length_toks {x : Rn} (h : kind x ≠ 0) : (toks x).length = lenR x := by
  rw [toks, if_neg h]; simp only [List.length_append, List.length_replicate, List.length_map, Array.length_toList, lenR]
  have : x.add.data.size = x.add.size := rfl
  omega
/-- A run is its part up to a place, and its part from there on. -/
theorem toks_split {x : Rn} (h : kind x ≠ 0) {m : Nat} (hm : m ≤ lenR x) : toks x = (toks x).take m ++ (toks x).drop m := (List.take_append_drop m _).symm
theorem pcR_rK {n f t : Nat} (h : n ≠ 0) (hft : f ≤ t) : pcR (rK n) f t = rK (t - f) := by
  rw [pcR, if_pos (show (0 : Int) < (rK n).keep by show (0 : Int) < (n : Int); omega), rK]; congr 1; omega
theorem pcR_rD {n f t : Nat} (h : n ≠ 0) (hft : f ≤ t) : pcR (rD n) f t = rD (t - f) := by
  rw [pcR, if_neg (show ¬ (0 : Int) < (rD n).keep by show ¬ (0 : Int) < 0; omega), if_pos (show (0 : Int) < (rD n).drop by show (0 : Int) < (n : Int); omega), rD]; congr 1; omega
theorem pcR_rA {l : List UInt8} {f t : Nat} : pcR (rA l) f t = rA ((l.drop f).take (t - f)) := by
  rw [pcR, if_neg (show ¬ (0 : Int) < (rA l).keep by show ¬ (0 : Int) < 0; omega), if_neg (show ¬ (0 : Int) < (rA l).drop by show ¬ (0 : Int) < 0; omega)]
  show (⟨0, (rA l).add.extract f t, 0⟩ : Rn) = ⟨0, ⟨((l.drop f).take (t - f)).toArray⟩, 0⟩
  congr 1
  apply ba_eq
  rw [ext_list]
  rfl
theorem lenR_rK (n : Nat) : lenR (rK n) = n := by
  show (n : Int).toNat + (⟨#[]⟩ : ByteArray).size + (0 : Int).toNat = n
  have : (⟨#[]⟩ : ByteArray).size = 0 := rfl
  omega
theorem lenR_rD (n : Nat) : lenR (rD n) = n := by
  show (0 : Int).toNat + (⟨#[]⟩ : ByteArray).size + (n : Int).toNat = n
  have : (⟨#[]⟩ : ByteArray).size = 0 := rfl
  omega
theorem lenR_rA (l : List UInt8) : lenR (rA l) = l.length := by
  show (0 : Int).toNat + (rA l).add.size + (0 : Int).toNat = l.length
  rw [← sz_list' ]
  simp [rA]

end Go.Proofs.Ytpmijaplkbmbiaa.E

/- compose: two edits side by side, run by run. -/
namespace Go.Proofs.Ytpmijaplkbmbiaa.E
open Go.Proofs.Ytpmijaplkbmbiaa Go.RowKit Go.By Go.Shelf
set_option linter.unusedVariables false
set_option linter.unusedSimpArgs false

/-- What is left of an edit behind m bytes of its first run. -/
def restR (x : Rn) (m : Nat) (xs : List Rn) : List Rn := if m = lenR x then xs else pcR x m (lenR x) :: xs
/-- Two edits side by side. -/
def prs : Nat → List Rn → List Rn → List (Rn × Rn)
  | 0, _, _ => []
  | k + 1, [], [] => []
  | k + 1, [], y :: ys => if y.add.toList.isEmpty = false then (rn0, y) :: prs k [] ys else []
  | k + 1, x :: xs, [] => if 0 < x.drop then (x, rn0) :: prs k xs [] else []
  | k + 1, x :: xs, y :: ys => if 0 < x.drop then (x, rn0) :: prs k xs (y :: ys) else if y.add.toList.isEmpty = false then (rn0, y) :: prs k (x :: xs) ys else
      (pcR x 0 (min (lenR x) (lenR y)), pcR y 0 (min (lenR x) (lenR y))) :: prs k (restR x (min (lenR x) (lenR y)) xs) (restR y (min (lenR x) (lenR y)) ys)

theorem empty_rA {l : List UInt8} (h : l ≠ []) : (rA l).add.toList.isEmpty = false := by
  rw [toList_data]; show (l.toArray.toList).isEmpty = false; rw [List.toList_toArray]; cases l <;> simp at *
theorem empty_rK (n : Nat) : (rK n).add.toList.isEmpty = true := by rw [toList_data]; rfl
theorem empty_rD (n : Nat) : (rD n).add.toList.isEmpty = true := by rw [toList_data]; rfl
theorem empty_rn0 : rn0.add.toList.isEmpty = true := by rw [toList_data]; rfl
theorem both_A (x : Rn) {l : List UInt8} (h : l ≠ []) : bothR x (rA l) = rA l := by
  rw [bothR, if_neg (show ¬ (0 : Int) < (rA l).drop by show ¬ (0 : Int) < 0; omega), if_pos (empty_rA h)]
theorem both_K (x : Rn) (n : Nat) : bothR x (rK n) = x := by
  rw [bothR, if_neg (show ¬ (0 : Int) < (rK n).drop by show ¬ (0 : Int) < 0; omega), if_neg (by rw [empty_rK]; simp)]
theorem both_0 (x : Rn) : bothR x rn0 = x := by
  rw [bothR, if_neg (show ¬ (0 : Int) < rn0.drop by show ¬ (0 : Int) < 0; omega), if_neg (by rw [empty_rn0]; simp)]
theorem both_D (x : Rn) {n : Nat} (h : n ≠ 0) : bothR x (rD n) = ⟨0, ⟨#[]⟩, x.keep⟩ := by
  rw [bothR, if_pos (show (0 : Int) < (rD n).drop by show (0 : Int) < (n : Int); omega)]
theorem toks_rn0 : toks ⟨0, ⟨#[]⟩, 0⟩ = [] := by rw [toks, if_pos]; exact kind_zero (by simp) (fun h => h.2.1 (by simp [toList_data])) (by simp)

theorem rest_K {n m : Nat} (hn : n ≠ 0) (hm : m ≤ n) (xs : List Rn) : expand (restR (rK n) m xs) = List.replicate (n - m) .K ++ expand xs ∧ ((∀ x ∈ xs, kind x ≠ 0) → ∀ x ∈ restR (rK n) m xs, kind x ≠ 0) := by
  rw [restR, lenR_rK]
  by_cases h : m = n
  · rw [if_pos h, h, Nat.sub_self]; exact ⟨rfl, id⟩
  · rw [if_neg h, pcR_rK hn hm, expand_cons, toks_rK (by omega)]
    exact ⟨rfl, fun hx x hm => by rcases List.mem_cons.1 hm with rfl | hm; · rw [kind_rK (by omega)]; decide
                                  · exact hx x hm⟩
theorem rest_D {n m : Nat} (hn : n ≠ 0) (hm : m ≤ n) (xs : List Rn) : expand (restR (rD n) m xs) = List.replicate (n - m) .D ++ expand xs ∧ ((∀ x ∈ xs, kind x ≠ 0) → ∀ x ∈ restR (rD n) m xs, kind x ≠ 0) := by
  rw [restR, lenR_rD]
  by_cases h : m = n
  · rw [if_pos h, h, Nat.sub_self]; exact ⟨rfl, id⟩
  · rw [if_neg h, pcR_rD hn hm, expand_cons, toks_rD (by omega)]
    exact ⟨rfl, fun hx x hm => by rcases List.mem_cons.1 hm with rfl | hm; · rw [kind_rD (by omega)]; decide
                                  · exact hx x hm⟩
theorem rest_A {l : List UInt8} {m : Nat} (hm : m ≤ l.length) (xs : List Rn) : expand (restR (rA l) m xs) = (l.drop m).map .A ++ expand xs ∧ ((∀ x ∈ xs, kind x ≠ 0) → ∀ x ∈ restR (rA l) m xs, kind x ≠ 0) := by
  rw [restR, lenR_rA]
  by_cases h : m = l.length
  · rw [if_pos h, h, List.drop_length]; exact ⟨rfl, id⟩
  · have hne : (l.drop m).take (l.length - m) ≠ [] := by
      intro e; have := congrArg List.length e; simp at this; omega
    have he : (l.drop m).take (l.length - m) = l.drop m := List.take_of_length_le (by simp)
    rw [if_neg h, pcR_rA, expand_cons, toks_rA hne, he]
    exact ⟨rfl, fun hx x hm => by rcases List.mem_cons.1 hm with rfl | hm; · rw [kind_rA (by rw [← he]; exact hne)]; decide
                                  · exact hx x hm⟩

theorem expand_map_cons (z : Rn × Rn) (l : List (Rn × Rn)) : expand ((z :: l).map fun z => bothR z.1 z.2) = toks (bothR z.1 z.2) ++ expand (l.map fun z => bothR z.1 z.2) := by
  rw [List.map_cons, expand_cons]

theorem prs_cT : ∀ (k : Nat) (a b : List Rn), (∀ x ∈ a, kind x ≠ 0) → (∀ x ∈ b, kind x ≠ 0) → tOut (expand a) = tIn (expand b) → (expand a).length + (expand b).length ≤ k →
    expand ((prs k a b).map fun z => bothR z.1 z.2) = cT (expand a) (expand b) := by
  intro k
  induction k with
  | zero =>
    intro a b _ _ _ hl
    have e1 : expand a = [] := List.eq_nil_of_length_eq_zero (by omega)
    have e2 : expand b = [] := List.eq_nil_of_length_eq_zero (by omega)
    rw [e1, e2]; simp [prs, cT, expand]
  | succ k ih =>
    intro a b ha hb hs hl
    rcases a with _ | ⟨x, xs⟩
    · rcases b with _ | ⟨y, ys⟩
      · simp [prs, cT, expand]
      · have hy := hb y List.mem_cons_self
        have hb' : ∀ x ∈ ys, kind x ≠ 0 := fun x hx => hb x (List.mem_cons_of_mem _ hx)
        rw [expand_cons] at hs hl ⊢
        rcases kind_cases hy with ⟨n, hn, rfl⟩ | ⟨l, hne, rfl⟩ | ⟨n, hn, rfl⟩
        · rw [toks_rK hn, tIn_append, tIn_K] at hs; simp [expand, tOut] at hs; omega
        · rw [toks_rA hne] at hs hl ⊢
          rw [tIn_append, tIn_A, Nat.zero_add] at hs
          simp only [List.length_append, List.length_map] at hl
          have hp : 0 < l.length := List.length_pos_iff.2 hne
          rw [prs, if_pos (empty_rA hne), expand_map_cons, both_A _ hne, toks_rA hne, ih [] ys ha hb' hs (by omega)]
          rw [cT_A (xs := expand []) trivial]
        · rw [toks_rD hn, tIn_append, tIn_D] at hs; simp [expand, tOut] at hs; omega
    · have hx := ha x List.mem_cons_self
      have ha' : ∀ x ∈ xs, kind x ≠ 0 := fun y hy => ha y (List.mem_cons_of_mem _ hy)
      rcases kind_cases hx with ⟨n, hn, rfl⟩ | ⟨l, hl0, rfl⟩ | ⟨n, hn, rfl⟩
      · rcases b with _ | ⟨y, ys⟩
        · rw [expand_cons, toks_rK hn, tOut_append, tOut_K] at hs; simp [expand, tIn] at hs; omega
        · have hy := hb y List.mem_cons_self
          have hb' : ∀ x ∈ ys, kind x ≠ 0 := fun x hx => hb x (List.mem_cons_of_mem _ hx)
          rcases kind_cases hy with ⟨p, hp, rfl⟩ | ⟨l', hne, rfl⟩ | ⟨p, hp, rfl⟩
          · rw [expand_cons, expand_cons, toks_rK hn, toks_rK hp] at hs hl
            rw [expand_cons, expand_cons, toks_rK hn, toks_rK hp]
            rw [prs, if_neg (show ¬ (0 : Int) < (rK n).drop by show ¬ (0 : Int) < 0; omega), if_neg (by rw [empty_rK]; simp), lenR_rK, lenR_rK]
            obtain ⟨m, hm⟩ : ∃ m, m = min n p := ⟨_, rfl⟩
            rw [← hm]
            have m0 : m ≠ 0 := by omega
            have mx : m ≤ n := by omega
            have my : m ≤ p := by omega
            obtain ⟨r1, r2⟩ := rest_K hn mx xs
            obtain ⟨r3, r4⟩ := rest_K hp my ys
            have ey : List.replicate p Tok.K = List.replicate m .K ++ List.replicate (p - m) .K := by rw [List.replicate_append_replicate]; congr 1; omega
            have ex : List.replicate n Tok.K = List.replicate m .K ++ List.replicate (n - m) .K := by rw [List.replicate_append_replicate]; congr 1; omega
            rw [expand_map_cons, ih _ _ (r2 ha') (r4 hb') (by rw [r1, r3, tOut_append, tIn_append]; rw [ex, ey] at hs; rw [tOut_append, tOut_append, tOut_K, tOut_K] at hs; rw [tOut_K]; rw [tIn_append, tIn_append, tIn_K, tIn_K] at hs; rw [tIn_K]; omega) (by rw [r1, r3]; simp only [List.length_append, List.length_replicate, List.length_map, List.length_drop] at hl ⊢; omega), r1, r3, ex, ey, List.append_assoc, List.append_assoc]
            show toks (bothR (pcR (rK n) 0 m) (pcR (rK p) 0 m)) ++ _ = _
            rw [pcR_rK hn (Nat.zero_le _), pcR_rK hp (Nat.zero_le _), Nat.sub_zero]
            rw [both_K, toks_rK m0, cT_KK]
          · have hq : 0 < l'.length := List.length_pos_iff.2 hne
            rw [expand_cons (rA l') ys, toks_rA hne] at hs hl
            rw [tIn_append, tIn_A, Nat.zero_add] at hs
            simp only [List.length_append, List.length_map] at hl
            rw [prs, if_neg (show ¬ (0 : Int) < (rK n).drop by show ¬ (0 : Int) < 0; omega), if_pos (empty_rA hne), expand_map_cons, both_A _ hne, toks_rA hne, ih ((rK n) :: xs) ys ha hb' hs (by omega), expand_cons (rA l') ys, toks_rA hne]
            rw [cT_A]
            rw [expand_cons, toks_rK hn]
            cases n with | zero => exact absurd rfl hn | succ n => trivial
          · rw [expand_cons, expand_cons, toks_rK hn, toks_rD hp] at hs hl
            rw [expand_cons, expand_cons, toks_rK hn, toks_rD hp]
            rw [prs, if_neg (show ¬ (0 : Int) < (rK n).drop by show ¬ (0 : Int) < 0; omega), if_neg (by rw [empty_rD]; simp), lenR_rK, lenR_rD]
            obtain ⟨m, hm⟩ : ∃ m, m = min n p := ⟨_, rfl⟩
            rw [← hm]
            have m0 : m ≠ 0 := by omega
            have mx : m ≤ n := by omega
            have my : m ≤ p := by omega
            obtain ⟨r1, r2⟩ := rest_K hn mx xs
            obtain ⟨r3, r4⟩ := rest_D hp my ys
            have ey : List.replicate p Tok.D = List.replicate m .D ++ List.replicate (p - m) .D := by rw [List.replicate_append_replicate]; congr 1; omega
            have ex : List.replicate n Tok.K = List.replicate m .K ++ List.replicate (n - m) .K := by rw [List.replicate_append_replicate]; congr 1; omega
            rw [expand_map_cons, ih _ _ (r2 ha') (r4 hb') (by rw [r1, r3, tOut_append, tIn_append]; rw [ex, ey] at hs; rw [tOut_append, tOut_append, tOut_K, tOut_K] at hs; rw [tOut_K]; rw [tIn_append, tIn_append, tIn_D, tIn_D] at hs; rw [tIn_D]; omega) (by rw [r1, r3]; simp only [List.length_append, List.length_replicate, List.length_map, List.length_drop] at hl ⊢; omega), r1, r3, ex, ey, List.append_assoc, List.append_assoc]
            show toks (bothR (pcR (rK n) 0 m) (pcR (rD p) 0 m)) ++ _ = _
            rw [pcR_rK hn (Nat.zero_le _), pcR_rD hp (Nat.zero_le _), Nat.sub_zero]
            rw [both_D _ m0, cT_KD]
            show toks (rD m) ++ _ = _
            rw [toks_rD m0]
      · rcases b with _ | ⟨y, ys⟩
        · rw [expand_cons, toks_rA hl0, tOut_append, tOut_A] at hs; simp [expand, tIn] at hs; exact absurd hs.1 hl0
        · have hy := hb y List.mem_cons_self
          have hb' : ∀ x ∈ ys, kind x ≠ 0 := fun x hx => hb x (List.mem_cons_of_mem _ hx)
          rcases kind_cases hy with ⟨p, hp, rfl⟩ | ⟨l', hne, rfl⟩ | ⟨p, hp, rfl⟩
          · rw [expand_cons, expand_cons, toks_rA hl0, toks_rK hp] at hs hl
            rw [expand_cons, expand_cons, toks_rA hl0, toks_rK hp]
            rw [prs, if_neg (show ¬ (0 : Int) < (rA l).drop by show ¬ (0 : Int) < 0; omega), if_neg (by rw [empty_rK]; simp), lenR_rA, lenR_rK]
            have hl1 : 0 < l.length := List.length_pos_iff.2 hl0
            obtain ⟨m, hm⟩ : ∃ m, m = min l.length p := ⟨_, rfl⟩
            rw [← hm]
            have m0 : m ≠ 0 := by omega
            have mx : m ≤ l.length := by omega
            have my : m ≤ p := by omega
            obtain ⟨r1, r2⟩ := rest_A mx xs
            obtain ⟨r3, r4⟩ := rest_K hp my ys
            have ey : List.replicate p Tok.K = List.replicate m .K ++ List.replicate (p - m) .K := by rw [List.replicate_append_replicate]; congr 1; omega
            have ex : l.map Tok.A = (l.take m).map .A ++ (l.drop m).map .A := by rw [← List.map_append, List.take_append_drop]
            have ml : (l.take m).length = m := by rw [List.length_take]; omega
            have mn : l.take m ≠ [] := by intro e; rw [e] at ml; simp at ml; omega
            rw [expand_map_cons, ih _ _ (r2 ha') (r4 hb') (by rw [r1, r3, tOut_append, tIn_append]; rw [ex, ey] at hs; rw [tOut_append, tOut_append, tOut_A, tOut_A] at hs; rw [tOut_A]; rw [ml] at hs; rw [tIn_append, tIn_append, tIn_K, tIn_K] at hs; rw [tIn_K]; omega) (by rw [r1, r3]; simp only [List.length_append, List.length_replicate, List.length_map, List.length_drop] at hl ⊢; omega), r1, r3, ex, ey, List.append_assoc, List.append_assoc]
            show toks (bothR (pcR (rA l) 0 m) (pcR (rK p) 0 m)) ++ _ = _
            rw [pcR_rA, pcR_rK hp (Nat.zero_le _), Nat.sub_zero]
            rw [both_K, List.drop_zero, toks_rA mn]
            have h3 := cT_AK (l.take m) ((l.drop m).map .A ++ expand xs) (List.replicate (p - m) .K ++ expand ys)
            rw [ml] at h3
            rw [h3]
          · have hq : 0 < l'.length := List.length_pos_iff.2 hne
            rw [expand_cons (rA l') ys, toks_rA hne] at hs hl
            rw [tIn_append, tIn_A, Nat.zero_add] at hs
            simp only [List.length_append, List.length_map] at hl
            rw [prs, if_neg (show ¬ (0 : Int) < (rA l).drop by show ¬ (0 : Int) < 0; omega), if_pos (empty_rA hne), expand_map_cons, both_A _ hne, toks_rA hne, ih ((rA l) :: xs) ys ha hb' hs (by omega), expand_cons (rA l') ys, toks_rA hne]
            rw [cT_A]
            rw [expand_cons, toks_rA hl0]
            cases l with | nil => exact absurd rfl hl0 | cons c l => trivial
          · rw [expand_cons, expand_cons, toks_rA hl0, toks_rD hp] at hs hl
            rw [expand_cons, expand_cons, toks_rA hl0, toks_rD hp]
            rw [prs, if_neg (show ¬ (0 : Int) < (rA l).drop by show ¬ (0 : Int) < 0; omega), if_neg (by rw [empty_rD]; simp), lenR_rA, lenR_rD]
            have hl1 : 0 < l.length := List.length_pos_iff.2 hl0
            obtain ⟨m, hm⟩ : ∃ m, m = min l.length p := ⟨_, rfl⟩
            rw [← hm]
            have m0 : m ≠ 0 := by omega
            have mx : m ≤ l.length := by omega
            have my : m ≤ p := by omega
            obtain ⟨r1, r2⟩ := rest_A mx xs
            obtain ⟨r3, r4⟩ := rest_D hp my ys
            have ey : List.replicate p Tok.D = List.replicate m .D ++ List.replicate (p - m) .D := by rw [List.replicate_append_replicate]; congr 1; omega
            have ex : l.map Tok.A = (l.take m).map .A ++ (l.drop m).map .A := by rw [← List.map_append, List.take_append_drop]
            have ml : (l.take m).length = m := by rw [List.length_take]; omega
            have mn : l.take m ≠ [] := by intro e; rw [e] at ml; simp at ml; omega
            rw [expand_map_cons, ih _ _ (r2 ha') (r4 hb') (by rw [r1, r3, tOut_append, tIn_append]; rw [ex, ey] at hs; rw [tOut_append, tOut_append, tOut_A, tOut_A] at hs; rw [tOut_A]; rw [ml] at hs; rw [tIn_append, tIn_append, tIn_D, tIn_D] at hs; rw [tIn_D]; omega) (by rw [r1, r3]; simp only [List.length_append, List.length_replicate, List.length_map, List.length_drop] at hl ⊢; omega), r1, r3, ex, ey, List.append_assoc, List.append_assoc]
            show toks (bothR (pcR (rA l) 0 m) (pcR (rD p) 0 m)) ++ _ = _
            rw [pcR_rA, pcR_rD hp (Nat.zero_le _), Nat.sub_zero]
            rw [both_D _ m0]
            show toks ⟨0, ⟨#[]⟩, 0⟩ ++ _ = _
            rw [toks_rn0, List.nil_append]
            have h3 := cT_AD (l.take m) ((l.drop m).map .A ++ expand xs) (List.replicate (p - m) .D ++ expand ys)
            rw [ml] at h3
            rw [h3]
      · have hd : (0 : Int) < (rD n).drop := by show (0 : Int) < (n : Int); omega
        rw [expand_cons, toks_rD hn] at hs hl ⊢
        rw [tOut_append, tOut_D, Nat.zero_add] at hs
        simp only [List.length_append, List.length_replicate] at hl
        rcases b with _ | ⟨y, ys⟩
        · rw [prs, if_pos hd, expand_map_cons, both_0, toks_rD hn, ih xs [] ha' hb hs (by omega), cT_D]
        · rw [prs, if_pos hd, expand_map_cons, both_0, toks_rD hn, ih xs (y :: ys) ha' hb hs (by omega), cT_D]

end Go.Proofs.Ytpmijaplkbmbiaa.E

/- An edit of so many tokens has no more runs; what of two edits is composed, normed. -/
namespace Go.Proofs.Ytpmijaplkbmbiaa.E
open Go.Proofs.Ytpmijaplkbmbiaa Go.RowKit Go.By Go.Shelf
set_option linter.unusedVariables false
set_option linter.unusedSimpArgs false

theorem flush_few (k : Nat) (a : List UInt8) (d : Nat) : (flush k a d).length ≤ k + a.length + d := by
  have h1 : ∀ n, n ≠ 0 → 1 ≤ n := fun n h => by omega
  unfold flush
  cases a <;> by_cases h1 : k = 0 <;> by_cases h2 : d = 0 <;> simp [h1, h2] <;> omega
theorem len_tstep (s : Ns) (t : Tok) : (tstep s t).op.length + (tstep s t).k + (tstep s t).a.length + (tstep s t).d ≤ s.op.length + s.k + s.a.length + s.d + 1 := by
  have hf := flush_few s.k s.a s.d
  cases t with
  | K =>
    by_cases h : s.a = [] ∧ s.d = 0
    · rw [tstep_K0 h]; simp only [h.1, h.2]; omega
    · rw [tstep_K1 h]; simp only [List.length_append, List.length_nil]; omega
  | A b => simp only [tstep, List.length_append, List.length_cons, List.length_nil]; omega
  | D => simp only [tstep]; omega
theorem len_nscan (ts : List Tok) : ∀ s : Ns, (ts.foldl tstep s).op.length + (ts.foldl tstep s).k + (ts.foldl tstep s).a.length + (ts.foldl tstep s).d ≤ s.op.length + s.k + s.a.length + s.d + ts.length := by
  induction ts with
  | nil => intro s; exact Nat.le_refl _
  | cons t ts ih => intro s; rw [List.foldl_cons]; have := ih (tstep s t); have := len_tstep s t; simp only [List.length_cons]; omega
theorem len_normW (ts : List Tok) : (normT ts).length ≤ ts.length := by
  have h := len_nscan ts ns0
  have hf := flush_few (nscan ts).k (nscan ts).a (nscan ts).d
  rw [normT, nend, List.length_append]
  have e : (ns0.op.length + ns0.k + ns0.a.length + ns0.d) = 0 := rfl
  have h' : (nscan ts).op.length + (nscan ts).k + (nscan ts).a.length + (nscan ts).d ≤ 0 + ts.length := by rw [← e]; exact h
  omega

end Go.Proofs.Ytpmijaplkbmbiaa.E

/- compose's law: few. -/
namespace Go.Proofs.Ytpmijaplkbmbiaa.E
open Go.Proofs.Ytpmijaplkbmbiaa Go.RowKit Go.By Go.Shelf
set_option linter.unusedVariables false
set_option linter.unusedSimpArgs false

/-- Is an edit not of more than is looked at? -/
def fewR (rs : List Rn) : Bool := decide (LightR rs) && (!isG rs || (decide (mIn (meas rs) ≤ 3000) && decide (mOut (meas rs) ≤ 3000)))

set_option maxRecDepth 20000 in
set_option maxHeartbeats 4000000 in
theorem few_any (a : Option Addr) (cap : Nat) (rs : List Rn) (w : World) (hS : CameR w.heap.size w a rs) :
    Calls Try.prog 80 #[.slice a rs.length cap] w fun e W' => e = .returned (.bool (fewR rs)) ∧ Below w.heap.size w W' := by
  have L0 := hide hS
  clear hS
  go_enter Try.func80, Try.ntmps80
  by_cases hli : LightR rs
  · have HLI : Hid (decide (LightR rs) = true) := hide (decide_eq_true hli)
    have HN : Hid (rs.length ≤ 100) := hide hli.1
    clear hli
    cases hg : isG rs with
    | false =>
      have HG := hide hg
      clear hg
      go_wp2_with (go_at_call 49; refine (light_any a cap rs w L0.out).mono ?_; rintro e W1 ⟨rfl, hb⟩; rw [HLI.out]; have L1 := hide (came_up L0.out hb); have HB1 := hide hb; clear hb L0)
      go_wp2_with (go_at_call 52; refine (rgood_any a cap rs W1 L1.out (by have := HN.out; omega)).mono ?_; rintro e W2 ⟨rfl, hb⟩; rw [HG.out]; have HB2 := hide (HB1.out.trans (hb.mono HB1.out.size)); clear hb L1)
      go_ret
      exact ⟨by rw [fewR, HLI.out, HG.out]; rfl, HB2.out⟩
    | true =>
      have HG := hide hg
      clear hg
      obtain ⟨m, hm⟩ : ∃ m, mIn (meas rs) = m := ⟨_, rfl⟩
      obtain ⟨o, ho⟩ : ∃ o, mOut (meas rs) = o := ⟨_, rfl⟩
      have HF : Hid (fewR rs = (decide (m ≤ 3000) && decide (o ≤ 3000))) := hide (by rw [fewR, HLI.out, HG.out, hm, ho]; rfl)
      have hin : ∀ W, CameR W.heap.size W a rs → Calls Try.prog 54 #[.slice a rs.length cap] W fun e W' => e = .returned (.int .i64 m) ∧ Below W.heap.size W W' := fun W h => by rw [← hm]; exact rin_any a cap rs W h (by have := HN.out; omega)
      have hou : ∀ W, CameR W.heap.size W a rs → Calls Try.prog 56 #[.slice a rs.length cap] W fun e W' => e = .returned (.int .i64 o) ∧ Below W.heap.size W W' := fun W h => by rw [← ho]; exact rout_any a cap rs W h (by have := HN.out; omega)
      have HIN := hide hin
      have HOU := hide hou
      clear hm ho hin hou
      by_cases h1 : m ≤ 3000
      · go_wp2_with (go_at_call 49; refine (light_any a cap rs w L0.out).mono ?_; rintro e W1 ⟨rfl, hb⟩; rw [HLI.out]; have L1 := hide (came_up L0.out hb); have HB1 := hide hb; clear hb L0)
        go_wp2_with (go_at_call 52; refine (rgood_any a cap rs W1 L1.out (by have := HN.out; omega)).mono ?_; rintro e W2 ⟨rfl, hb⟩; rw [HG.out]; have L2 := hide (came_up L1.out hb); have HB2 := hide (HB1.out.trans (hb.mono HB1.out.size)); clear hb L1)
        go_wp2_with (go_at_call 54; refine (HIN.out W2 L2.out).mono ?_; rintro e W3 ⟨rfl, hb⟩; have L3 := hide (came_up L2.out hb); have HB3 := hide (HB2.out.trans (hb.mono HB2.out.size)); clear hb L2)
        go_wp2_with (go_at_call 56; refine (HOU.out W3 L3.out).mono ?_; rintro e W4 ⟨rfl, hb⟩; have HB4 := hide (HB3.out.trans (hb.mono HB3.out.size)); clear hb L3)
        go_ret
        exact ⟨by rw [HF.out, decide_eq_true h1]; simp, HB4.out⟩
      · go_wp2_with (go_at_call 49; refine (light_any a cap rs w L0.out).mono ?_; rintro e W1 ⟨rfl, hb⟩; rw [HLI.out]; have L1 := hide (came_up L0.out hb); have HB1 := hide hb; clear hb L0)
        go_wp2_with (go_at_call 52; refine (rgood_any a cap rs W1 L1.out (by have := HN.out; omega)).mono ?_; rintro e W2 ⟨rfl, hb⟩; rw [HG.out]; have L2 := hide (came_up L1.out hb); have HB2 := hide (HB1.out.trans (hb.mono HB1.out.size)); clear hb L1)
        go_wp2_with (go_at_call 54; refine (HIN.out W2 L2.out).mono ?_; rintro e W3 ⟨rfl, hb⟩; have HB3 := hide (HB2.out.trans (hb.mono HB2.out.size)); clear hb L2)
        go_ret
        exact ⟨by rw [HF.out, decide_eq_false (by omega : ¬ m ≤ 3000)]; rfl, HB3.out⟩
  · have HLI : Hid (decide (LightR rs) = false) := hide (decide_eq_false hli)
    clear hli
    go_wp2_with (go_at_call 49; refine (light_any a cap rs w L0.out).mono ?_; rintro e W1 ⟨rfl, hb⟩; rw [HLI.out]; have HB1 := hide hb; clear hb L0)
    go_ret
    exact ⟨by rw [fewR, HLI.out]; rfl, HB1.out⟩

end Go.Proofs.Ytpmijaplkbmbiaa.E

/- compose: what reads an edit, and what reads two, are made. -/
namespace Go.Proofs.Ytpmijaplkbmbiaa.E
open Go.Proofs.Ytpmijaplkbmbiaa Go.RowKit Go.By Go.Shelf
set_option linter.unusedVariables false
set_option linter.unusedSimpArgs false

theorem reader_any (a : Option Addr) (n cap : Nat) (w : World) : Calls Try.prog 141 #[.slice a n cap] w fun e W' =>
    e = .returned (.func (.func 159) #[] #[.pointer (some ⟨w.heap.size + 1, 0, none⟩), .pointer (some ⟨w.heap.size, 0, none⟩)]) ∧ W' = (w.alloc (.cells #[.slice a n cap] 77)).alloc (.cells #[.int .i64 0, .string ⟨#[]⟩, .int .i64 0] 91) := by
  go_enter Try.func141, Try.ntmps141
  go_wp2
  go_ret
  exact ⟨rfl, rfl⟩
theorem pairs_any (a b : Option Addr) (n cap m cap' : Nat) (w : World) : Calls Try.prog 117 #[.slice a n cap, .slice b m cap'] w fun e W' =>
    e = .returned (.func (.func 140) #[] #[.pointer (some ⟨w.heap.size, 0, none⟩), .pointer (some ⟨w.heap.size + 1, 0, none⟩)]) ∧ W' = (w.alloc (.cells #[.slice a n cap] 77)).alloc (.cells #[.slice b m cap'] 77) := by
  go_enter Try.func117, Try.ntmps117
  go_wp2
  go_ret
  exact ⟨rfl, rfl⟩

end Go.Proofs.Ytpmijaplkbmbiaa.E
