/- compose: two edits side by side, run by run. -/
import Derived.Test.YtpmijaplkbmbiaaWD
namespace Go.Proofs.Ytpmijaplkbmbiaa.E
open Go.Proofs.Ytpmijaplkbmbiaa Go.RowKit Go.By Go.Shelf
set_option linter.unusedVariables false
set_option linter.unusedSimpArgs false

/-- What is left of an edit behind m bytes of its first run. -/
def restR (x : Rn) (m : Nat) (xs : List Rn) : List Rn := if m = lenR x then xs else pcR x m (lenR x) :: xs
/-- Two edits side by side. -/
def prs : Nat → List Rn → List Rn → List (Rn × Rn)
  | 0, _, _ => []
  | k + 1, [], [] => []
  | k + 1, [], y :: ys => if y.add.toList.isEmpty = false then (rn0, y) :: prs k [] ys else []
  | k + 1, x :: xs, [] => if 0 < x.drop then (x, rn0) :: prs k xs [] else []
  | k + 1, x :: xs, y :: ys => if 0 < x.drop then (x, rn0) :: prs k xs (y :: ys) else if y.add.toList.isEmpty = false then (rn0, y) :: prs k (x :: xs) ys else
      (pcR x 0 (min (lenR x) (lenR y)), pcR y 0 (min (lenR x) (lenR y))) :: prs k (restR x (min (lenR x) (lenR y)) xs) (restR y (min (lenR x) (lenR y)) ys)

theorem empty_rA {l : List UInt8} (h : l ≠ []) : (rA l).add.toList.isEmpty = false := by
  rw [toList_data]; show (l.toArray.toList).isEmpty = false; rw [List.toList_toArray]; cases l <;> simp at *
theorem empty_rK (n : Nat) : (rK n).add.toList.isEmpty = true := by rw [toList_data]; rfl
theorem empty_rD (n : Nat) : (rD n).add.toList.isEmpty = true := by rw [toList_data]; rfl
theorem empty_rn0 : rn0.add.toList.isEmpty = true := by rw [toList_data]; rfl
theorem both_A (x : Rn) {l : List UInt8} (h : l ≠ []) : bothR x (rA l) = rA l := by
  rw [bothR, if_neg (show ¬ (0 : Int) < (rA l).drop by show ¬ (0 : Int) < 0; omega), if_pos (empty_rA h)]
theorem both_K (x : Rn) (n : Nat) : bothR x (rK n) = x := by
  rw [bothR, if_neg (show ¬ (0 : Int) < (rK n).drop by show ¬ (0 : Int) < 0; omega), if_neg (by rw [empty_rK]; simp)]
theorem both_0 (x : Rn) : bothR x rn0 = x := by
  rw [bothR, if_neg (show ¬ (0 : Int) < rn0.drop by show ¬ (0 : Int) < 0; omega), if_neg (by rw [empty_rn0]; simp)]
theorem both_D (x : Rn) {n : Nat} (h : n ≠ 0) : bothR x (rD n) = ⟨0, ⟨#[]⟩, x.keep⟩ := by
  rw [bothR, if_pos (show (0 : Int) < (rD n).drop by show (0 : Int) < (n : Int); omega)]
theorem toks_rn0 : toks ⟨0, ⟨#[]⟩, 0⟩ = [] := by rw [toks, if_pos]; exact kind_zero (by simp) (fun h => h.2.1 (by simp [toList_data])) (by simp)

theorem rest_K {n m : Nat} (hn : n ≠ 0) (hm : m ≤ n) (xs : List Rn) : expand (restR (rK n) m xs) = List.replicate (n - m) .K ++ expand xs ∧ ((∀ x ∈ xs, kind x ≠ 0) → ∀ x ∈ restR (rK n) m xs, kind x ≠ 0) := by
  rw [restR, lenR_rK]
  by_cases h : m = n
  · rw [if_pos h, h, Nat.sub_self]; exact ⟨rfl, id⟩
  · rw [if_neg h, pcR_rK hn hm, expand_cons, toks_rK (by omega)]
    exact ⟨rfl, fun hx x hm => by rcases List.mem_cons.1 hm with rfl | hm; · rw [kind_rK (by omega)]; decide
                                  · exact hx x hm⟩
theorem rest_D {n m : Nat} (hn : n ≠ 0) (hm : m ≤ n) (xs : List Rn) : expand (restR (rD n) m xs) = List.replicate (n - m) .D ++ expand xs ∧ ((∀ x ∈ xs, kind x ≠ 0) → ∀ x ∈ restR (rD n) m xs, kind x ≠ 0) := by
  rw [restR, lenR_rD]
  by_cases h : m = n
  · rw [if_pos h, h, Nat.sub_self]; exact ⟨rfl, id⟩
  · rw [if_neg h, pcR_rD hn hm, expand_cons, toks_rD (by omega)]
    exact ⟨rfl, fun hx x hm => by rcases List.mem_cons.1 hm with rfl | hm; · rw [kind_rD (by omega)]; decide
                                  · exact hx x hm⟩
theorem rest_A {l : List UInt8} {m : Nat} (hm : m ≤ l.length) (xs : List Rn) : expand (restR (rA l) m xs) = (l.drop m).map .A ++ expand xs ∧ ((∀ x ∈ xs, kind x ≠ 0) → ∀ x ∈ restR (rA l) m xs, kind x ≠ 0) := by
  rw [restR, lenR_rA]
  by_cases h : m = l.length
  · rw [if_pos h, h, List.drop_length]; exact ⟨rfl, id⟩
  · have hne : (l.drop m).take (l.length - m) ≠ [] := by
      intro e; have := congrArg List.length e; simp at this; omega
    have he : (l.drop m).take (l.length - m) = l.drop m := List.take_of_length_le (by simp)
    rw [if_neg h, pcR_rA, expand_cons, toks_rA hne, he]
    exact ⟨rfl, fun hx x hm => by rcases List.mem_cons.1 hm with rfl | hm; · rw [kind_rA (by rw [← he]; exact hne)]; decide
                                  · exact hx x hm⟩

theorem expand_map_cons (z : Rn × Rn) (l : List (Rn × Rn)) : expand ((z :: l).map fun z => bothR z.1 z.2) = toks (bothR z.1 z.2) ++ expand (l.map fun z => bothR z.1 z.2) := by
  rw [List.map_cons, expand_cons]

theorem prs_cT : ∀ (k : Nat) (a b : List Rn), (∀ x ∈ a, kind x ≠ 0) → (∀ x ∈ b, kind x ≠ 0) → tOut (expand a) = tIn (expand b) → (expand a).length + (expand b).length ≤ k →
    expand ((prs k a b).map fun z => bothR z.1 z.2) = cT (expand a) (expand b) := by
  intro k
  induction k with
  | zero =>
    intro a b _ _ _ hl
    have e1 : expand a = [] := List.eq_nil_of_length_eq_zero (by omega)
    have e2 : expand b = [] := List.eq_nil_of_length_eq_zero (by omega)
    rw [e1, e2]; simp [prs, cT, expand]
  | succ k ih =>
    intro a b ha hb hs hl
    rcases a with _ | ⟨x, xs⟩
    · rcases b with _ | ⟨y, ys⟩
      · simp [prs, cT, expand]
      · have hy := hb y List.mem_cons_self
        have hb' : ∀ x ∈ ys, kind x ≠ 0 := fun x hx => hb x (List.mem_cons_of_mem _ hx)
        rw [expand_cons] at hs hl ⊢
        rcases kind_cases hy with ⟨n, hn, rfl⟩ | ⟨l, hne, rfl⟩ | ⟨n, hn, rfl⟩
        · rw [toks_rK hn, tIn_append, tIn_K] at hs; simp [expand, tOut] at hs; omega
        · rw [toks_rA hne] at hs hl ⊢
          rw [tIn_append, tIn_A, Nat.zero_add] at hs
          simp only [List.length_append, List.length_map] at hl
          have hp : 0 < l.length := List.length_pos_iff.2 hne
          rw [prs, if_pos (empty_rA hne), expand_map_cons, both_A _ hne, toks_rA hne, ih [] ys ha hb' hs (by omega)]
          rw [cT_A (xs := expand []) trivial]
        · rw [toks_rD hn, tIn_append, tIn_D] at hs; simp [expand, tOut] at hs; omega
    · have hx := ha x List.mem_cons_self
      have ha' : ∀ x ∈ xs, kind x ≠ 0 := fun y hy => ha y (List.mem_cons_of_mem _ hy)
      rcases kind_cases hx with ⟨n, hn, rfl⟩ | ⟨l, hl0, rfl⟩ | ⟨n, hn, rfl⟩
      · rcases b with _ | ⟨y, ys⟩
        · rw [expand_cons, toks_rK hn, tOut_append, tOut_K] at hs; simp [expand, tIn] at hs; omega
        · have hy := hb y List.mem_cons_self
          have hb' : ∀ x ∈ ys, kind x ≠ 0 := fun x hx => hb x (List.mem_cons_of_mem _ hx)
          rcases kind_cases hy with ⟨p, hp, rfl⟩ | ⟨l', hne, rfl⟩ | ⟨p, hp, rfl⟩
          · rw [expand_cons, expand_cons, toks_rK hn, toks_rK hp] at hs hl
            rw [expand_cons, expand_cons, toks_rK hn, toks_rK hp]
            rw [prs, if_neg (show ¬ (0 : Int) < (rK n).drop by show ¬ (0 : Int) < 0; omega), if_neg (by rw [empty_rK]; simp), lenR_rK, lenR_rK]
            obtain ⟨m, hm⟩ : ∃ m, m = min n p := ⟨_, rfl⟩
            rw [← hm]
            have m0 : m ≠ 0 := by omega
            have mx : m ≤ n := by omega
            have my : m ≤ p := by omega
            obtain ⟨r1, r2⟩ := rest_K hn mx xs
            obtain ⟨r3, r4⟩ := rest_K hp my ys
            have ey : List.replicate p Tok.K = List.replicate m .K ++ List.replicate (p - m) .K := by rw [List.replicate_append_replicate]; congr 1; omega
            have ex : List.replicate n Tok.K = List.replicate m .K ++ List.replicate (n - m) .K := by rw [List.replicate_append_replicate]; congr 1; omega
            rw [expand_map_cons, ih _ _ (r2 ha') (r4 hb') (by rw [r1, r3, tOut_append, tIn_append]; rw [ex, ey] at hs; rw [tOut_append, tOut_append, tOut_K, tOut_K] at hs; rw [tOut_K]; rw [tIn_append, tIn_append, tIn_K, tIn_K] at hs; rw [tIn_K]; omega) (by rw [r1, r3]; simp only [List.length_append, List.length_replicate, List.length_map, List.length_drop] at hl ⊢; omega), r1, r3, ex, ey, List.append_assoc, List.append_assoc]
            show toks (bothR (pcR (rK n) 0 m) (pcR (rK p) 0 m)) ++ _ = _
            rw [pcR_rK hn (Nat.zero_le _), pcR_rK hp (Nat.zero_le _), Nat.sub_zero]
            rw [both_K, toks_rK m0, cT_KK]
          · have hq : 0 < l'.length := List.length_pos_iff.2 hne
            rw [expand_cons (rA l') ys, toks_rA hne] at hs hl
            rw [tIn_append, tIn_A, Nat.zero_add] at hs
            simp only [List.length_append, List.length_map] at hl
            rw [prs, if_neg (show ¬ (0 : Int) < (rK n).drop by show ¬ (0 : Int) < 0; omega), if_pos (empty_rA hne), expand_map_cons, both_A _ hne, toks_rA hne, ih ((rK n) :: xs) ys ha hb' hs (by omega), expand_cons (rA l') ys, toks_rA hne]
            rw [cT_A]
            rw [expand_cons, toks_rK hn]
            cases n with | zero => exact absurd rfl hn | succ n => trivial
          · rw [expand_cons, expand_cons, toks_rK hn, toks_rD hp] at hs hl
            rw [expand_cons, expand_cons, toks_rK hn, toks_rD hp]
            rw [prs, if_neg (show ¬ (0 : Int) < (rK n).drop by show ¬ (0 : Int) < 0; omega), if_neg (by rw [empty_rD]; simp), lenR_rK, lenR_rD]
            obtain ⟨m, hm⟩ : ∃ m, m = min n p := ⟨_, rfl⟩
            rw [← hm]
            have m0 : m ≠ 0 := by omega
            have mx : m ≤ n := by omega
            have my : m ≤ p := by omega
            obtain ⟨r1, r2⟩ := rest_K hn mx xs
            obtain ⟨r3, r4⟩ := rest_D hp my ys
            have ey : List.replicate p Tok.D = List.replicate m .D ++ List.replicate (p - m) .D := by rw [List.replicate_append_replicate]; congr 1; omega
            have ex : List.replicate n Tok.K = List.replicate m .K ++ List.replicate (n - m) .K := by rw [List.replicate_append_replicate]; congr 1; omega
            rw [expand_map_cons, ih _ _ (r2 ha') (r4 hb') (by rw [r1, r3, tOut_append, tIn_append]; rw [ex, ey] at hs; rw [tOut_append, tOut_append, tOut_K, tOut_K] at hs; rw [tOut_K]; rw [tIn_append, tIn_append, tIn_D, tIn_D] at hs; rw [tIn_D]; omega) (by rw [r1, r3]; simp only [List.length_append, List.length_replicate, List.length_map, List.length_drop] at hl ⊢; omega), r1, r3, ex, ey, List.append_assoc, List.append_assoc]
            show toks (bothR (pcR (rK n) 0 m) (pcR (rD p) 0 m)) ++ _ = _
            rw [pcR_rK hn (Nat.zero_le _), pcR_rD hp (Nat.zero_le _), Nat.sub_zero]
            rw [both_D _ m0, cT_KD]
            show toks (rD m) ++ _ = _
            rw [toks_rD m0]
      · rcases b with _ | ⟨y, ys⟩
        · rw [expand_cons, toks_rA hl0, tOut_append, tOut_A] at hs; simp [expand, tIn] at hs; exact absurd hs.1 hl0
        · have hy := hb y List.mem_cons_self
          have hb' : ∀ x ∈ ys, kind x ≠ 0 := fun x hx => hb x (List.mem_cons_of_mem _ hx)
          rcases kind_cases hy with ⟨p, hp, rfl⟩ | ⟨l', hne, rfl⟩ | ⟨p, hp, rfl⟩
          · rw [expand_cons, expand_cons, toks_rA hl0, toks_rK hp] at hs hl
            rw [expand_cons, expand_cons, toks_rA hl0, toks_rK hp]
            rw [prs, if_neg (show ¬ (0 : Int) < (rA l).drop by show ¬ (0 : Int) < 0; omega), if_neg (by rw [empty_rK]; simp), lenR_rA, lenR_rK]
            have hl1 : 0 < l.length := List.length_pos_iff.2 hl0
            obtain ⟨m, hm⟩ : ∃ m, m = min l.length p := ⟨_, rfl⟩
            rw [← hm]
            have m0 : m ≠ 0 := by omega
            have mx : m ≤ l.length := by omega
            have my : m ≤ p := by omega
            obtain ⟨r1, r2⟩ := rest_A mx xs
            obtain ⟨r3, r4⟩ := rest_K hp my ys
            have ey : List.replicate p Tok.K = List.replicate m .K ++ List.replicate (p - m) .K := by rw [List.replicate_append_replicate]; congr 1; omega
            have ex : l.map Tok.A = (l.take m).map .A ++ (l.drop m).map .A := by rw [← List.map_append, List.take_append_drop]
            have ml : (l.take m).length = m := by rw [List.length_take]; omega
            have mn : l.take m ≠ [] := by intro e; rw [e] at ml; simp at ml; omega
            rw [expand_map_cons, ih _ _ (r2 ha') (r4 hb') (by rw [r1, r3, tOut_append, tIn_append]; rw [ex, ey] at hs; rw [tOut_append, tOut_append, tOut_A, tOut_A] at hs; rw [tOut_A]; rw [ml] at hs; rw [tIn_append, tIn_append, tIn_K, tIn_K] at hs; rw [tIn_K]; omega) (by rw [r1, r3]; simp only [List.length_append, List.length_replicate, List.length_map, List.length_drop] at hl ⊢; omega), r1, r3, ex, ey, List.append_assoc, List.append_assoc]
            show toks (bothR (pcR (rA l) 0 m) (pcR (rK p) 0 m)) ++ _ = _
            rw [pcR_rA, pcR_rK hp (Nat.zero_le _), Nat.sub_zero]
            rw [both_K, List.drop_zero, toks_rA mn]
            have h3 := cT_AK (l.take m) ((l.drop m).map .A ++ expand xs) (List.replicate (p - m) .K ++ expand ys)
            rw [ml] at h3
            rw [h3]
          · have hq : 0 < l'.length := List.length_pos_iff.2 hne
            rw [expand_cons (rA l') ys, toks_rA hne] at hs hl
            rw [tIn_append, tIn_A, Nat.zero_add] at hs
            simp only [List.length_append, List.length_map] at hl
            rw [prs, if_neg (show ¬ (0 : Int) < (rA l).drop by show ¬ (0 : Int) < 0; omega), if_pos (empty_rA hne), expand_map_cons, both_A _ hne, toks_rA hne, ih ((rA l) :: xs) ys ha hb' hs (by omega), expand_cons (rA l') ys, toks_rA hne]
            rw [cT_A]
            rw [expand_cons, toks_rA hl0]
            cases l with | nil => exact absurd rfl hl0 | cons c l => trivial
          · rw [expand_cons, expand_cons, toks_rA hl0, toks_rD hp] at hs hl
            rw [expand_cons, expand_cons, toks_rA hl0, toks_rD hp]
            rw [prs, if_neg (show ¬ (0 : Int) < (rA l).drop by show ¬ (0 : Int) < 0; omega), if_neg (by rw [empty_rD]; simp), lenR_rA, lenR_rD]
            have hl1 : 0 < l.length := List.length_pos_iff.2 hl0
            obtain ⟨m, hm⟩ : ∃ m, m = min l.length p := ⟨_, rfl⟩
            rw [← hm]
            have m0 : m ≠ 0 := by omega
            have mx : m ≤ l.length := by omega
            have my : m ≤ p := by omega
            obtain ⟨r1, r2⟩ := rest_A mx xs
            obtain ⟨r3, r4⟩ := rest_D hp my ys
            have ey : List.replicate p Tok.D = List.replicate m .D ++ List.replicate (p - m) .D := by rw [List.replicate_append_replicate]; congr 1; omega
            have ex : l.map Tok.A = (l.take m).map .A ++ (l.drop m).map .A := by rw [← List.map_append, List.take_append_drop]
            have ml : (l.take m).length = m := by rw [List.length_take]; omega
            have mn : l.take m ≠ [] := by intro e; rw [e] at ml; simp at ml; omega
            rw [expand_map_cons, ih _ _ (r2 ha') (r4 hb') (by rw [r1, r3, tOut_append, tIn_append]; rw [ex, ey] at hs; rw [tOut_append, tOut_append, tOut_A, tOut_A] at hs; rw [tOut_A]; rw [ml] at hs; rw [tIn_append, tIn_append, tIn_D, tIn_D] at hs; rw [tIn_D]; omega) (by rw [r1, r3]; simp only [List.length_append, List.length_replicate, List.length_map, List.length_drop] at hl ⊢; omega), r1, r3, ex, ey, List.append_assoc, List.append_assoc]
            show toks (bothR (pcR (rA l) 0 m) (pcR (rD p) 0 m)) ++ _ = _
            rw [pcR_rA, pcR_rD hp (Nat.zero_le _), Nat.sub_zero]
            rw [both_D _ m0]
            show toks ⟨0, ⟨#[]⟩, 0⟩ ++ _ = _
            rw [toks_rn0, List.nil_append]
            have h3 := cT_AD (l.take m) ((l.drop m).map .A ++ expand xs) (List.replicate (p - m) .D ++ expand ys)
            rw [ml] at h3
            rw [h3]
      · have hd : (0 : Int) < (rD n).drop := by show (0 : Int) < (n : Int); omega
        rw [expand_cons, toks_rD hn] at hs hl ⊢
        rw [tOut_append, tOut_D, Nat.zero_add] at hs
        simp only [List.length_append, List.length_replicate] at hl
        rcases b with _ | ⟨y, ys⟩
        · rw [prs, if_pos hd, expand_map_cons, both_0, toks_rD hn, ih xs [] ha' hb hs (by omega), cT_D]
        · rw [prs, if_pos hd, expand_map_cons, both_0, toks_rD hn, ih xs (y :: ys) ha' hb hs (by omega), cT_D]

end Go.Proofs.Ytpmijaplkbmbiaa.E
