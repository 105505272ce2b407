/- What edits make of a text, run by run; what undoes them. -/
import Derived.Test.YtecmiphmefbpnaaUA
namespace Go.Proofs.Ytecmiphmefbpnaa.E
open Go.Proofs.Ytecmiphmefbpnaa Go.RowKit Go.By Go.Shelf
set_option linter.unusedVariables false
set_option linter.unusedSimpArgs false

/-- The text that a walk over some runs has put out. -/
def outB (s : ByteArray) (rs : List Rn) : ByteArray := ⟨(applT s.data.toList (expand rs)).toArray⟩
theorem outB_nil (s : ByteArray) : outB s [] = ⟨#[]⟩ := rfl
theorem ext_list (s : ByteArray) (i j : Nat) : (s.extract i j).data.toList = (s.data.toList.drop i).take (j - i) := by
  simp [ByteArray.data_extract, List.extract_eq_take_drop]
theorem ba_eq {a b : ByteArray} (h : a.data.toList = b.data.toList) : a = b := by
  cases a; cases b; simp only [Array.toList_inj] at h; rw [h]
theorem af_run (s : List UInt8) (x : Rn) (h : kind x ≠ 0) (y : As) : (toks x).foldl (astep s) y = ⟨y.out ++ ((s.drop y.pos).take x.keep.toNat ++ x.add.data.toList), y.pos + (x.keep.toNat + x.drop.toNat)⟩ := by
  rw [toks, if_neg h, List.foldl_append, List.foldl_append, af_K, af_A, af_D]
  simp only [List.append_assoc, Nat.add_assoc]
theorem outB_snoc (s : ByteArray) (pre : List Rn) (x : Rn) (h : kind x ≠ 0) :
    outB s (pre ++ [x]) = outB s pre ++ s.extract (tIn (expand pre)) (tIn (expand pre) + x.keep.toNat) ++ x.add := by
  apply ba_eq
  simp only [outB, ByteArray.data_append, Array.toList_append, ext_list]
  rw [applT, expand_snoc, ascan_append, af_run _ _ h, ascan_pos, ← applT]
  simp only [List.append_assoc, Nat.add_sub_cancel_left]
theorem outB_size {s : ByteArray} {rs : List Rn} (h : tIn (expand rs) ≤ s.size) : (outB s rs).size = tOut (expand rs) := by
  have e := applT_len (s := s.data.toList) (ts := expand rs) (by rw [Array.length_toList]; exact h)
  rw [← e]
  unfold outB
  exact List.size_toArray

/-- What undoes a run. -/
def back1 (s : ByteArray) (i : Nat) (x : Rn) : Rn := ⟨x.keep, s.extract i (i + x.drop.toNat), x.add.size⟩
def backr1 (s : ByteArray) (i : Nat) (x : Rn) : List Rn := [⟨x.keep, ⟨#[]⟩, 0⟩, ⟨0, ⟨#[]⟩, x.add.size⟩, ⟨0, s.extract (i + x.keep.toNat) (i + x.keep.toNat + x.drop.toNat), 0⟩]
def backS (s : ByteArray) : List Rn → Nat → List Rn
  | [], _ => []
  | x :: xs, i => back1 s i x :: backS s xs (i + (x.keep.toNat + x.drop.toNat))
def backQ (s : ByteArray) : List Rn → Nat → List Rn
  | [], _ => []
  | x :: xs, i => backr1 s i x ++ backQ s xs (i + (x.keep.toNat + x.drop.toNat))

theorem tIn_toks' {x : Rn} (h : kind x ≠ 0) : tIn (toks x) = x.keep.toNat + x.drop.toNat := by
  rw [toks, if_neg h, tIn_append, tIn_append, tIn_K, tIn_A, tIn_D, Nat.zero_add]
theorem toks_back1 (s : ByteArray) (i : Nat) (x : Rn) (h : kind x ≠ 0) : toks (back1 s i x) = bT s.data.toList (toks x) i := by
  rcases kind_cases h with ⟨n, hn, rfl⟩ | ⟨a, ha, rfl⟩ | ⟨n, hn, rfl⟩
  · have e : back1 s i (rK n) = ⟨(n : Int), ⟨#[]⟩, 0⟩ := by
      rw [back1]; congr 1; apply ba_eq; rw [ext_list]; simp [rK]
    rw [e, toks_keep, toks_rK hn, bT_K, Int.toNat_natCast]
  · have e : back1 s i (rA a) = ⟨0, ⟨#[]⟩, (a.length : Int)⟩ := by
      rw [back1]; congr 1; apply ba_eq; rw [ext_list]; simp [rA]
    rw [e, toks_drop, toks_rA ha, bT_A, Int.toNat_natCast]
  · have e : back1 s i (rD n) = ⟨0, s.extract i (i + n), 0⟩ := by rfl
    rw [e, toks_add, toks_rD hn, bT_D, ext_list, Nat.add_sub_cancel_left]
theorem expand_backr1 (s : ByteArray) (i : Nat) (x : Rn) (h : kind x ≠ 0) : expand (backr1 s i x) = bT s.data.toList (toks x) i := by
  have three : ∀ a b c : Rn, expand [a, b, c] = toks a ++ (toks b ++ toks c) := fun a b c => by simp [expand]
  rw [backr1, three, toks_keep, toks_drop, toks_add, ext_list]
  rcases kind_cases h with ⟨n, hn, rfl⟩ | ⟨a, ha, rfl⟩ | ⟨n, hn, rfl⟩
  · rw [toks_rK hn, bT_K]; simp only [rK, Int.toNat_natCast, Int.toNat_zero, Nat.add_zero, Nat.sub_self, List.take_zero, List.map_nil, List.append_nil, show (⟨#[]⟩ : ByteArray).size = 0 from rfl, List.replicate_zero]
  · rw [toks_rA ha, bT_A]; simp [rA, ByteArray.size]
  · rw [toks_rD hn, bT_D]; simp only [rD, Int.toNat_natCast, Int.toNat_zero, Nat.add_zero, Nat.add_sub_cancel_left]; rfl
theorem expand_cons (x : Rn) (xs : List Rn) : expand (x :: xs) = toks x ++ expand xs := by simp [expand]
theorem expand_backS (s : ByteArray) (rs : List Rn) : (∀ x ∈ rs, kind x ≠ 0) → ∀ i, expand (backS s rs i) = bT s.data.toList (expand rs) i := by
  induction rs with
  | nil => intro _ i; rfl
  | cons x xs ih =>
    intro h i
    have hx := h x List.mem_cons_self
    rw [backS, expand_cons, expand_cons, bT_append, toks_back1 s i x hx, tIn_toks' hx, ih (fun y hy => h y (List.mem_cons_of_mem _ hy))]
theorem expand_backQ (s : ByteArray) (rs : List Rn) : (∀ x ∈ rs, kind x ≠ 0) → ∀ i, expand (backQ s rs i) = bT s.data.toList (expand rs) i := by
  induction rs with
  | nil => intro _ i; rfl
  | cons x xs ih =>
    intro h i
    have hx := h x List.mem_cons_self
    rw [backQ, expand_append, expand_cons, bT_append, expand_backr1 s i x hx, tIn_toks' hx, ih (fun y hy => h y (List.mem_cons_of_mem _ hy))]
theorem backS_snoc (s : ByteArray) (x : Rn) (pre : List Rn) : (∀ y ∈ pre, kind y ≠ 0) → ∀ i, backS s (pre ++ [x]) i = backS s pre i ++ [back1 s (i + tIn (expand pre)) x] := by
  induction pre with
  | nil => intro _ i; rfl
  | cons y ys ih =>
    intro h i
    rw [List.cons_append, backS, backS, ih (fun z hz => h z (List.mem_cons_of_mem _ hz)), expand_cons, tIn_append, tIn_toks' (h y List.mem_cons_self), List.cons_append]
    simp only [Nat.add_assoc]
theorem backQ_snoc (s : ByteArray) (x : Rn) (pre : List Rn) : (∀ y ∈ pre, kind y ≠ 0) → ∀ i, backQ s (pre ++ [x]) i = backQ s pre i ++ backr1 s (i + tIn (expand pre)) x := by
  induction pre with
  | nil => intro _ i; simp [backQ, expand, tIn]
  | cons y ys ih =>
    intro h i
    rw [List.cons_append, backQ, backQ, ih (fun z hz => h z (List.mem_cons_of_mem _ hz)), expand_cons, tIn_append, tIn_toks' (h y List.mem_cons_self), List.append_assoc]
    simp only [Nat.add_assoc]
theorem len_backS (s : ByteArray) (rs : List Rn) : ∀ i, (backS s rs i).length = rs.length := by
  induction rs with
  | nil => intro i; rfl
  | cons x xs ih => intro i; rw [backS, List.length_cons, ih, List.length_cons]
theorem len_backQ (s : ByteArray) (rs : List Rn) : ∀ i, (backQ s rs i).length = 3 * rs.length := by
  induction rs with
  | nil => intro i; rfl
  | cons x xs ih => intro i; rw [backQ, List.length_append, ih, List.length_cons, backr1]; simp; omega

/-- What undoes an edit. -/
def backR (s : ByteArray) (rs : List Rn) : List Rn := normR (backS s rs 0)
theorem normR_expand {L M : List Rn} (h : expand L = expand M) : normR L = normR M := by rw [normR, normR, h]
theorem backR_Q {s : ByteArray} {rs : List Rn} (h : ∀ x ∈ rs, kind x ≠ 0) : normR (backQ s rs 0) = backR s rs := normR_expand (by rw [expand_backQ s rs h, expand_backS s rs h])

end Go.Proofs.Ytecmiphmefbpnaa.E
