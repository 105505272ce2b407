/- Two edits as one: part by part. -/
import Derived.Test.YtpmijaplkbmbiaaWC
namespace Go.Proofs.Ytpmijaplkbmbiaa.E
open Go.Proofs.Ytpmijaplkbmbiaa Go.RowKit Go.By Go.Shelf
set_option linter.unusedVariables false
set_option linter.unusedSimpArgs false

theorem cT_D (n : Nat) (xs ys : List Tok) : cT (List.replicate n .D ++ xs) ys = List.replicate n .D ++ cT xs ys := by
  induction n with
  | zero => rfl
  | succ n ih => rw [List.replicate_succ, List.cons_append, cT, ih, List.cons_append]
def noD : List Tok → Prop
  | .D :: _ => False
  | _ => True
theorem cT_A {xs : List Tok} (h : noD xs) (l : List UInt8) (ys : List Tok) : cT xs (l.map .A ++ ys) = l.map .A ++ cT xs ys := by
  induction l with
  | nil => rfl
  | cons b l ih =>
    rcases xs with _ | ⟨x, xs⟩
    · rw [List.map_cons, List.cons_append, cT, ih, List.cons_append]
    · cases x with
      | K => rw [List.map_cons, List.cons_append, cT, ih, List.cons_append]
      | A c => rw [List.map_cons, List.cons_append, cT, ih, List.cons_append]
      | D => exact h.elim
theorem cT_KK (n : Nat) (xs ys : List Tok) : cT (List.replicate n .K ++ xs) (List.replicate n .K ++ ys) = List.replicate n .K ++ cT xs ys := by
  induction n with
  | zero => rfl
  | succ n ih => rw [List.replicate_succ, List.cons_append, List.cons_append, cT, ih, List.cons_append]
theorem cT_KD (n : Nat) (xs ys : List Tok) : cT (List.replicate n .K ++ xs) (List.replicate n .D ++ ys) = List.replicate n .D ++ cT xs ys := by
  induction n with
  | zero => rfl
  | succ n ih => rw [List.replicate_succ, List.replicate_succ, List.cons_append, List.cons_append, cT, ih, List.cons_append]
theorem cT_AK (l : List UInt8) (xs ys : List Tok) : cT (l.map .A ++ xs) (List.replicate l.length .K ++ ys) = l.map .A ++ cT xs ys := by
  induction l with
  | nil => rfl
  | cons b l ih => rw [List.length_cons, List.replicate_succ, List.map_cons, List.cons_append, List.cons_append, cT, ih, List.cons_append]
theorem cT_AD (l : List UInt8) (xs ys : List Tok) : cT (l.map .A ++ xs) (List.replicate l.length .D ++ ys) = cT xs ys := by
  induction l with
  | nil => rfl
  | cons b l ih => rw [List.length_cons, List.replicate_succ, List.map_cons, List.cons_append, List.cons_append, cT, ih]

theorem sz_list' (a : ByteArray) : a.data.toList.length = a.size := by rw [Array.length_toList]; rfl
/-- How long a run is. -/
def lenR (x : Rn) : Nat := x.keep.toNat + x.add.size + x.drop.toNat
theorem toks_zero {x : Rn} (h : kind x = 0) : toks x = [] := by rw [toks, if_pos h]
theorem length_toks {x : Rn} (h : kind x ≠ 0) : (toks x).length = lenR x := by
  rw [toks, if_neg h]; simp only [List.length_append, List.length_replicate, List.length_map, Array.length_toList, lenR]
  have : x.add.data.size = x.add.size := rfl
  omega
/-- A run is its part up to a place, and its part from there on. -/
theorem toks_split {x : Rn} (h : kind x ≠ 0) {m : Nat} (hm : m ≤ lenR x) : toks x = (toks x).take m ++ (toks x).drop m := (List.take_append_drop m _).symm
theorem pcR_rK {n f t : Nat} (h : n ≠ 0) (hft : f ≤ t) : pcR (rK n) f t = rK (t - f) := by
  rw [pcR, if_pos (show (0 : Int) < (rK n).keep by show (0 : Int) < (n : Int); omega), rK]; congr 1; omega
theorem pcR_rD {n f t : Nat} (h : n ≠ 0) (hft : f ≤ t) : pcR (rD n) f t = rD (t - f) := by
  rw [pcR, if_neg (show ¬ (0 : Int) < (rD n).keep by show ¬ (0 : Int) < 0; omega), if_pos (show (0 : Int) < (rD n).drop by show (0 : Int) < (n : Int); omega), rD]; congr 1; omega
theorem pcR_rA {l : List UInt8} {f t : Nat} : pcR (rA l) f t = rA ((l.drop f).take (t - f)) := by
  rw [pcR, if_neg (show ¬ (0 : Int) < (rA l).keep by show ¬ (0 : Int) < 0; omega), if_neg (show ¬ (0 : Int) < (rA l).drop by show ¬ (0 : Int) < 0; omega)]
  show (⟨0, (rA l).add.extract f t, 0⟩ : Rn) = ⟨0, ⟨((l.drop f).take (t - f)).toArray⟩, 0⟩
  congr 1
  apply ba_eq
  rw [ext_list]
  rfl
theorem lenR_rK (n : Nat) : lenR (rK n) = n := by
  show (n : Int).toNat + (⟨#[]⟩ : ByteArray).size + (0 : Int).toNat = n
  have : (⟨#[]⟩ : ByteArray).size = 0 := rfl
  omega
theorem lenR_rD (n : Nat) : lenR (rD n) = n := by
  show (0 : Int).toNat + (⟨#[]⟩ : ByteArray).size + (n : Int).toNat = n
  have : (⟨#[]⟩ : ByteArray).size = 0 := rfl
  omega
theorem lenR_rA (l : List UInt8) : lenR (rA l) = l.length := by
  show (0 : Int).toNat + (rA l).add.size + (0 : Int).toNat = l.length
  rw [← sz_list' ]
  simp [rA]

end Go.Proofs.Ytpmijaplkbmbiaa.E
