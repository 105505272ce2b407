/- What is added ahead of each byte: the document's list. -/
import Derived.Test.YtecmiphmefbpnaaPL
namespace Go.Proofs.Ytecmiphmefbpnaa.E
open Go.Proofs.Ytecmiphmefbpnaa Go.RowKit Go.By Go.Shelf
set_option linter.unusedVariables false
set_option linter.unusedSimpArgs false

theorem aT_only (l : List UInt8) : aT (l.map .A) = [l.length] := by
  induction l with
  | nil => rfl
  | cons c l ih => rw [List.map_cons, aT_A c _ ih]; rfl
theorem aT_addsA (l : List UInt8) (xs : List Tok) : aT (xs ++ l.map .A) = (aT xs).set (tIn xs) ((aT xs).getD (tIn xs) 0 + l.length) := by
  induction xs with
  | nil => rw [List.nil_append, aT_only]; simp [aT, tIn]
  | cons t xs ih =>
    cases t with
    | A c =>
      obtain ⟨h, u, e⟩ := aT_ne xs
      rw [e] at ih
      rw [List.cons_append, aT_A c xs e]
      show aT (.A c :: (xs ++ l.map .A)) = ((h + 1) :: u).set (tIn xs) (((h + 1) :: u).getD (tIn xs) 0 + l.length)
      cases hn : tIn xs with
      | zero =>
        rw [hn] at ih
        simp only [List.set_cons_zero, List.getD_cons_zero] at ih ⊢
        rw [aT_A c _ ih]; congr 1; omega
      | succ n =>
        rw [hn] at ih
        simp only [List.set_cons_succ, List.getD_cons_succ] at ih ⊢
        rw [aT_A c _ ih]
    | K => show 0 :: aT (xs ++ l.map .A) = (0 :: aT xs).set (tIn xs + 1) ((0 :: aT xs).getD (tIn xs + 1) 0 + l.length); rw [ih]; simp
    | D => show 0 :: aT (xs ++ l.map .A) = (0 :: aT xs).set (tIn xs + 1) ((0 :: aT xs).getD (tIn xs + 1) 0 + l.length); rw [ih]; simp
theorem aT_cons0 (t : Tok) (h : ∀ c, t ≠ .A c) (xs : List Tok) : aT (t :: xs) = 0 :: aT xs := by
  cases t with
  | A c => exact absurd rfl (h c)
  | K => rfl
  | D => rfl
theorem aT_rep (t : Tok) (h : ∀ c, t ≠ .A c) (n : Nat) : aT (List.replicate n t) = 0 :: List.replicate n 0 := by
  induction n with
  | zero => rfl
  | succ n ih => rw [List.replicate_succ, aT_cons0 t h, ih, List.replicate_succ]
theorem aT_more (t : Tok) (h : ∀ c, t ≠ .A c) (n : Nat) (xs : List Tok) : aT (xs ++ List.replicate n t) = aT xs ++ List.replicate n 0 := by
  induction xs with
  | nil => rw [List.nil_append, aT_rep t h]; rfl
  | cons u xs ih =>
    cases u with
    | A c =>
      obtain ⟨x, v, e⟩ := aT_ne xs
      rw [e] at ih
      rw [List.cons_append, aT_A c xs e, aT_A c _ ih]; rfl
    | K => show 0 :: aT (xs ++ List.replicate n t) = 0 :: aT xs ++ List.replicate n 0; rw [ih]; rfl
    | D => show 0 :: aT (xs ++ List.replicate n t) = 0 :: aT xs ++ List.replicate n 0; rw [ih]; rfl
theorem aT_toks {r : Rn} (h : kind r ≠ 0) (xs : List Tok) : aT (xs ++ toks r) = (aT xs).set (tIn xs) ((aT xs).getD (tIn xs) 0 + r.add.size) ++ List.replicate (r.keep.toNat + r.drop.toNat) 0 := by
  have hA : ∀ c, Tok.K ≠ .A c := fun c e => by cases e
  have hD : ∀ c, Tok.D ≠ .A c := fun c e => by cases e
  have hid : ∀ (L : List Nat) (n : Nat), L.set n (L.getD n 0 + 0) = L := fun L n => by
    rw [Nat.add_zero]
    apply List.ext_getElem?
    intro i
    rw [List.getElem?_set]
    split
    · rename_i e; subst e
      split
      · rename_i hl; simp [List.getD, hl]
      · rename_i hl; rw [List.getElem?_eq_none (by omega)]
    · rfl
  rcases kind_cases h with ⟨n, hn, rfl⟩ | ⟨l, hl, rfl⟩ | ⟨n, hn, rfl⟩
  · rw [toks_rK hn, aT_more _ hA]
    have : (rK n).add.size = 0 := rfl
    rw [this, hid]; simp [rK]
  · rw [toks_rA hl, aT_addsA]
    have : (rA l).add.size = l.length := by simp [rA, ByteArray.size]
    rw [this]; simp [rA]
  · rw [toks_rD hn, aT_more _ hD]
    have : (rD n).add.size = 0 := rfl
    rw [this, hid]; simp [rD]
theorem aT_le (ts : List Tok) : ∀ i, (aT ts).getD i 0 ≤ tOut ts := by
  induction ts with
  | nil => intro i; cases i <;> simp [aT, tOut]
  | cons t ts ih =>
    intro i
    cases t with
    | A c =>
      obtain ⟨h, u, e⟩ := aT_ne ts
      have := ih i
      rw [e] at this
      rw [aT_A c ts e]
      show _ ≤ tOut ts + 1
      cases i with
      | zero => simp at this ⊢; omega
      | succ i => simp only [List.getD_cons_succ] at this ⊢; omega
    | K =>
      show (0 :: aT ts).getD i 0 ≤ tOut ts + 1
      cases i with
      | zero => simp
      | succ i => rw [List.getD_cons_succ]; have := ih i; omega
    | D =>
      show (0 :: aT ts).getD i 0 ≤ tOut ts
      cases i with
      | zero => simp
      | succ i => rw [List.getD_cons_succ]; exact ih i

end Go.Proofs.Ytecmiphmefbpnaa.E
