/- The document's span, as a function; it is the program's. -/
import Derived.Test.YtecmiphmefbpnaaPP
namespace Go.Proofs.Ytecmiphmefbpnaa.E
open Go.Proofs.Ytecmiphmefbpnaa Go.RowKit Go.By Go.Shelf
set_option linter.unusedVariables false

theorem mv_kept {ts : List Tok} {i : Nat} (hi : i < tIn ts) (hd : (dT ts).getD i false = false) : tMv ts (i + 1) false = tMv ts i true + 1 := by
  rw [mv_lists ts (i + 1) false (by omega), mv_lists ts i true (by omega)]
  unfold mvL
  rw [mvS_next, hd]; simp
theorem mv_drop {ts : List Tok} {i : Nat} (hi : i < tIn ts) (hd : (dT ts).getD i false = true) (h0 : (aT ts).getD (i + 1) 0 = 0) : tMv ts (i + 1) true = tMv ts i true := by
  rw [mv_lists ts (i + 1) true (by omega), mv_lists ts i true (by omega)]
  unfold mvL
  rw [mvS_next, hd, h0]; simp

def rs2 (D : List Bool) (M : Nat → Int) (f : Nat) : Nat → Int × Int
  | 0 => (-1, -1)
  | k + 1 => if D.getD (f + k) false = true then rs2 D M f k else ((if (rs2 D M f k).1 < 0 then M (f + k) else (rs2 D M f k).1), M (f + k) + 1)
def mI (ts : List Tok) (i : Nat) : Int := ((tMv ts i true : Nat) : Int)
def refP (rs : List Rn) (f t : Nat) : Int × Int := if (rs2 (dT (expand rs)) (mI (expand rs)) f (t - f)).1 < 0 then (((tMv (expand rs) f false : Nat) : Int), ((tMv (expand rs) f false : Nat) : Int)) else rs2 (dT (expand rs)) (mI (expand rs)) f (t - f)

theorem rs2_is {ts : List Tok} (hn : noDA false ts) (f : Nat) : ∀ k, f + k ≤ tIn ts →
    (rs2 (dT ts) (mI ts) f k = (-1, -1) ∧ (∀ j, f ≤ j → j < f + k → (dT ts).getD j false = true) ∧ mI ts (f + k) = mI ts f) ∨
    (∃ l, f ≤ l ∧ l < f + k ∧ (dT ts).getD l false = false ∧ (∀ j, l < j → j < f + k → (dT ts).getD j false = true) ∧ rs2 (dT ts) (mI ts) f k = (mI ts f, mI ts l + 1)) := by
  intro k
  induction k with
  | zero => intro h; exact .inl ⟨rfl, fun j h1 h2 => by omega, rfl⟩
  | succ k ih =>
    intro h
    have ih := ih (by omega)
    have hz := (noDA_zero ts false hn).1
    cases hd : (dT ts).getD (f + k) false with
    | true =>
      have e : rs2 (dT ts) (mI ts) f (k + 1) = rs2 (dT ts) (mI ts) f k := by rw [rs2, if_pos hd]
      rcases ih with ⟨i1, i2, i3⟩ | ⟨l, l1, l2, l3, l4, l5⟩
      · refine .inl ⟨by rw [e, i1], fun j h1 h2 => ?_, ?_⟩
        · by_cases hj : j = f + k
          · rw [hj]; exact hd
          · exact i2 j h1 (by omega)
        · rw [← i3]; unfold mI
          rw [show f + (k + 1) = f + k + 1 by omega, mv_drop (by omega) hd (hz _ hd)]
      · refine .inr ⟨l, l1, by omega, l3, fun j h1 h2 => ?_, by rw [e, l5]⟩
        by_cases hj : j = f + k
        · rw [hj]; exact hd
        · exact l4 j h1 (by omega)
    | false =>
      right
      refine ⟨f + k, by omega, by omega, hd, fun j h1 h2 => by omega, ?_⟩
      rw [rs2, if_neg (by rw [hd]; simp)]
      have hp : 0 ≤ mI ts f := Int.natCast_nonneg _
      rcases ih with ⟨i1, i2, i3⟩ | ⟨l, l1, l2, l3, l4, l5⟩
      · rw [i1, if_pos (by decide), i3]
      · rw [l5, if_neg (by show ¬ mI ts f < 0; omega)]

theorem refP_eq {rs : List Rn} (hg : isG rs = true) {f t : Nat} (hft : f ≤ t) (ht : t ≤ tIn (expand rs)) : refP rs f t = spV rs f t := by
  obtain ⟨p, hp, p1, p2, p3⟩ := p1_facts hg ht
  have hr := rs2_is (good_noDA hg) f (t - f) (by omega)
  rw [show f + (t - f) = t by omega] at hr
  unfold refP spV
  rw [hp, Int.toNat_natCast]
  rcases hr with ⟨i1, i2, _⟩ | ⟨l, l1, l2, l3, l4, l5⟩
  · rw [i1, if_pos (by decide)]
    have : ¬ (f : Int) < (p : Int) := by
      intro h
      rcases p3 with p3 | p3
      · omega
      · have := i2 (p - 1) (by omega) (by omega)
        rw [p3] at this; cases this
    rw [if_neg this]
  · have hlp : l < p := by
      rcases Nat.lt_or_ge l p with h | h
      · exact h
      · have := p2 l h l2; rw [l3] at this; cases this
    have hl : l + 1 = p := by
      rcases p3 with p3 | p3
      · omega
      · rcases Nat.lt_or_ge l (p - 1) with h | h
        · have := l4 (p - 1) h (by omega); rw [p3] at this; cases this
        · omega
    have h0 : 0 ≤ mI (expand rs) f := Int.natCast_nonneg _
    rw [l5, if_neg (by show ¬ mI (expand rs) f < 0; omega), if_pos (by omega : (f : Int) < (p : Int))]
    rw [← hl, mv_kept (by omega) l3]
    show (mI (expand rs) f, mI (expand rs) l + 1) = _
    unfold mI
    rw [cast_add]; rfl

end Go.Proofs.Ytecmiphmefbpnaa.E
