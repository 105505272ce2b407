/- Where a place is, by the last run that begins ahead of it. -/
import Derived.Test.YtecmiphmefbpnaaPF
namespace Go.Proofs.Ytecmiphmefbpnaa.E
open Go.Proofs.Ytecmiphmefbpnaa Go.RowKit Go.By Go.Shelf
set_option linter.unusedVariables false

def placeV (L : Pl) (n : Int) : Int := L.2.1 + min (n - L.1) L.2.2.keep + (L.2.2.add.size : Int)

theorem split_at {rs : List Rn} {k : Nat} (h : k < rs.length) : expand rs = expand (rs.take k) ++ (toks (rs.getD k rn0) ++ expand (rs.drop (k + 1))) := by
  have e : rs = rs.take k ++ ([rs.getD k rn0] ++ rs.drop (k + 1)) := by
    conv => lhs; rw [← List.take_append_drop (k + 1) rs, List.take_succ_eq_append_getElem h]
    simp [List.getD, h]
  conv => lhs; rw [e]
  rw [expand_append, expand_append, expand_one]
theorem kind_getD {rs : List Rn} (h : ∀ x ∈ rs, kind x ≠ 0) {k : Nat} (hk : k < rs.length) : kind (rs.getD k rn0) ≠ 0 := h _ (by simp [List.getD, hk])
theorem take_kinds {rs : List Rn} (h : ∀ x ∈ rs, kind x ≠ 0) (k : Nat) : ∀ x ∈ rs.take k, kind x ≠ 0 := fun x hx => h x (List.mem_of_mem_take hx)
theorem sI_take {rs : List Rn} (h : ∀ x ∈ rs, kind x ≠ 0) (k : Nat) : sI (rs.take k) = (tIn (expand (rs.take k)) : Int) ∧ sO (rs.take k) = (tOut (expand (rs.take k)) : Int) := sums_tok (take_kinds h k)
theorem sI_next {rs : List Rn} (h : ∀ x ∈ rs, kind x ≠ 0) {k : Nat} (hk : k < rs.length) : sI (rs.take (k + 1)) = (tIn (expand (rs.take k)) : Int) + (tIn (toks (rs.getD k rn0)) : Int) := by
  rw [(sI_take h (k + 1)).1, List.take_succ_eq_append_getElem hk, expand_append, tIn_append, expand_one]
  simp [List.getD, hk]

/-- What the last run ahead of a place is. -/
theorem lastP_cases {rs : List Rn} (h : ∀ x ∈ rs, kind x ≠ 0) (n : Nat) (b : Bool) :
    (lastP rs n b = pl0 ∧ (rs = [] ∨ (n = 0 ∧ b = false))) ∨
    ∃ k, k < rs.length ∧ lastP rs n b = ((tIn (expand (rs.take k)) : Int), (tOut (expand (rs.take k)) : Int), rs.getD k rn0) ∧ (tIn (expand (rs.take k)) < n ∨ (tIn (expand (rs.take k)) = n ∧ b = true)) ∧
      (k + 1 = rs.length ∨ n < tIn (expand (rs.take k)) + tIn (toks (rs.getD k rn0)) ∨ (n = tIn (expand (rs.take k)) + tIn (toks (rs.getD k rn0)) ∧ b = false)) := by
  obtain ⟨h1, h2, h3⟩ := lastN_is (rs := rs) (n : Int) b
  by_cases h0 : lastN rs n b = 0
  · left
    refine ⟨by rw [lastP, if_pos h0], ?_⟩
    rcases h3 with h3 | h3
    · left; rw [h0] at h3; exact List.eq_nil_of_length_eq_zero h3.symm
    · right
      have h4 : pz rs n b 0 = true := by rw [h0] at h3; simpa using h3
      unfold pz at h4
      have e : sI (rs.take 0) = 0 := rfl
      rw [e] at h4
      simp at h4
      rcases h4 with h4 | h4
      · omega
      · exact ⟨by omega, h4.2⟩
  · right
    obtain ⟨k, hk⟩ : ∃ k, lastN rs n b = k + 1 := ⟨lastN rs n b - 1, by omega⟩
    have hkl : k < rs.length := by omega
    refine ⟨k, hkl, ?_, ?_, ?_⟩
    · rw [lastP, if_neg h0, hk, Nat.add_sub_cancel, plc_getD hkl, (sI_take h k).1, (sI_take h k).2]
    · have h4 : pz rs n b k = false := by have := h2 k (by omega); simpa using this
      unfold pz at h4
      rw [(sI_take h k).1] at h4
      cases b with
      | true =>
        simp at h4
        rcases Nat.lt_or_ge (tIn (expand (rs.take k))) n with hh | hh
        · exact .inl hh
        · exact .inr ⟨by omega, rfl⟩
      | false => simp at h4; left; omega
    · rcases h3 with h3 | h3
      · left; omega
      · right
        have h4 : pz rs n b (k + 1) = true := by rw [hk] at h3; simpa using h3
        unfold pz at h4
        rw [sI_next h hkl] at h4
        generalize tIn (toks (rs.getD k rn0)) = T at h4 ⊢
        simp at h4
        rcases h4 with h4 | h4
        · left; omega
        · exact .inr ⟨by omega, h4.2⟩

theorem place_tok {rs : List Rn} (h : ∀ x ∈ rs, kind x ≠ 0) (n : Nat) (b : Bool) (hn : n ≤ tIn (expand rs)) : placeV (lastP rs n b) n = (tMv (expand rs) n b : Int) := by
  rcases lastP_cases h n b with ⟨e, h0⟩ | ⟨k, hk, e, h1, h2⟩
  · rw [e]
    have hz : tMv (expand rs) n b = 0 := by
      rcases h0 with rfl | ⟨rfl, rfl⟩
      · rfl
      · exact mv_first _
    rw [hz]
    show (0 : Int) + min ((n : Int) - 0) 0 + ((⟨#[]⟩ : ByteArray).size : Int) = 0
    have : (⟨#[]⟩ : ByteArray).size = 0 := rfl
    rw [this]; omega
  · have hin : tIn (expand (rs.take k)) ≤ n := by rcases h1 with h1 | h1; omega; exact Nat.le_of_eq h1.1
    rw [e, split_at hk, mv_past _ _ n b h1]
    have hstop : tMv (toks (rs.getD k rn0) ++ expand (rs.drop (k + 1))) (n - tIn (expand (rs.take k))) b = tMv (toks (rs.getD k rn0)) (n - tIn (expand (rs.take k))) b := by
      rcases h2 with h2 | h2
      · rw [show rs.drop (k + 1) = [] by rw [h2, List.drop_length], show expand [] = [] from rfl, List.append_nil]
      · exact mv_stop _ _ _ b (by rcases h2 with h2 | h2; exact .inl (by omega); exact .inr ⟨by omega, h2.2⟩)
    rw [hstop]
    have hkx := kind_getD h hk
    generalize rs.getD k rn0 = r at hkx ⊢
    clear h2 hstop
    generalize tIn (expand (rs.take k)) = i at h1 hin ⊢
    generalize tOut (expand (rs.take k)) = o
    have hm : ¬ (n - i = 0 ∧ b = false) := by rintro ⟨e1, rfl⟩; rcases h1 with h1 | h1; omega; cases h1.2
    rcases kind_cases hkx with ⟨q, hq, rfl⟩ | ⟨a, ha, rfl⟩ | ⟨q, hq, rfl⟩
    · rw [toks_rK hq, mv_K]
      show (o : Int) + min ((n : Int) - i) (q : Int) + ((⟨#[]⟩ : ByteArray).size : Int) = _
      have : (⟨#[]⟩ : ByteArray).size = 0 := rfl
      rw [this]; omega
    · rw [toks_rA ha, mv_A _ _ _ hm]
      show (o : Int) + min ((n : Int) - i) 0 + ((⟨a.toArray⟩ : ByteArray).size : Int) = _
      have : (⟨a.toArray⟩ : ByteArray).size = a.length := by simp [ByteArray.size]
      rw [this]; omega
    · rw [toks_rD hq, mv_D]
      show (o : Int) + min ((n : Int) - i) 0 + ((⟨#[]⟩ : ByteArray).size : Int) = _
      have : (⟨#[]⟩ : ByteArray).size = 0 := rfl
      rw [this]; omega

/-- Bounds of it. -/
theorem lastP_bounds {rs : List Rn} (h : isG rs = true) (n : Nat) (b : Bool) : (0 ≤ (lastP rs n b).1 ∧ (lastP rs n b).1 ≤ 16777216) ∧ (0 ≤ (lastP rs n b).2.1 ∧ (lastP rs n b).2.1 ≤ 16777216) ∧ (0 ≤ (lastP rs n b).2.2.keep ∧ (lastP rs n b).2.2.keep ≤ 16777216) ∧
    ((lastP rs n b).2.2.add.size : Int) ≤ 16777216 ∧ 0 ≤ (lastP rs n b).2.2.drop := by
  obtain ⟨_, _, e3, e4, _, hk⟩ := good_sums h
  rcases lastP_cases hk n b with ⟨e, _⟩ | ⟨k, hkl, e, _, _⟩
  · rw [e]
    have : (pl0 : Pl).2.2.add.size = 0 := rfl
    rw [this]
    exact ⟨⟨Int.le_refl _, by show (0 : Int) ≤ _; omega⟩, ⟨Int.le_refl _, by show (0 : Int) ≤ _; omega⟩, ⟨Int.le_refl _, by show (0 : Int) ≤ _; omega⟩, by omega, Int.le_refl _⟩
  · rw [e]
    have a1 := sums_take hk k
    have a2 := sums_take hk (k + 1)
    rw [List.take_succ_eq_append_getElem hkl, show rs[k] = rs.getD k rn0 by simp [List.getD, hkl], sI_snoc, sO_snoc] at a2
    obtain ⟨f1, f2, _, _⟩ := kind_facts (kind_getD hk hkl)
    rw [(sI_take hk k).1, (sI_take hk k).2] at a1 a2
    dsimp only
    have hs : (0 : Int) ≤ ((rs.getD k rn0).add.size : Int) := Int.natCast_nonneg _
    omega

end Go.Proofs.Ytecmiphmefbpnaa.E
