/- The ring: a full one; what is set; what is skipped. -/
import Derived.Test.YtolidhjffminkaaRing2
import Derived.Deep.CutRange
namespace Go.Proofs.Ytolidhjffminkaa
open Go.RowKit Go.By
set_option linter.unusedVariables false
theorem ownsRow_set {w : World} {B : Nat} {E : TypeId} {k n cap i : Nat} {l : List Value} (h : w.ownsRow B E 1 (.slice (some ⟨k, 0, none⟩) n cap) n l) (x : Value) (hi : i < n) :
    (w.setCell ⟨k, i, none⟩ x).ownsRow B E 1 (.slice (some ⟨k, 0, none⟩) n cap) n (l.set i x) := by
  refine ⟨by simpa using h.1, ?_⟩
  rcases h.2 with ⟨h0, _⟩ | ⟨g, c, cur, hv, hb, hh, hn, hm, hs, ht⟩
  · cases h0
  · cases hv
    refine .inr ⟨k, cap, _, rfl, hb, heap_setCell hh x, hn, hm, by simpa using hs, ?_⟩
    rw [← ht]
    simp [List.take_set]

theorem RingIs.setted {T E : TypeId} (hTE : T ≠ E) {w : World} {B g most f cap k i : Nat} {junk xs : List Value} {x : Value} (hB : B ≤ g)
    (hg : w.heap[g]? = some (.cells #[.int .i64 (most : Int), .slice (some ⟨k, 0, none⟩) (f + xs.length) cap, .int .i64 (f : Int)] T (0, 0))) (hr : w.ownsRow B E 1 (.slice (some ⟨k, 0, none⟩) (f + xs.length) cap) (f + xs.length) (junk ++ xs)) (hj : junk.length = f) (hf : f ≤ xs.length)
    (h1 : ∀ u ∈ xs, u.oneCell' = true) (hx : x.oneCell' = true) (hm : 1 ≤ most) (hm2 : most ≤ 65536) (hl : xs.length ≤ most) (hi : i < xs.length) :
    RingIs T E (w.setCell ⟨k, f + i, none⟩ x) B g most (some k) (xs.set i x) ∧ Turned g (some k) (some k) w (w.setCell ⟨k, f + i, none⟩ x) := by
  have hne : g ≠ k := fun e => ownBlock_ne hr hg hTE (by rw [e]; rfl)
  have hs := ownsRow_set hr x (i := f + i) (by omega)
  refine ⟨⟨hB, .slice (some ⟨k, 0, none⟩) (f + xs.length) cap, f, junk, ?_, ?_, hj, by simpa using hf, rfl, ?_, hm, hm2, by simpa using hl⟩, Only.setCell _ _ _ (.inr rfl), .inl rfl⟩
  · rw [heap_setCell_ne _ hne, hg]; try simp
  · have e : junk ++ xs.set i x = (junk ++ xs).set (f + i) x := by rw [List.set_append_right _ _ (by omega)]; simp [hj]
    rw [e]; simpa using hs
  · intro u hu
    rcases List.mem_or_eq_of_mem_set hu with hu | rfl
    · exact h1 u hu
    · exact hx

/-- The ring while its first place is moved on: where that is, is not bounded by how many there are. -/
def Loose (T E : TypeId) (w : World) (B g most k cap f : Nat) (xs : List Value) : Prop :=
  B ≤ g ∧ B ≤ k ∧ w.heap[g]? = some (.cells #[.int .i64 (most : Int), .slice (some ⟨k, 0, none⟩) (f + xs.length) cap, .int .i64 (f : Int)] T (0, 0)) ∧
  ∃ cur : List Value, w.heap[k]? = some (.cells cur.toArray E (0, 0)) ∧ cur.length = cap ∧ f + xs.length ≤ cap ∧ cap ≤ maxLen ∧ (cur.take (f + xs.length)).drop f = xs ∧ (∀ u ∈ xs, u.oneCell' = true) ∧
    1 ≤ most ∧ most ≤ 65536 ∧ f + xs.length ≤ 131072 ∧ xs.length ≤ most

theorem Loose.ring {T E : TypeId} {w : World} {B g most k cap f : Nat} {xs : List Value} (h : Loose T E w B g most k cap f xs) (hf : f ≤ xs.length) : RingIs T E w B g most (some k) xs := by
  obtain ⟨hg, hk, hh, cur, hc, hl, hfit, hm, hx, h1, h2, h3, h4, h5⟩ := h
  refine ⟨hg, _, f, cur.take f, hh, ⟨by simp; omega, .inr ⟨k, cap, _, rfl, hk, hc, hfit, hm, by simpa using hl, ?_⟩⟩, by simp; omega, hf, rfl, h1, h2, h3, h5⟩
  conv => rhs; rhs; rw [← hx]
  simp only [Nat.mul_one]
  rw [show cur.take f = (cur.take (f + xs.length)).take f by rw [List.take_take]; congr 1; omega, List.take_append_drop]

theorem RingIs.loose {T E : TypeId} {w : World} {B g most : Nat} {r : Option Nat} {xs : List Value} (h : RingIs T E w B g most r xs) (hx : xs ≠ []) : ∃ k cap f, r = some k ∧ f ≤ xs.length ∧ Loose T E w B g most k cap f xs := by
  obtain ⟨hB, v, f, junk, hg, hr, hj, hf, hv, h1, h2, h3, h4⟩ := h
  rcases hr.2 with ⟨_, h0⟩ | ⟨k, cap, cur, rfl, hb, hh, hn, hm, hs, ht⟩
  · exact absurd (List.length_eq_zero_iff.1 (by omega)) hx
  · refine ⟨k, cap, f, hv.symm, hf, hB, hb, hg, cur.toList, by simpa using hh, by simpa using hs, hn, hm, ?_, h1, h2, h3, by omega, h4⟩
    rw [Nat.mul_one] at ht
    rw [ht, ← hj, List.drop_left]

/-- Behind a clearing of the first j elements, and the store of the new first place. -/
theorem Loose.skipped {T E : TypeId} (hTE : T ≠ E) {w w1 : World} {B g most k cap f j : Nat} {xs : List Value} {z : Value} {cur : List Value} (h : Loose T E w B g most k cap f xs) (hc : w.heap[k]? = some (.cells cur.toArray E (0, 0)))
    (hj : j ≤ xs.length) (h1 : w1.heap[k]? = some (.cells (splice cur f (List.replicate j z)).toArray E (0, 0))) (ho : Only (fun i => i = k) w w1) :
    Loose T E (w1.setCell ⟨g, 2, none⟩ (.int .i64 ((f + j : Nat) : Int))) B g most k cap (f + j) (xs.drop j) ∧ Turned g (some k) (some k) w (w1.setCell ⟨g, 2, none⟩ (.int .i64 ((f + j : Nat) : Int))) := by
  obtain ⟨hg, hk, hh, cur', hc', hl, hfit, hm, hx, h1', h2, h3, h4, h5⟩ := h
  obtain rfl : cur' = cur := by rw [hc] at hc'; cases hc'; rfl
  have hgk : g ≠ k := fun e => by rw [e, hc] at hh; cases hh; exact hTE rfl
  have hg1 : w1.heap[g]? = some (.cells #[.int .i64 (most : Int), .slice (some ⟨k, 0, none⟩) (f + xs.length) cap, .int .i64 (f : Int)] T (0, 0)) := (ho.block g (lt_of_heap hh) hgk).trans hh
  have hlen : f + j + (xs.drop j).length = f + xs.length := by simp; omega
  have hfit2 : f + (List.replicate j z).length ≤ cur'.length := by simp; omega
  refine ⟨⟨hg, hk, ?_, splice cur' f (List.replicate j z), ?_, ?_, by omega, hm, ?_, fun u hu => h1' u (List.mem_of_mem_drop hu), h2, h3, by omega, by simp; omega⟩, ?_, .inl rfl⟩
  · rw [hlen]; simpa using heap_setCell (i := 2) hg1 (.int .i64 ((f + j : Nat) : Int))
  · rw [heap_setCell_ne _ (Ne.symm hgk)]; exact h1
  · rw [length_splice _ _ _ hfit2, hl]
  · rw [hlen]
    have e := splice_drop cur' f (List.replicate j z) hfit2
    rw [List.length_replicate] at e
    rw [List.drop_take, e]
    conv => rhs; rw [← hx]
    rw [List.drop_take, List.drop_take, List.drop_drop]
    congr 1
    omega
  · exact (ho.mono fun i _ hi => .inr (by rw [hi])).trans (Only.setCell _ _ _ (.inl rfl))

end Go.Proofs.Ytolidhjffminkaa
