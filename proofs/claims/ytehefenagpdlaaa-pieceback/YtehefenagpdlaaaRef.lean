/- The reference's lists of numbers, and the making of a ring. -/
import Derived.Test.YtehefenagpdlaaaRing4
import Derived.Shelf.Abstract
namespace Go.Proofs.Ytehefenagpdlaaa
open Go.RowKit Go.By Go.Shelf
set_option linter.unusedVariables false

theorem drew2 (w : World) (a b : Nat) : ∃ q, (w.drewN a).drewN b = w.drewN q := ⟨_, World.drewN_drewN ..⟩

/-- The value v is a slice of the numbers l. -/
def Lst (w : World) (v : Value) (l : List Int) : Prop :=
  ∃ a cap, v = .slice a l.length cap ∧ l.length ≤ cap ∧ cap ≤ maxLen ∧ (a = none → cap = 0) ∧
    ∀ x, a = some x → ∃ b off, x = ⟨b, off, none⟩ ∧ b < w.heap.size ∧ ∀ i, i < l.length → w.cell? ⟨b, off + i, none⟩ = some (.int .i64 (l.getD i 0))

theorem Lst.nil (w : World) : Lst w (.slice none 0 0) [] := ⟨none, 0, rfl, by simp, by unfold maxLen; omega, fun _ => rfl, by simp⟩

theorem Lst.same {w w' : World} {v : Value} {l : List Int} (h : Lst w v l) (hsz : w.heap.size ≤ w'.heap.size) (hs : ∀ k, v.ownBlock = some k → w'.heap[k]? = w.heap[k]?) : Lst w' v l := by
  obtain ⟨a, cap, rfl, h1, h2, h3, h4⟩ := h
  refine ⟨a, cap, rfl, h1, h2, h3, fun x hx => ?_⟩
  obtain ⟨b, off, rfl, hb, hc⟩ := h4 x hx
  subst hx
  exact ⟨b, off, rfl, by omega, fun i hi => (World.cell?_of_block (a := ⟨b, off + i, none⟩) (hs b rfl)).trans (hc i hi)⟩

theorem Lst.lt {w : World} {v : Value} {l : List Int} (h : Lst w v l) : ∀ k, v.ownBlock = some k → k < w.heap.size := by
  obtain ⟨a, cap, rfl, h1, h2, h3, h4⟩ := h
  intro k hk
  cases a with
  | none => cases hk
  | some x =>
    obtain ⟨b, off, rfl, hb, hc⟩ := h4 x rfl
    obtain rfl : b = k := by simpa [Value.ownBlock] using hk
    exact hb

theorem Lst.below {w w' : World} {v : Value} {l : List Int} (h : Lst w v l) (hb : Below w.heap.size w w') : Lst w' v l :=
  h.same hb.size fun k hk => hb.block k (h.lt k hk)

theorem lst_of_row {w : World} {B : Nat} {v : Value} {l : List Int} (h : w.ownsRow B 3 1 v l.length (l.map (Value.int .i64))) : Lst w v l := by
  rcases h.2 with ⟨rfl, h0⟩ | ⟨k, cap, cur, rfl, hb, hh, hn, hm, hs, ht⟩
  · have hx : l = [] := List.length_eq_zero_iff.1 h0
    subst hx
    exact Lst.nil w
  · refine ⟨_, cap, rfl, hn, hm, by simp, fun x hx => ?_⟩
    cases hx
    refine ⟨k, 0, rfl, lt_of_heap hh, fun i hi => ?_⟩
    rw [Nat.zero_add, Joins.cell_of_block hh]
    have e1 : cur[i]? = (cur.toList.take (l.length * 1))[i]? := by rw [List.getElem?_take_of_lt (by omega)]; simp
    rw [e1, ht]
    simp [List.getD, hi]

/-- What an append takes over. -/
theorem Lst.news {w : World} {a : Option Addr} {n cap : Nat} {l : List Int} (h : Lst w (.slice a n cap) l) : n = l.length ∧ ∀ x, a = some x → ∀ j u, (l.map (Value.int .i64))[j]? = some u → w.cell? (x.add j) = some u := by
  obtain ⟨a', cap', e, h1, h2, h3, h4⟩ := h
  cases e
  refine ⟨rfl, fun x hx j u hu => ?_⟩
  obtain ⟨b, off, rfl, hb, hc⟩ := h4 x hx
  have hlt : j < l.length := by
    rcases Nat.lt_or_ge j l.length with h | h
    · exact h
    · simp [h] at hu
  rw [Addr.add_lit, hc j hlt]
  simp [hlt] at hu
  simp [List.getD, hlt, hu]

set_option maxRecDepth 20000 in
set_option maxHeartbeats 2000000 in
/-- ref.Same. -/
theorem same_any (va vb : Value) (l m : List Int) (w : World) (ha : Lst w va l) (hb : Lst w vb m) :
    Calls Try.prog 21 #[va, vb] w fun e w' => e = .returned (.bool (decide (l = m))) ∧ ∃ q, w' = w.drewN q := by
  obtain ⟨a, cap, rfl, h1, h2, h3, h4⟩ := ha
  obtain ⟨b, cap', rfl, k1, k2, k3, k4⟩ := hb
  by_cases hl : l.length = m.length
  · have hl' : (l.length : Int) = m.length := by omega
    have hbig : l.length ≤ 9223372036854775807 := by unfold maxLen at h2; omega
    rw [← hl]
    go_enter Try.func21, Try.ntmps21
    go_wp2_with fail
    go_loopw [5] (fun i wr => ∃ k : Nat, i = .int .i64 (k : Int) ∧ k ≤ l.length ∧ Hid (l.take k = m.take k) ∧ ∃ q, wr = w.drewN q) (fun i _ => l.length - (intOf i).toNat)
    case atStart => exact ⟨0, rfl, by omega, hide (by simp), 0, rfl⟩
    case round =>
      obtain ⟨k, rfl, hk, HE, q, rfl⟩ := hrel
      by_cases hlt : k < l.length
      · have hlt' : (k : Int) < (l.length : Int) := by omega
        obtain ⟨x, rfl⟩ : ∃ x, a = some x := by
          cases a with
          | none => have := h3 rfl; omega
          | some x => exact ⟨x, rfl⟩
        obtain ⟨y, rfl⟩ : ∃ x, b = some x := by
          cases b with
          | none => have := k3 rfl; omega
          | some x => exact ⟨x, rfl⟩
        obtain ⟨b1, o1, rfl, _, hc1⟩ := h4 x rfl
        obtain ⟨b2, o2, rfl, _, hc2⟩ := k4 y rfl
        have c1 := hc1 k hlt
        have c2 := hc2 k (by omega)
        have e1 : l.take (k + 1) = l.take k ++ [l.getD k 0] := by rw [List.take_succ_eq_append_getElem hlt]; simp [List.getD, hlt]
        have e2 : m.take (k + 1) = m.take k ++ [m.getD k 0] := by rw [List.take_succ_eq_append_getElem (by omega)]; simp [List.getD, show k < m.length by omega]
        have E1 := hide e1
        have E2 := hide e2
        generalize l.getD k 0 = u at c1 E1
        generalize m.getD k 0 = v at c2 E2
        clear e1 e2 h4 k4 hc1 hc2 h3 k3
        by_cases huv : u = v
        · subst huv
          go_wp2_with fail
          go_quiet (fail)
          go_wp2
          go_roundw
          case rel => exact ⟨k + 1, by simp, by omega, hide (by rw [E1.out, E2.out, HE.out]), by first | exact ⟨_, rfl⟩ | exact drew2 _ _ _⟩
          case measure => simp [intOf]; omega
        · have hne : (u == v) = false := by simpa using huv
          have hne2 : (u != v) = true := by simpa using huv
          go_wp2_with fail
          go_quiet (fail)
          go_wp2
          go_ret
          refine ⟨?_, by first | exact ⟨_, rfl⟩ | exact drew2 _ _ _⟩
          have : l ≠ m := fun e => huv (by have h5 := E1.out; have h6 := E2.out; rw [e] at h5; rw [h5] at h6; simpa using h6)
          simp [this]
      · obtain rfl : k = l.length := by omega
        go_wp2
        go_ret
        refine ⟨?_, _, rfl⟩
        have : l = m := by have h := HE.out; rw [List.take_length, hl, List.take_length] at h; exact h
        simp [this]
  · have hl' : ¬ (l.length : Int) = m.length := by omega
    have hl2 : ¬ l = m := fun e => hl (by rw [e])
    have hd : ((l.length : Int) != (m.length : Int)) = true := by simpa using hl'
    go_enter Try.func21, Try.ntmps21
    go_wp2
    go_ret
    exact ⟨by simp [hl2], 0, rfl⟩

end Go.Proofs.Ytehefenagpdlaaa
