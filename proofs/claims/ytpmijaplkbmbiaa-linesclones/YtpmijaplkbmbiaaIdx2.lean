/- sort.Search over the index's starts; begun. -/
import Derived.Test.YtpmijaplkbmbiaaIdx
namespace Go.Proofs.Ytpmijaplkbmbiaa.I
open Go.Proofs.Ytpmijaplkbmbiaa Go.RowKit Go.By Go.Shelf
set_option linter.unusedVariables false

set_option maxRecDepth 20000 in
set_option maxHeartbeats 4000000 in
theorem search_any {W : World} {B : Nat} {sv : Value} {xs : List Int} (at_ : Int) (h : W.ownsRow B 3 1 sv xs.length (ints xs)) (hr : Rise xs) (hl : xs.length ≤ 1000000) :
    Calls Try.prog 130 #[.int .i64 (xs.length : Int), .func (.func 131) #[.agg #[sv, .int .i64 at_]] #[]] W fun e W' => (∃ c, e = .returned (.int .i64 ((c : Nat) : Int)) ∧ Cut xs at_ c) ∧ Below W.heap.size W W' := by
  have hcl : ∀ w, Below W.heap.size W w → _ := fun w hb => cells_of_row h hb
  have HC := hide hcl
  have HR := hide hr
  obtain ⟨a, cap, rfl, _⟩ := cells_of_row h (Below.refl _ W)
  clear h hcl hr
  go_enter Try.func130, Try.ntmps130
  go_wp2_with fail
  go_loopw [5, 6] (fun iv jv wr => ∃ i j : Nat, iv = .int .i64 (i : Int) ∧ jv = .int .i64 (j : Int) ∧ i ≤ j ∧ j ≤ xs.length ∧ Hid ((∀ m, m < i → xs.getD m 0 ≤ at_) ∧ (∀ m, j ≤ m → m < xs.length → at_ < xs.getD m 0) ∧ Below W.heap.size W wr)) (fun iv jv _ => (intOf jv).toNat - (intOf iv).toNat)
  case atStart => exact ⟨0, xs.length, rfl, rfl, Nat.zero_le _, Nat.le_refl _, hide ⟨fun m hm => by omega, fun m h1 h2 => by omega, Below.refl _ _⟩⟩
  case round =>
    obtain ⟨i, j, rfl, rfl, hij, hj, HI⟩ := hrel
    by_cases hlt : i < j
    · have hlt' : (i : Int) < (j : Int) := by omega
      obtain ⟨m, hm⟩ : ∃ m, m = (i + j) / 2 := ⟨_, rfl⟩
      have hm1 : i ≤ m := by omega
      have hm2 : m < j := by omega
      obtain ⟨a2, cap2, e2, _, _, hcell⟩ := HC.out wr HI.out.2.2
      obtain ⟨k, hk, hc⟩ := hcell m (by omega)
      cases e2
      subst hk
      have hby := beyond_any (cap := cap) (at_ := at_) (show m < xs.length by omega) hc hl
      have HM := hide hm
      clear hm hcell
      have hmi : ((i : Int) + (j : Int)) / 2 = (m : Int) := by have := HM.out; omega
      have HX1 : Hid (xs.getD m 0 ≤ at_ → ∀ q, q < m + 1 → xs.getD q 0 ≤ at_) := hide fun hx q hq => by
        by_cases e : q = m
        · rw [e]; exact hx
        · have := HR.out q m (by omega) (by omega); omega
      have HX2 : Hid (at_ < xs.getD m 0 → ∀ q, m ≤ q → q < xs.length → at_ < xs.getD q 0) := hide fun hx q h1 h2 => by
        by_cases e : m = q
        · rw [← e]; exact hx
        · have := HR.out m q (by omega) h2; omega
      generalize xs.getD m 0 = x at *
      have HMI := hide hmi
      clear hmi
      by_cases hx : at_ < x
      · have hxd : decide (at_ < x) = true := decide_eq_true hx
        rw [hxd] at hby
        go_wp2_with fail
        rw [HMI.out]
        refine hby.mono ?_
        rintro e w' ⟨rfl, hb⟩
        have HB := hide (HI.out.2.2.trans (hb.mono HI.out.2.2.size))
        clear hb hby hxd
        go_wp2
        go_roundw
        case rel => exact ⟨i, m, rfl, rfl, hm1, by omega, hide ⟨HI.out.1, HX2.out hx, HB.out⟩⟩
        case measure => simp [intOf]; omega
      · have hxd : decide (at_ < x) = false := decide_eq_false hx
        rw [hxd] at hby
        go_wp2_with fail
        rw [HMI.out]
        refine hby.mono ?_
        rintro e w' ⟨rfl, hb⟩
        have HB := hide (HI.out.2.2.trans (hb.mono HI.out.2.2.size))
        clear hb hby hxd
        go_wp2
        go_roundw
        case rel => exact ⟨m + 1, j, by go_num, rfl, by omega, by omega, hide ⟨HX1.out (by omega), HI.out.2.1, HB.out⟩⟩
        case measure => simp [intOf]; omega
    · obtain rfl : i = j := by omega
      go_wp2
      go_ret
      exact ⟨⟨i, rfl, hj, HI.out.1, HI.out.2.1⟩, HI.out.2.2⟩

theorem IdxIs.c0 {W : World} {B g n : Nat} {sv : Value} {xs : List Int} (h : IdxIs W B g sv xs n) : W.cell? ⟨g, 0, none⟩ = some sv := by rw [Joins.cell_of_block h.blk]; rfl
theorem IdxIs.c1 {W : World} {B g n : Nat} {sv : Value} {xs : List Int} (h : IdxIs W B g sv xs n) : W.cell? ⟨g, 1, none⟩ = some (.int .i64 (n : Int)) := by rw [Joins.cell_of_block h.blk]; rfl
theorem IdxIs.below {W W' : World} {B g n : Nat} {sv : Value} {xs : List Int} (h : IdxIs W B g sv xs n) (hb : Below W.heap.size W W') : IdxIs W' B g sv xs n :=
  ⟨h.hB, (hb.block g (lt_of_heap h.blk)).trans h.blk, ownsRow_same h.row fun k hk => hb.block k (ownBlock_lt h.row hk).2⟩

set_option maxRecDepth 20000 in
set_option maxHeartbeats 2000000 in
theorem begun_any {W : World} {B g n : Nat} {sv : Value} {xs : List Int} (at_ : Int) (h : IdxIs W B g sv xs n) (hr : Rise xs) (hl : xs.length ≤ 1000000) :
    Calls Try.prog 96 #[.pointer (some ⟨g, 0, none⟩), .int .i64 at_] W fun e W' => (∃ c, e = .returned (.int .i64 ((c : Nat) : Int)) ∧ Cut xs at_ c) ∧ Below W.heap.size W W' := by
  have hs : ∀ w, Below W.heap.size W w → _ := fun w hb => search_any at_ (h.below hb).row hr hl
  have c0 := h.c0
  obtain ⟨a, cap, rfl⟩ : ∃ a cap, sv = .slice a xs.length cap := by obtain ⟨a, cap, e, _⟩ := cells_of_row h.row (Below.refl _ W); exact ⟨a, cap, e⟩
  have HS := hide hs
  clear h hs hr
  go_enter Try.func96, Try.ntmps96
  go_wp2_with fail
  go_region_with ((go_at_call 130; refine (HS.out _ (by first | exact Below.refl _ _ | exact below_drewN' (Below.refl _ _) _)).mono ?_; rintro e w' ⟨⟨c, rfl, hcut⟩, hb⟩; have HB := hide hb; have HK := hide hcut; clear hb hcut))
  all_goals
    go_wp2
    go_ret
    exact ⟨⟨_, rfl, HK.out⟩, by first | exact HB.out | exact (below_drewN' (Below.refl _ _) _).trans HB.out⟩

end Go.Proofs.Ytpmijaplkbmbiaa.I
