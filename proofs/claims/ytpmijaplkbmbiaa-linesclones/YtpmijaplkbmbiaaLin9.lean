/- The index of a text: Clone. -/
import Derived.Test.YtpmijaplkbmbiaaLin7
namespace Go.Proofs.Ytpmijaplkbmbiaa.I
open Go.Proofs.Ytpmijaplkbmbiaa Go.RowKit Go.By Go.Shelf
set_option linter.unusedVariables false

/-- slices.Clone of a row. -/
theorem clone_row {W : World} {B : Nat} {k cap : Nat} {xs : List Int} (h : W.ownsRow B 3 1 (.slice (some ⟨k, 0, none⟩) xs.length cap) xs.length (ints xs)) (hl : xs.length ≤ 100000) (hp : 0 < xs.length) :
    Calls Try.prog 98 #[.slice (some ⟨k, 0, none⟩) xs.length cap] W fun e w' => ∃ a c, e = .returned (.slice a xs.length c) ∧ w'.ownsRow W.heap.size 3 1 (.slice a xs.length c) xs.length (ints xs) ∧ Below W.heap.size W w' := by
  rcases row_open h with ⟨e, _⟩ | ⟨k', cap', L, e, hkB, hh, hc, hcm, hL, ht⟩
  · cases e
  · cases e
    refine (Any.slices_Clone_int Try.laysNm215 k 0 xs.length cap xs W (Nat.le_refl _) (by omega) (fun x hx => by
      have := cells_of hh ht x (.int .i64 (xs.getD x 0)) (by simp [ints, List.getD, hx])
      exact this)).mono ?_
    rintro e w' ⟨v', rfl, hr, hn, hb⟩
    rw [List.take_length] at hr
    obtain ⟨a, c, rfl⟩ := slice_of hr
    exact ⟨a, c, rfl, hr, hb⟩

theorem fin_clone {W X : World} {l : List UInt8} {a : Option Addr} {c : Nat} (hl : l.length ≤ 50000) (hr : X.ownsRow W.heap.size 3 1 (.slice a (starts l).length c) (starts l).length (ints (starts l))) (hb : Below W.heap.size W X) :
    ∃ g2, Ending.returned (.pointer (some ⟨X.heap.size, 0, none⟩)) = .returned (.pointer (some ⟨g2, 0, none⟩)) ∧ ∃ sv2, LineIs (X.alloc (.cells #[.slice a (starts l).length c, .int .i64 (l.length : Int)] 75)) W.heap.size g2 sv2 l ∧ Below W.heap.size W (X.alloc (.cells #[.slice a (starts l).length c, .int .i64 (l.length : Int)] 75)) :=
  ⟨_, rfl, _, ⟨⟨hb.size, World.alloc_heap_new X _, hr.alloc _⟩, hl⟩, hb.alloc hb.size _⟩

set_option maxRecDepth 20000 in
set_option maxHeartbeats 4000000 in
theorem clone_line {W : World} {B g : Nat} {sv : Value} {l : List UInt8} (h : LineIs W B g sv l) :
    Calls Try.prog 47 #[.pointer (some ⟨g, 0, none⟩)] W fun e W' => ∃ g2, e = .returned (.pointer (some ⟨g2, 0, none⟩)) ∧ ∃ sv2, LineIs W' W.heap.size g2 sv2 l ∧ Below W.heap.size W W' := by
  obtain ⟨k, cap, rfl, hcap, _⟩ := h.some
  have hcl := fun w (hb : Below W.heap.size W w) => clone_row (h.idx.below hb).row h.len (starts_pos l)
  have c0 := h.idx.c0
  have c1 := h.idx.c1
  have hgl := lt_of_heap h.idx.blk
  have H := hide h
  have HCL := hide hcl
  clear h hcl
  have hsm := H.out.small
  generalize hNL : (starts l).length = NL at *
  have HNL := hide hNL
  clear hNL
  go_enter Try.func47, Try.ntmps47
  go_wp2_with fail
  go_region_with ((go_at_call 98; refine (HCL.out _ (by first | exact Below.refl _ _ | exact ⟨rfl, rfl, rfl, Nat.le_refl _, fun _ _ => rfl⟩)).mono ?_; rintro e w1 ⟨a1, q1, rfl, hr1, hb1⟩; have hbw : Below W.heap.size W w1 := (by first | exact hb1 | exact below_drew hb1 | exact below_drewN2 hb1); have d1 : w1.cell? ⟨g, 1, none⟩ = some (.int .i64 (l.length : Int)) := (hbw.cell (p := ⟨g, 1, none⟩) hgl).trans c1; have HR1 := hide hr1; have HB1 := hide hbw; clear hr1 hb1 hbw))
  all_goals
    go_wp2
    go_ret
    obtain rfl := HNL.out
    first
      | exact fin_clone hsm HR1.out HB1.out
      | exact fin_clone (X := w1.drew) hsm HR1.out (below_drewN' HB1.out 1)
      | exact fin_clone (X := w1.drewN _) hsm HR1.out (below_drewN' HB1.out _)

end Go.Proofs.Ytpmijaplkbmbiaa.I
