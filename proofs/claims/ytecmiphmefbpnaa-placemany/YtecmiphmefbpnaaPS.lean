/- PlaceTells, walked. -/
import Derived.Test.YtecmiphmefbpnaaPR
namespace Go.Proofs.Ytecmiphmefbpnaa.E
open Go.Proofs.Ytecmiphmefbpnaa Go.RowKit Go.By Go.Shelf
set_option linter.unusedVariables false
set_option linter.unusedSimpArgs false

theorem box2_cells {W : World} {q : Nat} {x y : Value} (h : W.heap[q]? = some (.cells #[x, y] 24 (0, 0))) : W.cell? ⟨q, 0, none⟩ = some x ∧ W.cell? ⟨q, 1, none⟩ = some y :=
  ⟨by rw [Joins.cell_of_block h]; rfl, by rw [Joins.cell_of_block h]; rfl⟩
/-- A box stays. -/
theorem box2_up {W Y : World} {q : Nat} {x y : Value} (h : W.heap[q]? = some (.cells #[x, y] 24 (0, 0))) (hb : Below W.heap.size W Y) : Y.heap[q]? = some (.cells #[x, y] 24 (0, 0)) := (hb.block _ (lt_of_heap h)).trans h

set_option maxRecDepth 20000 in
set_option maxHeartbeats 8000000 in
theorem tells_any (a : Option Addr) (cap : Nat) (rs : List Rn) (p : Int) (b : Bool) (f t : Int) (w : World) (hS : CameR w.heap.size w a rs) :
    Calls Try.prog 3 #[.slice a rs.length cap, .int .i64 p, .bool b, .agg #[.int .i64 f, .int .i64 t]] w fun e W' => e = .returned (.bool true) ∧ Below w.heap.size w W' := by
  have hB0 : Below w.heap.size w (w.alloc (.cells #[.int .i64 f, .int .i64 t] 24)) := (Below.refl _ w).alloc (Nat.le_refl _) _
  have hx0 := World.alloc_heap_new w (.cells #[.int .i64 f, .int .i64 t] 24)
  have hF := few_any a cap rs (w.alloc (.cells #[.int .i64 f, .int .i64 t] 24)) (came_up hS hB0)
  have HB0 := hide hB0
  have HX0 := hide hx0
  have HL : Hid (∀ W, Calls Try.prog 8 #[] W fun e W' => e = .returned (.bool true) ∧ Below W.heap.size W W') := hide lives10
  clear hB0 hx0
  cases hf : fewB rs with
  | false =>
    rw [hf] at hF
    clear hS hf
    go_enter Try.func3, Try.ntmps3
    go_wp2_with (first
      | (go_at_call 7; refine hF.mono ?_; rintro e W1 ⟨rfl, hb⟩; have HB1 := hide (HB0.out.trans (hb.mono HB0.out.size)); clear hb)
      | (go_at_call 8; refine (HL.out _).mono ?_; rintro e W2 ⟨rfl, hb⟩; have HB2 := hide (HB1.out.trans (hb.mono HB1.out.size)); clear hb))
    go_ret
    exact ⟨rfl, HB2.out⟩
  | true =>
    rw [hf] at hF
    have hl : rs.length ≤ 1000000 := by have := few_hl hf; omega
    obtain ⟨mn, hmn⟩ : ∃ mn, mn = moveN rs p b := ⟨_, rfl⟩
    obtain ⟨mb, hmb⟩ : ∃ mb, mb = moveB rs p := ⟨_, rfl⟩
    obtain ⟨r1, hr1⟩ : ∃ r1, r1 = (spanP rs f t).1 := ⟨_, rfl⟩
    obtain ⟨r2, hr2⟩ : ∃ r2, r2 = (spanP rs f t).2 := ⟨_, rfl⟩
    obtain ⟨ok, hok⟩ : ∃ ok, ok = spanB rs f t := ⟨_, rfl⟩
    have hV : spanV rs f t = .tuple #[.agg #[.int .i64 r1, .int .i64 r2], .bool ok] := by rw [hr1, hr2, hok]; rfl
    have HM : Hid (∀ W, Below w.heap.size w W → Calls Try.prog 9 #[.slice a rs.length cap, .int .i64 p, .bool b] W fun e W' => e = .returned (.tuple #[.int .i64 mn, .bool mb]) ∧ Below W.heap.size W W') := hide fun W h => by rw [hmn, hmb]; exact move_any a cap rs p b W ((hS.below h).mono h.size) hl
    have HR : Hid (∀ W, Below w.heap.size w W → Calls Try.prog 10 #[.slice a rs.length cap, .int .i64 p, .bool b] W fun e W' => e = .returned (.tuple #[.int .i64 mn, .bool mb]) ∧ Below W.heap.size W W') := hide fun W h => by rw [hmn, hmb]; exact rmove_any a cap rs p b W ((hS.below h).mono h.size) hl
    have HS : Hid (∀ W, Below w.heap.size w W → Calls Try.prog 11 #[.slice a rs.length cap, .agg #[.int .i64 f, .int .i64 t]] W fun e W' => e = .returned (.tuple #[.agg #[.int .i64 r1, .int .i64 r2], .bool ok]) ∧ Below W.heap.size W W') := hide fun W h => by rw [← hV]; exact span_any a cap rs f t W ((hS.below h).mono h.size) hl
    have HT : Hid (∀ W, Below w.heap.size w W → Calls Try.prog 12 #[.slice a rs.length cap, .agg #[.int .i64 f, .int .i64 t]] W fun e W' => e = .returned (.tuple #[.agg #[.int .i64 r1, .int .i64 r2], .bool ok]) ∧ Below W.heap.size W W') := hide fun W h => by rw [← hV]; exact rspan_any a cap rs f t W ((hS.below h).mono h.size) hl
    have q1 := eq24 r1 r2 r1 r2
    rw [beq_self_eq_true, beq_self_eq_true] at q1
    have hm : Try.prog.eqGuardType Try.prog.depth 24 = false := by kernel_rfl
    clear hS hf hmn hmb hr1 hr2 hok hV
    go_enter Try.func3, Try.ntmps3
    go_wp2_with (first
      | (go_at_call 7; refine hF.mono ?_; rintro e W1 ⟨rfl, hb⟩; have HX1 := hide (box2_up HX0.out hb); have HB1 := hide (HB0.out.trans (hb.mono HB0.out.size)); clear hb)
      | (go_at_call 9; refine (HM.out _ HB1.out).mono ?_; rintro e W2 ⟨rfl, hb⟩; have HX2 := hide (box2_up HX1.out hb); have HB2 := hide (HB1.out.trans (hb.mono HB1.out.size)); clear hb)
      | (go_at_call 10; refine (HR.out _ HB2.out).mono ?_; rintro e W3 ⟨rfl, hb⟩; have hx3 := box2_up HX2.out hb; obtain ⟨c0, c1⟩ := box2_cells hx3; have HX3 := hide hx3; have HB3 := hide (HB2.out.trans (hb.mono HB2.out.size)); clear hb hx3)
      | (go_at_call 11; refine (HS.out _ HB3.out).mono ?_; rintro e W4 ⟨rfl, hb⟩; have hx4 := (Below.heap_alloc W4 (.cells #[.int .i64 r1, .int .i64 r2] 24) _ (lt_of_heap (box2_up HX3.out hb))).trans (box2_up HX3.out hb); obtain ⟨d0, d1⟩ := box2_cells hx4; have HY4 := hide (World.alloc_heap_new W4 (.cells #[.int .i64 r1, .int .i64 r2] 24)); have HB4 := hide ((HB3.out.trans (hb.mono HB3.out.size)).alloc (HB3.out.trans (hb.mono HB3.out.size)).size (.cells #[.int .i64 r1, .int .i64 r2] 24)); clear hb hx4)
      | (go_at_call 12; refine (HT.out _ HB4.out).mono ?_; rintro e W5 ⟨rfl, hb⟩; have hy5 := box2_up HY4.out hb; obtain ⟨e0, e1⟩ := box2_cells ((Below.heap_alloc W5 (.cells #[.int .i64 r1, .int .i64 r2] 24) _ (lt_of_heap hy5)).trans hy5); obtain ⟨f0, f1⟩ := box2_cells (World.alloc_heap_new W5 (.cells #[.int .i64 r1, .int .i64 r2] 24)); have HB5 := hide ((HB4.out.trans (hb.mono HB4.out.size)).alloc (HB4.out.trans (hb.mono HB4.out.size)).size (.cells #[.int .i64 r1, .int .i64 r2] 24)); clear hb hy5)
      | (go_at_call 8; refine (HL.out _).mono ?_; rintro e W6 ⟨rfl, hb⟩; have HB6 := hide (HB5.out.trans (hb.mono HB5.out.size)); clear hb))
    go_ret
    exact ⟨rfl, HB6.out⟩

end Go.Proofs.Ytecmiphmefbpnaa.E
