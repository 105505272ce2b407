/- A place goes over a run. -/
import Derived.Test.YtecmiphmefbpnaaEd9
namespace Go.Proofs.Ytecmiphmefbpnaa.E
open Go.Proofs.Ytecmiphmefbpnaa Go.RowKit Go.By Go.Shelf
set_option linter.unusedVariables false

/-- A place of a text that was, and of the one that comes, lies there; nothing else was written. -/
def PutP (X : World) (b : Nat) (x y : Value) (wc : World) : Prop := wc.heap[b]? = some (.cells #[x, y] 69 (0, 0)) ∧ Only (fun k => k = b) X wc
theorem PutP.drew {X wc : World} {b : Nat} {x y : Value} (h : PutP X b x y wc) : PutP X b x y wc.drew := ⟨h.1, ⟨h.2.os, h.2.tape, h.2.output, h.2.size, h.2.block⟩⟩
theorem PutP.drewN {X wc : World} {b : Nat} {x y : Value} (h : PutP X b x y wc) (q : Nat) : PutP X b x y (wc.drewN q) := ⟨h.1, ⟨h.2.os, h.2.tape, h.2.output, h.2.size, h.2.block⟩⟩
theorem PutP.refl {X : World} {b : Nat} {x y : Value} (h : X.heap[b]? = some (.cells #[x, y] 69 (0, 0))) : PutP X b x y X := ⟨h, Only.refl _ _⟩
theorem PutP.one {X wc : World} {b : Nat} {x y : Value} (h : PutP X b x y wc) (x' : Value) : PutP X b x' y (wc.setCell ⟨b, 0, none⟩ x') := by
  have h2 := heap_setCell (i := 0) h.1 x'
  exact ⟨by simpa using h2, h.2.trans (Only.setCell (S := fun k => k = b) wc ⟨b, 0, none⟩ x' rfl)⟩
theorem PutP.two {X wc : World} {b : Nat} {x y : Value} (h : PutP X b x y wc) (y' : Value) : PutP X b x y' (wc.setCell ⟨b, 1, none⟩ y') := by
  have h2 := heap_setCell (i := 1) h.1 y'
  exact ⟨by simpa using h2, h.2.trans (Only.setCell (S := fun k => k = b) wc ⟨b, 1, none⟩ y' rfl)⟩

set_option maxRecDepth 20000 in
set_option maxHeartbeats 8000000 in
theorem step_add {W : World} {b : Nat} {i o k d : Int} {a : ByteArray} (hb : W.heap[b]? = some (.cells #[.int .i64 i, .int .i64 o] 69 (0, 0))) (hk : ¬ 0 < k) (hd : ¬ 0 < d) (ho : 0 ≤ o ∧ o + (a.size : Int) ≤ 16777216) :
    Calls Try.prog 45 #[.pointer (some ⟨b, 0, none⟩), .agg #[.int .i64 k, .string a, .int .i64 d]] W fun e W' => e = .returned (.tuple #[]) ∧ W'.heap[b]? = some (.cells #[.int .i64 i, .int .i64 (o + (a.size : Int))] 69 (0, 0)) ∧ Only (fun x => x = b) W W' := by
  have hlt := lt_of_heap hb
  have HB := hide ((Below.refl W.heap.size W).alloc (Nat.le_refl _) (.cells #[.int .i64 k, .string a, .int .i64 d] 51))
  have hX : (W.alloc (.cells #[.int .i64 k, .string a, .int .i64 d] 51)).heap[b]? = some (.cells #[.int .i64 i, .int .i64 o] 69 (0, 0)) := (HB.out.block b hlt).trans hb
  have HX := hide hX
  have c1 : (W.alloc (.cells #[.int .i64 k, .string a, .int .i64 d] 51)).cell? ⟨b, 1, none⟩ = some (.int .i64 o) := by rw [Joins.cell_of_block hX]; rfl
  have g1 : (W.alloc (.cells #[.int .i64 k, .string a, .int .i64 d] 51)).frozen? ⟨b, 1, none⟩ = false := by simp [World.frozen?, hX]
  have hs : (0 : Int) ≤ (a.size : Int) := Int.natCast_nonneg _
  have w1 : IntKind.i64.wrap (o + (a.size : Int)) = o + (a.size : Int) := by rw [IntKind.wrap_i64]; omega
  clear hb hX hlt
  go_enter Try.func45, Try.ntmps45
  go_wp2_with fail
  go_cut [] from 4 to 42 (fun wc => Hid (PutP (W.alloc (.cells #[.int .i64 k, .string a, .int .i64 d] 51)) b (.int .i64 i) (.int .i64 (o + (a.size : Int))) wc))
  case first =>
    go_region_with (fail)
    all_goals (go_wp2_with fail; go_meet)
    all_goals (show PutP _ _ _ _ _; repeat (first | exact PutP.refl HX.out | apply PutP.drew | apply PutP.drewN | apply PutP.one | apply PutP.two))
  case rest =>
    have HC := hcut
    clear hcut
    go_wp2
    go_end0
    exact ⟨rfl, HC.out.1, (Only.alloc _ W _).trans HC.out.2⟩

set_option maxRecDepth 20000 in
set_option maxHeartbeats 8000000 in
theorem step_drop {W : World} {b : Nat} {i o k d : Int} {a : ByteArray} (hb : W.heap[b]? = some (.cells #[.int .i64 i, .int .i64 o] 69 (0, 0))) (hk : ¬ 0 < k) (hk0 : 0 ≤ k) (hd : 0 < d) (hi : 0 ≤ i ∧ i + (k + d) ≤ 16777216) :
    Calls Try.prog 45 #[.pointer (some ⟨b, 0, none⟩), .agg #[.int .i64 k, .string a, .int .i64 d]] W fun e W' => e = .returned (.tuple #[]) ∧ W'.heap[b]? = some (.cells #[.int .i64 (i + (k + d)), .int .i64 o] 69 (0, 0)) ∧ Only (fun x => x = b) W W' := by
  have hlt := lt_of_heap hb
  have HB := hide ((Below.refl W.heap.size W).alloc (Nat.le_refl _) (.cells #[.int .i64 k, .string a, .int .i64 d] 51))
  have hX : (W.alloc (.cells #[.int .i64 k, .string a, .int .i64 d] 51)).heap[b]? = some (.cells #[.int .i64 i, .int .i64 o] 69 (0, 0)) := (HB.out.block b hlt).trans hb
  have HX := hide hX
  have c0 : (W.alloc (.cells #[.int .i64 k, .string a, .int .i64 d] 51)).cell? ⟨b, 0, none⟩ = some (.int .i64 i) := by rw [Joins.cell_of_block hX]; rfl
  have g0 : (W.alloc (.cells #[.int .i64 k, .string a, .int .i64 d] 51)).frozen? ⟨b, 0, none⟩ = false := by simp [World.frozen?, hX]
  have w1 : IntKind.i64.wrap (k + d) = k + d := by rw [IntKind.wrap_i64]; omega
  have w2 : IntKind.i64.wrap (i + (k + d)) = i + (k + d) := by rw [IntKind.wrap_i64]; omega
  clear hb hX hlt
  go_enter Try.func45, Try.ntmps45
  go_wp2_with fail
  go_cut [] from 4 to 42 (fun wc => Hid (PutP (W.alloc (.cells #[.int .i64 k, .string a, .int .i64 d] 51)) b (.int .i64 (i + (k + d))) (.int .i64 o) wc))
  case first =>
    go_region_with (fail)
    all_goals (go_wp2_with fail; go_meet)
    all_goals (show PutP _ _ _ _ _; repeat (first | exact PutP.refl HX.out | apply PutP.drew | apply PutP.drewN | apply PutP.one | apply PutP.two))
  case rest =>
    have HC := hcut
    clear hcut
    go_wp2
    go_end0
    exact ⟨rfl, HC.out.1, (Only.alloc _ W _).trans HC.out.2⟩

set_option maxRecDepth 20000 in
set_option maxHeartbeats 8000000 in
theorem step_keep {W : World} {b : Nat} {i o k d : Int} {a : ByteArray} (hb : W.heap[b]? = some (.cells #[.int .i64 i, .int .i64 o] 69 (0, 0))) (hk : 0 < k) (hd : 0 ≤ d) (hi : 0 ≤ i ∧ i + (k + d) ≤ 16777216) (ho : 0 ≤ o ∧ o + k ≤ 16777216) :
    Calls Try.prog 45 #[.pointer (some ⟨b, 0, none⟩), .agg #[.int .i64 k, .string a, .int .i64 d]] W fun e W' => e = .returned (.tuple #[]) ∧ W'.heap[b]? = some (.cells #[.int .i64 (i + (k + d)), .int .i64 (o + k)] 69 (0, 0)) ∧ Only (fun x => x = b) W W' := by
  have hlt := lt_of_heap hb
  have HB := hide ((Below.refl W.heap.size W).alloc (Nat.le_refl _) (.cells #[.int .i64 k, .string a, .int .i64 d] 51))
  have hX : (W.alloc (.cells #[.int .i64 k, .string a, .int .i64 d] 51)).heap[b]? = some (.cells #[.int .i64 i, .int .i64 o] 69 (0, 0)) := (HB.out.block b hlt).trans hb
  have HX := hide hX
  have c1 : (W.alloc (.cells #[.int .i64 k, .string a, .int .i64 d] 51)).cell? ⟨b, 1, none⟩ = some (.int .i64 o) := by rw [Joins.cell_of_block hX]; rfl
  have c0 : (W.alloc (.cells #[.int .i64 k, .string a, .int .i64 d] 51)).cell? ⟨b, 0, none⟩ = some (.int .i64 i) := by rw [Joins.cell_of_block hX]; rfl
  have g0 : (W.alloc (.cells #[.int .i64 k, .string a, .int .i64 d] 51)).frozen? ⟨b, 0, none⟩ = false := by simp [World.frozen?, hX]
  have g1 : (W.alloc (.cells #[.int .i64 k, .string a, .int .i64 d] 51)).frozen? ⟨b, 1, none⟩ = false := by simp [World.frozen?, hX]
  have w1 : IntKind.i64.wrap (k + d) = k + d := by rw [IntKind.wrap_i64]; omega
  have w2 : IntKind.i64.wrap (i + (k + d)) = i + (k + d) := by rw [IntKind.wrap_i64]; omega
  have w3 : IntKind.i64.wrap (o + k) = o + k := by rw [IntKind.wrap_i64]; omega
  have hbn : ¬ b = W.heap.size := by omega
  clear hb hX hlt
  go_enter Try.func45, Try.ntmps45
  go_wp2_with fail
  go_region_with (fail)
  all_goals (go_wp2_with fail)
  all_goals go_cut [] from 4 to 42 (fun wc => Hid (PutP (W.alloc (.cells #[.int .i64 k, .string a, .int .i64 d] 51)) b (.int .i64 (i + (k + d))) (.int .i64 (o + k)) wc))
  all_goals first
    | (have HC := hcut
       clear hcut
       go_wp2
       go_end0
       exact ⟨rfl, HC.out.1, (Only.alloc _ W _).trans HC.out.2⟩)
    | (go_region_with (fail)
       all_goals (go_wp2_with fail; go_meet)
       all_goals (show PutP _ _ _ _ _; repeat (first | exact PutP.refl HX.out | apply PutP.drew | apply PutP.drewN | apply PutP.one | apply PutP.two)))

/-- Whatever right run. -/
theorem step_any {W : World} {b : Nat} {i o k d : Int} {a : ByteArray} (hb : W.heap[b]? = some (.cells #[.int .i64 i, .int .i64 o] 69 (0, 0))) (hk : kind ⟨k, a, d⟩ ≠ 0) (hi : 0 ≤ i ∧ i + (k + d) ≤ 16777216) (ho : 0 ≤ o ∧ o + (k + (a.size : Int)) ≤ 16777216) :
    Calls Try.prog 45 #[.pointer (some ⟨b, 0, none⟩), .agg #[.int .i64 k, .string a, .int .i64 d]] W fun e W' => e = .returned (.tuple #[]) ∧ W'.heap[b]? = some (.cells #[.int .i64 (i + (k + d)), .int .i64 (o + (k + (a.size : Int)))] 69 (0, 0)) ∧ Only (fun x => x = b) W W' := by
  obtain ⟨f1, f2, f3, f4⟩ := kind_facts hk
  replace f1 : 0 ≤ k := f1
  replace f2 : 0 ≤ d := f2
  replace f4 : max k (a.size : Int) = k + (a.size : Int) := f4
  replace f3 : max k d = k + d := f3
  have hs : (0 : Int) ≤ (a.size : Int) := Int.natCast_nonneg _
  by_cases h1 : 0 < k
  · have hz : (a.size : Int) = 0 := by omega
    rw [hz, Int.add_zero]
    exact step_keep hb h1 f2 hi ⟨ho.1, by omega⟩
  · obtain rfl : k = 0 := by omega
    by_cases h2 : 0 < d
    · have hz : (a.size : Int) = 0 := by
        unfold kind at hk
        repeat' (split at hk)
        · rename_i hh
          have : (0 : Int) < 0 := hh.1
          omega
        · rename_i hh
          have : d = 0 := hh.2.2
          omega
        · rename_i hh
          have : a.toList.length = 0 := by rw [hh.2.1]; rfl
          rw [len_toList] at this; omega
        · exact absurd rfl hk
      rw [hz, Int.add_zero, Int.add_zero]
      exact step_drop hb h1 f1 h2 hi
    · obtain rfl : d = 0 := by omega
      rw [Int.add_zero, Int.add_zero, Int.zero_add]
      exact step_add hb h1 h2 ⟨ho.1, by omega⟩

end Go.Proofs.Ytecmiphmefbpnaa.E
