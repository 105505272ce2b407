/- Runs: how many bytes. -/
import Derived.Test.YtpmijaplkbmbiaaEd1
namespace Go.Proofs.Ytpmijaplkbmbiaa.E
open Go.Proofs.Ytpmijaplkbmbiaa Go.RowKit Go.By Go.Shelf
set_option linter.unusedVariables false

/-- Does a run fit behind so many bytes? -/
def fitsB (i o : Int) (r : Rn) : Bool := decide (max r.keep r.drop ≤ 16777216 - i ∧ max r.keep (r.add.size : Int) ≤ 16777216 - o)

set_option maxRecDepth 20000 in
set_option maxHeartbeats 4000000 in
theorem grow_no {W : World} {b : Nat} {i o k d : Int} {a : ByteArray} (hb : W.heap[b]? = some (.cells #[.int .i64 i, .int .i64 o] 125 (0, 0))) (hi : 0 ≤ i ∧ i ≤ 16777216) (ho : 0 ≤ o ∧ o ≤ 16777216) (hn : ¬ (max k d ≤ 16777216 - i ∧ max k (a.size : Int) ≤ 16777216 - o)) :
    Calls Try.prog 103 #[.pointer (some ⟨b, 0, none⟩), .agg #[.int .i64 k, .string a, .int .i64 d]] W fun e W' => e = .returned (.bool false) ∧ Below W.heap.size W W' := by
  have c0 : W.cell? ⟨b, 0, none⟩ = some (.int .i64 i) := by rw [Joins.cell_of_block hb]; rfl
  have c1 : W.cell? ⟨b, 1, none⟩ = some (.int .i64 o) := by rw [Joins.cell_of_block hb]; rfl
  have hlt := lt_of_heap hb
  have HB := hide ((Below.refl W.heap.size W).alloc (Nat.le_refl _) (.cells #[.int .i64 k, .string a, .int .i64 d] 91))
  have d0 : (W.alloc (.cells #[.int .i64 k, .string a, .int .i64 d] 91)).cell? ⟨b, 0, none⟩ = some (.int .i64 i) := (HB.out.cell (p := ⟨b, 0, none⟩) hlt).trans c0
  have d1 : (W.alloc (.cells #[.int .i64 k, .string a, .int .i64 d] 91)).cell? ⟨b, 1, none⟩ = some (.int .i64 o) := (HB.out.cell (p := ⟨b, 1, none⟩) hlt).trans c1
  have w1 : IntKind.i64.wrap (16777216 - i) = 16777216 - i := by rw [IntKind.wrap_i64]; omega
  have w2 : IntKind.i64.wrap (16777216 - o) = 16777216 - o := by rw [IntKind.wrap_i64]; omega
  have HN := hide hn
  by_cases h1 : 16777216 - i < max k d
  · have b1 : decide (16777216 - i < max k d) = true := decide_eq_true h1
    clear hn hb
    go_enter Try.func103, Try.ntmps103
    go_wp2_with fail
    go_quiet (fail)
    go_wp2
    go_ret
    exact ⟨rfl, ⟨HB.out.os, HB.out.tape, HB.out.output, HB.out.size, HB.out.block⟩⟩
  · have b1 : decide (16777216 - i < max k d) = false := decide_eq_false h1
    have h2 : 16777216 - o < max k (a.size : Int) := by omega
    have b2 : decide (16777216 - o < max k (a.size : Int)) = true := decide_eq_true h2
    clear hn hb
    go_enter Try.func103, Try.ntmps103
    go_wp2_with fail
    go_quiet (fail)
    go_wp2
    go_ret
    exact ⟨rfl, ⟨HB.out.os, HB.out.tape, HB.out.output, HB.out.size, HB.out.block⟩⟩

/-- One number of the two was put, and nothing else. -/
def Put (X : World) (b : Nat) (x y : Value) (wc : World) : Prop := wc.heap[b]? = some (.cells #[x, y] 125 (0, 0)) ∧ Only (fun k => k = b) X wc

theorem Put.drew {X wc : World} {b : Nat} {x y : Value} (h : Put X b x y wc) : Put X b x y wc.drew := ⟨h.1, ⟨h.2.os, h.2.tape, h.2.output, h.2.size, h.2.block⟩⟩
theorem Put.drewN {X wc : World} {b : Nat} {x y : Value} (h : Put X b x y wc) (q : Nat) : Put X b x y (wc.drewN q) := ⟨h.1, ⟨h.2.os, h.2.tape, h.2.output, h.2.size, h.2.block⟩⟩

theorem put_one {X Y : World} {b : Nat} {x y x' : Value} (h : X.heap[b]? = some (.cells #[x, y] 125 (0, 0))) (hY : Only (fun k => k = b) X Y) (hb : Y.heap[b]? = X.heap[b]?) : Put X b x' y (Y.setCell ⟨b, 0, none⟩ x') := by
  have h2 := heap_setCell (i := 0) (hb.trans h) x'
  exact ⟨by simpa using h2, hY.trans (Only.setCell (S := fun k => k = b) Y ⟨b, 0, none⟩ x' rfl)⟩
theorem put_two {X Y : World} {b : Nat} {x y y' : Value} (h : X.heap[b]? = some (.cells #[x, y] 125 (0, 0))) (hY : Only (fun k => k = b) X Y) (hb : Y.heap[b]? = X.heap[b]?) : Put X b x y' (Y.setCell ⟨b, 1, none⟩ y') := by
  have h2 := heap_setCell (i := 1) (hb.trans h) y'
  exact ⟨by simpa using h2, hY.trans (Only.setCell (S := fun k => k = b) Y ⟨b, 1, none⟩ y' rfl)⟩

set_option maxRecDepth 20000 in
set_option maxHeartbeats 8000000 in
theorem grow_yes {W : World} {b : Nat} {i o k d : Int} {a : ByteArray} (hb : W.heap[b]? = some (.cells #[.int .i64 i, .int .i64 o] 125 (0, 0))) (hi : 0 ≤ i ∧ i ≤ 16777216) (ho : 0 ≤ o ∧ o ≤ 16777216) (hk : 0 ≤ k) (hd : 0 ≤ d) (hn : max k d ≤ 16777216 - i ∧ max k (a.size : Int) ≤ 16777216 - o) :
    Calls Try.prog 103 #[.pointer (some ⟨b, 0, none⟩), .agg #[.int .i64 k, .string a, .int .i64 d]] W fun e W' => e = .returned (.bool true) ∧ W'.heap[b]? = some (.cells #[.int .i64 (i + (k + d)), .int .i64 (o + (k + (a.size : Int)))] 125 (0, 0)) ∧ Only (fun x => x = b) W W' := by
  have c0 : W.cell? ⟨b, 0, none⟩ = some (.int .i64 i) := by rw [Joins.cell_of_block hb]; rfl
  have c1 : W.cell? ⟨b, 1, none⟩ = some (.int .i64 o) := by rw [Joins.cell_of_block hb]; rfl
  have f0 : W.frozen? ⟨b, 0, none⟩ = false := by simp [World.frozen?, hb]
  have f1 : W.frozen? ⟨b, 1, none⟩ = false := by simp [World.frozen?, hb]
  have hlt := lt_of_heap hb
  have HB := hide ((Below.refl W.heap.size W).alloc (Nat.le_refl _) (.cells #[.int .i64 k, .string a, .int .i64 d] 91))
  have d0 : (W.alloc (.cells #[.int .i64 k, .string a, .int .i64 d] 91)).cell? ⟨b, 0, none⟩ = some (.int .i64 i) := (HB.out.cell (p := ⟨b, 0, none⟩) hlt).trans c0
  have d1 : (W.alloc (.cells #[.int .i64 k, .string a, .int .i64 d] 91)).cell? ⟨b, 1, none⟩ = some (.int .i64 o) := (HB.out.cell (p := ⟨b, 1, none⟩) hlt).trans c1
  have g0 : (W.alloc (.cells #[.int .i64 k, .string a, .int .i64 d] 91)).frozen? ⟨b, 0, none⟩ = false := (HB.out.frozen (p := ⟨b, 0, none⟩) hlt).trans f0
  have g1 : (W.alloc (.cells #[.int .i64 k, .string a, .int .i64 d] 91)).frozen? ⟨b, 1, none⟩ = false := (HB.out.frozen (p := ⟨b, 1, none⟩) hlt).trans f1
  have w1 : IntKind.i64.wrap (16777216 - i) = 16777216 - i := by rw [IntKind.wrap_i64]; omega
  have w2 : IntKind.i64.wrap (16777216 - o) = 16777216 - o := by rw [IntKind.wrap_i64]; omega
  have w3 : IntKind.i64.wrap (k + d) = k + d := by rw [IntKind.wrap_i64]; omega
  have w4 : IntKind.i64.wrap (i + (k + d)) = i + (k + d) := by rw [IntKind.wrap_i64]; omega
  have w5 : IntKind.i64.wrap (k + (a.size : Int)) = k + (a.size : Int) := by rw [IntKind.wrap_i64]; omega
  have w6 : IntKind.i64.wrap (o + (k + (a.size : Int))) = o + (k + (a.size : Int)) := by rw [IntKind.wrap_i64]; omega
  have b1 : decide (16777216 - i < max k d) = false := decide_eq_false (by omega)
  have b2 : decide (16777216 - o < max k (a.size : Int)) = false := decide_eq_false (by omega)
  have HBK := hide hb
  have hbn : ¬ b = W.heap.size := by omega
  have hbn' : ¬ W.heap.size = b := by omega
  clear hn hb
  go_enter Try.func103, Try.ntmps103
  go_wp2_with fail
  go_quiet (fail)
  go_wp2_with fail
  have hX : (W.alloc (.cells #[.int .i64 k, .string a, .int .i64 d] 91)).heap[b]? = some (.cells #[.int .i64 i, .int .i64 o] 125 (0, 0)) := (HB.out.block b hlt).trans HBK.out
  have HX := hide hX
  clear hX
  go_cut [] from 5 to 55 (fun wc => Hid (Put (W.alloc (.cells #[.int .i64 k, .string a, .int .i64 d] 91)) b (.int .i64 (i + (k + d))) (.int .i64 o) wc))
  case first =>
    go_region_with (fail)
    all_goals (go_wp2_with fail; go_meet)
    all_goals exact hide (put_one HX.out (by first | exact Only.refl _ _ | exact Only.drewN _ _ _ | exact ⟨rfl, rfl, rfl, Nat.le_refl _, fun _ _ _ => rfl⟩) rfl)
  case rest =>
    have hbw : wc.heap[W.heap.size]? = some (.cells #[.int .i64 k, .string a, .int .i64 d] 91 (0, 0)) := (hcut.out.2.block W.heap.size (by simp) (by omega)).trans (World.alloc_heap_new W _)
    have e0 : wc.cell? ⟨W.heap.size, 0, none⟩ = some (.int .i64 k) := by rw [Joins.cell_of_block hbw]; rfl
    have e1 : wc.cell? ⟨W.heap.size, 1, none⟩ = some (.string a) := by rw [Joins.cell_of_block hbw]; rfl
    have e2 : wc.cell? ⟨b, 1, none⟩ = some (.int .i64 o) := by rw [Joins.cell_of_block hcut.out.1]; rfl
    have e3 : wc.frozen? ⟨b, 1, none⟩ = false := by simp [World.frozen?, hcut.out.1]
    have HCUT := hcut
    clear hbw c0 c1 f0 f1 d0 d1 g0 g1 hcut
    go_wp2_with fail
    go_cut [] from 5 to 55 (fun wd => Hid (Put wc b (.int .i64 (i + (k + d))) (.int .i64 (o + (k + (a.size : Int)))) wd))
    case first =>
      go_region_with (fail)
      all_goals (go_wp2_with fail; go_meet)
      all_goals first
        | exact hide (put_two HCUT.out.1 (Only.refl _ _) rfl)
        | exact hide (put_two HCUT.out.1 (Only.refl _ _) rfl).drew
        | exact hide ((put_two HCUT.out.1 (Only.refl _ _) rfl).drewN _)
        | exact hide (put_two HCUT.out.1 (by first | exact Only.drewN _ _ _ | exact ⟨rfl, rfl, rfl, Nat.le_refl _, fun _ _ _ => rfl⟩) rfl)
        | exact hide (put_two HCUT.out.1 (by first | exact Only.drewN _ _ _ | exact ⟨rfl, rfl, rfl, Nat.le_refl _, fun _ _ _ => rfl⟩) rfl).drew
    case rest =>
      have HC2 := hcut
      clear hcut
      go_wp2
      go_ret
      exact ⟨rfl, HC2.out.1, ((Only.alloc _ W _).trans HCUT.out.2).trans HC2.out.2⟩

end Go.Proofs.Ytpmijaplkbmbiaa.E
