/- frame: a packet's numbers, and whether it is right. -/
import Derived.Test.YtgeboanebdmebabVPuts2
import Derived.Test.YtgeboanebdmebabCSeal
import Derived.WalkKit
import Derived.ProofKit
import Derived.Below
import Derived.RangeFuncRecord
import Derived.Laws.Rows
namespace Go.Proofs.Ytgeboanebdmebab.F
open Go.Proofs.Ytgeboanebdmebab Go.RowKit Go.By
set_option linter.unusedVariables false
set_option linter.unusedSimpArgs false

theorem lt_of_heap {w : World} {g : Nat} {o : Obj} (h : w.heap[g]? = some o) : g < w.heap.size := (Array.getElem?_eq_some_iff.1 h).1
def pkV (a b c : Int) (s : ByteArray) : Value := .agg #[.int .i64 a, .int .i64 b, .int .i64 c, .string s]
def numB (n : Int) : Bool := decide (0 ≤ n) && decide (n ≤ 4611686018427387904)
def goodP (a b c : Int) (s : ByteArray) : Bool := numB a && numB b && numB c && decide (s.size ≤ 65536) && (decide (0 < b) || s.toList.isEmpty)

/-- The packet's own box. -/
def PK (w : World) (a b c : Int) (s : ByteArray) (W : World) : Prop := Below w.heap.size w W ∧ W.heap[w.heap.size]? = some (.cells #[.int .i64 a, .int .i64 b, .int .i64 c, .string s] 23 (0, 0))
theorem pk_cells {W : World} {q : Nat} {x y z s : Value} (h : W.heap[q]? = some (.cells #[x, y, z, s] 23 (0, 0))) : W.cell? ⟨q, 0, none⟩ = some x ∧ W.cell? ⟨q, 1, none⟩ = some y ∧ W.cell? ⟨q, 2, none⟩ = some z ∧ W.cell? ⟨q, 3, none⟩ = some s :=
  ⟨by rw [Joins.cell_of_block h]; rfl, by rw [Joins.cell_of_block h]; rfl, by rw [Joins.cell_of_block h]; rfl, by rw [Joins.cell_of_block h]; rfl⟩
theorem PK.up {w : World} {a b c : Int} {s : ByteArray} {W Y : World} (h : PK w a b c s W) (hb : Below W.heap.size W Y) : PK w a b c s Y := ⟨h.1.trans (hb.mono h.1.size), (hb.block _ (lt_of_heap h.2)).trans h.2⟩
theorem PK.lo {w : World} {a b c : Int} {s : ByteArray} {W : World} (h : PK w a b c s W) : Below w.heap.size w W := h.1
theorem pk_new (w : World) (a b c : Int) (s : ByteArray) : PK w a b c s (w.alloc (.cells #[.int .i64 a, .int .i64 b, .int .i64 c, .string s] 23)) := ⟨(Below.refl _ w).alloc (Nat.le_refl _) _, World.alloc_heap_new w _⟩
theorem PK.cells {w : World} {a b c : Int} {s : ByteArray} {W : World} (h : PK w a b c s W) : W.cell? ⟨w.heap.size, 0, none⟩ = some (.int .i64 a) ∧ W.cell? ⟨w.heap.size, 1, none⟩ = some (.int .i64 b) ∧ W.cell? ⟨w.heap.size, 2, none⟩ = some (.int .i64 c) ∧ W.cell? ⟨w.heap.size, 3, none⟩ = some (.string s) := pk_cells h.2

theorem numbers_any (a b c : Int) (s : ByteArray) (w : World) : Calls Try.prog 10 #[.agg #[.int .i64 a, .int .i64 b, .int .i64 c, .string s]] w fun e W' => e = .returned (.agg #[.int .i64 a, .int .i64 b, .int .i64 c]) ∧ Below w.heap.size w W' := by
  go_enter Try.func10, Try.ntmps10
  go_wp2
  exact bodyPost_ret (results_cell_row rfl _ _ (w.heap.size + 1) 36 _ (0, 0) _ rfl (by have := World.alloc_heap_new (w.alloc (.cells #[.int .i64 a, .int .i64 b, .int .i64 c, .string s] 23)) (.cells #[.int .i64 a, .int .i64 b, .int .i64 c] 36); rwa [World.size_alloc] at this) Try.underlying36 rfl (by kernel_rfl)) rfl ⟨rfl, ((Below.refl _ w).alloc (Nat.le_refl _) _).alloc (by simp) _⟩

theorem rnum_any (n : Int) (w : World) : Calls Try.prog 8 #[.int .i64 n] w fun e W' => e = .returned (.bool (numB n)) ∧ Below w.heap.size w W' := by
  by_cases h1 : 0 ≤ n
  · by_cases h2 : n ≤ 4611686018427387904
    · have HN : Hid (numB n = true) := hide (by rw [numB, decide_eq_true h1, decide_eq_true h2]; rfl)
      go_enter Try.func8, Try.ntmps8
      go_wp2
      go_ret
      exact ⟨by rw [HN.out]; rfl, Below.refl _ _⟩
    · have HN : Hid (numB n = false) := hide (by rw [numB, decide_eq_false h2, Bool.and_false])
      go_enter Try.func8, Try.ntmps8
      go_wp2
      go_ret
      exact ⟨by rw [HN.out]; rfl, Below.refl _ _⟩
  · have HN : Hid (numB n = false) := hide (by rw [numB, decide_eq_false h1]; rfl)
    go_enter Try.func8, Try.ntmps8
    go_wp2
    go_ret
    exact ⟨by rw [HN.out]; rfl, Below.refl _ _⟩

theorem size3 (hb : 3 < Try.prog.types.size) : (Try.prog.types[3]'hb).size = 1 := by
  have h : (Try.prog.types[3]?).map (fun i => i.size) = some 1 := by kernel_rfl
  rw [Array.getElem?_eq_getElem hb] at h
  simpa using h
theorem run_ix0 (x y z : Value) (w : World) : Sem.run Try.prog (Instr.index 36 (.agg #[x, y, z]) (.int .i64 0)) w = .ok x w := by
  kernel_rfl
theorem run_ix1 (x y z : Value) (w : World) : Sem.run Try.prog (Instr.index 36 (.agg #[x, y, z]) (.int .i64 1)) w = .ok y w := by
  kernel_rfl
theorem run_ix2 (x y z : Value) (w : World) : Sem.run Try.prog (Instr.index 36 (.agg #[x, y, z]) (.int .i64 2)) w = .ok z w := by
  kernel_rfl

def nth3 (a b c : Int) : Nat → Int
  | 0 => a
  | 1 => b
  | _ => c

set_option maxRecDepth 20000 in
set_option maxHeartbeats 4000000 in
theorem good_any (a b c : Int) (s : ByteArray) (w : World) : Calls Try.prog 9 #[.agg #[.int .i64 a, .int .i64 b, .int .i64 c, .string s]] w fun e W' => e = .returned (.bool (goodP a b c s)) ∧ Below w.heap.size w W' := by
  have HX := hide (pk_new w a b c s)
  go_enter Try.func9, Try.ntmps9
  go_wp2_with (go_at_call 10; refine (numbers_any a b c s _).mono ?_; rintro e W1 ⟨rfl, hb⟩; have HX1 := hide (HX.out.up hb); clear hb)
  go_loopw [7] (fun s7 wr => ∃ k : Nat, s7 = .int .i64 (k : Int) ∧ k ≤ 3 ∧ (∀ j, j < k → numB (nth3 a b c j) = true) ∧ Hid (PK w a b c s wr)) (fun s7 _ => 3 - (intOf s7).toNat)
  case atStart => exact ⟨0, rfl, by omega, fun j hj => by omega, HX1⟩
  case round =>
    obtain ⟨k, rfl, hk, hall, HI⟩ := hrel
    have hks : k = 0 ∨ k = 1 ∨ k = 2 ∨ k = 3 := by omega
    clear hk
    rcases hks with hk0 | hk1 | hk2 | hk3
    · subst hk0
      have hix := run_ix0 (.int .i64 a) (.int .i64 b) (.int .i64 c)
      by_cases n1 : a < 0
      · have HV : Hid (goodP a b c s = false) := hide (by rw [goodP]; have : numB a = false := by { rw [numB, decide_eq_false (by omega)]; rfl }
                                                          rw [this]; simp)
        clear hall
        go_wp2
        go_ret
        exact ⟨by rw [HV.out]; rfl, HI.out.lo⟩
      · by_cases n2 : 4611686018427387904 < a
        · have HV : Hid (goodP a b c s = false) := hide (by rw [goodP]; have : numB a = false := by { rw [numB, decide_eq_false (by omega : ¬ a ≤ 4611686018427387904), Bool.and_false] }
                                                            rw [this]; simp)
          clear hall
          go_wp2
          go_ret
          exact ⟨by rw [HV.out]; rfl, HI.out.lo⟩
        · have HV : Hid (∀ j, j < 1 → numB (nth3 a b c j) = true) := hide fun j hj => by
            by_cases h : j = 0
            · subst h; show numB a = true; rw [numB, decide_eq_true (by omega), decide_eq_true (by omega)]; rfl
            · exact hall j (by omega)
          clear hall
          go_wp2
          go_roundw
          case rel => exact ⟨1, rfl, by decide, HV.out, HI⟩
          case measure => simp [intOf]
    · subst hk1
      have hix := run_ix1 (.int .i64 a) (.int .i64 b) (.int .i64 c)
      by_cases n1 : b < 0
      · have HV : Hid (goodP a b c s = false) := hide (by rw [goodP]; have : numB b = false := by { rw [numB, decide_eq_false (by omega)]; rfl }
                                                          rw [this]; simp)
        clear hall
        go_wp2
        go_ret
        exact ⟨by rw [HV.out]; rfl, HI.out.lo⟩
      · by_cases n2 : 4611686018427387904 < b
        · have HV : Hid (goodP a b c s = false) := hide (by rw [goodP]; have : numB b = false := by { rw [numB, decide_eq_false (by omega : ¬ b ≤ 4611686018427387904), Bool.and_false] }
                                                            rw [this]; simp)
          clear hall
          go_wp2
          go_ret
          exact ⟨by rw [HV.out]; rfl, HI.out.lo⟩
        · have HV : Hid (∀ j, j < 2 → numB (nth3 a b c j) = true) := hide fun j hj => by
            by_cases h : j = 1
            · subst h; show numB b = true; rw [numB, decide_eq_true (by omega), decide_eq_true (by omega)]; rfl
            · exact hall j (by omega)
          clear hall
          go_wp2
          go_roundw
          case rel => exact ⟨2, rfl, by decide, HV.out, HI⟩
          case measure => simp [intOf]
    · subst hk2
      have hix := run_ix2 (.int .i64 a) (.int .i64 b) (.int .i64 c)
      by_cases n1 : c < 0
      · have HV : Hid (goodP a b c s = false) := hide (by rw [goodP]; have : numB c = false := by { rw [numB, decide_eq_false (by omega)]; rfl }
                                                          rw [this]; simp)
        clear hall
        go_wp2
        go_ret
        exact ⟨by rw [HV.out]; rfl, HI.out.lo⟩
      · by_cases n2 : 4611686018427387904 < c
        · have HV : Hid (goodP a b c s = false) := hide (by rw [goodP]; have : numB c = false := by { rw [numB, decide_eq_false (by omega : ¬ c ≤ 4611686018427387904), Bool.and_false] }
                                                            rw [this]; simp)
          clear hall
          go_wp2
          go_ret
          exact ⟨by rw [HV.out]; rfl, HI.out.lo⟩
        · have HV : Hid (∀ j, j < 3 → numB (nth3 a b c j) = true) := hide fun j hj => by
            by_cases h : j = 2
            · subst h; show numB c = true; rw [numB, decide_eq_true (by omega), decide_eq_true (by omega)]; rfl
            · exact hall j (by omega)
          clear hall
          go_wp2
          go_roundw
          case rel => exact ⟨3, rfl, by decide, HV.out, HI⟩
          case measure => simp [intOf]
    · subst hk3
      have ha := hall 0 (by decide)
      have hb := hall 1 (by decide)
      have hc := hall 2 (by decide)
      have HV : Hid (goodP a b c s = (decide (s.size ≤ 65536) && (decide (0 < b) || s.toList.isEmpty))) := hide (by
        rw [goodP, show numB a = true from ha, show numB b = true from hb, show numB c = true from hc]; rfl)
      obtain ⟨c0, c1, c2, c3⟩ := HI.out.cells
      clear hall ha hb hc
      by_cases h1 : s.size ≤ 65536
      · have h1' : (s.size : Int) ≤ 65536 := by omega
        by_cases h2 : 0 < b
        · have HV2 : Hid (goodP a b c s = true) := hide (by rw [HV.out, decide_eq_true h1, decide_eq_true h2]; rfl)
          go_wp2
          go_ret
          exact ⟨by rw [HV2.out]; rfl, HI.out.lo⟩
        · have HV2 : Hid (goodP a b c s = s.toList.isEmpty) := hide (by rw [HV.out, decide_eq_true h1, decide_eq_false h2]; simp)
          go_wp2
          go_ret
          exact ⟨by rw [HV2.out]; rfl, HI.out.lo⟩
      · have h1' : ¬ (s.size : Int) ≤ 65536 := by omega
        have HV2 : Hid (goodP a b c s = false) := hide (by rw [HV.out, decide_eq_false h1]; rfl)
        go_wp2
        go_ret
        exact ⟨by rw [HV2.out]; rfl, HI.out.lo⟩

set_option maxRecDepth 20000 in
set_option maxHeartbeats 4000000 in
theorem rgood_any (a b c : Int) (s : ByteArray) (w : World) : Calls Try.prog 4 #[.agg #[.int .i64 a, .int .i64 b, .int .i64 c, .string s]] w fun e W' => e = .returned (.bool (goodP a b c s)) ∧ Below w.heap.size w W' := by
  have hx := pk_new w a b c s
  obtain ⟨c0, c1, c2, c3⟩ := hx.cells
  have HX := hide hx
  have HA : Hid (∀ W, Calls Try.prog 8 #[.int .i64 a] W fun e W' => e = .returned (.bool (numB a)) ∧ Below W.heap.size W W') := hide (rnum_any a)
  have HB : Hid (∀ W, Calls Try.prog 8 #[.int .i64 b] W fun e W' => e = .returned (.bool (numB b)) ∧ Below W.heap.size W W') := hide (rnum_any b)
  have HC : Hid (∀ W, Calls Try.prog 8 #[.int .i64 c] W fun e W' => e = .returned (.bool (numB c)) ∧ Below W.heap.size W W') := hide (rnum_any c)
  have HV : Hid (goodP a b c s = (numB a && numB b && numB c && decide (s.size ≤ 65536) && (decide (0 < b) || s.toList.isEmpty))) := hide rfl
  clear hx
  generalize numB a = na at *
  generalize numB b = nb at *
  generalize numB c = nc at *
  cases na with
  | false =>
    have HV2 : Hid (goodP a b c s = false) := hide (by rw [HV.out]; simp)
    go_enter Try.func4, Try.ntmps4
    go_wp2_with (go_at_call 8; refine (HA.out _).mono ?_; rintro e W1 ⟨rfl, hb⟩; have HX1 := hide (HX.out.up hb); obtain ⟨d0, d1, d2, d3⟩ := HX1.out.cells; clear hb)
    go_ret
    exact ⟨by rw [HV2.out]; rfl, HX1.out.lo⟩
  | true =>
    cases nb with
    | false =>
      have HV2 : Hid (goodP a b c s = false) := hide (by rw [HV.out]; simp)
      go_enter Try.func4, Try.ntmps4
      go_wp2_with (first
        | (go_at_call 8; refine (HA.out _).mono ?_; rintro e W1 ⟨rfl, hb⟩; have HX1 := hide (HX.out.up hb); obtain ⟨d0, d1, d2, d3⟩ := HX1.out.cells; clear hb HA)
        | (go_at_call 8; refine (HB.out _).mono ?_; rintro e W2 ⟨rfl, hb⟩; have HX2 := hide (HX1.out.up hb); obtain ⟨e0, e1, e2, e3⟩ := HX2.out.cells; clear hb HB))
      go_ret
      exact ⟨by rw [HV2.out]; rfl, HX2.out.lo⟩
    | true =>
      cases nc with
      | false =>
        have HV2 : Hid (goodP a b c s = false) := hide (by rw [HV.out]; simp)
        go_enter Try.func4, Try.ntmps4
        go_wp2_with (first
          | (go_at_call 8; refine (HA.out _).mono ?_; rintro e W1 ⟨rfl, hb⟩; have HX1 := hide (HX.out.up hb); obtain ⟨d0, d1, d2, d3⟩ := HX1.out.cells; clear hb HA)
          | (go_at_call 8; refine (HB.out _).mono ?_; rintro e W2 ⟨rfl, hb⟩; have HX2 := hide (HX1.out.up hb); obtain ⟨e0, e1, e2, e3⟩ := HX2.out.cells; clear hb HB)
          | (go_at_call 8; refine (HC.out _).mono ?_; rintro e W3 ⟨rfl, hb⟩; have HX3 := hide (HX2.out.up hb); obtain ⟨f0, f1, f2, f3⟩ := HX3.out.cells; clear hb HC))
        go_ret
        exact ⟨by rw [HV2.out]; rfl, HX3.out.lo⟩
      | true =>
        have HV1 : Hid (goodP a b c s = (decide (s.size ≤ 65536) && (decide (0 < b) || s.toList.isEmpty))) := hide (by rw [HV.out]; rfl)
        by_cases h1 : s.size ≤ 65536
        · have h1' : (s.size : Int) ≤ 65536 := by omega
          by_cases h2 : 0 < b
          · skip
            have HV2 : Hid (goodP a b c s = true) := hide (by rw [HV1.out, decide_eq_true h1, decide_eq_true h2]; rfl)
            go_enter Try.func4, Try.ntmps4
            go_wp2_with (first
          | (go_at_call 8; refine (HA.out _).mono ?_; rintro e W1 ⟨rfl, hb⟩; have HX1 := hide (HX.out.up hb); obtain ⟨d0, d1, d2, d3⟩ := HX1.out.cells; clear hb HA)
          | (go_at_call 8; refine (HB.out _).mono ?_; rintro e W2 ⟨rfl, hb⟩; have HX2 := hide (HX1.out.up hb); obtain ⟨e0, e1, e2, e3⟩ := HX2.out.cells; clear hb HB)
          | (go_at_call 8; refine (HC.out _).mono ?_; rintro e W3 ⟨rfl, hb⟩; have HX3 := hide (HX2.out.up hb); obtain ⟨f0, f1, f2, f3⟩ := HX3.out.cells; clear hb HC))
            go_ret
            exact ⟨by rw [HV2.out]; rfl, HX3.out.lo⟩
          · skip
            have HV2 : Hid (goodP a b c s = (decide (0 < b) || s.toList.isEmpty)) := hide (by rw [HV1.out, decide_eq_true h1]; simp)
            go_enter Try.func4, Try.ntmps4
            go_wp2_with (first
          | (go_at_call 8; refine (HA.out _).mono ?_; rintro e W1 ⟨rfl, hb⟩; have HX1 := hide (HX.out.up hb); obtain ⟨d0, d1, d2, d3⟩ := HX1.out.cells; clear hb HA)
          | (go_at_call 8; refine (HB.out _).mono ?_; rintro e W2 ⟨rfl, hb⟩; have HX2 := hide (HX1.out.up hb); obtain ⟨e0, e1, e2, e3⟩ := HX2.out.cells; clear hb HB)
          | (go_at_call 8; refine (HC.out _).mono ?_; rintro e W3 ⟨rfl, hb⟩; have HX3 := hide (HX2.out.up hb); obtain ⟨f0, f1, f2, f3⟩ := HX3.out.cells; clear hb HC))
            go_ret
            exact ⟨by rw [HV2.out]; rfl, HX3.out.lo⟩
        · have h1' : ¬ (s.size : Int) ≤ 65536 := by omega
          have HV2 : Hid (goodP a b c s = false) := hide (by rw [HV1.out, decide_eq_false h1]; rfl)
          go_enter Try.func4, Try.ntmps4
          go_wp2_with (first
          | (go_at_call 8; refine (HA.out _).mono ?_; rintro e W1 ⟨rfl, hb⟩; have HX1 := hide (HX.out.up hb); obtain ⟨d0, d1, d2, d3⟩ := HX1.out.cells; clear hb HA)
          | (go_at_call 8; refine (HB.out _).mono ?_; rintro e W2 ⟨rfl, hb⟩; have HX2 := hide (HX1.out.up hb); obtain ⟨e0, e1, e2, e3⟩ := HX2.out.cells; clear hb HB)
          | (go_at_call 8; refine (HC.out _).mono ?_; rintro e W3 ⟨rfl, hb⟩; have HX3 := hide (HX2.out.up hb); obtain ⟨f0, f1, f2, f3⟩ := HX3.out.cells; clear hb HC))
          go_ret
          exact ⟨by rw [HV2.out]; rfl, HX3.out.lo⟩

end Go.Proofs.Ytgeboanebdmebab.F
