/- journal: what is appended and taken out. -/
import Derived.Test.YtolidhjffminkaaJA
namespace Go.Proofs.Ytolidhjffminkaa.J
open Go.Proofs.Ytolidhjffminkaa Go.RowKit Go.By
set_option linter.unusedVariables false
set_option linter.unusedSimpArgs false
attribute [local go_sem ↓] Go.wp_at_zero Go.wp_at_succ

/-- A journal that no call made: nil, or all zero. -/
def Nob (w : World) (p : Option Addr) : Prop := p = none ∨ ∃ j, p = some ⟨j, 0, none⟩ ∧ w.heap[j]? = some (.cells #[.pointer none, .int .i64 0] 51 (0, 0))
theorem none_nob {w : World} {p : Option Addr} (h : Nob w p) : Calls Try.prog 19 #[.pointer p] w fun e W' => e = .returned (.bool true) ∧ W' = w := by
  rcases h with rfl | ⟨j, rfl, h⟩
  · exact none_nil w
  · exact none_zero j w h
theorem base_nob {w : World} {p : Option Addr} (h : Nob w p) : Calls Try.prog 12 #[.pointer p] w fun e W' => e = .returned (.int .i64 0) ∧ W' = w := by
  have HN := hide (none_nob h)
  go_enter Try.func12, Try.ntmps12
  go_wp2_with (go_at_call 19; refine HN.out.mono ?_; rintro e W1 ⟨rfl, hw⟩; subst hw)
  go_ret
  exact ⟨rfl, rfl⟩
theorem head_nob {w : World} {p : Option Addr} (h : Nob w p) : Calls Try.prog 13 #[.pointer p] w fun e W' => e = .returned (.int .i64 0) ∧ W' = w := by
  have HN := hide (none_nob h)
  go_enter Try.func13, Try.ntmps13
  go_wp2_with (go_at_call 19; refine HN.out.mono ?_; rintro e W1 ⟨rfl, hw⟩; subst hw)
  go_ret
  exact ⟨rfl, rfl⟩
theorem append_nob {w : World} {p : Option Addr} (x : ByteArray) (h : Nob w p) : Calls Try.prog 10 #[.pointer p, .string x] w fun e W' => e = .returned (.tuple #[.int .i64 0, .int .i64 1]) ∧ W' = w := by
  have HN := hide (none_nob h)
  go_enter Try.func10, Try.ntmps10
  go_wp2_with (go_at_call 19; refine HN.out.mono ?_; rintro e W1 ⟨rfl, hw⟩; subst hw)
  go_ret2
  exact ⟨rfl, rfl⟩
theorem since_nob {w : World} {p : Option Addr} (n : Int) (h : Nob w p) : Calls Try.prog 14 #[.pointer p, .int .i64 n] w fun e W' => e = .returned (.tuple #[.slice none 0 0, .int .i64 1]) ∧ W' = w := by
  have HN := hide (none_nob h)
  go_enter Try.func14, Try.ntmps14
  go_wp2_with (go_at_call 19; refine HN.out.mono ?_; rintro e W1 ⟨rfl, hw⟩; subst hw)
  go_ret2
  exact ⟨rfl, rfl⟩
theorem trim_nob {w : World} {p : Option Addr} (n : Int) (h : Nob w p) : Calls Try.prog 8 #[.pointer p, .int .i64 n] w fun e W' => e = .returned (.int .i64 0) ∧ W' = w := by
  have HB := hide (base_nob h)
  have HH := hide (head_nob h)
  by_cases hn : n ≤ 0
  · go_enter Try.func8, Try.ntmps8
    go_wp2_with (go_at_call 12; refine HB.out.mono ?_; rintro e W1 ⟨rfl, hw⟩; subst hw)
    go_ret
    exact ⟨rfl, rfl⟩
  · have hn' : 0 < n := by omega
    go_enter Try.func8, Try.ntmps8
    go_wp2_with (first
      | (go_at_call 12; refine HB.out.mono ?_; rintro e W1 ⟨rfl, hw⟩; subst hw)
      | (go_at_call 13; refine HH.out.mono ?_; rintro e W1 ⟨rfl, hw⟩; subst hw))
    go_ret
    exact ⟨rfl, rfl⟩

theorem append_ok {w : World} {B j g most : Nat} {r : Option Nat} {base : Nat} {xs : List Value} (x : ByteArray) (h : JIs w B j g most r base xs) (hB : B ≤ w.heap.size) (hb : base ≤ 1000000) (hl : xs.length < most) :
    Calls Try.prog 10 #[.pointer (some ⟨j, 0, none⟩), .string x] w fun e W' => e = .returned (.tuple #[.int .i64 ((base + xs.length + 1 : Nat) : Int), .int .i64 0]) ∧ ∃ r', JIs W' B j g most r' base (xs ++ [.string x]) ∧ TurnJ j g r r' w W' := by
  obtain ⟨c0, c1⟩ := h.cells
  have HN := hide (none_j h)
  have HP := hide (push_ok_str B g most r xs x w h.2.2 hB hl)
  have HJ := hide h
  have hbb := hide hb
  clear h hB hl hb
  go_enter Try.func10, Try.ntmps10
  go_wp2_with (first
    | (go_at_call 19; refine HN.out.mono ?_; rintro e W1 ⟨rfl, hw⟩; subst hw; clear HN)
    | (go_at_call 20; refine HP.out.mono ?_; rintro e W2 ⟨rfl, r', hr, ht⟩; have HJ2 := hide (HJ.out.turned hr ht); have HT2 := hide (TurnJ.of (j := j) ht); clear HP hr ht)
    | (go_at_call 13; refine (head_j HJ2.out hbb.out).mono ?_; rintro e W3 ⟨rfl, q, rfl⟩))
  go_ret2
  refine ⟨?_, r', HJ2.out.drewN q, HT2.out.trans (TurnJ.drewN ..)⟩
  simp only [Array.getD_eq_getD_getElem?, List.getElem?_toArray]
  show Ending.returned (Value.tuple #[.int .i64 ((base : Int) + ((xs.length : Int) + 1)), .int .i64 0]) = _
  rw [show ((base : Int) + ((xs.length : Int) + 1)) = ((base + xs.length + 1 : Nat) : Int) by omega]
theorem append_full {w : World} {B j g most : Nat} {r : Option Nat} {base : Nat} {xs : List Value} (x : ByteArray) (h : JIs w B j g most r base xs) (hl : xs.length = most) :
    Calls Try.prog 10 #[.pointer (some ⟨j, 0, none⟩), .string x] w fun e W' => e = .returned (.tuple #[.int .i64 0, .int .i64 31]) ∧ ∃ q, W' = w.drewN q := by
  obtain ⟨c0, c1⟩ := h.cells
  have HN := hide (none_j h)
  have HP := hide (push_full_str B g most r xs x w h.2.2 hl)
  clear h hl
  go_enter Try.func10, Try.ntmps10
  go_wp2_with (first
    | (go_at_call 19; refine HN.out.mono ?_; rintro e W1 ⟨rfl, hw⟩; subst hw; clear HN)
    | (go_at_call 20; refine HP.out.mono ?_; rintro e W2 ⟨rfl, q, rfl⟩; clear HP))
  go_ret2
  exact ⟨rfl, q, rfl⟩

theorem trim_none {w : World} {B j g most : Nat} {r : Option Nat} {base : Nat} {xs : List Value} (n : Int) (h : JIs w B j g most r base xs) (hb : base ≤ 1000000) (hn : n ≤ base ∨ (base + xs.length : Nat) < n) :
    Calls Try.prog 8 #[.pointer (some ⟨j, 0, none⟩), .int .i64 n] w fun e W' => e = .returned (.int .i64 0) ∧ ∃ q, W' = w.drewN q := by
  have HB := hide (base_j h)
  have HH := hide (head_j h hb)
  clear h
  by_cases h1 : n ≤ base
  · clear hn
    go_enter Try.func8, Try.ntmps8
    go_wp2_with (go_at_call 12; refine HB.out.mono ?_; rintro e W1 ⟨rfl, hw⟩; subst hw)
    go_ret
    exact ⟨rfl, 0, rfl⟩
  · have h2 : ((base + xs.length : Nat) : Int) < n := by omega
    have h1' : (base : Int) < n := by omega
    generalize base + xs.length = hd at *
    clear hn h1
    go_enter Try.func8, Try.ntmps8
    go_wp2_with (first
      | (go_at_call 12; refine HB.out.mono ?_; rintro e W1 ⟨rfl, hw⟩; subst hw)
      | (go_at_call 13; refine HH.out.mono ?_; rintro e W1 ⟨rfl, q, rfl⟩))
    go_ret
    exact ⟨rfl, q, rfl⟩
end Go.Proofs.Ytolidhjffminkaa.J
