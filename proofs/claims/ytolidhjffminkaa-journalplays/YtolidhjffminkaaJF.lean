/- journal: the example; a journal that no call made. -/
import Derived.Test.YtolidhjffminkaaJE
namespace Go.Proofs.Ytolidhjffminkaa.J
open Go.Proofs.Ytolidhjffminkaa Go.RowKit Go.By
set_option linter.unusedVariables false
set_option linter.unusedSimpArgs false
attribute [local go_sem ↓] Go.wp_at_zero Go.wp_at_succ

/-- A journal of one's own. -/
def Jn (w0 W : World) (j g most : Nat) (r : Option Nat) (base : Nat) (tx : List ByteArray) : Prop := JIs W w0.heap.size j g most r base (tx.map Value.string) ∧ Below w0.heap.size w0 W
theorem Jn.turn {w0 W W' : World} {j g most base base' : Nat} {r r' : Option Nat} {tx ty : List ByteArray} (h : Jn w0 W j g most r base tx) (hj : JIs W' w0.heap.size j g most r' base' (ty.map Value.string)) (ht : TurnJ j g r r' W W') : Jn w0 W' j g most r' base' ty :=
  ⟨hj, h.2.trans (ht.below h.2.size h.1.1 h.1.2.2.lt.1 fun k hk => (h.1.2.2.room k hk).1)⟩
theorem Jn.drewN {w0 W : World} {j g most base : Nat} {r : Option Nat} {tx : List ByteArray} (h : Jn w0 W j g most r base tx) (q : Nat) : Jn w0 (W.drewN q) j g most r base tx := ⟨h.1.drewN q, below_drewN h.2 q⟩
theorem Jn.up {w0 W W' : World} {j g most base : Nat} {r : Option Nat} {tx : List ByteArray} (h : Jn w0 W j g most r base tx) (hb : Below W.heap.size W W') : Jn w0 W' j g most r base tx :=
  ⟨(h.1.seen.below hb).1, h.2.trans (hb.mono h.2.size)⟩
theorem Jn.new (most : Nat) (h1 : 1 ≤ most) (h2 : most ≤ 1024) (w : World) : Calls Try.prog 7 #[.int .i64 (most : Int)] w fun e W' => e = .returned (.pointer (some ⟨w.heap.size + 1, 0, none⟩)) ∧ Jn w W' (w.heap.size + 1) w.heap.size most none 0 [] := by
  refine (new_any most h1 h2 w).mono ?_
  rintro e W' ⟨he, hj, hb⟩
  exact ⟨he, hj, hb⟩
theorem Jn.append {w0 W : World} {j g most base : Nat} {r : Option Nat} {tx : List ByteArray} (x : ByteArray) (h : Jn w0 W j g most r base tx) (hb : base ≤ 1000000) (hl : tx.length < most) :
    Calls Try.prog 10 #[.pointer (some ⟨j, 0, none⟩), .string x] W fun e W' => e = .returned (.tuple #[.int .i64 ((base + tx.length + 1 : Nat) : Int), .int .i64 0]) ∧ ∃ r', Jn w0 W' j g most r' base (tx ++ [x]) := by
  refine (append_ok x h.1 h.2.size hb (by rw [List.length_map]; exact hl)).mono ?_
  rintro e W' ⟨he, r', hj, ht⟩
  rw [List.length_map] at he
  exact ⟨he, r', h.turn (by rw [List.map_append]; exact hj) ht⟩
theorem Jn.full {w0 W : World} {j g most base : Nat} {r : Option Nat} {tx : List ByteArray} (x : ByteArray) (h : Jn w0 W j g most r base tx) (hl : tx.length = most) :
    Calls Try.prog 10 #[.pointer (some ⟨j, 0, none⟩), .string x] W fun e W' => e = .returned (.tuple #[.int .i64 0, .int .i64 31]) ∧ Jn w0 W' j g most r base tx := by
  refine (append_full x h.1 (by rw [List.length_map]; exact hl)).mono ?_
  rintro e W' ⟨he, q, rfl⟩
  exact ⟨he, h.drewN q⟩
theorem Jn.trim {w0 W : World} {j g most base : Nat} {r : Option Nat} {tx : List ByteArray} (k : Nat) (h : Jn w0 W j g most r base tx) (hb : base ≤ 1000000) (h1 : 1 ≤ k) (h2 : k ≤ tx.length) :
    Calls Try.prog 8 #[.pointer (some ⟨j, 0, none⟩), .int .i64 ((base + k : Nat) : Int)] W fun e W' => e = .returned (.int .i64 (k : Int)) ∧ Jn w0 W' j g most r (base + k) (tx.drop k) := by
  refine (trim_some k h.1 hb h1 (by rw [List.length_map]; exact h2)).mono ?_
  rintro e W' ⟨he, hj, ht⟩
  exact ⟨he, h.turn (by rw [List.map_drop]; exact hj) ht⟩
theorem Jn.since {w0 W : World} {j g most base : Nat} {r : Option Nat} {tx : List ByteArray} (i0 : Nat) (h : Jn w0 W j g most r base tx) (hb : base ≤ 1000000) (hi : i0 ≤ tx.length) :
    Calls Try.prog 14 #[.pointer (some ⟨j, 0, none⟩), .int .i64 ((base + i0 : Nat) : Int)] W fun e W' => (∃ a cap, e = .returned (.tuple #[.slice a (tx.drop i0).length cap, .int .i64 0]) ∧ LS W' a (tx.drop i0)) ∧ Jn w0 W' j g most r base tx := by
  refine (since_ok i0 h.1 hb hi).mono ?_
  rintro e W' ⟨v, he, hr, hb2⟩
  obtain ⟨a, cap, rfl, hl⟩ := row_ls hr
  exact ⟨⟨a, cap, he, hl⟩, h.up hb2⟩

theorem one_ls (W : World) (x : ByteArray) : LS (W.alloc (.cells #[.string x] 9)) (some ⟨W.heap.size, 0, none⟩) [x] := by
  refine .inr ⟨W.heap.size, 0, rfl, fun i hi => ?_⟩
  have : i = 0 := by simp at hi; omega
  subst this
  rw [Joins.cell_of_block (World.alloc_heap_new W _)]
  rfl

set_option maxHeartbeats 2000000 in
theorem lives_any (w : World) : Calls Try.prog 6 #[] w fun e W' => e = .returned (.bool true) ∧ Below w.heap.size w W' := by
  have HN := hide (Jn.new 5 (by omega) (by omega) w)
  go_enter Try.func6, Try.ntmps6
  go_wp2_with (first
    | (go_at_call 7; refine HN.out.mono ?_; rintro e W0 ⟨rfl, h⟩; have H0 := hide h; clear h HN)
    | (go_at_call 10; refine (H0.out.append ⟨#[97]⟩ (by omega) (by decide)).mono ?_; rintro e W1 ⟨rfl, r1, h⟩; have H1 := hide h; clear h H0)
    | (go_at_call 10; refine (H1.out.append ⟨#[98]⟩ (by omega) (by decide)).mono ?_; rintro e W2 ⟨rfl, r2, h⟩; have H2 := hide h; clear h H1)
    | (go_at_call 10; refine (H2.out.append ⟨#[99]⟩ (by omega) (by decide)).mono ?_; rintro e W3 ⟨rfl, r3, h⟩; have H3 := hide h; clear h H2)
    | (go_at_call 8; refine (H3.out.trim 1 (by omega) (by omega) (by decide)).mono ?_; rintro e W4 ⟨rfl, h⟩; have H4 := hide h; have H4b := hide h.1; clear h H3)
    | (go_at_call 14; refine (since_old 0 H4b.out (by decide)).mono ?_; rintro e W5 ⟨rfl, hw⟩; subst hw; clear H4b)
    | (go_at_call 14; refine (H4.out.since 1 (by omega) (by decide)).mono ?_; rintro e W6 ⟨⟨a6, c6, rfl, hl⟩, h⟩; have H6 := hide h; have HL6 := hide hl; clear h hl H4)
    | (go_at_call 16; refine (texts_same _ _ [⟨#[99]⟩] 1 _ _ _ rfl (by omega) (HL6.out.block ((Below.refl _ W6).alloc (Nat.le_refl _) _)) (one_ls W6 _)).mono ?_; rintro e W7 ⟨rfl, q, rfl⟩; have H7 := hide ((H6.out.up ((Below.refl _ W6).alloc (Nat.le_refl _) (.cells #[.string ⟨#[99]⟩] 9))).drewN q)))
  go_ret
  exact ⟨rfl, H7.out.2⟩
end Go.Proofs.Ytolidhjffminkaa.J
