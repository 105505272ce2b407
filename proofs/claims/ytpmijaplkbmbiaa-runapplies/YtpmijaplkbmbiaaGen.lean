/- The buffer, lent or not: what a step leaves. -/
import Derived.Test.YtpmijaplkbmbiaaBuf2
namespace Go.Proofs.Ytpmijaplkbmbiaa
open Go.RowKit Go.By Go.Shelf
set_option linter.unusedVariables false

/-- What a step leaves, and what it turned. -/
def GStep (B g : Nat) (sv : Value) (lent : Bool) (ps' : List ByteArray) (W W' : World) : Prop :=
  ∃ sv' lent', BufIs W' B g sv' lent' ps' ∧ ((W' = W ∧ sv' = sv ∧ lent' = lent) ∨ (lent' = false ∧ Chg g sv sv' lent W W'))

theorem change_gen {W : World} {B g : Nat} {ps : List ByteArray} {sv : Value} {lent : Bool} {s : ByteArray} {n k : Nat} (hB : B ≤ W.heap.size) (h : BufIs W B g sv lent ps) (hn : n + k ≤ tot ps) (hs : tot ps - k + s.size ≤ 16777216) (hl : ps.length ≤ 900000) :
    Calls Try.prog 86 #[.pointer (some ⟨g, 0, none⟩), .int .i64 (n : Int), .int .i64 (k : Int), .string s] W fun e W' => e = .returned (.tuple #[]) ∧ GStep B g sv lent (chgAt ps n k s) W W' := by
  by_cases h0 : k = 0 ∧ s.size = 0
  · obtain ⟨rfl, hs0⟩ := h0
    refine (change_none _ _ s W hs0).mono ?_
    rintro e W' ⟨rfl, rfl⟩
    exact ⟨rfl, sv, lent, by unfold chgAt; rw [if_pos ⟨rfl, hs0⟩]; exact h, .inl ⟨rfl, rfl, rfl⟩⟩
  · refine (change_work hB h hn hs hl (fun e e2 => h0 ⟨e, e2⟩)).mono ?_
    rintro e W' ⟨rfl, sv', h', hc⟩
    exact ⟨rfl, sv', false, by unfold chgAt; rw [if_neg h0]; exact h', .inr ⟨rfl, hc⟩⟩

/-- What Insert answers. -/
def InsOutG (B g : Nat) (sv : Value) (lent : Bool) (ps : List ByteArray) (s : ByteArray) (at_ : Int) (W : World) (e : Ending) (W' : World) : Prop := ∃ r : Int, e = .returned (.int .i64 r) ∧
      ((0 ≤ at_ ∧ at_ ≤ tot ps ∧ tot ps + s.size ≤ 16777216 ∧ r = 0 ∧ GStep B g sv lent (chgAt ps at_.toNat 0 s) W W') ∨
       (¬ (0 ≤ at_ ∧ at_ ≤ tot ps) ∧ r = 30 ∧ W' = W) ∨ (0 ≤ at_ ∧ at_ ≤ tot ps ∧ ¬ (tot ps + s.size ≤ 16777216) ∧ r = 31 ∧ W' = W))

set_option maxRecDepth 20000 in
set_option maxHeartbeats 1000000 in
theorem insert_gen {W : World} {B g : Nat} {ps : List ByteArray} {sv : Value} {lent : Bool} (s : ByteArray) (at_ : Int) (hB : B ≤ W.heap.size) (h : BufIs W B g sv lent ps) (hl : ps.length ≤ 900000) (hs : s.size ≤ 1000000000) :
    Calls Try.prog 30 #[.pointer (some ⟨g, 0, none⟩), .int .i64 at_, .string s] W (InsOutG B g sv lent ps s at_ W) := by
  have c0 := h.c0
  have c2 := h.c2
  have htt := h.small
  have w1 : IntKind.i64.wrap (16777216 - (tot ps : Int)) = 16777216 - (tot ps : Int) := by rw [IntKind.wrap_i64]; omega
  by_cases h1 : 0 ≤ at_ ∧ at_ ≤ tot ps
  · obtain ⟨n, rfl⟩ : ∃ n : Nat, at_ = n := ⟨at_.toNat, by omega⟩
    have i1 : ¬ (n : Int) < 0 := by omega
    have i2 : n ≤ tot ps := by omega
    by_cases h2 : tot ps + s.size ≤ 16777216
    · have hc := change_gen (n := n) (k := 0) (s := s) hB h (by omega) (by omega) hl
      have i3 : ¬ (16777216 - (tot ps : Int) < (s.size : Int)) := by omega
      clear h h1
      go_enter Try.func30, Try.ntmps30
      go_wp2_with (go_at_call 86; refine hc.mono ?_; rintro e w' ⟨rfl, hst⟩; have HS := hide hst; clear hst hc)
      go_ret
      exact ⟨0, rfl, .inl ⟨by omega, by omega, h2, rfl, HS.out⟩⟩
    · have i3 : (16777216 - (tot ps : Int) < (s.size : Int)) := by omega
      clear h h1
      go_enter Try.func30, Try.ntmps30
      go_wp2
      go_ret
      exact ⟨31, rfl, .inr (.inr ⟨by omega, by omega, h2, rfl, rfl⟩)⟩
  · have H1 := hide h1
    clear h
    by_cases i1 : at_ < 0
    · clear h1
      go_enter Try.func30, Try.ntmps30
      go_wp2
      go_ret
      exact ⟨30, rfl, .inr (.inl ⟨H1.out, rfl, rfl⟩)⟩
    · have i2 : (tot ps : Int) < at_ := by omega
      clear h1
      go_enter Try.func30, Try.ntmps30
      go_wp2
      go_ret
      exact ⟨30, rfl, .inr (.inl ⟨H1.out, rfl, rfl⟩)⟩

/-- What Delete answers. -/
def DelOutG (B g : Nat) (sv : Value) (lent : Bool) (ps : List ByteArray) (at_ many : Int) (W : World) (e : Ending) (W' : World) : Prop := ∃ r : Int, e = .returned (.int .i64 r) ∧
      ((0 ≤ at_ ∧ 0 ≤ many ∧ at_ + many ≤ tot ps ∧ r = 0 ∧ GStep B g sv lent (chgAt ps at_.toNat many.toNat ⟨#[]⟩) W W') ∨
       (¬ (0 ≤ at_ ∧ 0 ≤ many ∧ at_ + many ≤ tot ps) ∧ r = 30 ∧ W' = W))

set_option maxRecDepth 20000 in
set_option maxHeartbeats 1000000 in
theorem delete_gen {W : World} {B g : Nat} {ps : List ByteArray} {sv : Value} {lent : Bool} (at_ many : Int) (hB : B ≤ W.heap.size) (h : BufIs W B g sv lent ps) (hl : ps.length ≤ 900000) (hr : IntKind.i64.wrap at_ = at_) :
    Calls Try.prog 29 #[.pointer (some ⟨g, 0, none⟩), .int .i64 at_, .int .i64 many] W (DelOutG B g sv lent ps at_ many W) := by
  have c0 := h.c0
  have c2 := h.c2
  have htt := h.small
  by_cases h1 : 0 ≤ at_ ∧ 0 ≤ many ∧ at_ + many ≤ tot ps
  · obtain ⟨n, rfl⟩ : ∃ n : Nat, at_ = n := ⟨at_.toNat, by omega⟩
    obtain ⟨k, rfl⟩ : ∃ k : Nat, many = k := ⟨many.toNat, by omega⟩
    have i1 : ¬ (n : Int) < 0 := by omega
    have i2 : ¬ (k : Int) < 0 := by omega
    have w1 : IntKind.i64.wrap ((tot ps : Int) - (n : Int)) = (tot ps : Int) - (n : Int) := by rw [IntKind.wrap_i64]; omega
    have i3 : ¬ ((tot ps : Int) - (n : Int) < (k : Int)) := by omega
    have hc := change_gen (n := n) (k := k) (s := ⟨#[]⟩) hB h (by omega) (by show _ + 0 ≤ _; omega) hl
    have H1 := hide h1
    clear h h1 hr
    go_enter Try.func29, Try.ntmps29
    go_wp2_with (go_at_call 86; refine hc.mono ?_; rintro e w' ⟨rfl, hst⟩; have HS := hide hst; clear hst hc)
    go_ret
    exact ⟨0, rfl, .inl ⟨H1.out.1, H1.out.2.1, H1.out.2.2, rfl, HS.out⟩⟩
  · have H1 := hide h1
    clear h
    by_cases i1 : at_ < 0
    · clear h1 hr
      go_enter Try.func29, Try.ntmps29
      go_wp2
      go_ret
      exact ⟨30, rfl, .inr ⟨H1.out, rfl, rfl⟩⟩
    · by_cases i2 : many < 0
      · clear h1 hr
        go_enter Try.func29, Try.ntmps29
        go_wp2
        go_ret
        exact ⟨30, rfl, .inr ⟨H1.out, rfl, rfl⟩⟩
      · have w1 : IntKind.i64.wrap ((tot ps : Int) - at_) = (tot ps : Int) - at_ := by rw [IntKind.wrap_i64] at hr ⊢; omega
        have i3 : (tot ps : Int) - at_ < many := by omega
        clear h1 hr
        go_enter Try.func29, Try.ntmps29
        go_wp2
        go_ret
        exact ⟨30, rfl, .inr ⟨H1.out, rfl, rfl⟩⟩

end Go.Proofs.Ytpmijaplkbmbiaa
