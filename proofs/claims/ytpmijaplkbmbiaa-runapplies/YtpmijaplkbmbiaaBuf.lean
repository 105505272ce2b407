/- The buffer: its ways. -/
import Derived.Test.YtpmijaplkbmbiaaChange5
namespace Go.Proofs.Ytpmijaplkbmbiaa
open Go.RowKit Go.By Go.Shelf
set_option linter.unusedVariables false

theorem BufIs.c0 {W : World} {B g : Nat} {sv : Value} {lent : Bool} {ps : List ByteArray} (h : BufIs W B g sv lent ps) : W.cell? ⟨g, 0, none⟩ = some (.bool true) := by rw [Joins.cell_of_block h.blk]; rfl
theorem BufIs.c2 {W : World} {B g : Nat} {sv : Value} {lent : Bool} {ps : List ByteArray} (h : BufIs W B g sv lent ps) : W.cell? ⟨g, 2, none⟩ = some (.int .i64 (tot ps : Int)) := by rw [Joins.cell_of_block h.blk]; rfl
theorem BufIs.c3 {W : World} {B g : Nat} {sv : Value} {lent : Bool} {ps : List ByteArray} (h : BufIs W B g sv lent ps) : W.cell? ⟨g, 3, none⟩ = some sv := by rw [Joins.cell_of_block h.blk]; rfl

set_option maxHeartbeats 1000000 in
theorem len_buf {W : World} {B g : Nat} {sv : Value} {lent : Bool} {ps : List ByteArray} (h : BufIs W B g sv lent ps) :
    Calls Try.prog 35 #[.pointer (some ⟨g, 0, none⟩)] W fun e W' => e = .returned (.int .i64 (tot ps : Int)) ∧ W' = W := by
  have c2 := h.c2
  clear h
  go_enter Try.func35, Try.ntmps35
  go_wp2
  go_ret
  exact ⟨rfl, rfl⟩

set_option maxHeartbeats 1000000 in
theorem pieces_buf {W : World} {B g : Nat} {sv : Value} {lent : Bool} {ps : List ByteArray} (h : BufIs W B g sv lent ps) :
    Calls Try.prog 36 #[.pointer (some ⟨g, 0, none⟩)] W fun e W' => e = .returned (.int .i64 (ps.length : Int)) ∧ W' = W := by
  have c3 := h.c3
  obtain ⟨a, c, rfl⟩ : ∃ a c, sv = .slice a ps.length c := by
    rcases row_open h.row with ⟨rfl, e⟩ | ⟨k, cap, L, rfl, _⟩
    · exact ⟨none, 0, by rw [e]; rfl⟩
    · exact ⟨_, _, rfl⟩
  clear h
  go_enter Try.func36, Try.ntmps36
  go_wp2
  go_ret
  exact ⟨rfl, rfl⟩

/-- The text of pieces, as a string. -/
def str (ps : List ByteArray) : ByteArray := ⟨(text ps).toArray⟩

theorem between_buf {W : World} {B g : Nat} {sv : Value} {lent : Bool} {ps : List ByteArray} (h : BufIs W B g sv lent ps) (hl : ps.length ≤ 1000000) (f t : Nat) (hft : f ≤ t) (ht : t ≤ tot ps) :
    Calls Try.prog 90 #[.pointer (some ⟨g, 0, none⟩), .int .i64 (f : Int), .int .i64 (t : Int)] W fun e W' => e = .returned (.string ⟨(cut (text ps) f t).toArray⟩) ∧ Below W.heap.size W W' := by
  have hs := h.small
  obtain ⟨qs, rfl⟩ := exists_pcs ps fun p hp => by have := le_tot ps p hp; omega
  exact between_any g f t sv qs W (lt_of_heap h.blk) h.c3 (pcs_of_row h.row hl) (by omega) hft (by omega)

theorem cut_all (l : List UInt8) (n : Nat) (h : l.length = n) : cut l 0 n = l := by
  subst h; simp [cut]

set_option maxHeartbeats 1000000 in
theorem text_buf {W : World} {B g : Nat} {sv : Value} {lent : Bool} {ps : List ByteArray} (h : BufIs W B g sv lent ps) (hl : ps.length ≤ 1000000) :
    Calls Try.prog 31 #[.pointer (some ⟨g, 0, none⟩)] W fun e W' => e = .returned (.string (str ps)) ∧ Below W.heap.size W W' := by
  have hlen := len_buf h
  have hbt : Calls Try.prog 90 #[.pointer (some ⟨g, 0, none⟩), .int .i64 0, .int .i64 (tot ps : Int)] W fun e W' => e = .returned (.string (str ps)) ∧ Below W.heap.size W W' := by
    have := between_buf h hl 0 (tot ps) (Nat.zero_le _) (Nat.le_refl _)
    rw [cut_all _ _ (length_text ps)] at this
    exact this
  clear h hl
  go_enter Try.func31, Try.ntmps31
  go_wp2_with (first
    | (go_at_call 35; refine hlen.mono ?_; rintro e w' ⟨rfl, rfl⟩)
    | (go_at_call 90; refine hbt.mono ?_; rintro e w' ⟨rfl, hb⟩; have HB := hide hb; clear hb))
  go_ret
  exact ⟨rfl, HB.out⟩

/-- What a step leaves. -/
def Stepped (B g : Nat) (ps' : List ByteArray) (W W' : World) : Prop := ∃ sv', BufIs W' B g sv' false ps' ∧ Below B W W'

/-- What Insert answers. -/
def InsOut (B g : Nat) (ps : List ByteArray) (s : ByteArray) (at_ : Int) (W : World) (e : Ending) (W' : World) : Prop := ∃ r : Int, e = .returned (.int .i64 r) ∧
      ((0 ≤ at_ ∧ at_ ≤ tot ps ∧ tot ps + s.size ≤ 16777216 ∧ r = 0 ∧ Stepped B g (chgAt ps at_.toNat 0 s) W W') ∨
       (¬ (0 ≤ at_ ∧ at_ ≤ tot ps) ∧ r = 30 ∧ W' = W) ∨ (0 ≤ at_ ∧ at_ ≤ tot ps ∧ ¬ (tot ps + s.size ≤ 16777216) ∧ r = 31 ∧ W' = W))

set_option maxRecDepth 20000 in
set_option maxHeartbeats 1000000 in
theorem insert_solo {W : World} {B g : Nat} {ps : List ByteArray} {sv : Value} (s : ByteArray) (at_ : Int) (hB : B ≤ W.heap.size) (h : BufIs W B g sv false ps) (hl : ps.length ≤ 900000) (hs : s.size ≤ 1000000000) :
    Calls Try.prog 30 #[.pointer (some ⟨g, 0, none⟩), .int .i64 at_, .string s] W (InsOut B g ps s at_ W) := by
  have c0 := h.c0
  have c2 := h.c2
  have htt := h.small
  have w1 : IntKind.i64.wrap (16777216 - (tot ps : Int)) = 16777216 - (tot ps : Int) := by rw [IntKind.wrap_i64]; omega
  by_cases h1 : 0 ≤ at_ ∧ at_ ≤ tot ps
  · obtain ⟨n, rfl⟩ : ∃ n : Nat, at_ = n := ⟨at_.toNat, by omega⟩
    have i1 : ¬ (n : Int) < 0 := by omega
    have i2 : n ≤ tot ps := by omega
    by_cases h2 : tot ps + s.size ≤ 16777216
    · have hc := change_solo (n := n) (k := 0) (s := s) hB h (by omega) (by omega) hl
      have i3 : ¬ (16777216 - (tot ps : Int) < (s.size : Int)) := by omega
      clear h h1
      go_enter Try.func30, Try.ntmps30
      go_wp2_with (go_at_call 86; refine hc.mono ?_; rintro e w' ⟨rfl, hst⟩; have HS := hide hst; clear hst hc)
      go_ret
      exact ⟨0, rfl, .inl ⟨by omega, by omega, h2, rfl, HS.out⟩⟩
    · have i3 : (16777216 - (tot ps : Int) < (s.size : Int)) := by omega
      clear h h1
      go_enter Try.func30, Try.ntmps30
      go_wp2
      go_ret
      exact ⟨31, rfl, .inr (.inr ⟨by omega, by omega, h2, rfl, rfl⟩)⟩
  · have H1 := hide h1
    clear h
    by_cases i1 : at_ < 0
    · clear h1
      go_enter Try.func30, Try.ntmps30
      go_wp2
      go_ret
      exact ⟨30, rfl, .inr (.inl ⟨H1.out, rfl, rfl⟩)⟩
    · have i2 : (tot ps : Int) < at_ := by omega
      clear h1
      go_enter Try.func30, Try.ntmps30
      go_wp2
      go_ret
      exact ⟨30, rfl, .inr (.inl ⟨H1.out, rfl, rfl⟩)⟩

/-- What Delete answers. -/
def DelOut (B g : Nat) (ps : List ByteArray) (at_ many : Int) (W : World) (e : Ending) (W' : World) : Prop := ∃ r : Int, e = .returned (.int .i64 r) ∧
      ((0 ≤ at_ ∧ 0 ≤ many ∧ at_ + many ≤ tot ps ∧ r = 0 ∧ Stepped B g (chgAt ps at_.toNat many.toNat ⟨#[]⟩) W W') ∨
       (¬ (0 ≤ at_ ∧ 0 ≤ many ∧ at_ + many ≤ tot ps) ∧ r = 30 ∧ W' = W))

set_option maxRecDepth 20000 in
set_option maxHeartbeats 1000000 in
theorem delete_solo {W : World} {B g : Nat} {ps : List ByteArray} {sv : Value} (at_ many : Int) (hB : B ≤ W.heap.size) (h : BufIs W B g sv false ps) (hl : ps.length ≤ 900000) (hr : IntKind.i64.wrap at_ = at_) :
    Calls Try.prog 29 #[.pointer (some ⟨g, 0, none⟩), .int .i64 at_, .int .i64 many] W (DelOut B g ps at_ many W) := by
  have c0 := h.c0
  have c2 := h.c2
  have htt := h.small
  by_cases h1 : 0 ≤ at_ ∧ 0 ≤ many ∧ at_ + many ≤ tot ps
  · obtain ⟨n, rfl⟩ : ∃ n : Nat, at_ = n := ⟨at_.toNat, by omega⟩
    obtain ⟨k, rfl⟩ : ∃ k : Nat, many = k := ⟨many.toNat, by omega⟩
    have i1 : ¬ (n : Int) < 0 := by omega
    have i2 : ¬ (k : Int) < 0 := by omega
    have w1 : IntKind.i64.wrap ((tot ps : Int) - (n : Int)) = (tot ps : Int) - (n : Int) := by rw [IntKind.wrap_i64]; omega
    have i3 : ¬ ((tot ps : Int) - (n : Int) < (k : Int)) := by omega
    have hc := change_solo (n := n) (k := k) (s := ⟨#[]⟩) hB h (by omega) (by show _ + 0 ≤ _; omega) hl
    have H1 := hide h1
    clear h h1 hr
    go_enter Try.func29, Try.ntmps29
    go_wp2_with (go_at_call 86; refine hc.mono ?_; rintro e w' ⟨rfl, hst⟩; have HS := hide hst; clear hst hc)
    go_ret
    exact ⟨0, rfl, .inl ⟨H1.out.1, H1.out.2.1, H1.out.2.2, rfl, HS.out⟩⟩
  · have H1 := hide h1
    clear h
    by_cases i1 : at_ < 0
    · clear h1 hr
      go_enter Try.func29, Try.ntmps29
      go_wp2
      go_ret
      exact ⟨30, rfl, .inr ⟨H1.out, rfl, rfl⟩⟩
    · by_cases i2 : many < 0
      · clear h1 hr
        go_enter Try.func29, Try.ntmps29
        go_wp2
        go_ret
        exact ⟨30, rfl, .inr ⟨H1.out, rfl, rfl⟩⟩
      · have w1 : IntKind.i64.wrap ((tot ps : Int) - at_) = (tot ps : Int) - at_ := by rw [IntKind.wrap_i64] at hr ⊢; omega
        have i3 : (tot ps : Int) - at_ < many := by omega
        clear h1 hr
        go_enter Try.func29, Try.ntmps29
        go_wp2
        go_ret
        exact ⟨30, rfl, .inr ⟨H1.out, rfl, rfl⟩⟩

end Go.Proofs.Ytpmijaplkbmbiaa
