/- The index of a text: Start, Pos, Offset. -/
import Derived.Test.YtpmijaplkbmbiaaLin2
namespace Go.Proofs.Ytpmijaplkbmbiaa.I
open Go.Proofs.Ytpmijaplkbmbiaa Go.RowKit Go.By Go.Shelf
set_option linter.unusedVariables false

set_option maxRecDepth 20000 in
set_option maxHeartbeats 1000000 in
theorem start_in {W : World} {B g m : Nat} {sv : Value} {l : List UInt8} (h : LineIs W B g sv l) (hm : m < (starts l).length) :
    Calls Try.prog 45 #[.pointer (some ⟨g, 0, none⟩), .int .i64 (m : Int)] W fun e W' => e = .returned (.tuple #[.int .i64 ((starts l).getD m 0), .bool true]) ∧ W' = W := by
  have hln := lines_line h
  obtain ⟨k, cap, rfl, hc, hcell⟩ := h.some
  have c0 := h.idx.c0
  have cm := hcell m hm
  have i1 : ¬ (m : Int) < 0 := by omega
  have i2 : ¬ ((starts l).length : Int) ≤ (m : Int) := by omega
  have i3 : (m : Int) < ((starts l).length : Int) := by omega
  have i4 : ¬ (starts l).length ≤ m := by omega
  generalize (starts l).getD m 0 = x at *
  generalize (starts l).length = NL at *
  clear h hcell
  go_enter Try.func45, Try.ntmps45
  go_wp2_with (go_at_call 46; refine hln.mono ?_; rintro e w' ⟨rfl, rfl⟩)
  go_ret2
  exact ⟨rfl, rfl⟩

set_option maxRecDepth 20000 in
set_option maxHeartbeats 1000000 in
theorem start_out {W : World} {B g : Nat} {line : Int} {sv : Value} {l : List UInt8} (h : LineIs W B g sv l) (hm : ¬ (0 ≤ line ∧ line < (starts l).length)) :
    Calls Try.prog 45 #[.pointer (some ⟨g, 0, none⟩), .int .i64 line] W fun e W' => e = .returned (.tuple #[.int .i64 0, .bool false]) ∧ W' = W := by
  have hln := lines_line h
  generalize (starts l).length = NL at *
  clear h
  by_cases i1 : line < 0
  · clear hm
    go_enter Try.func45, Try.ntmps45
    go_wp2_with (go_at_call 46; refine hln.mono ?_; rintro e w' ⟨rfl, rfl⟩)
    go_ret2
    exact ⟨rfl, rfl⟩
  · have i2 : (NL : Int) ≤ line := by omega
    clear hm
    go_enter Try.func45, Try.ntmps45
    go_wp2_with (go_at_call 46; refine hln.mono ?_; rintro e w' ⟨rfl, rfl⟩)
    go_ret2
    exact ⟨rfl, rfl⟩

set_option maxRecDepth 20000 in
set_option maxHeartbeats 1000000 in
theorem last_in {W : World} {B g m : Nat} {sv : Value} {l : List UInt8} (h : LineIs W B g sv l) (hm : m < (starts l).length) :
    Calls Try.prog 97 #[.pointer (some ⟨g, 0, none⟩), .int .i64 (m : Int)] W fun e W' => e = .returned (.int .i64 (lastL l m)) ∧ W' = W := by
  obtain ⟨k, cap, rfl, hc, hcell⟩ := h.some
  have c0 := h.idx.c0
  have c1 := h.idx.c1
  have hlen := h.len
  have w1 : IntKind.i64.wrap (((starts l).length : Int) - 1) = ((starts l).length : Int) - 1 := by rw [IntKind.wrap_i64]; omega
  by_cases hl : m + 1 = (starts l).length
  · have e1 : lastL l m = (l.length : Int) := by unfold lastL; rw [if_pos hl]
    have i1 : (m : Int) = ((starts l).length : Int) - 1 := by omega
    have i2 : ((m : Int) == ((starts l).length : Int) - 1) = true := beq_iff_eq.2 i1
    rw [e1]
    generalize (starts l).length = NL at *
    clear h hcell hl i1
    go_enter Try.func97, Try.ntmps97
    go_wp2
    go_ret
    exact ⟨rfl, rfl⟩
  · have e1 : lastL l m = (starts l).getD (m + 1) 0 - 1 := by unfold lastL; rw [if_neg hl]
    have i2 : ((m : Int) == ((starts l).length : Int) - 1) = false := beq_eq_false_iff_ne.2 (by omega)
    have cm := hcell (m + 1) (by omega)
    have hx := starts_mem l ((starts l).getD (m + 1) 0) (by simp [List.getD, show m + 1 < (starts l).length by omega])
    have hsm := h.small
    have i3 : (m : Int) + 1 < ((starts l).length : Int) := by omega
    have i4 : m + 1 < (starts l).length := by omega
    have w2 : IntKind.i64.wrap ((m : Int) + 1) = (m : Int) + 1 := by rw [IntKind.wrap_i64]; omega
    have w3 : IntKind.i64.wrap ((starts l).getD (m + 1) 0 - 1) = (starts l).getD (m + 1) 0 - 1 := by rw [IntKind.wrap_i64]; omega
    rw [e1]
    generalize (starts l).getD (m + 1) 0 = x at *
    generalize (starts l).length = NL at *
    clear h hcell hl e1
    go_enter Try.func97, Try.ntmps97
    go_wp2
    go_ret
    exact ⟨rfl, rfl⟩

/-- What Offset answers. -/
def OffOut (l : List UInt8) (line col : Int) (e : Ending) : Prop := (∃ a, At l line col a ∧ e = .returned (.tuple #[.int .i64 (a : Int), .bool true])) ∨ ((∀ a, ¬ At l line col a) ∧ e = .returned (.tuple #[.int .i64 0, .bool false]))

set_option maxRecDepth 20000 in
set_option maxHeartbeats 2000000 in
theorem offset_line {W : World} {B g : Nat} {line col : Int} {sv : Value} {l : List UInt8} (h : LineIs W B g sv l) :
    Calls Try.prog 44 #[.pointer (some ⟨g, 0, none⟩), .int .i64 line, .int .i64 col] W fun e W' => OffOut l line col e ∧ W' = W := by
  by_cases hm : 0 ≤ line ∧ line < (starts l).length
  · obtain ⟨m, rfl⟩ : ∃ m : Nat, line = m := ⟨line.toNat, by omega⟩
    have hml : m < (starts l).length := by omega
    have hst := start_in h hml
    have hla := last_in h hml
    have hx := starts_mem l ((starts l).getD m 0) (by simp [List.getD, hml])
    have hsm := h.small
    have hlast : -1 ≤ lastL l m ∧ lastL l m ≤ 50000 := by
      unfold lastL
      split
      · omega
      · have := starts_mem l ((starts l).getD (m + 1) 0) (by simp [List.getD, show m + 1 < (starts l).length by omega]); omega
    have w1 : IntKind.i64.wrap (lastL l m - (starts l).getD m 0) = lastL l m - (starts l).getD m 0 := by rw [IntKind.wrap_i64]; omega
    have HAT : Hid (0 ≤ col → col ≤ lastL l m - (starts l).getD m 0 → At l (m : Int) col ((starts l).getD m 0 + col).toNat) := hide (at_of hml)
    have HNO : Hid (¬ (0 ≤ col ∧ col ≤ lastL l m - (starts l).getD m 0) → ∀ a, ¬ At l (m : Int) col a) := hide fun hn a ha => by
      obtain ⟨m', e, _, q1, q2, _⟩ := ha.inv
      obtain rfl : m = m' := by omega
      exact hn ⟨q1, q2⟩
    generalize (starts l).getD m 0 = x at *
    generalize lastL l m = y at *
    clear h hm
    by_cases i1 : col < 0
    · go_enter Try.func44, Try.ntmps44
      go_wp2_with (first
        | (go_at_call 45; refine hst.mono ?_; rintro e w' ⟨rfl, rfl⟩)
        | (go_at_call 97; refine hla.mono ?_; rintro e w' ⟨rfl, rfl⟩))
      go_ret2
      exact ⟨.inr ⟨HNO.out (by omega), rfl⟩, rfl⟩
    · by_cases i2 : y - x < col
      · go_enter Try.func44, Try.ntmps44
        go_wp2_with (first
          | (go_at_call 45; refine hst.mono ?_; rintro e w' ⟨rfl, rfl⟩)
          | (go_at_call 97; refine hla.mono ?_; rintro e w' ⟨rfl, rfl⟩))
        go_ret2
        exact ⟨.inr ⟨HNO.out (by omega), rfl⟩, rfl⟩
      · obtain ⟨a, ha⟩ : ∃ a : Nat, x + col = a := ⟨(x + col).toNat, by omega⟩
        have w2 : IntKind.i64.wrap (x + col) = x + col := by rw [IntKind.wrap_i64]; omega
        have HA := hide ha
        clear ha
        go_enter Try.func44, Try.ntmps44
        go_wp2_with (first
          | (go_at_call 45; refine hst.mono ?_; rintro e w' ⟨rfl, rfl⟩)
          | (go_at_call 97; refine hla.mono ?_; rintro e w' ⟨rfl, rfl⟩))
        go_ret2
        refine ⟨.inl ⟨a, ?_, ?_⟩, rfl⟩
        · have := HAT.out (by omega) (by omega)
          rwa [HA.out, Int.toNat_natCast] at this
        · rw [← HA.out]; rfl
  · have hst := start_out h hm
    have HNO : Hid (∀ a, ¬ At l line col a) := hide fun a ha => by
      obtain ⟨m', e, h2, _⟩ := ha.inv
      exact hm ⟨by omega, by omega⟩
    clear h hm
    go_enter Try.func44, Try.ntmps44
    go_wp2_with (go_at_call 45; refine hst.mono ?_; rintro e w' ⟨rfl, rfl⟩)
    go_ret2
    exact ⟨.inr ⟨HNO.out, rfl⟩, rfl⟩

/-- What Start answers is what Offset answers of column 0. -/
theorem start_line {W : World} {B g : Nat} {line : Int} {sv : Value} {l : List UInt8} (h : LineIs W B g sv l) :
    Calls Try.prog 45 #[.pointer (some ⟨g, 0, none⟩), .int .i64 line] W fun e W' => OffOut l line 0 e ∧ W' = W := by
  by_cases hm : 0 ≤ line ∧ line < (starts l).length
  · obtain ⟨m, rfl⟩ : ∃ m : Nat, line = m := ⟨line.toNat, by omega⟩
    have hml : m < (starts l).length := by omega
    refine (start_in h hml).mono ?_
    rintro e W' ⟨rfl, rfl⟩
    have hx := starts_mem l ((starts l).getD m 0) (by simp [List.getD, hml])
    have hla : 0 ≤ lastL l m - (starts l).getD m 0 := by
      unfold lastL
      split
      · omega
      · have := starts_rise l m (m + 1) (by omega) (by omega); omega
    have ha := at_of (l := l) (m := m) (col := 0) hml (by omega) hla
    rw [Int.add_zero] at ha
    exact ⟨.inl ⟨_, ha, by rw [show ((((starts l).getD m 0).toNat : Nat) : Int) = (starts l).getD m 0 by omega]⟩, rfl⟩
  · refine (start_out h hm).mono ?_
    rintro e W' ⟨rfl, rfl⟩
    exact ⟨.inr ⟨fun a ha => by obtain ⟨m', e, h2, _⟩ := ha.inv; exact hm ⟨by omega, by omega⟩, rfl⟩, rfl⟩

/-- What Pos answers. -/
def PosOut (l : List UInt8) (at_ : Int) (e : Ending) : Prop := (∃ a : Nat, at_ = a ∧ a ≤ l.length ∧ e = .returned (.tuple #[.int .i64 (posL (l.take a) : Int), .int .i64 (colL (l.take a) : Int), .bool true])) ∨ (¬ (0 ≤ at_ ∧ at_ ≤ l.length) ∧ e = .returned (.tuple #[.int .i64 0, .int .i64 0, .bool false]))

set_option maxRecDepth 20000 in
set_option maxHeartbeats 4000000 in
theorem pos_line {W : World} {B g : Nat} {at_ : Int} {sv : Value} {l : List UInt8} (h : LineIs W B g sv l) :
    Calls Try.prog 43 #[.pointer (some ⟨g, 0, none⟩), .int .i64 at_] W fun e W' => PosOut l at_ e ∧ Below W.heap.size W W' := by
  have hln := lines_line h
  have hp := starts_pos l
  have hne : ¬ ((starts l).length : Int) = 0 := by omega
  have c1 := h.idx.c1
  by_cases hm : 0 ≤ at_ ∧ at_ ≤ l.length
  · obtain ⟨a, rfl⟩ : ∃ a : Nat, at_ = a := ⟨at_.toNat, by omega⟩
    have hal : a ≤ l.length := by omega
    have hbg := begun_any (a : Int) h.idx (starts_rise l) (by have := h.len; omega)
    have i1 : ¬ (a : Int) < 0 := by omega
    have i2 : ¬ (l.length : Int) < (a : Int) := by omega
    have i2' : ¬ l.length < a := by omega
    have b1 : (((starts l).length : Int) == 0) = false := beq_eq_false_iff_ne.2 hne
    have b2 : decide ((a : Int) < 0) = false := decide_eq_false i1
    have b3 : decide (l.length < a) = false := decide_eq_false i2'
    have hpl := posL_lt hal
    have hst := starts_at hal
    have hcut := cut_at hal
    have hlen := h.len
    have hsm := h.small
    obtain ⟨k, cap, rfl, hcap, _⟩ := h.some
    have HCL : Hid (∀ w, Below W.heap.size W w → w.cell? ⟨g, 0, none⟩ = some (.slice (some ⟨k, 0, none⟩) (starts l).length cap) ∧ w.cell? ⟨k, posL (l.take a), none⟩ = some (.int .i64 ((starts l).getD (posL (l.take a)) 0))) := hide fun w hb => by
      have h2 := h.below hb
      refine ⟨h2.idx.c0, ?_⟩
      obtain ⟨k', cap', e, _, hc⟩ := h2.some
      cases e
      exact hc _ hpl
    have HCT : Hid (∀ c, Cut (starts l) (a : Int) c → c = posL (l.take a) + 1) := hide fun c hc => cut_uniq hc hcut
    have HGO : Hid (PosOut l (a : Int) (.returned (.tuple #[.int .i64 (posL (l.take a) : Int), .int .i64 ((a : Int) - (starts l).getD (posL (l.take a)) 0), .bool true]))) := hide (.inl ⟨a, rfl, hal, by rw [show (a : Int) - (starts l).getD (posL (l.take a)) 0 = (colL (l.take a) : Int) by omega]⟩)
    have hx := starts_mem l ((starts l).getD (posL (l.take a)) 0) (by simp [List.getD, hpl])
    have w2 : IntKind.i64.wrap ((a : Int) - (starts l).getD (posL (l.take a)) 0) = (a : Int) - (starts l).getD (posL (l.take a)) 0 := by rw [IntKind.wrap_i64]; omega
    clear h hm hcut hst
    generalize (starts l).getD (posL (l.take a)) 0 = x at *
    generalize posL (l.take a) = P at *
    have i5 : (P : Int) < ((starts l).length : Int) := by omega
    have w1 : IntKind.i64.wrap ((P : Int) + 1 - 1) = (P : Int) := by rw [IntKind.wrap_i64]; omega
    generalize (starts l).length = NL at *
    go_enter Try.func43, Try.ntmps43
    go_wp2_with (first
      | (go_at_call 46; refine hln.mono ?_; rintro e w' ⟨rfl, hw'⟩; have hw2 := hw'.symm; clear hw'; subst hw2)
      | (go_at_call 96; refine hbg.mono ?_; rintro e w1 ⟨⟨c, rfl, hcu⟩, hb1⟩; obtain rfl := HCT.out c hcu; obtain ⟨d0, d1⟩ := HCL.out _ hb1; have HB1 := hide hb1; clear hcu hb1 hbg))
    go_quiet (fail)
    go_wp2
    go_ret3
    exact ⟨HGO.out, by first | exact HB1.out | exact below_drewN' HB1.out _⟩
  · have H1 := hide hm
    have HB := hide (Below.refl W.heap.size W)
    generalize (starts l).length = NL at *
    by_cases i1 : at_ < 0
    · clear h hm
      go_enter Try.func43, Try.ntmps43
      go_wp2_with (go_at_call 46; refine hln.mono ?_; rintro e w' ⟨rfl, rfl⟩)
      go_ret3
      exact ⟨.inr ⟨H1.out, rfl⟩, HB.out⟩
    · have i2 : (l.length : Int) < at_ := by omega
      clear h hm
      go_enter Try.func43, Try.ntmps43
      go_wp2_with (go_at_call 46; refine hln.mono ?_; rintro e w' ⟨rfl, rfl⟩)
      go_ret3
      exact ⟨.inr ⟨H1.out, rfl⟩, HB.out⟩

end Go.Proofs.Ytpmijaplkbmbiaa.I
