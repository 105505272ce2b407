/- The document's edit of a text; the law's same. -/
import Derived.Test.YtpmijaplkbmbiaaLin4
namespace Go.Proofs.Ytpmijaplkbmbiaa.I
open Go.Proofs.Ytpmijaplkbmbiaa Go.RowKit Go.By Go.Shelf
set_option linter.unusedVariables false

/-- What the document's Edit answers. -/
def REdOut (s : ByteArray) (at_ dr : Int) (add : ByteArray) (W : World) (e : Ending) (W' : World) : Prop := ∃ (s' : ByteArray) (r : Int), e = .returned (.tuple #[.string s', .int .i64 r]) ∧ Below W.heap.size W W' ∧
  ((0 ≤ at_ ∧ 0 ≤ dr ∧ at_ + dr ≤ s.size ∧ r = 0 ∧ s'.data.toList = s.data.toList.take at_.toNat ++ (add.data.toList ++ s.data.toList.drop (at_.toNat + dr.toNat))) ∨ (¬ (0 ≤ at_ ∧ 0 ≤ dr ∧ at_ + dr ≤ s.size) ∧ r = 30 ∧ s' = s))

theorem edit_list (s add : ByteArray) (n d : Nat) (h : n + d ≤ s.size) : ((s.extract 0 n ++ add) ++ s.extract (n + d) s.size).data.toList = s.data.toList.take n ++ (add.data.toList ++ s.data.toList.drop (n + d)) := by
  have hz : s.data.size = s.size := rfl
  simp only [ByteArray.data_append, ByteArray.data_extract, Array.toList_append, Array.toList_extract, List.extract_eq_take_drop, List.append_assoc, Nat.sub_zero, List.drop_zero]
  congr 2
  rw [List.take_of_length_le]
  rw [List.length_drop, Array.length_toList, hz]
  exact Nat.le_refl _

set_option maxRecDepth 20000 in
set_option maxHeartbeats 4000000 in
theorem redit_any (s : ByteArray) (at_ dr : Int) (add : ByteArray) (W : World) (hs : s.size + add.size ≤ 50000) (hw : IntKind.i64.wrap at_ = at_) :
    Calls Try.prog 42 #[.string s, .int .i64 at_, .int .i64 dr, .string add] W (REdOut s at_ dr add W) := by
  by_cases h1 : 0 ≤ at_ ∧ 0 ≤ dr ∧ at_ + dr ≤ s.size
  · obtain ⟨n, rfl⟩ : ∃ n : Nat, at_ = n := ⟨at_.toNat, by omega⟩
    obtain ⟨d, rfl⟩ : ∃ d : Nat, dr = d := ⟨dr.toNat, by omega⟩
    have i1 : ¬ (n : Int) < 0 := by omega
    have i2 : ¬ (d : Int) < 0 := by omega
    have i5 : ¬ (s.size : Int) < (n : Int) := by omega
    have i5' : ¬ s.size < n := by omega
    have w1 : IntKind.i64.wrap ((s.size : Int) - (n : Int)) = (s.size : Int) - (n : Int) := by rw [IntKind.wrap_i64]; omega
    have w2 : IntKind.i64.wrap ((s.size : Int) - (d : Int)) = (s.size : Int) - (d : Int) := by rw [IntKind.wrap_i64]; omega
    have w3 : IntKind.i64.wrap (16777216 - ((s.size : Int) - (d : Int))) = 16777216 - ((s.size : Int) - (d : Int)) := by rw [IntKind.wrap_i64]; omega
    have w4 : IntKind.i64.wrap ((n : Int) + (d : Int)) = (n : Int) + (d : Int) := by rw [IntKind.wrap_i64]; omega
    have i3 : ¬ ((s.size : Int) - (n : Int) < (d : Int)) := by omega
    have i4 : ¬ (16777216 - ((s.size : Int) - (d : Int)) < (add.size : Int)) := by omega
    have j1 : n ≤ s.size := by omega
    have j2 : n + d ≤ s.size := by omega
    have j3 : (n : Int) + (d : Int) ≤ (s.size : Int) := by omega
    have j4 : ((n : Int) + (d : Int)).toNat = n + d := by omega
    have z1 : (s.extract 0 n).size = n := by simp; omega
    have z2 : (s.extract 0 n ++ add).size = n + add.size := by rw [ByteArray.size_append, z1]
    have z3 : (s.extract (n + d) s.size).size = s.size - (n + d) := by simp
    have k1 : ¬ 9223372036854775807 < (s.extract 0 n).size + add.size := by omega
    have k2 : ¬ 9223372036854775807 < (s.extract 0 n ++ add).size + (s.extract (n + d) s.size).size := by omega
    have HE := hide (edit_list s add n d j2)
    have H1 := hide h1
    clear h1 hw z1 z2 z3
    go_enter Try.func42, Try.ntmps42
    go_wp2_with fail
    go_quiet (fail)
    go_wp2
    go_ret2
    exact ⟨_, 0, rfl, by first | exact Below.refl _ _ | exact below_drewN' (Below.refl _ _) _, .inl ⟨H1.out.1, H1.out.2.1, H1.out.2.2, rfl, HE.out⟩⟩
  · have H1 := hide h1
    by_cases i1 : at_ < 0
    · clear h1 hw
      go_enter Try.func42, Try.ntmps42
      go_wp2
      go_ret2
      exact ⟨s, 30, rfl, Below.refl _ _, .inr ⟨H1.out, rfl, rfl⟩⟩
    · by_cases i2 : dr < 0
      · clear h1 hw
        go_enter Try.func42, Try.ntmps42
        go_wp2
        go_ret2
        exact ⟨s, 30, rfl, Below.refl _ _, .inr ⟨H1.out, rfl, rfl⟩⟩
      · by_cases i5 : (s.size : Int) < at_
        · clear h1 hw
          go_enter Try.func42, Try.ntmps42
          go_wp2
          go_ret2
          exact ⟨s, 30, rfl, Below.refl _ _, .inr ⟨H1.out, rfl, rfl⟩⟩
        · have w1 : IntKind.i64.wrap ((s.size : Int) - at_) = (s.size : Int) - at_ := by rw [IntKind.wrap_i64] at hw ⊢; omega
          have i3 : (s.size : Int) - at_ < dr := by omega
          clear h1 hw
          go_enter Try.func42, Try.ntmps42
          go_wp2
          go_ret2
          exact ⟨s, 30, rfl, Below.refl _ _, .inr ⟨H1.out, rfl, rfl⟩⟩

theorem pos_det (l : List UInt8) (at_ : Int) : ∃ (p c : Int) (b : Bool), ∀ e, PosOut l at_ e → e = .returned (.tuple #[.int .i64 p, .int .i64 c, .bool b]) := by
  by_cases h : 0 ≤ at_ ∧ at_ ≤ l.length
  · refine ⟨(posL (l.take at_.toNat) : Int), (colL (l.take at_.toNat) : Int), true, fun e he => ?_⟩
    rcases he with ⟨a, rfl, _, rfl⟩ | ⟨hn, _⟩
    · rw [Int.toNat_natCast]
    · exact absurd h hn
  · refine ⟨0, 0, false, fun e he => ?_⟩
    rcases he with ⟨a, rfl, ha, _⟩ | ⟨_, rfl⟩
    · exact absurd ⟨by omega, by omega⟩ h
    · rfl

theorem off_det (l : List UInt8) (line col : Int) : ∃ (o : Int) (b : Bool), ∀ e, OffOut l line col e → e = .returned (.tuple #[.int .i64 o, .bool b]) := by
  by_cases h : ∃ a, At l line col a
  · obtain ⟨a, ha⟩ := h
    refine ⟨(a : Int), true, fun e he => ?_⟩
    rcases he with ⟨b, hb, rfl⟩ | ⟨hn, _⟩
    · rw [ha.uniq hb]
    · exact absurd ha (hn a)
  · refine ⟨0, false, fun e he => ?_⟩
    rcases he with ⟨b, hb, _⟩ | ⟨_, rfl⟩
    · exact absurd ⟨b, hb⟩ h
    · rfl

set_option maxRecDepth 20000 in
set_option maxHeartbeats 4000000 in
theorem same_line {W : World} {B g : Nat} {sv : Value} {s : ByteArray} (line col at_ : Int) (h : LineIs W B g sv s.data.toList) :
    Calls Try.prog 40 #[.pointer (some ⟨g, 0, none⟩), .string s, .int .i64 line, .int .i64 col, .int .i64 at_] W fun e W' => e = .returned (.bool true) ∧ Below W.heap.size W W' := by
  obtain ⟨p, c, b, hP⟩ := pos_det s.data.toList at_
  obtain ⟨o, b1, hO⟩ := off_det s.data.toList line col
  obtain ⟨o2, b2, hO2⟩ := off_det s.data.toList line 0
  have hsz : s.size ≤ 50000 := h.small
  have hln := lines_line h
  have hrl := rlines_any s W (by omega)
  have hle := len_line h
  have hz : s.data.toList.length = s.size := rfl
  rw [hz] at hle
  have hpo : Calls Try.prog 43 #[.pointer (some ⟨g, 0, none⟩), .int .i64 at_] W fun e W' => e = .returned (.tuple #[.int .i64 p, .int .i64 c, .bool b]) ∧ Below W.heap.size W W' := (pos_line h).mono fun e W' ⟨h1, h2⟩ => ⟨hP e h1, h2⟩
  have HRP : Hid (∀ w, Calls Try.prog 94 #[.string s, .int .i64 at_] w fun e W' => e = .returned (.tuple #[.int .i64 p, .int .i64 c, .bool b]) ∧ W' = w) := hide fun w => (rpos_any s at_ w (by omega)).mono fun e W' ⟨h1, h2⟩ => ⟨hP e h1, h2⟩
  have HOF : Hid (∀ w, Below W.heap.size W w → Calls Try.prog 44 #[.pointer (some ⟨g, 0, none⟩), .int .i64 line, .int .i64 col] w fun e W' => e = .returned (.tuple #[.int .i64 o, .bool b1]) ∧ W' = w) := hide fun w hb => (offset_line (h.below hb)).mono fun e W' ⟨h1, h2⟩ => ⟨hO e h1, h2⟩
  have HRO : Hid (∀ w, Calls Try.prog 95 #[.string s, .int .i64 line, .int .i64 col] w fun e W' => e = .returned (.tuple #[.int .i64 o, .bool b1]) ∧ W' = w) := hide fun w => (roffset_any s line col w (by omega)).mono fun e W' ⟨h1, h2⟩ => ⟨hO e h1, h2⟩
  have HST : Hid (∀ w, Below W.heap.size W w → Calls Try.prog 45 #[.pointer (some ⟨g, 0, none⟩), .int .i64 line] w fun e W' => e = .returned (.tuple #[.int .i64 o2, .bool b2]) ∧ W' = w) := hide fun w hb => (start_line (h.below hb)).mono fun e W' ⟨h1, h2⟩ => ⟨hO2 e h1, h2⟩
  have HR2 : Hid (∀ w, Calls Try.prog 95 #[.string s, .int .i64 line, .int .i64 0] w fun e W' => e = .returned (.tuple #[.int .i64 o2, .bool b2]) ∧ W' = w) := hide fun w => (roffset_any s line 0 w (by omega)).mono fun e W' ⟨h1, h2⟩ => ⟨hO2 e h1, h2⟩
  generalize ((starts s.data.toList).length : Int) = NL at *
  clear h hP hO hO2 hz
  go_enter Try.func40, Try.ntmps40
  go_wp2_with (first
    | (go_at_call 46; refine hln.mono ?_; rintro e w' ⟨rfl, hw'⟩; have hw2 := hw'.symm; clear hw'; subst hw2)
    | (go_at_call 93; refine hrl.mono ?_; rintro e w' ⟨rfl, hw'⟩; have hw2 := hw'.symm; clear hw'; subst hw2)
    | (go_at_call 48; refine hle.mono ?_; rintro e w' ⟨rfl, hw'⟩; have hw2 := hw'.symm; clear hw'; subst hw2)
    | (go_at_call 43; refine hpo.mono ?_; rintro e w1 ⟨rfl, hb1⟩; have HB1 := hide hb1; clear hb1 hpo hln hrl hle)
    | (go_at_call 94; refine (HRP.out _).mono ?_; rintro e w' ⟨rfl, hw'⟩; have hw2 := hw'.symm; clear hw'; subst hw2)
    | (go_at_call 44; refine (HOF.out _ HB1.out).mono ?_; rintro e w' ⟨rfl, hw'⟩; have hw2 := hw'.symm; clear hw'; subst hw2)
    | (go_at_call 45; refine (HST.out _ HB1.out).mono ?_; rintro e w' ⟨rfl, hw'⟩; have hw2 := hw'.symm; clear hw'; subst hw2; clear HRO)
    | (go_at_call 95; refine (HRO.out _).mono ?_; rintro e w' ⟨rfl, hw'⟩; have hw2 := hw'.symm; clear hw'; subst hw2)
    | (go_at_call 95; refine (HR2.out _).mono ?_; rintro e w' ⟨rfl, hw'⟩; have hw2 := hw'.symm; clear hw'; subst hw2))
  go_ret
  exact ⟨rfl, HB1.out⟩

end Go.Proofs.Ytpmijaplkbmbiaa.I
