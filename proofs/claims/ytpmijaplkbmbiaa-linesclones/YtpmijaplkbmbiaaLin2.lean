/- The index of a text: its ways. -/
import Derived.Test.YtpmijaplkbmbiaaLin1
import Derived.Test.YtpmijaplkbmbiaaIdx6
namespace Go.Proofs.Ytpmijaplkbmbiaa.I
open Go.Proofs.Ytpmijaplkbmbiaa Go.RowKit Go.By Go.Shelf
set_option linter.unusedVariables false

/-- The index at block g is that of the text l. -/
structure LineIs (W : World) (B g : Nat) (sv : Value) (l : List UInt8) : Prop where
  idx : IdxIs W B g sv (starts l) l.length
  small : l.length ≤ 50000

theorem LineIs.below {W W' : World} {B g : Nat} {sv : Value} {l : List UInt8} (h : LineIs W B g sv l) (hb : Below W.heap.size W W') : LineIs W' B g sv l := ⟨h.idx.below hb, h.small⟩

theorem LineIs.len {W : World} {B g : Nat} {sv : Value} {l : List UInt8} (h : LineIs W B g sv l) : (starts l).length ≤ 100000 := by have := starts_len l; have := h.small; omega

theorem LineIs.some {W : World} {B g : Nat} {sv : Value} {l : List UInt8} (h : LineIs W B g sv l) : ∃ k cap, sv = .slice (some ⟨k, 0, none⟩) (starts l).length cap ∧ (starts l).length ≤ cap ∧ ∀ m, m < (starts l).length → W.cell? ⟨k, m, none⟩ = some (.int .i64 ((starts l).getD m 0)) := by
  rcases row_open h.idx.row with ⟨_, e⟩ | ⟨k, cap, L, e, hkB, hh, hc, hcm, hL, ht⟩
  · simp [starts] at e
  · refine ⟨k, cap, e, hc, fun m hm => ?_⟩
    have h1 := cells_of hh ht m (.int .i64 ((starts l).getD m 0)) (by simp [ints, List.getD, hm])
    rwa [Nat.zero_add] at h1

/-- What a change leaves. -/
def LStep (B g : Nat) (sv : Value) (l' : List UInt8) (W W' : World) : Prop := ∃ sv', LineIs W' B g sv' l' ∧ Only (fun x => x = g ∨ some x = sv.ownBlock) W W' ∧ (sv'.ownBlock = sv.ownBlock ∨ ∃ j, sv'.ownBlock = some j ∧ W.heap.size ≤ j)

theorem change_line {W : World} {B g n d : Nat} {sv : Value} {l : List UInt8} {add : ByteArray} (hB : B ≤ W.heap.size) (h : LineIs W B g sv l) (hnd : n + d ≤ l.length) (had : l.length - d + add.size ≤ 50000) :
    Calls Try.prog 92 #[.pointer (some ⟨g, 0, none⟩), .int .i64 (n : Int), .int .i64 (d : Int), .string add] W fun e W' => e = .returned (.tuple #[]) ∧ LStep B g sv (l.take n ++ (add.data.toList ++ l.drop (n + d))) W W' := by
  obtain ⟨k, cap, rfl, hc, _⟩ := h.some
  have hsm := h.small
  refine (change_any hB h.idx (starts_rise l) h.len (fun x hx => by have := starts_mem l x hx; omega) (by omega) hnd (by omega)).mono ?_
  rintro e W' ⟨rfl, c1, c2, sv', h1, h2, h3, h4, h5⟩
  have hz : add.data.toList.length = add.size := rfl
  have hl : (l.take n ++ (add.data.toList ++ l.drop (n + d))).length = l.length - d + add.size := by simp only [List.length_append, List.length_take, List.length_drop, hz]; omega
  have he := (starts_edit (add := add.data.toList) hnd h1 h2).2.2
  rw [hz] at he
  rw [he, ← hl] at h3
  refine ⟨rfl, sv', ⟨h3, by omega⟩, h4.mono fun x _ e => e.imp_right fun e => by rw [e]; rfl, h5.imp (fun e => e.trans rfl) id⟩

set_option maxHeartbeats 1000000 in
theorem lines_line {W : World} {B g : Nat} {sv : Value} {l : List UInt8} (h : LineIs W B g sv l) :
    Calls Try.prog 46 #[.pointer (some ⟨g, 0, none⟩)] W fun e W' => e = .returned (.int .i64 ((starts l).length : Int)) ∧ W' = W := by
  obtain ⟨k, cap, rfl, hc, _⟩ := h.some
  have c0 := h.idx.c0
  clear h
  go_enter Try.func46, Try.ntmps46
  go_wp2
  go_ret
  exact ⟨rfl, rfl⟩

set_option maxHeartbeats 1000000 in
theorem len_line {W : World} {B g : Nat} {sv : Value} {l : List UInt8} (h : LineIs W B g sv l) :
    Calls Try.prog 48 #[.pointer (some ⟨g, 0, none⟩)] W fun e W' => e = .returned (.int .i64 (l.length : Int)) ∧ W' = W := by
  have c1 := h.idx.c1
  clear h
  go_enter Try.func48, Try.ntmps48
  go_wp2
  go_ret
  exact ⟨rfl, rfl⟩

set_option maxRecDepth 20000 in
set_option maxHeartbeats 1000000 in
theorem new_line (s : ByteArray) (W : World) (hs : s.size ≤ 50000) :
    Calls Try.prog 39 #[.string s] W fun e W' => e = .returned (.pointer (some ⟨W.heap.size + 1, 0, none⟩)) ∧ ∃ sv, LineIs W' W.heap.size (W.heap.size + 1) sv s.data.toList ∧ Below W.heap.size W W' := by
  have hl0 : LineIs ((W.alloc (.cells #[.int .i64 0] 3)).alloc (.cells #[.slice (some ⟨W.heap.size, 0, none⟩) 1 1, .int .i64 0] 75)) W.heap.size (W.heap.size + 1) (.slice (some ⟨W.heap.size, 0, none⟩) 1 1) [] := by
    refine ⟨⟨by omega, ?_, ?_⟩, by simp⟩
    · have := World.alloc_heap_new (W.alloc (.cells #[.int .i64 0] 3)) (.cells #[.slice (some ⟨W.heap.size, 0, none⟩) 1 1, .int .i64 0] 75)
      rw [World.size_alloc] at this
      exact this
    · refine ⟨rfl, .inr ⟨W.heap.size, 1, #[.int .i64 0], rfl, Nat.le_refl _, ?_, Nat.le_refl _, by unfold maxLen; omega, rfl, rfl⟩⟩
      rw [Below.heap_alloc _ _ _ (by simp)]
      exact World.alloc_heap_new W _
  have hb0 : Below W.heap.size W ((W.alloc (.cells #[.int .i64 0] 3)).alloc (.cells #[.slice (some ⟨W.heap.size, 0, none⟩) 1 1, .int .i64 0] 75)) := ((Below.refl _ W).alloc (Nat.le_refl _) _).alloc (by simp) _
  have hc := change_line (n := 0) (d := 0) (add := s) hb0.size hl0 (by simp) (by simpa using hs)
  have HB := hide hb0
  have HL := hide hl0
  clear hl0 hb0 hs
  go_enter Try.func39, Try.ntmps39
  go_wp2_with (go_at_call 92; refine hc.mono ?_; rintro e w' ⟨rfl, hst⟩; have HS := hide hst; clear hst hc)
  go_ret
  refine ⟨by simp, ?_⟩
  obtain ⟨sv, h1, h2, _⟩ := HS.out
  refine ⟨sv, by simpa using h1, HB.out.trans (h2.below HB.out.size ?_)⟩
  rintro i (rfl | e)
  · omega
  · have : i = W.heap.size := by simpa [Value.ownBlock] using e
    omega

/-- What Edit answers. -/
def EdOut (B g : Nat) (sv : Value) (l : List UInt8) (at_ dr : Int) (add : ByteArray) (W : World) (e : Ending) (W' : World) : Prop := ∃ r : Int, e = .returned (.int .i64 r) ∧
  ((0 ≤ at_ ∧ 0 ≤ dr ∧ at_ + dr ≤ l.length ∧ r = 0 ∧ LStep B g sv (l.take at_.toNat ++ (add.data.toList ++ l.drop (at_.toNat + dr.toNat))) W W') ∨ (¬ (0 ≤ at_ ∧ 0 ≤ dr ∧ at_ + dr ≤ l.length) ∧ r = 30 ∧ W' = W))

set_option maxRecDepth 20000 in
set_option maxHeartbeats 1000000 in
theorem edit_line {W : World} {B g : Nat} {sv : Value} {l : List UInt8} (at_ dr : Int) (add : ByteArray) (hB : B ≤ W.heap.size) (h : LineIs W B g sv l) (hl : l.length + add.size ≤ 50000) (hw : IntKind.i64.wrap at_ = at_) :
    Calls Try.prog 41 #[.pointer (some ⟨g, 0, none⟩), .int .i64 at_, .int .i64 dr, .string add] W (EdOut B g sv l at_ dr add W) := by
  have hln := lines_line h
  have hp := starts_pos l
  have hne : ¬ ((starts l).length : Int) = 0 := by omega
  have c1 := h.idx.c1
  generalize (starts l).length = NL at hln hne hp
  by_cases h1 : 0 ≤ at_ ∧ 0 ≤ dr ∧ at_ + dr ≤ l.length
  · obtain ⟨n, rfl⟩ : ∃ n : Nat, at_ = n := ⟨at_.toNat, by omega⟩
    obtain ⟨d, rfl⟩ : ∃ d : Nat, dr = d := ⟨dr.toNat, by omega⟩
    have i1 : ¬ (n : Int) < 0 := by omega
    have i2 : ¬ (d : Int) < 0 := by omega
    have w1 : IntKind.i64.wrap ((l.length : Int) - (n : Int)) = (l.length : Int) - (n : Int) := by rw [IntKind.wrap_i64]; omega
    have w2 : IntKind.i64.wrap ((l.length : Int) - (d : Int)) = (l.length : Int) - (d : Int) := by rw [IntKind.wrap_i64]; omega
    have w3 : IntKind.i64.wrap (16777216 - ((l.length : Int) - (d : Int))) = 16777216 - ((l.length : Int) - (d : Int)) := by rw [IntKind.wrap_i64]; omega
    have i3 : ¬ ((l.length : Int) - (n : Int) < (d : Int)) := by omega
    have i4 : ¬ (16777216 - ((l.length : Int) - (d : Int)) < (add.size : Int)) := by omega
    have hc := change_line (n := n) (d := d) (add := add) hB h (by omega) (by omega)
    have H1 := hide h1
    clear h h1 hw
    go_enter Try.func41, Try.ntmps41
    go_wp2_with (first
      | (go_at_call 46; refine hln.mono ?_; rintro e w' ⟨rfl, rfl⟩)
      | (go_at_call 92; refine hc.mono ?_; rintro e w' ⟨rfl, hst⟩; have HS := hide hst; clear hst hc))
    go_ret
    exact ⟨0, rfl, .inl ⟨H1.out.1, H1.out.2.1, H1.out.2.2, rfl, HS.out⟩⟩
  · have H1 := hide h1
    by_cases i1 : at_ < 0
    · clear h h1 hw
      go_enter Try.func41, Try.ntmps41
      go_wp2_with (go_at_call 46; refine hln.mono ?_; rintro e w' ⟨rfl, rfl⟩)
      go_ret
      exact ⟨30, rfl, .inr ⟨H1.out, rfl, rfl⟩⟩
    · by_cases i2 : dr < 0
      · clear h h1 hw
        go_enter Try.func41, Try.ntmps41
        go_wp2_with (go_at_call 46; refine hln.mono ?_; rintro e w' ⟨rfl, rfl⟩)
        go_ret
        exact ⟨30, rfl, .inr ⟨H1.out, rfl, rfl⟩⟩
      · have w1 : IntKind.i64.wrap ((l.length : Int) - at_) = (l.length : Int) - at_ := by rw [IntKind.wrap_i64] at hw ⊢; omega
        have i3 : (l.length : Int) - at_ < dr := by omega
        clear h h1 hw
        go_enter Try.func41, Try.ntmps41
        go_wp2_with (go_at_call 46; refine hln.mono ?_; rintro e w' ⟨rfl, rfl⟩)
        go_ret
        exact ⟨30, rfl, .inr ⟨H1.out, rfl, rfl⟩⟩

end Go.Proofs.Ytpmijaplkbmbiaa.I
