/- The buffer: New, Slice, Byte; the chapter's example. -/
import Derived.Test.YtpmijaplkbmbiaaBuf
namespace Go.Proofs.Ytpmijaplkbmbiaa
open Go.RowKit Go.By Go.Shelf
set_option linter.unusedVariables false

theorem chgAt_nil (s : ByteArray) : chgAt [] 0 0 s = mid' s := by
  unfold chgAt mid'
  by_cases h : s.size = 0
  · simp [h]
  · simp [h, chg, findP, head', tail', mid', past]

set_option maxRecDepth 20000 in
set_option maxHeartbeats 1000000 in
theorem new_buf (s : ByteArray) (W : World) (hs : s.size ≤ 16777216) :
    Calls Try.prog 25 #[.string s] W fun e W' => e = .returned (.tuple #[.pointer (some ⟨W.heap.size, 0, none⟩), .int .i64 0]) ∧ ∃ sv, BufIs W' W.heap.size W.heap.size sv false (mid' s) ∧ Below W.heap.size W W' := by
  have hb0 : BufIs (W.alloc (.cells #[.bool true, .bool false, .int .i64 0, .slice none 0 0] 51)) W.heap.size W.heap.size (.slice none 0 0) false [] :=
    ⟨Nat.le_refl _, World.alloc_heap_new W _, World.ownsRow_nil _ _ _ _, by simp [tot], fun p hp => by cases hp⟩
  have hc := change_solo (n := 0) (k := 0) (s := s) (by simp) hb0 (by simp [tot]) (by simpa [tot] using hs) (by simp)
  rw [chgAt_nil] at hc
  have hbl : Below W.heap.size W (W.alloc (.cells #[.bool true, .bool false, .int .i64 0, .slice none 0 0] 51)) := (Below.refl _ W).alloc (Nat.le_refl _) _
  have HBL := hide hbl
  clear hb0 hbl
  have hs' : ¬ (16777216 : Int) < (s.size : Int) := by omega
  go_enter Try.func25, Try.ntmps25
  go_wp2_with (go_at_call 86; refine hc.mono ?_; rintro e w' ⟨rfl, hst⟩; have HS := hide hst; clear hst hc)
  go_ret2
  obtain ⟨sv, h1, h2⟩ := HS.out
  exact ⟨rfl, sv, h1, HBL.out.trans h2⟩

/-- What Slice answers. -/
def SliceOut (ps : List ByteArray) (f t : Int) (W : World) (e : Ending) (W' : World) : Prop := Below W.heap.size W W' ∧
  ((0 ≤ f ∧ f ≤ t ∧ t ≤ tot ps ∧ e = .returned (.tuple #[.string ⟨(cut (text ps) f.toNat t.toNat).toArray⟩, .int .i64 0])) ∨
   (¬ (0 ≤ f ∧ f ≤ t ∧ t ≤ tot ps) ∧ e = .returned (.tuple #[.string ⟨#[]⟩, .int .i64 30])))

set_option maxRecDepth 20000 in
set_option maxHeartbeats 1000000 in
theorem slice_buf {W : World} {B g : Nat} {ps : List ByteArray} {sv : Value} {lent : Bool} (f t : Int) (h : BufIs W B g sv lent ps) (hl : ps.length ≤ 1000000) :
    Calls Try.prog 33 #[.pointer (some ⟨g, 0, none⟩), .int .i64 f, .int .i64 t] W (SliceOut ps f t W) := by
  have c0 := h.c0
  have c2 := h.c2
  have htt := h.small
  by_cases h1 : 0 ≤ f ∧ f ≤ t ∧ t ≤ tot ps
  · obtain ⟨a, rfl⟩ : ∃ a : Nat, f = a := ⟨f.toNat, by omega⟩
    obtain ⟨b, rfl⟩ : ∃ b : Nat, t = b := ⟨t.toNat, by omega⟩
    have i1 : ¬ (a : Int) < 0 := by omega
    have i2 : ¬ (b : Int) < (a : Int) := by omega
    have i2' : ¬ b < a := by omega
    have i3 : ¬ ((tot ps : Int) < (b : Int)) := by omega
    have i3' : ¬ tot ps < b := by omega
    have hc := between_buf h hl a b (by omega) (by omega)
    have H1 := hide h1
    clear h h1
    go_enter Try.func33, Try.ntmps33
    go_wp2_with (go_at_call 90; refine hc.mono ?_; rintro e w' ⟨rfl, hst⟩; have HS := hide hst; clear hst hc)
    go_ret2
    exact ⟨HS.out, .inl ⟨H1.out.1, H1.out.2.1, H1.out.2.2, rfl⟩⟩
  · have H1 := hide h1
    clear h
    by_cases i1 : f < 0
    · clear h1
      go_enter Try.func33, Try.ntmps33
      go_wp2
      go_ret2
      exact ⟨Below.refl _ _, .inr ⟨H1.out, rfl⟩⟩
    · by_cases i2 : t < f
      · clear h1
        go_enter Try.func33, Try.ntmps33
        go_wp2
        go_ret2
        exact ⟨Below.refl _ _, .inr ⟨H1.out, rfl⟩⟩
      · have i3 : (tot ps : Int) < t := by omega
        clear h1
        go_enter Try.func33, Try.ntmps33
        go_wp2
        go_ret2
        exact ⟨Below.refl _ _, .inr ⟨H1.out, rfl⟩⟩

theorem Stepped.kept {B g : Nat} {ps ps' : List ByteArray} {W W' : World} (h : Stepped B g ps' W W') (e : ps' = ps) : ∃ sv, BufIs W' B g sv false ps ∧ Below B W W' := e ▸ h

set_option maxRecDepth 20000 in
set_option maxHeartbeats 2000000 in
theorem lives_piece (w : World) : Calls Try.prog 24 #[] w fun e w' => e = .returned (.bool true) ∧ Below w.heap.size w w' := by
  have hnew := new_buf ⟨#[97, 98, 99, 100]⟩ w (by decide)
  have p0 : mid' ⟨#[97, 98, 99, 100]⟩ = [⟨#[97, 98, 99, 100]⟩] := rfl
  have p1 : chgAt [⟨#[97, 98, 99, 100]⟩] 2 0 ⟨#[88, 89]⟩ = [⟨#[97, 98]⟩, ⟨#[88, 89]⟩, ⟨#[99, 100]⟩] := by decide +kernel
  have p2 : chgAt [⟨#[97, 98]⟩, ⟨#[88, 89]⟩, ⟨#[99, 100]⟩] 1 2 ⟨#[]⟩ = [⟨#[97]⟩, ⟨#[89]⟩, ⟨#[99, 100]⟩] := by decide +kernel
  have t1 : str [⟨#[97, 98]⟩, ⟨#[88, 89]⟩, ⟨#[99, 100]⟩] = ⟨#[97, 98, 88, 89, 99, 100]⟩ := by decide +kernel
  have t2 : str [⟨#[97]⟩, ⟨#[89]⟩, ⟨#[99, 100]⟩] = ⟨#[97, 89, 99, 100]⟩ := by decide +kernel
  rw [p0] at hnew
  generalize hg : w.heap.size = g at hnew ⊢
  have HG := hide hg
  clear hg
  have P1 := hide p1
  have P2 := hide p2
  have T1 := hide t1
  have T2 := hide t2
  clear p0 p1 p2 t1 t2
  go_enter Try.func24, Try.ntmps24
  go_wp2_with fail
  refine hnew.mono ?_
  rintro e w0 ⟨rfl, sv0, h0, b0⟩
  have HB0 := hide b0
  have l0 : g ≤ w0.heap.size := by have := b0.size; have := HG.out; omega
  clear b0 hnew
  go_wp2_with fail
  refine (insert_solo ⟨#[88, 89]⟩ 2 l0 h0 (by simp) (by decide)).mono ?_
  rintro e w1 ⟨r, rfl, (⟨_, _, _, rfl, hst⟩ | ⟨hn, _⟩ | ⟨_, _, hn, _⟩)⟩
  · obtain ⟨sv1, h1, b1⟩ := hst.kept P1.out
    have HB1 := hide (HB0.out.trans b1)
    have l1 : g ≤ w1.heap.size := Nat.le_trans l0 b1.size
    clear b1 h0 hst
    go_wp2_with fail
    refine (text_buf h1 (by simp)).mono ?_
    rintro e w2 ⟨rfl, b2⟩
    rw [T1.out]
    have h2 := h1.below b2
    have HB2 := hide (HB1.out.trans (b2.mono l1))
    have l2 : g ≤ w2.heap.size := Nat.le_trans l1 b2.size
    clear b2 h1
    go_wp2_with fail
    refine (pieces_buf h2).mono ?_
    rintro e w3 ⟨rfl, rfl⟩
    go_wp2_with fail
    refine (delete_solo 1 2 l2 h2 (by simp) (by decide)).mono ?_
    rintro e w3 ⟨r, rfl, (⟨_, _, _, rfl, hst⟩ | ⟨hn, _⟩)⟩
    · obtain ⟨sv3, h3, b3⟩ := hst.kept P2.out
      have HB3 := hide (HB2.out.trans b3)
      have l3 : g ≤ w3.heap.size := Nat.le_trans l2 b3.size
      clear b3 h2 hst
      go_wp2_with fail
      refine (text_buf h3 (by simp)).mono ?_
      rintro e w4 ⟨rfl, b4⟩
      rw [T2.out]
      have h4 := h3.below b4
      have HB4 := hide (HB3.out.trans (b4.mono l3))
      clear b4 h3
      go_wp2_with fail
      refine (pieces_buf h4).mono ?_
      rintro e w5 ⟨rfl, rfl⟩
      go_wp2
      go_ret
      exact ⟨rfl, HB4.out⟩
    · exact absurd (by decide) hn
  · exact absurd (by decide) hn
  · exact absurd (by decide) hn

end Go.Proofs.Ytpmijaplkbmbiaa
