/- Onto: an edit of a buffer. -/
import Derived.Test.YtpmijaplkbmbiaaV8
import Derived.Test.YtpmijaplkbmbiaaNobP
import Derived.Test.YtpmijaplkbmbiaaX9
namespace Go.Proofs.Ytpmijaplkbmbiaa.E
open Go.Proofs.Ytpmijaplkbmbiaa Go.RowKit Go.By Go.Shelf
set_option linter.unusedVariables false
set_option linter.unusedSimpArgs false

theorem doing_any (a : Option Addr) (n cap : Nat) (w : World) : Calls Try.prog 113 #[.slice a n cap] w fun e W' => e = .returned (.func (.func 139) #[] #[.pointer (some ⟨w.heap.size, 0, none⟩)]) ∧ W' = w.alloc (.cells #[.slice a n cap] 77) := by
  go_enter Try.func113, Try.ntmps113
  go_wp2
  go_ret
  exact ⟨rfl, rfl⟩

theorem bt_up {B g N : Nat} {t : List UInt8} {X Y : World} (h : BT B g N t X) (hb : Below X.heap.size X Y) : BT B g N t Y :=
  bt_kept h fun k c t fz _ hx => (hb.block k (lt_of_heap hx)).trans hx
theorem bt_slice {B g N : Nat} {t : List UInt8} {W : World} (h : BT B g N t W) (hN : N ≤ 100000) :
    Calls Try.prog 33 #[.pointer (some ⟨g, 0, none⟩), .int .i64 0, .int .i64 0] W fun e W' => (∃ z, e = .returned (.tuple #[.string z, .int .i64 0])) ∧ Below W.heap.size W W' := by
  obtain ⟨sv, lent, ps, hb, ht, hl⟩ := h
  refine (slice_buf 0 0 hb (by omega)).mono ?_
  rintro e W' ⟨hB, (⟨_, _, _, rfl⟩ | ⟨hn, _⟩)⟩
  · exact ⟨⟨_, rfl⟩, hB⟩
  · exact absurd ⟨by omega, by omega, by omega⟩ hn
theorem bt_len {B g N : Nat} {t : List UInt8} {W : World} (h : BT B g N t W) :
    Calls Try.prog 35 #[.pointer (some ⟨g, 0, none⟩)] W fun e W' => e = .returned (.int .i64 (t.length : Int)) ∧ W' = W := by
  obtain ⟨sv, lent, ps, hb, rfl, hl⟩ := h
  rw [length_text]
  exact len_buf hb
theorem bt_text {B g N : Nat} {s : ByteArray} {W : World} (h : BT B g N s.data.toList W) (hN : N ≤ 1000000) :
    Calls Try.prog 31 #[.pointer (some ⟨g, 0, none⟩)] W fun e W' => e = .returned (.string s) ∧ Below W.heap.size W W' := by
  obtain ⟨sv, lent, ps, hb, ht, hl⟩ := h
  have e : str ps = s := ba_eq (by rw [str, ht])
  rw [← e]
  exact text_buf hb (by omega)

set_option maxRecDepth 100000 in
set_option maxHeartbeats 4000000 in
theorem onto_yes (B g N : Nat) (a : Option Addr) (cap : Nat) (rs : List Rn) (s : ByteArray) (w : World) (hB : B ≤ w.heap.size) (hS : CameR B w a rs) (hb : BT B g N s.data.toList w) (hl : rs.length ≤ 100) (hN : N ≤ 1000) (hs : s.size ≤ 2000)
    (hf : fitsR rs (s.size : Int) = true) :
    Calls Try.prog 74 #[.slice a rs.length cap, .pointer (some ⟨g, 0, none⟩)] w fun e W' => e = .returned (.int .i64 0) ∧ BT B g 900000 (outB s rs).data.toList W' ∧ Below B w W' := by
  have hsl := bt_slice hb (by omega)
  have HBT := hide hb
  have HS := hide hS
  have HB := hide hB
  have HN := hide (And.intro hl (And.intro hN hs))
  have HF := hide hf
  clear hb hS hB hl hN hs hf
  go_enter Try.func74, Try.ntmps74
  go_wp2_with (go_at_call 33; refine hsl.mono ?_; rintro e W1 ⟨⟨z, rfl⟩, hb⟩; have HB1 := hide (hb.mono HB.out); have HT1 := hide (bt_up HBT.out hb); clear hb hsl)
  go_wp2_with (go_at_call 35; refine (bt_len HT1.out).mono ?_; rintro e W2 ⟨rfl, rfl⟩)
  have S1 : CameR B W2 a rs := HS.out.below HB1.out
  have hB1 : B ≤ W2.heap.size := Nat.le_trans HB.out HB1.out.size
  have hft := fits_any a cap rs (s.data.toList.length : Int) W2 (S1.mono hB1) (by have := HN.out; omega)
  rw [sz_list, HF.out] at hft
  have HS1 := hide S1
  have HB1' := hide hB1
  clear S1 hB1
  go_wp2_with (go_at_call 108; refine hft.mono ?_; rintro e W3 ⟨rfl, hb⟩; have HB2 := hide (HB1.out.trans (hb.mono HB1'.out)); have HT2 := hide (bt_up HT1.out hb); have HS2 := hide (HS1.out.below (hb.mono HB1'.out)); clear hb hft)
  go_wp2_with (go_at_call 113; refine (doing_any _ _ _ _).mono ?_; rintro e W4 ⟨rfl, rfl⟩)
  have hB3 : B ≤ W3.heap.size := Nat.le_trans HB.out HB2.out.size
  have hal : Below W3.heap.size W3 (W3.alloc (.cells #[.slice a rs.length cap] 77)) := (Below.refl _ _).alloc (Nat.le_refl _) _
  have hnew := World.alloc_heap_new W3 (.cells #[.slice a rs.length cap] 77)
  obtain ⟨f1, f2, f3, f4, f5, f6⟩ := fits_facts HF.out
  have hd := doing1_any B g N W3.heap.size a cap rs s.data.toList _ (Nat.le_trans hB3 hal.size) (HS2.out.below (hal.mono hB3)) (Boxed.cell hnew) (lt_of_heap hnew) hnew (good_kinds f1) (by rw [sz_list]; omega) (by rw [sz_list]; omega) f3 (bt_up HT2.out hal) (by have := HN.out; omega) (by have := HN.out; omega)
  have HB4 := hide (HB2.out.trans (hal.mono hB3))
  clear hB3 hal hnew f1 f2 f3 f4 f5 f6
  unfold FN at hd
  go_wp2_with (go_at_call 139; refine hd.mono ?_; rintro e W5 ⟨rfl, ht, hb⟩; have HT5 := hide ht; have HB5 := hide (HB4.out.trans hb); clear ht hb hd)
  go_ret
  refine ⟨rfl, ?_, HB5.out⟩
  have e : (outB s rs).data.toList = applT s.data.toList (expand rs) := rfl
  rw [e]
  exact HT5.out

set_option maxRecDepth 100000 in
set_option maxHeartbeats 4000000 in
theorem onto_no (B g N : Nat) (a : Option Addr) (cap : Nat) (rs : List Rn) (s : ByteArray) (w : World) (hB : B ≤ w.heap.size) (hS : CameR B w a rs) (hb : BT B g N s.data.toList w) (hl : rs.length ≤ 100) (hN : N ≤ 1000)
    (hf : fitsR rs (s.size : Int) = false) :
    Calls Try.prog 74 #[.slice a rs.length cap, .pointer (some ⟨g, 0, none⟩)] w fun e W' => e = .returned (.int .i64 60) ∧ BT B g N s.data.toList W' ∧ Below B w W' := by
  have hsl := bt_slice hb (by omega)
  have HBT := hide hb
  have HS := hide hS
  have HB := hide hB
  have HN := hide (And.intro hl hN)
  have HF := hide hf
  clear hb hS hB hl hN hf
  go_enter Try.func74, Try.ntmps74
  go_wp2_with (go_at_call 33; refine hsl.mono ?_; rintro e W1 ⟨⟨z, rfl⟩, hb⟩; have HB1 := hide (hb.mono HB.out); have HT1 := hide (bt_up HBT.out hb); clear hb hsl)
  go_wp2_with (go_at_call 35; refine (bt_len HT1.out).mono ?_; rintro e W2 ⟨rfl, rfl⟩)
  have S1 : CameR B W2 a rs := HS.out.below HB1.out
  have hB1 : B ≤ W2.heap.size := Nat.le_trans HB.out HB1.out.size
  have hft := fits_any a cap rs (s.data.toList.length : Int) W2 (S1.mono hB1) (by have := HN.out; omega)
  rw [sz_list, HF.out] at hft
  have HB1' := hide hB1
  clear S1 hB1
  go_wp2_with (go_at_call 108; refine hft.mono ?_; rintro e W3 ⟨rfl, hb⟩; have HB2 := hide (HB1.out.trans (hb.mono HB1'.out)); have HT2 := hide (bt_up HT1.out hb); clear hb hft)
  go_ret
  exact ⟨rfl, HT2.out, HB2.out⟩

set_option maxRecDepth 100000 in
theorem onto_nil (v : Value) (w : World) : Calls Try.prog 74 #[v, .pointer none] w fun e W' => e = .returned (.int .i64 1) ∧ W' = w := by
  have hsl := nb_slice (.inl rfl : NoB none w) 0 0
  go_enter Try.func74, Try.ntmps74
  go_wp2_with (go_at_call 33; refine hsl.mono ?_; rintro e W1 ⟨rfl, rfl⟩; clear hsl)
  go_ret
  exact ⟨rfl, rfl⟩

theorem bt_new (s : ByteArray) (W : World) (hs : s.size ≤ 2000) :
    Calls Try.prog 25 #[.string s] W fun e W' => e = .returned (.tuple #[.pointer (some ⟨W.heap.size, 0, none⟩), .int .i64 0]) ∧ BT W.heap.size W.heap.size 1 s.data.toList W' ∧ Below W.heap.size W W' :=
  (new_buf s W (by omega)).mono fun e W' ⟨he, sv, hb, hB⟩ => by
    refine ⟨he, ⟨sv, false, _, hb, ?_, ?_⟩, hB⟩
    · rw [mid']
      split
      · rename_i h; have : s.data.toList = [] := List.eq_nil_of_length_eq_zero (by rw [sz_list]; exact h); rw [this]; rfl
      · simp [text]
    · rw [mid']; split <;> simp

end Go.Proofs.Ytpmijaplkbmbiaa.E
