/- letters: the words. -/
import Derived.Test.YteimabnkpdbhaaaLD
namespace Go.Proofs.Yteimabnkpdbhaaa.L
open Go.Proofs.Yteimabnkpdbhaaa Go.RowKit Go.By
set_option linter.unusedVariables false
set_option linter.unusedSimpArgs false
attribute [local go_sem ↓] Go.wp_at_zero Go.wp_at_succ

def wordsL : List ByteArray := [⟨#[116, 121, 112, 101]⟩, ⟨#[100, 101, 102]⟩, ⟨#[102, 110]⟩, ⟨#[108, 101, 116]⟩, ⟨#[105, 110]⟩, ⟨#[105, 102]⟩, ⟨#[116, 104, 101, 110]⟩, ⟨#[101, 108, 115, 101]⟩, ⟨#[116, 114, 117, 101]⟩, ⟨#[102, 97, 108, 115, 101]⟩, ⟨#[110, 111, 110, 101]⟩, ⟨#[105, 110, 116]⟩, ⟨#[98, 111, 111, 108]⟩, ⟨#[116, 101, 120, 116]⟩, ⟨#[100, 121, 110]⟩]
def wordsV : Array Value := #[.string ⟨#[116, 121, 112, 101]⟩, .string ⟨#[100, 101, 102]⟩, .string ⟨#[102, 110]⟩, .string ⟨#[108, 101, 116]⟩, .string ⟨#[105, 110]⟩, .string ⟨#[105, 102]⟩, .string ⟨#[116, 104, 101, 110]⟩, .string ⟨#[101, 108, 115, 101]⟩, .string ⟨#[116, 114, 117, 101]⟩, .string ⟨#[102, 97, 108, 115, 101]⟩, .string ⟨#[110, 111, 110, 101]⟩, .string ⟨#[105, 110, 116]⟩, .string ⟨#[98, 111, 111, 108]⟩, .string ⟨#[116, 101, 120, 116]⟩, .string ⟨#[100, 121, 110]⟩]
theorem wordsV_get : ∀ i : Nat, i < 15 → wordsV[i]? = some (.string (wordsL.getD i ⟨#[]⟩)) := by
  intro i hi
  have : i = 0 ∨ i = 1 ∨ i = 2 ∨ i = 3 ∨ i = 4 ∨ i = 5 ∨ i = 6 ∨ i = 7 ∨ i = 8 ∨ i = 9 ∨ i = 10 ∨ i = 11 ∨ i = 12 ∨ i = 13 ∨ i = 14 := by omega
  rcases this with rfl | rfl | rfl | rfl | rfl | rfl | rfl | rfl | rfl | rfl | rfl | rfl | rfl | rfl | rfl <;> rfl
/-- A row of texts in memory. -/
def RowS (w : World) (b : Nat) (ws : List ByteArray) : Prop := b < w.heap.size ∧ ∀ i, i < ws.length → w.cell? ⟨b, i, none⟩ = some (.string (ws.getD i ⟨#[]⟩))
theorem RowS.below {w w' : World} {b : Nat} {ws : List ByteArray} (h : RowS w b ws) (hb : Below w.heap.size w w') : RowS w' b ws :=
  ⟨Nat.lt_of_lt_of_le h.1 hb.size, fun i hi => (hb.cell (p := ⟨b, i, none⟩) h.1).trans (h.2 i hi)⟩
theorem row_of (w : World) (b t : Nat) (h : w.heap[b]? = some (.cells wordsV t (0, 0))) : RowS w b wordsL := by
  refine ⟨(Array.getElem?_eq_some_iff.1 h).1, fun i hi => ?_⟩
  rw [Joins.cell_of_block h]
  exact wordsV_get i hi

theorem words_any (w : World) : Calls Try.prog 27 #[] w fun e W' => e = .returned (.agg wordsV) ∧ Below w.heap.size w W' := by
  go_enter Try.func27, Try.ntmps27
  go_wp2
  exact bodyPost_ret (results_cell_row rfl _ _ w.heap.size 35 _ (0, 0) _ rfl (World.alloc_heap_new w (.cells wordsV 35)) Try.underlying35 rfl (by kernel_rfl)) rfl ⟨rfl, (Below.refl _ w).alloc (Nat.le_refl _) _⟩

/-- The fifteen words, in a row of one's own. -/
def WordsOut (w : World) (e : Ending) (W' : World) : Prop := ∃ b, e = .returned (.slice (some ⟨b, 0, none⟩) 15 15) ∧ RowS W' b wordsL ∧ Below w.heap.size w W'

theorem rwords_any (w : World) : Calls Try.prog 22 #[] w fun e W' => WordsOut w e W' := by
  go_enter Try.func22, Try.ntmps22
  go_wp2
  go_ret
  exact ⟨w.heap.size, rfl, row_of _ _ _ (World.alloc_heap_new w (.cells wordsV 9)), (Below.refl _ w).alloc (Nat.le_refl _) _⟩

theorem words_any' (w : World) : Calls Try.prog 27 #[] w fun e W' => e = .returned (.agg #[.string ⟨#[116, 121, 112, 101]⟩, .string ⟨#[100, 101, 102]⟩, .string ⟨#[102, 110]⟩, .string ⟨#[108, 101, 116]⟩, .string ⟨#[105, 110]⟩, .string ⟨#[105, 102]⟩, .string ⟨#[116, 104, 101, 110]⟩, .string ⟨#[101, 108, 115, 101]⟩, .string ⟨#[116, 114, 117, 101]⟩, .string ⟨#[102, 97, 108, 115, 101]⟩, .string ⟨#[110, 111, 110, 101]⟩, .string ⟨#[105, 110, 116]⟩, .string ⟨#[98, 111, 111, 108]⟩, .string ⟨#[116, 101, 120, 116]⟩, .string ⟨#[100, 121, 110]⟩]) ∧ Below w.heap.size w W' := words_any w
theorem pwords_any (w : World) : Calls Try.prog 21 #[] w fun e W' => WordsOut w e W' := by
  have HC := hide words_any'
  go_enter Try.func21, Try.ntmps21
  go_wp2_with (go_at_call 27; refine (HC.out _).mono ?_; rintro e W1 ⟨rfl, hb⟩; have HB1 := hide hb; clear hb)
  go_ret
  exact ⟨W1.heap.size, rfl, row_of _ _ 35 (World.alloc_heap_new W1 (.cells wordsV 35)), HB1.out.alloc HB1.out.size _⟩

/-- Is a text among some? -/
def wordIn (x : ByteArray) (ws : List ByteArray) : Bool := ws.any fun y => y.toList == x.toList
def wordB (x : ByteArray) : Bool := wordIn x wordsL
theorem wordIn_take (x : ByteArray) (ws : List ByteArray) (k : Nat) (h : k < ws.length) : wordIn x (ws.take (k + 1)) = (wordIn x (ws.take k) || (ws.getD k ⟨#[]⟩).toList == x.toList) := by
  have e : ws.take (k + 1) = ws.take k ++ [ws.getD k ⟨#[]⟩] := by rw [List.take_succ_eq_append_getElem h]; simp [List.getD, h]
  rw [wordIn, wordIn, e, List.any_append]
  simp
theorem wordIn_some (x : ByteArray) (ws : List ByteArray) (k : Nat) (h : wordIn x (ws.take k) = true) : wordIn x ws = true := by
  rw [wordIn, List.any_eq_true] at *
  obtain ⟨y, h1, h2⟩ := h
  exact ⟨y, List.mem_of_mem_take h1, h2⟩

set_option maxRecDepth 20000 in
set_option maxHeartbeats 1000000 in
theorem index_words (x : ByteArray) (b : Nat) (ws : List ByteArray) (w : World) (h : RowS w b ws) (hm : ws.length = 15) :
    Calls Try.prog 33 #[.slice (some ⟨b, 0, none⟩) 15 15, .string x] w fun e W' => (∃ z : Int, e = .returned (.int .i64 z) ∧ Hid (decide (0 ≤ z) = wordIn x ws)) ∧ Below w.heap.size w W' := by
  have HR := hide h.2
  have HL := hide hm
  clear h hm
  go_enter Try.func33, Try.ntmps33
  go_wp2
  go_loopw [8] (fun s8 wr => wr = w ∧ ∃ k : Nat, s8 = .int .i64 (k : Int) ∧ k ≤ 15 ∧ Hid (wordIn x (ws.take k) = false)) (fun s8 _ => 15 - (intOf s8).toNat)
  case atStart => exact ⟨rfl, 0, rfl, by omega, hide (by simp [wordIn])⟩
  case round =>
    obtain ⟨hw, k, rfl, hk, HI⟩ := hrel
    subst hw
    by_cases hlt : k < 15
    · have hc := HR.out k (by rw [HL.out]; exact hlt)
      have HT := hide (wordIn_take x ws k (by rw [HL.out]; exact hlt))
      generalize ws.getD k ⟨#[]⟩ = y at *
      by_cases hy : x.toList = y.toList
      · have HV : Hid (wordIn x ws = true) := hide (wordIn_some x ws (k + 1) (by rw [HT.out, hy]; simp))
        have q : (x.toList == y.toList) = true := by simp [hy]
        go_wp2
        go_ret
        exact ⟨⟨_, rfl, hide (by rw [HV.out]; simp)⟩, Below.refl _ _⟩
      · have HV : Hid (wordIn x (ws.take (k + 1)) = false) := hide (by rw [HT.out, HI.out]; simp; exact fun e => hy e.symm)
        have q : (x.toList == y.toList) = false := by simp [hy]
        go_wp2
        go_roundw
        case rel => exact ⟨by trivial, k + 1, by go_num, by omega, HV⟩
        case measure => simp [intOf]; omega
    · have HV : Hid (wordIn x ws = false) := hide (by
        have h1 := HI.out
        rw [List.take_of_length_le (by rw [HL.out]; omega)] at h1
        exact h1)
      go_wp2
      go_ret
      exact ⟨⟨_, rfl, hide (by rw [HV.out]; rfl)⟩, Below.refl _ _⟩

theorem contains_any (x : ByteArray) (b : Nat) (ws : List ByteArray) (w : World) (h : RowS w b ws) (hm : ws.length = 15) :
    Calls Try.prog 28 #[.slice (some ⟨b, 0, none⟩) 15 15, .string x] w fun e W' => e = .returned (.bool (wordIn x ws)) ∧ Below w.heap.size w W' := by
  have HC := hide (index_words x b ws w h hm)
  clear h
  cases hv : wordIn x ws with
  | true =>
    rw [hv] at HC
    clear hv
    go_enter Try.func28, Try.ntmps28
    go_wp2_with (go_at_call 33; refine HC.out.mono ?_; rintro e W1 ⟨⟨z, rfl, HZ⟩, hb⟩; have HB1 := hide hb; have hz : 0 ≤ z := of_decide_eq_true HZ.out; clear hb)
    go_ret
    exact ⟨rfl, HB1.out⟩
  | false =>
    rw [hv] at HC
    clear hv
    go_enter Try.func28, Try.ntmps28
    go_wp2_with (go_at_call 33; refine HC.out.mono ?_; rintro e W1 ⟨⟨z, rfl, HZ⟩, hb⟩; have HB1 := hide hb; have hz : ¬ 0 ≤ z := of_decide_eq_false HZ.out; clear hb)
    go_ret
    exact ⟨ret_bool (decide_eq_false (by omega)), HB1.out⟩

theorem word_any (x : ByteArray) (w : World) : Calls Try.prog 16 #[.string x] w fun e W' => e = .returned (.bool (wordB x)) ∧ Below w.heap.size w W' := by
  have HC := hide words_any'
  have HD : Hid (∀ b W, RowS W b wordsL → Calls Try.prog 28 #[.slice (some ⟨b, 0, none⟩) 15 15, .string x] W fun e W' => e = .returned (.bool (wordB x)) ∧ Below W.heap.size W W') := hide fun b W h => contains_any x b wordsL W h rfl
  generalize wordB x = v at *
  go_enter Try.func16, Try.ntmps16
  go_wp2_with (first
    | (go_at_call 27; refine (HC.out _).mono ?_; rintro e W1 ⟨rfl, hb⟩; have HB1 := hide hb; clear hb)
    | (go_at_call 28; refine (HD.out W1.heap.size _ (row_of _ _ 35 (World.alloc_heap_new W1 (.cells wordsV 35)))).mono ?_; rintro e W2 ⟨rfl, hb⟩; have HB2 := hide ((HB1.out.alloc HB1.out.size _).trans (hb.mono (HB1.out.alloc HB1.out.size _).size)); clear hb))
  go_ret
  exact ⟨rfl, HB2.out⟩

set_option maxRecDepth 20000 in
set_option maxHeartbeats 1000000 in
theorem rword_any (x : ByteArray) (w : World) : Calls Try.prog 17 #[.string x] w fun e W' => e = .returned (.bool (wordB x)) ∧ Below w.heap.size w W' := by
  have HC := hide rwords_any
  have HL : Hid (wordsL.length = 15) := hide rfl
  have HW : Hid (wordB x = wordIn x wordsL) := hide rfl
  go_enter Try.func17, Try.ntmps17
  go_wp2_with (go_at_call 22; refine (HC.out _).mono ?_; rintro e W1 ⟨b, rfl, hr, hb⟩; have HB1 := hide hb; have HR := hide hr.2; clear hb hr)
  generalize wordsL = ws at *
  go_loopw [4] (fun s4 wr => wr = W1 ∧ ∃ k : Nat, s4 = .int .i64 (k : Int) ∧ k ≤ 15 ∧ Hid (wordIn x (ws.take k) = false)) (fun s4 _ => 15 - (intOf s4).toNat)
  case atStart => exact ⟨rfl, 0, rfl, by omega, hide (by simp [wordIn])⟩
  case round =>
    obtain ⟨hw, k, rfl, hk, HI⟩ := hrel
    subst hw
    by_cases hlt : k < 15
    · have hc := HR.out k (by rw [HL.out]; exact hlt)
      have HT := hide (wordIn_take x ws k (by rw [HL.out]; exact hlt))
      generalize ws.getD k ⟨#[]⟩ = y at *
      by_cases hy : y.toList = x.toList
      · have HV : Hid (wordB x = true) := hide (by rw [HW.out]; exact wordIn_some x ws (k + 1) (by rw [HT.out, hy]; simp))
        have q : (y.toList == x.toList) = true := by simp [hy]
        go_wp2
        go_ret
        exact ⟨by rw [HV.out]; rfl, HB1.out⟩
      · have HV : Hid (wordIn x (ws.take (k + 1)) = false) := hide (by rw [HT.out, HI.out]; simp; exact hy)
        have q : (y.toList == x.toList) = false := by simp [hy]
        go_wp2
        go_roundw
        case rel => exact ⟨by trivial, k + 1, by go_num, by omega, HV⟩
        case measure => simp [intOf]; omega
    · have HV : Hid (wordB x = false) := hide (by
        have h1 := HI.out
        rw [List.take_of_length_le (by rw [HL.out]; omega)] at h1
        rw [HW.out]; exact h1)
      go_wp2
      go_ret
      exact ⟨by rw [HV.out]; rfl, HB1.out⟩
end Go.Proofs.Yteimabnkpdbhaaa.L
