/- The buffer: Byte. -/
import Derived.Test.YtpmijaplkbmbiaaBuf2
namespace Go.Proofs.Ytpmijaplkbmbiaa
open Go.RowKit Go.By Go.Shelf
set_option linter.unusedVariables false

theorem byte_eq {ps : List ByteArray} {n f a : Nat} (h : Spot ps n f a) (hf : f < ps.length) (ha : a < (at' ps f).size) (hn : n < (str ps).size) : (str ps)[n] = (at' ps f)[a] := by
  have hl := length_text (ps.take f)
  have hs := h.sum
  have e : text ps = text (ps.take f) ++ ((at' ps f).data.toList ++ text (ps.drop (f + 1))) := by rw [← text_cons, ← drop_at hf, ← text_append, List.take_append_drop]
  have e2 : (text ps)[n]? = some (at' ps f)[a] := by
    have e5 : n - (text (List.take f ps)).length = a := by omega
    rw [e, List.getElem?_append_right (by omega), e5, List.getElem?_append_left (by rw [Array.length_toList]; exact ha), Array.getElem?_toList]
    exact Array.getElem?_eq_getElem ha
  have hn2 : n < (text ps).length := by simpa [str, ByteArray.size] using hn
  rw [List.getElem?_eq_getElem hn2] at e2
  have e3 := Option.some.inj e2
  rw [← e3]
  simp [str, ByteArray.getElem_eq_getElem_data]

theorem size_str (ps : List ByteArray) : (str ps).size = tot ps := by
  show (text ps).toArray.size = _
  rw [List.size_toArray, length_text]

set_option maxRecDepth 20000 in
set_option maxHeartbeats 1000000 in
theorem byte_in {W : World} {B g : Nat} {ps : List ByteArray} {sv : Value} {lent : Bool} (n : Nat) (h : BufIs W B g sv lent ps) (hl : ps.length ≤ 1000000) (hn : n < tot ps) :
    Calls Try.prog 32 #[.pointer (some ⟨g, 0, none⟩), .int .i64 (n : Int)] W fun e W' => e = .returned (.tuple #[.int .u8 (((str ps)[n]'(by rw [size_str]; exact hn)).toNat : Int), .bool true]) ∧ Below W.heap.size W W' := by
  have hns : n < (str ps).size := by rw [size_str]; exact hn
  have htt := h.small
  have hlen := len_buf h
  have hfi := find_buf h hl n (by omega)
  have hsp := spot_find (ps := ps) (n := n) (by omega)
  generalize (findP ps n).1 = f at *
  generalize (findP ps n).2 = a at *
  have hf : f < ps.length := by
    rcases Nat.lt_or_ge f ps.length with h1 | h1
    · exact h1
    · have e : f = ps.length := by have := hsp.le; omega
      have := hsp.out e
      have := hsp.sum
      rw [e, List.take_length] at this
      omega
  have ha := hsp.inn hf
  have hsz : (at' ps f).size ≤ 16777216 := by have := le_tot ps _ (mem_at hf); omega
  obtain ⟨kb, cap, rfl⟩ : ∃ kb cap, sv = .slice (some ⟨kb, 0, none⟩) ps.length cap := by
    rcases row_open h.row with ⟨_, e⟩ | ⟨k, cap', L, e, _⟩
    · rw [e] at hf; simp at hf
    · exact ⟨k, cap', e⟩
  have hcf : ∀ w, Below W.heap.size W w → w.cell? ⟨kb, f, none⟩ = some (.string (at' ps f)) := fun w hb => cells_row h.row hf hb
  have hc3 : ∀ w, Below W.heap.size W w → w.cell? ⟨g, 3, none⟩ = some (.slice (some ⟨kb, 0, none⟩) ps.length cap) := fun w hb => (h.below hb).c3
  have i1 : ¬ (n : Int) < 0 := by omega
  have i2 : ¬ (tot ps : Int) ≤ (n : Int) := by omega
  have i2' : ¬ tot ps ≤ n := by omega
  rw [byte_eq hsp hf ha hns]
  generalize at' ps f = pf at *
  have HCF := hide hcf
  have HC3 := hide hc3
  clear h hcf hc3 hsp
  go_enter Try.func32, Try.ntmps32
  go_wp2_with (first
    | (go_at_call 35; refine hlen.mono ?_; rintro e w' ⟨rfl, rfl⟩)
    | (go_at_call 91; refine hfi.mono ?_; rintro e w' ⟨rfl, hb⟩; have HB := hide hb; have d3 := HC3.out _ hb; have df := HCF.out _ hb; clear hb))
  go_ret2
  exact ⟨rfl, HB.out⟩

set_option maxRecDepth 20000 in
set_option maxHeartbeats 1000000 in
theorem byte_out {W : World} {B g : Nat} {ps : List ByteArray} {sv : Value} {lent : Bool} (n : Int) (h : BufIs W B g sv lent ps) (hn : ¬ (0 ≤ n ∧ n < tot ps)) :
    Calls Try.prog 32 #[.pointer (some ⟨g, 0, none⟩), .int .i64 n] W fun e W' => e = .returned (.tuple #[.int .u8 0, .bool false]) ∧ W' = W := by
  have hlen := len_buf h
  clear h
  by_cases i1 : n < 0
  · clear hn
    go_enter Try.func32, Try.ntmps32
    go_wp2_with (go_at_call 35; refine hlen.mono ?_; rintro e w' ⟨rfl, rfl⟩)
    go_ret2
    exact ⟨rfl, rfl⟩
  · have i2 : (tot ps : Int) ≤ n := by omega
    clear hn
    go_enter Try.func32, Try.ntmps32
    go_wp2_with (go_at_call 35; refine hlen.mono ?_; rintro e w' ⟨rfl, rfl⟩)
    go_ret2
    exact ⟨rfl, rfl⟩

end Go.Proofs.Ytpmijaplkbmbiaa
