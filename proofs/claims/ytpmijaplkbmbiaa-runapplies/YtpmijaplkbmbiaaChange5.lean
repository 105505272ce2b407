/- The buffer: change, whole. -/
import Derived.Test.YtpmijaplkbmbiaaChange4
namespace Go.Proofs.Ytpmijaplkbmbiaa
open Go.RowKit Go.By Go.Shelf
set_option linter.unusedVariables false

/-- The pieces behind change(n, k, s). -/
def chgAt (ps : List ByteArray) (n k : Nat) (s : ByteArray) : List ByteArray :=
  if k = 0 ∧ s.size = 0 then ps else chg ps s (findP ps n).1 (findP ps n).2 (findP ps (n + k)).1 (findP ps (n + k)).2

theorem text_chgAt {ps : List ByteArray} {n k : Nat} (s : ByteArray) (h : n + k ≤ tot ps) : text (chgAt ps n k s) = (text ps).take n ++ (s.data.toList ++ (text ps).drop (n + k)) := by
  unfold chgAt
  split
  · rename_i h0
    obtain ⟨rfl, hs⟩ := h0
    have : s.data.toList = [] := List.length_eq_zero_iff.1 (by rw [Array.length_toList]; exact hs)
    rw [this]
    simp
  · exact text_chg (spot_find (by omega)) (spot_find h)

theorem tot_chgAt {ps : List ByteArray} {n k : Nat} (s : ByteArray) (h : n + k ≤ tot ps) : tot (chgAt ps n k s) = tot ps - k + s.size := by
  have e := congrArg List.length (text_chgAt s h)
  rw [length_text] at e
  rw [e]
  simp only [List.length_append, List.length_take, List.length_drop, length_text, Array.length_toList]
  show min n (tot ps) + (s.size + (tot ps - (n + k))) = _
  omega

theorem len_chgAt {ps : List ByteArray} {n k : Nat} (s : ByteArray) (h : n + k ≤ tot ps) : (chgAt ps n k s).length ≤ ps.length + 3 := by
  unfold chgAt
  split
  · omega
  · exact chg_len (spot_find (by omega)) (spot_find h) (by omega)

theorem cells_row {W w : World} {B : Nat} {kb cap : Nat} {ps : List ByteArray} {f : Nat} (h : W.ownsRow B 9 1 (.slice (some ⟨kb, 0, none⟩) ps.length cap) ps.length (strs ps)) (hf : f < ps.length) (hb : Below W.heap.size W w) : w.cell? ⟨kb, f, none⟩ = some (.string (at' ps f)) := by
  rcases row_open h with ⟨e, _⟩ | ⟨k, cap', L, e, hkB, hh, hc, hcm, hL, ht⟩
  · cases e
  · cases e
    have h1 := cells_of hh ht f (.string (ps.getD f ⟨#[]⟩)) (by simp [strs, List.getD, hf])
    rw [Nat.zero_add] at h1
    exact (hb.cell (p := ⟨kb, f, none⟩) (lt_of_heap hh)).trans h1

theorem mem_at {ps : List ByteArray} {f : Nat} (h : f < ps.length) : at' ps f ∈ ps := by
  unfold at'; simp [List.getD, h]

theorem change_work {W : World} {B g : Nat} {sv : Value} {lent : Bool} {ps : List ByteArray} {s : ByteArray} {n k : Nat} (hB : B ≤ W.heap.size) (h : BufIs W B g sv lent ps) (hn : n + k ≤ tot ps) (hs : tot ps - k + s.size ≤ 16777216) (hl : ps.length ≤ 900000) (hw : k = 0 → s.size ≠ 0) :
    Calls Try.prog 86 #[.pointer (some ⟨g, 0, none⟩), .int .i64 (n : Int), .int .i64 (k : Int), .string s] W fun e W' => e = .returned (.tuple #[]) ∧ ∃ sv', BufIs W' B g sv' false (chg ps s (findP ps n).1 (findP ps n).2 (findP ps (n + k)).1 (findP ps (n + k)).2) ∧ Chg g sv sv' lent W W' := by
  have hk := know hB h hn hs hl hw
  have h1 := spot_find (ps := ps) (n := n) (by omega)
  have h2 := spot_find (ps := ps) (n := n + k) hn
  have htt := h.small
  have hsz : ∀ f, f < ps.length → (at' ps f).size ≤ 16777216 := fun f hf => by have := le_tot ps _ (mem_at hf); omega
  have hopen : ∀ f, f < ps.length → ∃ kb cap, sv = .slice (some ⟨kb, 0, none⟩) ps.length cap := fun f hf => by
    rcases row_open h.row with ⟨_, e⟩ | ⟨k, cap', L, e, _⟩
    · rw [e] at hf; simp at hf
    · exact ⟨k, cap', e⟩
  have hrow : ∀ kb cap, sv = .slice (some ⟨kb, 0, none⟩) ps.length cap → ∀ f, f < ps.length → ∀ w, Below W.heap.size W w → w.cell? ⟨kb, f, none⟩ = some (.string (at' ps f)) := fun kb cap e f hf w hb => by
    have hr := h.row
    rw [e] at hr
    exact cells_row hr hf hb
  have hs2 : k ≤ tot ps := by omega
  generalize hf : (findP ps n).1 = f at *
  generalize ha : (findP ps n).2 = a at *
  by_cases hk0 : 0 < k
  · generalize hl' : (findP ps (n + k)).1 = l at *
    generalize hz' : (findP ps (n + k)).2 = z at *
    have hlle := h2.le
    by_cases ha0 : 0 < a
    · obtain ⟨kb, cap, e⟩ := hopen f (h1.lt ha0)
      have cf := hrow kb cap e f (h1.lt ha0)
      by_cases hz0 : 0 < z
      · have cl := hrow kb cap e l (h2.lt hz0)
        by_cases hs0 : s.size = 0
        · exact change_kaoz hk e cf (h1.lt ha0) (h1.inn (h1.lt ha0)) cl (h2.lt hz0) (h2.inn (h2.lt hz0)) ha0 hz0 hk0 hs0 (by omega) (by omega) htt (by omega) (hsz _ (h1.lt ha0)) (hsz _ (h2.lt hz0))
        · exact change_kasz hk e cf (h1.lt ha0) (h1.inn (h1.lt ha0)) cl (h2.lt hz0) (h2.inn (h2.lt hz0)) ha0 hz0 hk0 hs0 (by omega) (by omega) htt (by omega) (hsz _ (h1.lt ha0)) (hsz _ (h2.lt hz0))
      · by_cases hs0 : s.size = 0
        · exact change_kaoo hk e cf (h1.lt ha0) (h1.inn (h1.lt ha0)) ha0 hz0 hk0 hs0 (by omega) (by omega) htt (by omega) (hsz _ (h1.lt ha0))
        · exact change_kaso hk e cf (h1.lt ha0) (h1.inn (h1.lt ha0)) ha0 hz0 hk0 hs0 (by omega) (by omega) htt (by omega) (hsz _ (h1.lt ha0))
    · by_cases hz0 : 0 < z
      · obtain ⟨kb, cap, e⟩ := hopen l (h2.lt hz0)
        have cl := hrow kb cap e l (h2.lt hz0)
        by_cases hs0 : s.size = 0
        · exact change_kooz hk e cl (h2.lt hz0) (h2.inn (h2.lt hz0)) ha0 hz0 hk0 hs0 (by omega) (by omega) htt (by omega) (hsz _ (h2.lt hz0))
        · exact change_kosz hk e cl (h2.lt hz0) (h2.inn (h2.lt hz0)) ha0 hz0 hk0 hs0 (by omega) (by omega) htt (by omega) (hsz _ (h2.lt hz0))
      · by_cases hs0 : s.size = 0
        · exact change_kooo hk ha0 hz0 hk0 hs0 (by omega) (by omega) htt (by omega)
        · exact change_koso hk ha0 hz0 hk0 hs0 (by omega) (by omega) htt (by omega)
  · obtain rfl : k = 0 := by omega
    have hs0 := hw rfl
    rw [Nat.add_zero] at *
    rw [hf, ha] at hk ⊢
    have hlle := h1.le
    by_cases ha0 : 0 < a
    · obtain ⟨kb, cap, e⟩ := hopen f (h1.lt ha0)
      exact change_oasz hk e (hrow kb cap e f (h1.lt ha0)) (h1.lt ha0) (h1.inn (h1.lt ha0)) ha0 hs0 (by omega) (by omega) htt (by omega) (hsz _ (h1.lt ha0))
    · exact change_ooso hk ha0 hs0 (by omega) (by omega) htt (by omega)

set_option maxRecDepth 20000 in
set_option maxHeartbeats 1000000 in
theorem change_none (p : Value) (n : Int) (s : ByteArray) (W : World) (hs : s.size = 0) :
    Calls Try.prog 86 #[p, .int .i64 n, .int .i64 0, .string s] W fun e W' => e = .returned (.tuple #[]) ∧ W' = W := by
  have s1 : s.toList.isEmpty = true := toList_none hs
  clear hs
  go_enter Try.func86, Try.ntmps86
  go_wp2
  refine bodyPost_ret (results_none rfl _ _ _) rfl ?_
  exact ⟨rfl, rfl⟩

/-- change, of a buffer whose row no other one has. -/
theorem change_solo {W : World} {B g : Nat} {ps : List ByteArray} {sv : Value} {s : ByteArray} {n k : Nat} (hB : B ≤ W.heap.size) (h : BufIs W B g sv false ps) (hn : n + k ≤ tot ps) (hs : tot ps - k + s.size ≤ 16777216) (hl : ps.length ≤ 900000) :
    Calls Try.prog 86 #[.pointer (some ⟨g, 0, none⟩), .int .i64 (n : Int), .int .i64 (k : Int), .string s] W fun e W' => e = .returned (.tuple #[]) ∧ ∃ sv', BufIs W' B g sv' false (chgAt ps n k s) ∧ Below B W W' := by
  by_cases h0 : k = 0 ∧ s.size = 0
  · obtain ⟨rfl, hs0⟩ := h0
    refine (change_none _ _ s W hs0).mono ?_
    rintro e W' ⟨rfl, rfl⟩
    exact ⟨rfl, sv, by unfold chgAt; rw [if_pos ⟨rfl, hs0⟩]; exact h, Below.refl _ _⟩
  · refine (change_work hB h hn hs hl (fun e e2 => h0 ⟨e, e2⟩)).mono ?_
    rintro e W' ⟨rfl, sv', h', hc⟩
    refine ⟨rfl, sv', by unfold chgAt; rw [if_neg h0]; exact h', hc.1.below hB ?_⟩
    rintro i (rfl | ⟨_, e⟩)
    · exact h.hB
    · exact (ownBlock_lt h.row e.symm).1

end Go.Proofs.Ytpmijaplkbmbiaa
