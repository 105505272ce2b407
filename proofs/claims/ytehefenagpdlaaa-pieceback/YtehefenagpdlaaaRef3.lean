/- The reference's skipping and setting; a new ring. -/
import Derived.Test.YtehefenagpdlaaaRef2
namespace Go.Proofs.Ytehefenagpdlaaa
open Go.RowKit Go.By Go.Shelf
set_option linter.unusedVariables false

theorem Lst.drop {w : World} {b off n cap len : Nat} {l : List Int} (h : Lst w (.slice (some ⟨b, off, none⟩) len cap) l) (hn : n ≤ l.length) :
    Lst w (.slice (if cap = n then some ⟨b, off, none⟩ else some ⟨b, off + n, none⟩) (len - n) (cap - n)) (l.drop n) ∧ (Value.slice (if cap = n then some ⟨b, off, none⟩ else some ⟨b, off + n, none⟩) (len - n) (cap - n)).ownBlock = some b := by
  obtain ⟨a', cap', e, h1, h2, h3, h4⟩ := h
  cases e
  obtain ⟨b', off', e, hb, hc⟩ := h4 _ rfl
  cases e
  constructor
  · refine ⟨(if cap = n then some ⟨b, off, none⟩ else some ⟨b, off + n, none⟩), cap - n, by simp, by simp; omega, by omega, ?_, fun x hx => ?_⟩
    · intro e; split at e <;> cases e
    · split at hx
      · cases hx
        refine ⟨b, off, rfl, hb, fun i hi => ?_⟩
        simp at hi; omega
      · cases hx
        refine ⟨b, off + n, rfl, hb, fun i hi => ?_⟩
        simp at hi
        rw [Nat.add_assoc, hc (n + i) (by omega)]
        simp [List.getD]
  · split <;> rfl

set_option maxRecDepth 20000 in
set_option maxHeartbeats 2000000 in
theorem ref_skip (v : Value) (l : List Int) (m : Int) (n : Nat) (w : World) (h : Lst w v l) (hn : (n : Int) = if (if m < 0 then 0 else m) ≤ (l.length : Int) then (if m < 0 then 0 else m) else (l.length : Int)) :
    Calls Try.prog 15 #[v, .int .i64 m] w fun e w' => ∃ v', e = .returned (.tuple #[v', .int .i64 (n : Int)]) ∧ Lst w v' (l.drop n) ∧ w' = w ∧ v'.ownBlock = v.ownBlock := by
  have hnl : n ≤ l.length := by split at hn <;> split at hn <;> omega
  obtain ⟨a, cap, rfl⟩ : ∃ a cap, v = .slice a l.length cap := by obtain ⟨a, cap, e, _⟩ := h; exact ⟨a, cap, e⟩
  have hcap : l.length ≤ cap := by obtain ⟨_, _, e, h1, _⟩ := h; cases e; exact h1
  have hnc : n ≤ cap := by omega
  have hni : (n : Int) ≤ (l.length : Int) := by omega
  have hnone : a = none → l = [] ∧ cap = 0 := by
    obtain ⟨_, _, e, h1, h2, h3, h4⟩ := h
    cases e
    intro e
    have := h3 e
    exact ⟨List.length_eq_zero_iff.1 (by omega), this⟩
  have H := hide h
  have HN := hide hn
  clear h hn
  go_enter Try.func15, Try.ntmps15
  go_upto_region 1 with fail
  go_cut [6] from 7 to 15 (fun s wc => s = .int .i64 (n : Int) ∧ wc = w)
  case first =>
    go_wp2
    all_goals (go_meet; refine ⟨?_, rfl⟩; have hn := HN.out; simp only [Value.int.injEq, true_and]; split at hn <;> split at hn <;> omega)
  case rest =>
    obtain ⟨rfl, rfl⟩ := hcut
    cases a with
    | none =>
      obtain ⟨rfl, rfl⟩ := hnone rfl
      obtain rfl : n = 0 := by simpa using hnl
      clear hnone
      go_wp2
      go_ret2
      exact ⟨_, rfl, by simpa using H.out, rfl, rfl⟩
    | some x =>
      obtain ⟨b, off, rfl⟩ : ∃ b off, x = ⟨b, off, none⟩ := by
        obtain ⟨_, _, e, h1, h2, h3, h4⟩ := H.out
        cases e
        obtain ⟨b, off, e, _⟩ := h4 _ rfl
        exact ⟨b, off, e⟩
      clear hnone
      have hd0 := H.out.drop hnl
      by_cases hce : cap = n
      · subst hce
        rw [if_pos rfl, Nat.sub_self, show l.length - cap = 0 by omega] at hd0
        have HD := hide hd0
        clear hd0
        go_wp2
        go_ret2
        have hd := HD.out
        exact ⟨_, rfl, hd.1, rfl, hd.2⟩
      · rw [if_neg hce] at hd0
        have HD := hide hd0
        clear hd0
        go_wp2
        go_ret2
        have hd := HD.out
        exact ⟨_, rfl, hd.1, rfl, hd.2⟩

set_option maxRecDepth 20000 in
set_option maxHeartbeats 2000000 in
theorem ref_set_out (v : Value) (l : List Int) (i x : Int) (w : World) (h : Lst w v l) (hi : ¬ (0 ≤ i ∧ i < l.length)) :
    Calls Try.prog 17 #[v, .int .i64 i, .int .i64 x] w fun e w' => e = .returned (.tuple #[v, .int .i64 30]) ∧ w' = w := by
  obtain ⟨a, cap, rfl, _⟩ := h
  by_cases h0 : i < 0
  · go_enter Try.func17, Try.ntmps17
    go_wp2
    go_ret2
    exact ⟨rfl, rfl⟩
  · have h0' : 0 ≤ i := by omega
    have h1 : (l.length : Int) ≤ i := by omega
    go_enter Try.func17, Try.ntmps17
    go_wp2
    go_ret2
    exact ⟨rfl, rfl⟩

set_option maxRecDepth 20000 in
set_option maxHeartbeats 2000000 in
theorem ref_set_ok (v : Value) (l : List Int) (i : Nat) (x : Int) (w : World) (h : Lst w v l) (hi : i < l.length) (hb : l.length ≤ 1000000) :
    Calls Try.prog 17 #[v, .int .i64 (i : Int), .int .i64 x] w fun e w' => ∃ v', e = .returned (.tuple #[v', .int .i64 0]) ∧ w'.ownsRow w.heap.size 3 1 v' (l.set i x).length ((l.set i x).map (Value.int .i64)) ∧ Below w.heap.size w w' := by
  obtain ⟨y, cap, rfl⟩ : ∃ y cap, v = .slice (some y) l.length cap := by
    obtain ⟨a, cap, e, h1, h2, h3, _⟩ := h
    cases a with
    | none => have := h3 rfl; omega
    | some y => exact ⟨y, cap, e⟩
  have hi' : (i : Int) < (l.length : Int) := by omega
  have H := hide h
  have hsz : (l.map (Value.int .i64)).length = l.length := by simp
  have HSZ := hide hsz
  clear h hsz
  go_enter Try.func17, Try.ntmps17
  go_wp2_with (at_builtin; refine wpList_append_vals (l := []) (n := 0) rfl _ _ 27 3 rfl Try.underlying27 (.int .i64 0) 8 Try.info3 rfl w.heap.size _ rfl (owns_empty3 w _ 3 (Nat.le_refl _)) (some y) (l.map (Value.int .i64)) l.length cap rfl HSZ.out (H.out.below ((Below.refl _ w).alloc (Nat.le_refl _) _)).news.2 (fun e => by cases e) (oneCell_ints l) (by unfold maxLen; omega) (by omega) (by simp) ?_; intro v1 w1 hr1 hg1; have hb1 : Below w.heap.size w w1 := ((Below.refl _ w).alloc (Nat.le_refl _) _).grown hg1 (by simp) (fun k hk => by cases hk; exact Nat.le_refl _); obtain ⟨k, cap1, cur, rfl, hk, hh, hn, hcm, hs, ht⟩ : ∃ k cap1 cur, v1 = .slice (some ⟨k, 0, none⟩) (0 + l.length) cap1 ∧ w.heap.size ≤ k ∧ w1.heap[k]? = some (.cells cur 3 (0, 0)) ∧ 0 + l.length ≤ cap1 ∧ cap1 ≤ maxLen ∧ cur.size = cap1 * 1 ∧ cur.toList.take ((0 + l.length) * 1) = [] ++ l.map (Value.int .i64) := (by rcases hr1.2 with ⟨_, h0⟩ | h; omega; exact h); have fk : w1.frozen? ⟨k, i, none⟩ = false := (by simp [World.frozen?, hh]); obtain ⟨y1, ck⟩ : ∃ y1, w1.cell? ⟨k, i, none⟩ = some y1 := ⟨cur[i]'(by omega), by rw [Joins.cell_of_block hh]; simp⟩; have hi2 : (i : Int) < ((0 + l.length : Nat) : Int) := (by omega); have HR1 := hide hr1; have HB1 := hide hb1; clear hr1 hg1 hb1 H ht hh; rw [Nat.zero_add])
  go_ret2
  refine ⟨_, rfl, ?_, HB1.out.setCell (p := ⟨k, i, none⟩) hk _⟩
  have hr := HR1.out
  rw [Nat.zero_add, List.nil_append] at hr
  have := ownsRow_set hr (.int .i64 x) hi
  simpa [List.map_set] using this

set_option maxRecDepth 20000 in
set_option maxHeartbeats 2000000 in
theorem new_int (m : Int) (w : World) (hm : 1 ≤ m) (hm2 : m ≤ 65536) :
    Calls Try.prog 10 #[.int .i64 m] w fun e w' => e = .returned (.pointer (some ⟨w.heap.size, 0, none⟩)) ∧ w' = w.alloc (.cells #[.int .i64 m, .slice none 0 0, .int .i64 0] 54) := by
  go_enter Try.func10, Try.ntmps10
  go_wp2
  go_ret
  exact ⟨rfl, rfl⟩

set_option maxRecDepth 20000 in
set_option maxHeartbeats 2000000 in
theorem new_none_int (m : Int) (w : World) (hm : m < 1 ∨ 65536 < m) :
    Calls Try.prog 10 #[.int .i64 m] w fun e w' => e = .returned (.pointer none) ∧ w' = w := by
  rcases hm with hm | hm
  · go_enter Try.func10, Try.ntmps10
    go_wp2
    go_ret
    exact ⟨rfl, rfl⟩
  · have h1 : ¬ m < 1 := by omega
    go_enter Try.func10, Try.ntmps10
    go_wp2
    go_ret
    exact ⟨rfl, rfl⟩

theorem ring_new (T E : TypeId) (m : Nat) (w : World) (hm : 1 ≤ m) (hm2 : m ≤ 65536) : RingIs T E (w.alloc (.cells #[.int .i64 (m : Int), .slice none 0 0, .int .i64 0] T)) w.heap.size w.heap.size m none [] :=
  ⟨Nat.le_refl _, .slice none 0 0, 0, [], World.alloc_heap_new w _, World.ownsRow_nil _ _ _ _, rfl, by simp, rfl, by simp, hm, hm2, by simp⟩

end Go.Proofs.Ytehefenagpdlaaa
