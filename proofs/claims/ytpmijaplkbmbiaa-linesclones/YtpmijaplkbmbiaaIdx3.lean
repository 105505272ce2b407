/- The index of lines: starts that are moved. -/
import Derived.Test.YtpmijaplkbmbiaaIdx2
namespace Go.Proofs.Ytpmijaplkbmbiaa.I
open Go.Proofs.Ytpmijaplkbmbiaa Go.RowKit Go.By Go.Shelf
set_option linter.unusedVariables false

set_option maxHeartbeats 1000000 in
theorem by_any (m : Int) (W : World) : Calls Try.prog 127 #[.int .i64 m] W fun e W' => e = .returned (.func (.func 151) #[] #[.pointer (some ⟨W.heap.size, 0, none⟩)]) ∧ W' = W.alloc (.cells #[.int .i64 m] 3) := by
  go_enter Try.func127, Try.ntmps127
  go_wp2
  go_ret
  exact ⟨rfl, rfl⟩

set_option maxHeartbeats 1000000 in
theorem by1_any (s m : Int) (h : Nat) (W : World) (hc : W.cell? ⟨h, 0, none⟩ = some (.int .i64 m)) (h1 : -1000000000 ≤ s ∧ s ≤ 1000000000) (h2 : -1000000000 ≤ m ∧ m ≤ 1000000000) :
    Calls Try.prog 151 #[.int .i64 s, .pointer (some ⟨h, 0, none⟩)] W fun e W' => e = .returned (.int .i64 (s + m)) ∧ W' = W := by
  have w1 : IntKind.i64.wrap (s + m) = s + m := by rw [IntKind.wrap_i64]; omega
  clear h1 h2
  go_enter Try.func151, Try.ntmps151
  go_wp2
  go_ret
  exact ⟨rfl, rfl⟩

/-- A part of the row at k, moved. -/
def Moved (W W' : World) (k : Nat) (P : List Value) (zs : List Int) (R : List Value) : Prop := W'.heap[k]? = some (.cells (P ++ (ints zs ++ R)).toArray 3 (0, 0)) ∧ Only (fun x => x = k) W W'

theorem mv_here (P R : List Value) (zs : List Int) (m : Int) (i : Nat) (h : i < zs.length) : P ++ (ints ((zs.take i).map (· + m) ++ zs.drop i) ++ R) = (P ++ ints ((zs.take i).map (· + m))) ++ (Value.int .i64 (zs.getD i 0) :: (ints (zs.drop (i + 1)) ++ R)) := by
  rw [List.drop_eq_getElem_cons h, show zs.getD i 0 = zs[i] by simp [List.getD, h]]
  simp only [ints, List.map_append, List.map_cons, List.append_assoc, List.cons_append]

theorem mv_next (P R : List Value) (zs : List Int) (m : Int) (i : Nat) (h : i < zs.length) : P ++ (ints ((zs.take (i + 1)).map (· + m) ++ zs.drop (i + 1)) ++ R) = (P ++ ints ((zs.take i).map (· + m))) ++ (Value.int .i64 (zs.getD i 0 + m) :: (ints (zs.drop (i + 1)) ++ R)) := by
  rw [List.take_succ_eq_append_getElem h, show zs.getD i 0 = zs[i] by simp [List.getD, h]]
  simp only [ints, List.map_append, List.map_cons, List.map_nil, List.append_assoc, List.cons_append, List.nil_append]

theorem mv_len (P : List Value) (zs : List Int) (m : Int) (i o : Nat) (h : i < zs.length) (hP : P.length = o) : (P ++ ints ((zs.take i).map (· + m))).length = o + i := by
  simp [ints, hP]; omega

theorem get_mid (A B : List Value) (v : Value) (n : Nat) (h : A.length = n) : (A ++ v :: B).toArray[n]? = some v := by
  subst h; simp
theorem set_mid (A B : List Value) (v u : Value) (n : Nat) (h : A.length = n) : (A ++ v :: B).toArray.setIfInBounds n u = (A ++ u :: B).toArray := by
  subst h; simp

set_option maxRecDepth 20000 in
set_option maxHeartbeats 4000000 in
theorem moveAll_some (W : World) (k o n cap h : Nat) (m : Int) (P R : List Value) (zs : List Int) (hP : P.length = o) (hn : zs.length = n) (hk : W.heap[k]? = some (.cells (P ++ (ints zs ++ R)).toArray 3 (0, 0))) (hh : W.cell? ⟨h, 0, none⟩ = some (.int .i64 m)) (hne : h ≠ k)
    (hz : ∀ z ∈ zs, -1000000000 ≤ z ∧ z ≤ 1000000000) (hm : -1000000000 ≤ m ∧ m ≤ 1000000000) (hl : n ≤ 1000000) :
    Calls Try.prog 126 #[.slice (some ⟨k, o, none⟩) n cap, .func (.func 151) #[] #[.pointer (some ⟨h, 0, none⟩)]] W fun e W' => e = .returned (.tuple #[]) ∧ Moved W W' k P (zs.map (· + m)) R := by
  have HZ := hide hz
  have HM := hide hm
  have HP := hide hP
  have HN := hide hn
  have H0 : Hid (Moved W W k P ((zs.take 0).map (· + m) ++ zs.drop 0) R) := hide ⟨by simpa using hk, Only.refl _ W⟩
  have HH := hide hh
  have hlt0 : h < W.heap.size := World.block_lt_of_cell? W _ hh
  clear hz hm hP hn hk hh
  go_enter Try.func126, Try.ntmps126
  go_wp2_with fail
  go_loopw [8] (fun iv wr => ∃ i : Nat, iv = .int .i64 (i : Int) ∧ i ≤ n ∧ Hid (Moved W wr k P ((zs.take i).map (· + m) ++ zs.drop i) R)) (fun iv _ => n - (intOf iv).toNat)
  case atStart => exact ⟨0, rfl, Nat.zero_le _, H0⟩
  case round =>
    obtain ⟨i, rfl, hi, HI⟩ := hrel
    by_cases hlt : i < n
    · have hlt' : (i : Int) < (n : Int) := by omega
      have hin : i < zs.length := by rw [HN.out]; exact hlt
      have hlen : (P ++ (ints ((zs.take i).map (· + m) ++ zs.drop i) ++ R)).toArray[o + i]? = some (.int .i64 (zs.getD i 0)) := by
        rw [mv_here P R zs m i hin]
        exact get_mid _ _ _ _ (mv_len P zs m i o hin HP.out)
      have hc : wr.cell? ⟨k, o + i, none⟩ = some (.int .i64 (zs.getD i 0)) := by rw [Joins.cell_of_block HI.out.1]; exact hlen
      have hfz : wr.frozen? ⟨k, o + i, none⟩ = false := by simp [World.frozen?, HI.out.1]
      have hb := by1_any (zs.getD i 0) m h wr ((World.cell?_of_block (a := ⟨h, 0, none⟩) (HI.out.2.block h hlt0 hne)).trans HH.out) (HZ.out _ (by simp [List.getD, hin])) HM.out
      have HX : Hid (Moved W (wr.setCell ⟨k, o + i, none⟩ (.int .i64 (zs.getD i 0 + m))) k P ((zs.take (i + 1)).map (· + m) ++ zs.drop (i + 1)) R) := by
        refine hide ⟨?_, HI.out.2.trans (Only.setCell (S := fun x => x = k) wr ⟨k, o + i, none⟩ _ rfl)⟩
        rw [heap_setCell (i := o + i) HI.out.1, mv_here P R zs m i hin, set_mid _ _ _ _ _ (mv_len P zs m i o hin HP.out), mv_next P R zs m i hin]
      generalize zs.getD i 0 = z at *
      clear hlen
      go_wp2_with (go_at_call 151; refine hb.mono ?_; rintro e w' ⟨rfl, rfl⟩)
      go_roundw
      case rel => exact ⟨i + 1, by go_num, by omega, HX⟩
      case measure => simp [intOf]; omega
    · obtain rfl : i = n := by omega
      go_wp2
      go_end0
      refine ⟨rfl, ?_⟩
      have := HI.out
      rwa [← HN.out, List.take_length, List.drop_length, List.append_nil] at this

set_option maxRecDepth 20000 in
set_option maxHeartbeats 2000000 in
theorem moveAll_none (W : World) (a : Option Addr) (cap : Nat) (f : Value) :
    Calls Try.prog 126 #[.slice a 0 cap, f] W fun e W' => e = .returned (.tuple #[]) ∧ W' = W := by
  go_enter Try.func126, Try.ntmps126
  go_wp2_with fail
  go_loopw [8] (fun iv wr => iv = .int .i64 0 ∧ wr = W) (fun iv _ => 0)
  case atStart => exact ⟨rfl, rfl⟩
  case round =>
    obtain ⟨rfl, rfl⟩ := hrel
    go_wp2
    go_end0
    exact ⟨rfl, rfl⟩

end Go.Proofs.Ytpmijaplkbmbiaa.I
