/- Where the lines of a text begin. -/
import Derived.Test.YtpmijaplkbmbiaaIdx3
import Derived.Lib.Bytealg
import Derived.Laws.MakeOwn
namespace Go.Proofs.Ytpmijaplkbmbiaa.I
open Go.Proofs.Ytpmijaplkbmbiaa Go.RowKit Go.By Go.Shelf
set_option linter.unusedVariables false

/-- Behind which bytes a line begins. -/
def feeds : List UInt8 → Int → List Int
  | [], _ => []
  | c :: l, k => (if c = 10 then [k + 1] else []) ++ feeds l (k + 1)

theorem feeds_append (a b : List UInt8) (k : Int) : feeds (a ++ b) k = feeds a k ++ feeds b (k + a.length) := by
  induction a generalizing k with
  | nil => simp [feeds]
  | cons c a ih => simp only [List.cons_append, feeds, ih, List.append_assoc, List.length_cons]; congr 3; push_cast; omega

theorem feeds_len (l : List UInt8) (k : Int) : (feeds l k).length ≤ l.length := by
  induction l generalizing k with
  | nil => simp [feeds]
  | cons c l ih => have := ih (k + 1); simp only [feeds, List.length_append, List.length_cons]; split <;> simp <;> omega

theorem feeds_map (l : List UInt8) (k m : Int) : (feeds l k).map (· + m) = feeds l (k + m) := by
  induction l generalizing k with
  | nil => rfl
  | cons c l ih =>
    simp only [feeds, List.map_append, ih]
    rw [show k + 1 + m = k + m + 1 by omega]
    congr 1
    split
    · simp; omega
    · rfl

theorem feeds_mem (l : List UInt8) (k z : Int) (h : z ∈ feeds l k) : k < z ∧ z ≤ k + l.length := by
  induction l generalizing k with
  | nil => simp [feeds] at h
  | cons c l ih =>
    simp only [feeds, List.mem_append] at h
    rcases h with h | h
    · split at h
      · simp at h; simp; omega
      · simp at h
    · have := ih _ h; simp; omega

set_option maxRecDepth 20000 in
set_option maxHeartbeats 2000000 in
theorem count_any (s : ByteArray) (W : World) : Calls Try.prog 152 #[.string s, .string ⟨#[10]⟩] W fun e W' => e = .returned (.int .i64 ((Lib.countByte s.data.toList 10 : Nat) : Int)) ∧ W' = W := by
  have hx : (callFunc 162 #[.string s, .int .u8 10]).run Try.prog W = .ok (.value (.int .i64 ((Lib.countByte s.data.toList 10 : Nat) : Int))) W := by
    rw [run_callFunc_extern Try.func162 (by kernel_rfl) (by kernel_rfl) (by kernel_rfl) (e := Extern.BytealgCount.count) (by kernel_rfl), Lib.run_countString s 10 W]
    rfl
  go_enter Try.func152, Try.ntmps152
  go_wp2_with (simp only [show ((({ data := #[10] } : ByteArray)[0]).toNat : Int) = 10 from rfl])
  go_ret
  exact ⟨rfl, rfl⟩

theorem count_le (l : List UInt8) : Lib.countByte l 10 ≤ l.length := by unfold Lib.countByte; exact List.count_le_length

theorem feeds_snoc (s : ByteArray) (k : Nat) (h : k < s.size) : feeds (s.data.toList.take (k + 1)) 0 = feeds (s.data.toList.take k) 0 ++ (if s[k] = 10 then [(k : Int) + 1] else []) := by
  have hl : k < s.data.toList.length := by simpa using h
  rw [List.take_succ_eq_append_getElem hl, feeds_append]
  congr 1
  have e : s.data.toList[k] = s[k] := by simp; rfl
  rw [e]
  simp only [feeds, List.append_nil, List.length_take, Nat.min_eq_left (Nat.le_of_lt hl)]
  split <;> simp

set_option maxRecDepth 20000 in
set_option maxHeartbeats 4000000 in
theorem begins_any (s : ByteArray) (W : World) (hs : s.size ≤ 100000) :
    Calls Try.prog 128 #[.string s] W fun e W' => ∃ v, e = .returned v ∧ W'.ownsRow W.heap.size 3 1 v (feeds s.data.toList 0).length (ints (feeds s.data.toList 0)) ∧ Below W.heap.size W W' := by
  obtain ⟨i0, hi, hz0, hz1, hz2⟩ := info_parts Try.info3
  have hcn := count_any s W
  have hcl := count_le s.data.toList
  have hsl : s.data.toList.length = s.size := rfl
  generalize Lib.countByte s.data.toList 10 = cn at hcn hcl
  rw [hsl] at hcl
  have hcn1 : (0 : Int) ≤ (cn : Int) := by omega
  have hcn2 : (cn : Int) ≤ 100000 := by omega
  clear hsl
  obtain ⟨w2, hmk, hrow, hg⟩ := run_makeSlice_owned (P := Try.prog) W W.heap.size 73 3 i0 (.int .i64 0) 1 Try.underlying73 hi hz0 hz1 .i64 .i64 cn (by omega) (by rw [hz2]; omega) (by unfold maxLen; omega) (Nat.le_refl _)
  have HR := hide hrow
  have HB : Hid (Below W.heap.size W w2) := hide ((Below.refl _ W).grown hg (Nat.le_refl _) (fun k hk => by cases hk))
  clear hrow hg
  go_enter Try.func128, Try.ntmps128
  go_wp2_with (go_at_call 152; refine hcn.mono ?_; rintro e w' ⟨rfl, hw'⟩; have hw2 := hw'.symm; clear hw'; subst hw2)
  go_loopw [3, 10] (fun lv iv wr => ∃ (k : Nat) (a : Option Addr) (len cap : Nat), lv = .slice a len cap ∧ iv = .int .i64 (k : Int) ∧ k ≤ s.size ∧ Hid (wr.ownsRow W.heap.size 3 1 (.slice a len cap) (feeds (s.data.toList.take k) 0).length (ints (feeds (s.data.toList.take k) 0)) ∧ Below W.heap.size W wr)) (fun _ iv _ => s.size - (intOf iv).toNat)
  case atStart => exact ⟨0, _, _, _, rfl, rfl, Nat.zero_le _, hide ⟨by simpa [feeds] using HR.out, HB.out⟩⟩
  case round =>
    obtain ⟨k, a, len, cap, rfl, rfl, hk, HI⟩ := hrel
    by_cases hlt : k < s.size
    · have hlt' : (k : Int) < (s.size : Int) := by omega
      have HS := hide (feeds_snoc s k hlt)
      have hlf : (feeds (s.data.toList.take k) 0).length ≤ 100000 := by have := feeds_len (s.data.toList.take k) 0; simp at this; omega
      generalize feeds (s.data.toList.take k) 0 = F at *
      by_cases h10 : s[k] = 10
      · have e1 : (s[k].toNat : Int) = 10 := by rw [h10]; rfl
        have HS2 := hide (HS.out.trans (by rw [if_pos h10]))
        clear h10 HS
        go_wp2_with (at_builtin; refine wpList_append_lies _ rfl _ _ 73 rfl W.heap.size 3 i0 (.int .i64 0) 1 8 Try.underlying73 hi hz0 hz1 hz2 rfl (by decide) _ F.length (ints F) rfl (HI.out.1.alloc _) ⟨_, 0, none⟩ 1 1 [.int .i64 ((k : Int) + 1)] rfl rfl (cell_one_new _ _ _) (by simp [Value.oneCell']) (by omega) (by unfold maxLen; omega) (by omega) (by have := HI.out.2.size; simp; omega) (wr.heap.size + 1) (by simp) ?_; intro kk cap1 WA hr' hgr hkk hltA; have HR1 := hide hr'; have HB1 := hide ((HI.out.2.alloc HI.out.2.size _).grown hgr (by have := HI.out.2.size; simp; omega) (fun x hx => (ownBlock_lt HI.out.1 hx).1)); clear hr' hgr hkk hltA)
        go_roundw
        case rel => exact ⟨k + 1, _, _, _, rfl, by go_num, by omega, hide ⟨by rw [HS2.out]; simpa [ints] using HR1.out, HB1.out⟩⟩
        case measure => simp [intOf]; omega
      · have e1 : ¬ (s[k].toNat : Int) = 10 := fun e => h10 (UInt8.toNat_inj.1 (by simpa using (by omega : s[k].toNat = 10)))
        have HS2 := hide (HS.out.trans (by rw [if_neg h10, List.append_nil]))
        clear h10 HS
        go_wp2
        go_roundw
        case rel => exact ⟨k + 1, _, _, _, rfl, by go_num, by omega, hide ⟨by rw [HS2.out]; exact HI.out.1, HI.out.2⟩⟩
        case measure => simp [intOf]; omega
    · obtain rfl : k = s.size := by omega
      go_wp2
      go_ret
      refine ⟨_, rfl, ?_, HI.out.2⟩
      have := HI.out.1
      rwa [List.take_of_length_le (show s.data.toList.length ≤ s.size from Nat.le_refl _)] at this

end Go.Proofs.Ytpmijaplkbmbiaa.I
