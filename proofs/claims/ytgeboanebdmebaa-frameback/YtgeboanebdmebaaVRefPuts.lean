/- Numbers and texts that are put behind bytes, as the document says it. -/
import Derived.Test.YtgeboanebdmebaaVPuts2
namespace Go.Proofs.Ytgeboanebdmebaa.V
open Go.RowKit Go.By
set_option linter.unusedVariables false

set_option maxHeartbeats 1000000 in
set_option maxRecDepth 20000 in
theorem refPut_in (n : Nat) (a : Option Addr) (l : List Nat) (cap : Nat) (w : World) (hL : Came w.heap.size w a l) (hnil : a = none → l = [] ∧ cap = 0) (hm : l.length ≤ 20000) (hn : n ≤ Vary.maxNum) :
    Puts 35 a l cap (.int .i64 (n : Int)) (Vary.put n) w := by
  unfold Puts
  have h1 : decide ((n : Int) < 0) = false := by simp
  have h2 : decide ((4611686018427387904 : Int) < (n : Int)) = false := by unfold Vary.maxNum at hn; simp; omega
  have hW : Below w.heap.size w (w.alloc (.cells #[] 5)) := (Below.refl _ _).alloc (Nat.le_refl _) _
  have HW := hide hW
  have HL := hide hL
  have HN := hide hnil
  clear hL hnil hW
  go_enter Try.func35, Try.ntmps35
  go_wp2_with (at_builtin; refine wpList_append_bytes rfl _ _ rfl Try.underlying28 Try.info5 w.heap.size _ [] rfl (owns_empty w _ (Nat.le_refl _)) a l l.length cap rfl rfl (HL.out.below HW.out).lies HN.out (by simp; omega) (by simp) ?_)
  intro v w1 hown hgrow
  have hbel := Below.app HW.out hgrow (owns_empty w _ (Nat.le_refl _)) (Nat.le_refl _) (by simp)
  have HO := hide hown
  have HB := hide hbel
  clear hown hbel hgrow
  go_wp2_with fail
  have hstart : n < 128 ^ (9 + 1) := by
    have := Vary.max_lt
    have : (128 : Nat) ^ 9 ≤ 128 ^ (9 + 1) := Nat.pow_le_pow_right (by omega) (by omega)
    omega
  have hlen := Vary.put_length n
  go_loopw [1, 5] (fun z v wr => ∃ m f : Nat, ∃ pre : List Nat, z = .int .i64 m ∧ m ≤ Vary.maxNum ∧ m < 128 ^ (f + 1) ∧ Owns wr w.heap.size v pre ∧ pre ++ Vary.putF f m = l ++ Vary.put n ∧ Below w.heap.size w wr) (fun z _ _ => (intOf z).toNat)
  case atStart => exact ⟨n, 9, l, rfl, hn, hstart, by simpa using HO.out, rfl, HB.out⟩
  case round =>
    obtain ⟨m, f, pre, rfl, hm, hmf, hown, heq, hbel⟩ := hrel
    have hpre : pre.length ≤ 20010 := by
      have := congrArg List.length heq
      simp only [List.length_append] at this
      omega
    have hmi : (m : Int) ≤ 4611686018427387904 := by unfold Vary.maxNum at hm; omega
    have hbs : w.heap.size ≤ wr.heap.size := hbel.size
    have HMX := hide hm
    have HO := hide hown
    have HB := hide hbel
    have HE := hide heq
    have HM := hide hmf
    clear hm hown hbel heq hmf hstart hlen hn h1 h2
    by_cases hge : 128 ≤ m
    · go_wp2_with (at_builtin; refine wpList_append_byte rfl _ _ rfl Try.underlying28 Try.info5 w.heap.size _ pre rfl HO.out (m % 128 + 128) _ (by omega) (by omega) _ rfl rfl (by omega) hbs ?_)
      intro v' w1 hown1 hgrow
      have hb1 : Below w.heap.size w w1 := Below.app (HB.out.alloc hbs _) hgrow (HO.out.alloc _) (Nat.le_refl _) (by simp; omega)
      have HO1 := hide hown1
      have HB1 := hide hb1
      clear hown1 hb1 hgrow
      go_wp2
      go_roundw
      case rel =>
        obtain ⟨f, rfl⟩ : ∃ k, f = k + 1 := by
          refine ⟨f - 1, ?_⟩
          rcases f with _ | f
          · have := HM.out; simp at this; omega
          · omega
        refine ⟨m / 128, f, pre ++ [m % 128 + 128], by go_num, ?_, ?_, HO1.out, ?_, HB1.out⟩
        · have := HMX.out; omega
        · have := HM.out
          rw [Nat.pow_succ] at this
          exact Nat.div_lt_of_lt_mul (by rw [Nat.mul_comm]; exact this)
        · rw [← HE.out, Vary.putF_more f m hge, List.append_assoc]; rfl
      case measure => simp [intOf]; omega
    · go_wp2_with (at_builtin; refine wpList_append_byte rfl _ _ rfl Try.underlying28 Try.info5 w.heap.size _ pre rfl HO.out m _ rfl (by omega) _ rfl rfl (by omega) hbs ?_)
      intro v' w1 hown1 hgrow
      have hb1 : Below w.heap.size w w1 := Below.app (HB.out.alloc hbs _) hgrow (HO.out.alloc _) (Nat.le_refl _) (by simp; omega)
      have HO1 := hide hown1
      have HB1 := hide hb1
      clear hown1 hb1 hgrow
      go_wp2
      go_ret
      refine ⟨_, rfl, ?_, HB1.out⟩
      rw [← HE.out, Vary.putF_less f m (by omega)]
      exact HO1.out

set_option maxHeartbeats 1000000 in
set_option maxRecDepth 20000 in
theorem refPut_out (z : Int) (a : Option Addr) (l : List Nat) (cap : Nat) (w : World) (hL : Came w.heap.size w a l) (hnil : a = none → l = [] ∧ cap = 0) (hm : l.length ≤ 20000) (hz : z < 0 ∨ 4611686018427387904 < z) :
    Puts 35 a l cap (.int .i64 z) [] w := by
  unfold Puts
  have hW : Below w.heap.size w (w.alloc (.cells #[] 5)) := (Below.refl _ _).alloc (Nat.le_refl _) _
  have HW := hide hW
  have HL := hide hL
  have HN := hide hnil
  clear hL hnil hW
  have hd : decide (z < 0) = true ∨ (decide (z < 0) = false ∧ decide ((4611686018427387904 : Int) < z) = true) := by
    rcases hz with h | h
    · left; simp; omega
    · right; simp; omega
  rcases hd with h1 | ⟨h1, h2⟩
  all_goals
    go_enter Try.func35, Try.ntmps35
    go_wp2_with (at_builtin; refine wpList_append_bytes rfl _ _ rfl Try.underlying28 Try.info5 w.heap.size _ [] rfl (owns_empty w _ (Nat.le_refl _)) a l l.length cap rfl rfl (HL.out.below HW.out).lies HN.out (by simp; omega) (by simp) ?_)
    intro v w1 hown hgrow
    have hbel := Below.app HW.out hgrow (owns_empty w _ (Nat.le_refl _)) (Nat.le_refl _) (by simp)
    have HO := hide hown
    have HB := hide hbel
    clear hown hbel hgrow
    go_wp2
    go_ret
    exact ⟨_, rfl, by simpa using HO.out, HB.out⟩

theorem refPut_any (z : Int) (a : Option Addr) (l : List Nat) (cap : Nat) (w : World) (hL : Came w.heap.size w a l) (hnil : a = none → l = [] ∧ cap = 0) (hm : l.length ≤ 20000) :
    Puts 35 a l cap (.int .i64 z) (Vary.putI z) w := by
  by_cases hz : z < 0 ∨ 4611686018427387904 < z
  · have : Vary.putI z = [] := by unfold Vary.putI; rw [if_neg (by omega)]
    rw [this]
    exact refPut_out z a l cap w hL hnil hm hz
  · obtain ⟨n, rfl⟩ := Int.eq_ofNat_of_zero_le (show 0 ≤ z by omega)
    have : Vary.putI (n : Int) = Vary.put n := by unfold Vary.putI; rw [if_pos (by omega)]; rfl
    rw [this]
    exact refPut_in n a l cap w hL hnil hm (by unfold Vary.maxNum; omega)

set_option maxHeartbeats 1000000 in
set_option maxRecDepth 20000 in
theorem refPutS_any (z : Int) (a : Option Addr) (l : List Nat) (cap : Nat) (w : World) (hL : Came w.heap.size w a l) (hnil : a = none → l = [] ∧ cap = 0) (hm : l.length ≤ 20000) (z1 : -9223372036854775808 ≤ z) (z2 : z ≤ 9223372036854775807) :
    Puts 37 a l cap (.int .i64 z) (Vary.putS z) w := by
  unfold Puts
  have hW : Below w.heap.size w (w.alloc (.cells #[] 5)) := (Below.refl _ _).alloc (Nat.le_refl _) _
  have HW := hide hW
  have HL := hide hL
  have HN := hide hnil
  clear hL hnil hW
  by_cases ho : -2305843009213693952 ≤ z ∧ z ≤ 2305843009213693952
  · have h1 : decide (z < -2305843009213693952) = false := by simp; omega
    have h2 : decide ((2305843009213693952 : Int) < z) = false := by simp; omega
    have ho1 := ho.1
    have ho2 := ho.2
    by_cases hz : z < 0
    · have e : Vary.putS z = Vary.putI (2 * (0 - z) - 1) := by
        unfold Vary.putS Vary.putI
        rw [if_pos ho, if_pos hz, if_pos (by omega)]
      have E := hide e
      clear e ho
      go_enter Try.func37, Try.ntmps37
      go_wp2_with fail
      refine (refPut_any _ a l cap w HL.out HN.out hm).mono ?_
      rintro e w1 ⟨v, rfl, h3, h4⟩
      have H3 := hide h3
      have H4 := hide h4
      clear h3 h4
      go_wp2
      go_ret
      refine ⟨_, rfl, ?_, H4.out⟩
      rw [E.out]
      have := H3.out
      first
        | exact this
        | (rw [show (2 * -z - 1 : Int) = 2 * (0 - z) - 1 by omega] at this; exact this)
    · have e : Vary.putS z = Vary.putI (2 * z) := by
        unfold Vary.putS Vary.putI
        rw [if_pos ho, if_neg hz, if_pos (by omega)]
      have E := hide e
      clear e ho
      go_enter Try.func37, Try.ntmps37
      go_wp2_with fail
      refine (refPut_any _ a l cap w HL.out HN.out hm).mono ?_
      rintro e w1 ⟨v, rfl, h3, h4⟩
      have H3 := hide h3
      have H4 := hide h4
      clear h3 h4
      go_wp2
      go_ret
      exact ⟨_, rfl, by rw [E.out]; exact H3.out, H4.out⟩
  · have e : Vary.putS z = [] := by unfold Vary.putS; rw [if_neg ho]
    have E := hide e
    clear e
    have hd : decide (z < -2305843009213693952) = true ∨ (decide (z < -2305843009213693952) = false ∧ decide ((2305843009213693952 : Int) < z) = true) := by
      by_cases h : z < -2305843009213693952
      · left; simp; omega
      · right; simp; omega
    rcases hd with h1 | ⟨h1, h2⟩
    all_goals
      go_enter Try.func37, Try.ntmps37
      go_wp2_with (at_builtin; refine wpList_append_bytes rfl _ _ rfl Try.underlying28 Try.info5 w.heap.size _ [] rfl (owns_empty w _ (Nat.le_refl _)) a l l.length cap rfl rfl (HL.out.below HW.out).lies HN.out (by simp; omega) (by simp) ?_)
      intro v w1 hown hgrow
      have hbel := Below.app HW.out hgrow (owns_empty w _ (Nat.le_refl _)) (Nat.le_refl _) (by simp)
      have HO := hide hown
      have HB := hide hbel
      clear hown hbel hgrow
      go_wp2
      go_ret
      exact ⟨_, rfl, by rw [E.out]; simpa using HO.out, HB.out⟩

set_option maxHeartbeats 1000000 in
set_option maxRecDepth 20000 in
theorem refPutT_any (s : ByteArray) (a : Option Addr) (l : List Nat) (cap : Nat) (w : World) (hL : Came w.heap.size w a l) (hnil : a = none → l = [] ∧ cap = 0) (hm : l.length ≤ 20000) (hs : s.size ≤ 10000) :
    Puts 38 a l cap (.string s) (Vary.putT (nums s)) w := by
  unfold Puts
  have HL := hide hL
  have HN := hide hnil
  clear hL hnil
  have hlen := Vary.put_length s.size
  have hfin : l ++ Vary.putT (nums s) = (l ++ Vary.put s.size) ++ nums s := by unfold Vary.putT; rw [nums_length, List.append_assoc]
  have hpre : (l ++ Vary.put s.size).length ≤ 20010 := by simp; omega
  have HF := hide hfin
  clear hlen hfin
  go_enter Try.func38, Try.ntmps38
  go_wp2_with fail
  refine (refPut_in s.size a l cap w HL.out HN.out hm (by unfold Vary.maxNum; omega)).mono ?_
  rintro e w1 ⟨v, rfl, h3, h4⟩
  have H3 := hide h3
  have H4 := hide h4
  have hbs := h4.size
  clear h3 h4
  go_wp2_with (at_builtin; refine wpList_append_text rfl _ _ rfl Try.underlying28 Try.underlying9 Try.info5 w.heap.size _ _ rfl H3.out s rfl (by omega) hbs ?_)
  intro v' w2 hown hgrow
  have HO := hide hown
  have HB := hide (Below.app H4.out hgrow H3.out (Nat.le_refl _) hbs)
  clear hown hgrow
  go_wp2
  go_ret
  exact ⟨_, rfl, by rw [HF.out, List.append_assoc]; exact HO.out, HB.out⟩
end Go.Proofs.Ytgeboanebdmebaa.V
