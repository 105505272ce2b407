/- What stands at the head of bytes, as the document says it. -/
import Derived.Test.YtgeboanebdmebaaVReads2
namespace Vary
/-- The number and how many bytes it has; 0, 0 if there is none. -/
def refN (l : List Nat) : Nat × Nat := match num l with | some p => p | none => (0, 0)
def refT (l : List Nat) : List Nat × Nat := match txt l with | some p => p | none => ([], 0)
end Vary
namespace Go.Proofs.Ytgeboanebdmebaa.V
open Go.RowKit Go.By
set_option linter.unusedVariables false
set_option maxRecDepth 20000

theorem acc2 (n n' x : Int) (h0 : 0 ≤ n) (h1 : 0 ≤ x) (h2 : n + x = n') (h3 : n' ≤ 4611686018427387904) : wrap64 (n + x) = n' := by unfold wrap64; omega

set_option maxHeartbeats 2000000 in
set_option maxRecDepth 20000 in
theorem refNum_any (a : Option Addr) (l : List Nat) (len cap : Nat) (w : World) (hlen : l.length = len) (hL : Lies w a l) (hm : len ≤ 20000) :
    Calls Try.prog 77 #[.slice a len cap] w fun e w' => e = .returned (.tuple #[.int .i64 ((Vary.refN l).1 : Int), .int .i64 ((Vary.refN l).2 : Int)]) ∧ w' = w := by
  subst hlen
  have HL := hide hL
  clear hL
  go_enter Try.func77, Try.ntmps77
  go_wp2
  go_loop [4, 5, 6] (fun t s z => ∃ i n : Nat, i ≤ l.length ∧ i ≤ 9 ∧ z = .int .i64 i ∧ t = .int .i64 n ∧ (i < 9 → s = .int .i64 ((128 ^ i : Nat) : Int)) ∧ (∃ sc, s = .int .i64 sc) ∧ n < 128 ^ i ∧ n ≤ Vary.maxNum ∧ Vary.num l = Vary.numF (9 - i) i n (l.drop i)) (fun _ _ z => 9 - (intOf z).toNat)
  case atStart => exact ⟨0, 0, by omega, by omega, rfl, rfl, fun _ => rfl, ⟨1, rfl⟩, by simp, by unfold Vary.maxNum; omega, rfl⟩
  case round =>
    obtain ⟨i, n, hi, hi9, rfl, rfl, hsc, ⟨sc, rfl⟩, hn, hnx, hnum⟩ := hrel
    by_cases hlt : i < l.length ∧ i < 9
    · obtain ⟨hlt1, hlt2⟩ := hlt
      have hsc1 : sc = ((128 ^ i : Nat) : Int) := by have := hsc hlt2; simpa using this
      subst hsc1
      obtain ⟨b, off, rfl, hc⟩ : ∃ b off, a = some ⟨b, off, none⟩ ∧ ∀ i, i < l.length → w.cell? ⟨b, off + i, none⟩ = some (.int .u8 ((l.getD i 0 : Nat) : Int)) := by
        rcases HL.out.2 with h | h
        · rw [h] at hlt1; simp at hlt1
        · exact h
      have hck := hc i hlt1
      have hd := getD_lt HL.out.1 i
      have hdr := drop_cons l i hlt1
      obtain ⟨f, hf⟩ : ∃ f, 9 - i = f + 1 := ⟨8 - i, by omega⟩
      have hf' : f = 9 - (i + 1) := by omega
      rw [hdr, hf] at hnum
      generalize l.getD i 0 = d at *
      have hp1 : 1 ≤ 128 ^ i := Nat.one_le_pow _ _ (by omega)
      have hp2 : 128 ^ i ≤ 72057594037927936 := by
        have : 128 ^ i ≤ 128 ^ 8 := Nat.pow_le_pow_right (by omega) (by omega)
        have e : (128 : Nat) ^ 8 = 72057594037927936 := by decide
        omega
      have hacc := (acc_eq n d i hn hlt2).2
      generalize hn' : n + d % 128 * 128 ^ i = n' at *
      have hpow : 128 ^ (i + 1) = 128 ^ i * 128 := Nat.pow_succ ..
      generalize hq : 128 ^ i = q at *
      have HF' := hide hf'
      have HNUM := hide hnum
      have HN' := hide hn'
      have HQ := hide hq
      have HACC := hide hacc
      have HPOW := hide hpow
      have HNX : Hid (n ≤ 4611686018427387904) := hnx
      clear hnum hn' hdr hf hf' hq hacc hpow hc hsc hn hnx
      have hnx : n ≤ 4611686018427387904 := HNX.out
      have hk128 : d % 128 < 128 := Nat.mod_lt _ (by omega)
      by_cases hbig : Vary.maxNum < n'
      · have hr : Vary.refN l = (0, 0) := by
          have hx : Vary.num l = none := by
            have h1 := HNUM.out
            unfold Vary.numF at h1
            rw [HQ.out, HN'.out, Vary.numF_big _ _ _ _ hbig, if_pos (Or.inr hbig), ite_self] at h1
            exact h1
          unfold Vary.refN
          rw [hx]
        have hk0 : 0 < d % 128 := by
          rcases Nat.eq_zero_or_pos (d % 128) with h | h
          · have h2 := HN'.out
            rw [h] at h2
            unfold Vary.maxNum at hbig
            omega
          · exact h
        have hdiv : (4611686018427387904 - (n : Int)).tdiv (q : Int) < (d : Int) % 128 := by
          have h1 : (4611686018427387904 - n) / q < d % 128 := by
            rw [Nat.div_lt_iff_lt_mul (by omega)]
            have h2 := HN'.out
            unfold Vary.maxNum at hbig
            omega
          rw [Int.tdiv_eq_ediv_of_nonneg (by omega)]
          have e : (4611686018427387904 - (n : Int)) / (q : Int) = (((4611686018427387904 - n) / q : Nat) : Int) := by
            rw [Int.natCast_ediv]; congr 1; omega
          rw [e]; omega
        have hdiv0 : 0 ≤ (4611686018427387904 - (n : Int)).tdiv (q : Int) := Int.tdiv_nonneg (by omega) (by omega)
        have hk0' : (0 : Int) < (d : Int) % 128 := by omega
        have HNO := hide hr
        clear hr hbig
        go_wp2
        go_ret2
        exact ⟨by rw [HNO.out]; rfl, rfl⟩
      · have hn' : n' ≤ 4611686018427387904 := by unfold Vary.maxNum at hbig; omega
        have hmul : ((d : Int) % 128) * (q : Int) = ((d % 128 * q : Nat) : Int) := by simp
        have hmul1 : 0 ≤ ((d : Int) % 128) * (q : Int) := by rw [hmul]; omega
        have hmul2 : (n : Int) + ((d : Int) % 128) * (q : Int) = (n' : Int) := by rw [hmul]; have := HN'.out; omega
        have HM := hide hmul2
        have hmul3 : ((d : Int) % 128) * (q : Int) ≤ 4611686018427387904 := by omega
        have hdiv : (d : Int) % 128 ≤ (4611686018427387904 - (n : Int)).tdiv (q : Int) := by
          have h1 : d % 128 ≤ (4611686018427387904 - n) / q := by
            rw [Nat.le_div_iff_mul_le (by omega)]
            have h2 := HN'.out
            omega
          rw [Int.tdiv_eq_ediv_of_nonneg (by omega)]
          have e : (4611686018427387904 - (n : Int)) / (q : Int) = (((4611686018427387904 - n) / q : Nat) : Int) := by
            rw [Int.natCast_ediv]; congr 1; omega
          rw [e]; omega
        have hdiv2 : (4611686018427387904 - (n : Int)).tdiv (q : Int) ≤ 4611686018427387904 := by
          rw [Int.tdiv_eq_ediv_of_nonneg (by omega)]
          exact Int.le_trans (Int.ediv_le_self _ (by omega)) (by omega)
        have hacc2 : wrap64 ((n : Int) + (d : Int) % 128 * (q : Int)) = (n' : Int) := acc2 _ _ _ (by omega) hmul1 hmul2 (by omega)
        have HA2 := hide hacc2
        have HBG := hide hbig
        clear hmul hmul2 hacc2 hbig
        by_cases hge : 128 ≤ d
        · have hgo : ∀ s : Int, s = wrap64 ((q : Int) * 128) → (∃ i1 n1 : Nat, i1 ≤ l.length ∧ i1 ≤ 9 ∧ Value.int .i64 ((i : Int) + 1) = .int .i64 (i1 : Int) ∧ Value.int .i64 (n' : Int) = .int .i64 (n1 : Int) ∧ (i1 < 9 → Value.int .i64 s = .int .i64 ((128 ^ i1 : Nat) : Int)) ∧ (∃ sc, Value.int .i64 s = .int .i64 sc) ∧ n1 < 128 ^ i1 ∧ n1 ≤ Vary.maxNum ∧ Vary.num l = Vary.numF (9 - i1) i1 n1 (l.drop i1)) := by
            rintro s rfl
            refine ⟨i + 1, n', by omega, by omega, by go_num, rfl, fun h9 => ?_, ⟨_, rfl⟩, HACC.out, hn', ?_⟩
            · rw [HPOW.out]
              have hq7 : q ≤ 562949953421312 := by
                rw [← HQ.out]
                have : 128 ^ i ≤ 128 ^ 7 := Nat.pow_le_pow_right (by omega) (by omega)
                have e : (128 : Nat) ^ 7 = 562949953421312 := by decide
                omega
              have : wrap64 ((q : Int) * 128) = ((q * 128 : Nat) : Int) := by unfold wrap64; omega
              rw [this]
            · have := HNUM.out
              unfold Vary.numF at this
              rw [if_pos hge, HQ.out, HN'.out, HF'.out] at this
              exact this
          have HGO := hide hgo
          clear hgo
          by_cases hk0 : d % 128 = 0
          · go_wp2
            go_round
            case rel => rw [HA2.out]; exact HGO.out _ rfl
            case measure => simp [intOf]; omega
          · go_wp2
            go_round
            case rel => rw [HA2.out]; exact HGO.out _ rfl
            case measure => simp [intOf]; omega
        · have hdd : d % 128 = d := Nat.mod_eq_of_lt (by omega)
          have hst : Vary.num l = if d = 0 ∧ 0 < i then none else some (n', i + 1) := by
            have h1 := HNUM.out
            unfold Vary.numF at h1
            rw [if_neg hge, HQ.out, HN'.out] at h1
            rw [h1]
            by_cases hz : d = 0 ∧ 0 < i
            · rw [if_pos (Or.inl hz), if_pos hz]
            · rw [if_neg (fun h => h.elim hz HBG.out), if_neg hz]
          by_cases hd0 : d = 0
          · subst hd0
            by_cases hi0 : ¬ 0 < i
            · have hr : Vary.refN l = (n, i + 1) := by
                unfold Vary.refN; rw [hst, if_neg (by omega)]
                have := HN'.out
                simp at this
                rw [this]
              have HNO := hide hr
              clear hst hr hdd
              go_wp2
              go_ret2
              exact ⟨by rw [HNO.out]; rfl, rfl⟩
            · have hr : Vary.refN l = (0, 0) := by unfold Vary.refN; rw [hst, if_pos (by omega)]
              have HNO := hide hr
              clear hst hr hdd
              go_wp2
              go_ret2
              exact ⟨by rw [HNO.out]; rfl, rfl⟩
          · have hr : Vary.refN l = (n', i + 1) := by unfold Vary.refN; rw [hst, if_neg (by omega)]
            have HNO := hide hr
            clear hst hr
            go_wp2
            go_ret2
            refine ⟨?_, rfl⟩
            rw [HNO.out, HA2.out]
            rfl
    · have hnone : Vary.num l = none := by
        rw [hnum]
        by_cases h9 : i = 9
        · subst h9; rfl
        · rw [List.drop_eq_nil_of_le (by omega)]
          cases 9 - i <;> rfl
      have hr : Vary.refN l = (0, 0) := by unfold Vary.refN; rw [hnone]
      have HNO := hide hr
      clear hnone hnum hn hr hnx
      by_cases h9 : i < l.length
      · have h9' : i = 9 := by omega
        subst h9'
        go_wp2
        go_ret2
        exact ⟨by rw [HNO.out]; rfl, rfl⟩
      · go_wp2
        go_ret2
        exact ⟨by rw [HNO.out]; rfl, rfl⟩
end Go.Proofs.Ytgeboanebdmebaa.V
