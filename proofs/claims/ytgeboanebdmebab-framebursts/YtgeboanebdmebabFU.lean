/- FrameBursts, walked. -/
import Derived.Test.YtgeboanebdmebabFL
import Derived.Test.YtgeboanebdmebabFD
import Derived.Test.YtgeboanebdmebabCBurst
namespace Vary
theorem putF_digits (f n : Nat) (h : n < 128 ^ (f + 1)) : (∀ i, i + 1 < (putF f n).length → 128 ≤ (putF f n).getD i 0) ∧ (putF f n).getD ((putF f n).length - 1) 0 < 128 := by
  induction f generalizing n with
  | zero =>
    simp at h
    exact ⟨fun i hi => by simp [putF] at hi, by simp [putF]; exact h⟩
  | succ f ih =>
    by_cases hn : n < 128
    · rw [putF_less _ _ hn]
      exact ⟨fun i hi => by simp at hi, by simpa using hn⟩
    · rw [putF_more f n (by omega)]
      obtain ⟨h1, h2⟩ := ih (n / 128) (by rw [Nat.pow_succ] at h; exact Nat.div_lt_of_lt_mul (by rw [Nat.mul_comm]; exact h))
      have hl := (putF_length f (n / 128)).1
      generalize putF f (n / 128) = t at *
      refine ⟨fun i hi => ?_, ?_⟩
      · cases i with
        | zero => simp
        | succ i => have := h1 i (by simpa using hi); simpa using this
      · have e : (((n % 128 + 128) :: t).length - 1) = (t.length - 1) + 1 := by simp; omega
        rw [e]
        simpa using h2
theorem put_digits {n : Nat} (h : n ≤ maxNum) : (∀ i, i + 1 < (put n).length → 128 ≤ (put n).getD i 0) ∧ (put n).getD ((put n).length - 1) 0 < 128 :=
  putF_digits 9 n (Nat.lt_of_le_of_lt h (Nat.lt_of_lt_of_le max_lt (Nat.pow_le_pow_right (by omega) (by omega))))
theorem put_len9 {n : Nat} (h : n ≤ maxNum) : (put n).length ≤ 9 := by
  have h1 := num_put [] h
  have h2 := num_back (l := put n ++ []) (by rw [List.append_nil]; exact put_small h) h1
  exact h2.2.2.2.1
end Vary
namespace Crc
theorem good_sealed (l : List Nat) : Good (sealed l) l.length := by
  rw [good_iff _ _ (sealed_length l)]
  simp [sealed]
theorem sealed_small {l : List Nat} (h : ∀ c ∈ l, c < 256) : ∀ c ∈ sealed l, c < 256 := by
  intro c hc
  rcases List.mem_append.1 hc with h1 | h1
  · exact h c h1
  · exact tail4_small _ c h1
end Crc
namespace Go.Proofs.Ytgeboanebdmebab.F
open Go.Proofs.Ytgeboanebdmebab Go.RowKit Go.By
set_option linter.unusedVariables false
set_option linter.unusedSimpArgs false
set_option maxRecDepth 20000
attribute [local go_sem ↓] Go.wp_at_zero Go.wp_at_succ

theorem body_low (a b c : Int) (s : ByteArray) (h : goodP a b c s = true) : 4 ≤ (bodyL a b c s).length ∧ (bodyL a b c s).length ≤ 40 + s.size ∧ ∀ x ∈ bodyL a b c s, x < 256 := by
  rw [goodP] at h
  simp only [numB, Bool.and_eq_true, decide_eq_true_eq] at h
  obtain ⟨⟨⟨⟨⟨a1, a2⟩, b1, b2⟩, c1, c2⟩, s1⟩, _⟩ := h
  have hp : preL a b c 3 = Vary.putI a ++ Vary.putI b ++ Vary.putI c := by
    show (([] ++ Vary.putI (nth3 a b c 0)) ++ Vary.putI (nth3 a b c 1)) ++ Vary.putI (nth3 a b c 2) = _
    rw [List.nil_append]; rfl
  have hi : ∀ z : Int, 0 ≤ z → z ≤ 4611686018427387904 → 1 ≤ (Vary.putI z).length ∧ ∀ x ∈ Vary.putI z, x < 256 := by
    intro z h1 h2
    obtain ⟨n, rfl⟩ := Int.eq_ofNat_of_zero_le h1
    have hn : n ≤ Vary.maxNum := by unfold Vary.maxNum; omega
    rw [putI_nat hn]
    exact ⟨(Vary.put_length n).1, Vary.put_small hn⟩
  refine ⟨?_, bodyL_len a b c s, ?_⟩
  · rw [bodyL, hp, List.length_append, List.length_append, List.length_append, Vary.putT, List.length_append]
    have := (hi a a1 a2).1
    have := (hi b b1 b2).1
    have := (hi c c1 c2).1
    have := (Vary.put_length (nums s).length).1
    omega
  · intro x hx
    rw [bodyL, hp] at hx
    rcases List.mem_append.1 hx with hx | hx
    · rcases List.mem_append.1 hx with hx | hx
      · rcases List.mem_append.1 hx with hx | hx
        · exact (hi a a1 a2).2 x hx
        · exact (hi b b1 b2).2 x hx
      · exact (hi c c1 c2).2 x hx
    · rcases List.mem_append.1 hx with hx | hx
      · exact Vary.put_small (by rw [nums_length]; unfold Vary.maxNum; omega) x hx
      · exact nums_small s x hx

/-- A frame of which the number is right and the sum is not. -/
theorem getP_bad (m : Nat) (s' : List Nat) (hm : m ≤ 65576) (hs : s'.length = m + 4) (hng : ¬ Crc.Good s' m) : getP (Vary.put m ++ s') = ((0, 0, 0, ⟨#[]⟩), (Vary.put m).length + m + 4, 12) := by
  have hmm : m ≤ Vary.maxNum := by unfold Vary.maxNum; omega
  have htl : s'.take (m + 4) = s' := by rw [← hs]; exact List.take_length
  unfold getP
  rw [Vary.num_put _ hmm]
  simp only []
  rw [List.drop_left, htl, if_neg (by omega), if_neg (by simp only [List.length_append, hs]; omega), if_pos (fun e => hng ((Crc.good_iff s' m hs).2 e))]

theorem place_of (x : Int) (n : Nat) (h0 : 4 ≤ n) (hn : n ≤ 5000) : ∃ k : Nat, wrap64 ((IntKind.u64.wrap x).tmod (8 * (n : Int) - 31)) = (k : Int) ∧ k + 31 < 8 * n := by
  have h0 : 0 ≤ IntKind.u64.wrap x := by simp [IntKind.wrap, IntKind.bits, IntKind.signed]; omega
  generalize IntKind.u64.wrap x = u at *
  have h1 := Int.emod_nonneg u (b := 8 * (n : Int) - 31) (by omega)
  have h2 := Int.emod_lt_of_pos u (b := 8 * (n : Int) - 31) (by omega)
  rw [Int.tmod_eq_emod_of_nonneg h0]
  generalize u % (8 * (n : Int) - 31) = y at *
  refine ⟨y.toNat, ?_, by omega⟩
  unfold wrap64
  omega

theorem row_cell {W : World} {B g n cp : Nat} {l : List Nat} (h : Owns W B (.slice (some ⟨g, 0, none⟩) n cp) l) (i : Nat) (hi : i < l.length) : W.cell? ⟨g, i, none⟩ = some (.int .u8 ((l.getD i 0 : Nat) : Int)) := by
  obtain ⟨a, cap, e, _, _, hL, _⟩ := h.form
  cases e
  rcases hL.2 with rfl | ⟨b, off, e2, hc⟩
  · simp at hi
  · cases e2
    have := hc i hi
    rwa [Nat.zero_add] at this

theorem pup0 (W : World) : Below W.heap.size W (W.alloc (.cells #[.int .i64 0, .int .i64 0, .int .i64 0, .string ⟨#[]⟩] 23)) ∧ (W.alloc (.cells #[.int .i64 0, .int .i64 0, .int .i64 0, .string ⟨#[]⟩] 23)).heap[W.heap.size]? = some (.cells #[.int .i64 0, .int .i64 0, .int .i64 0, .string ⟨#[]⟩] 23 (0, 0)) :=
  ⟨(Below.refl _ _).alloc (Nat.le_refl _) _, World.alloc_heap_new W _⟩
theorem head_get {P S : List Nat} (i : Nat) (hi : i < P.length) : (P ++ S).getD i 0 = P.getD i 0 := by simp [List.getD, List.getElem?_append_left hi]
theorem tail_get {P S : List Nat} (i : Nat) : (P ++ S).getD (P.length + i) 0 = S.getD i 0 := by simp [List.getD, List.getElem?_append_right (Nat.le_add_right _ _)]
theorem tail_set {P S : List Nat} (i c : Nat) : (P ++ S).set (P.length + i) c = P ++ S.set i c := by
  rw [List.set_append_right _ _ (Nat.le_add_right _ _), Nat.add_sub_cancel_left]

theorem bit_form (t i : Nat) (ht : t < 4294967296) : bits BinOp.and IntKind.u32 ((t : Int) / 2 ^ i) 1 = ((t / 2 ^ i % 2 : Nat) : Int) := by
  have e : ((t : Int) / 2 ^ i) = ((t / 2 ^ i : Nat) : Int) := by simp
  have hl : t / 2 ^ i < 4294967296 := Nat.lt_of_le_of_lt (Nat.div_le_self _ _) ht
  rw [e]
  have := u32_and_nat (t / 2 ^ i) 1 hl (by omega)
  rw [nat_mask1] at this
  exact this

theorem bit_on (t i : Nat) (ht : t < 4294967296) (h : (bits BinOp.and IntKind.u32 ((t : Int) / 2 ^ i) 1 == 1) = true) : t / 2 ^ i % 2 = 1 := by
  rw [bit_form t i ht] at h
  have := beq_iff_eq.1 h
  omega

theorem bit_off (t i : Nat) (ht : t < 4294967296) (h : (bits BinOp.and IntKind.u32 ((t : Int) / 2 ^ i) 1 == 1) = false) : t / 2 ^ i % 2 = 0 := by
  rw [bit_form t i ht] at h
  have := beq_eq_false_iff_ne.1 h
  have : t / 2 ^ i % 2 < 2 := Nat.mod_lt _ (by omega)
  omega

theorem pow_small {r : Nat} (hr : r < 8) : 2 ^ r < 256 := by
  have : 2 ^ r ≤ 2 ^ 7 := Nat.pow_le_pow_right (by omega) (by omega)
  omega

theorem flip_form (y r : Nat) (hy : y < 256) (hr : r < 8) : bits BinOp.xor IntKind.u8 (y : Int) (2 ^ min r 8 % 256) = ((y ^^^ 2 ^ r : Nat) : Int) := by
  have h1 := pow_small hr
  have e : ((2 : Int) ^ min r 8 % 256) = ((2 ^ r : Nat) : Int) := by
    rw [Nat.min_eq_left (by omega)]
    have : ((2 : Int) ^ r) = ((2 ^ r : Nat) : Int) := by simp
    rw [this]
    generalize 2 ^ r = q at *
    omega
  rw [e, u8_xor_nat y (2 ^ r) hy h1]

set_option maxHeartbeats 4000000 in
theorem bursts_walk (x1 x2 x3 : Int) (x4 : ByteArray) (at_ : Int) (t : Nat) (w : World) (hg : goodP x1 x2 x3 x4 = true) (hs : x4.size ≤ 2000)
    (h1 : -9223372036854775808 ≤ at_) (h2 : at_ ≤ 9223372036854775807) (ht : t < 4294967296) (h0 : t ≠ 0) :
    Calls Try.prog 3 #[.agg #[.int .i64 x1, .int .i64 x2, .int .i64 x3, .string x4], .int .i64 at_, .int .u32 (t : Int)] w fun e w' => e = .returned (.bool true) ∧ Below w.heap.size w w' := by
  have hx := pk_new w x1 x2 x3 x4
  obtain ⟨k0, k1, k2, k3⟩ := hx.cells
  have HX0 := hide hx
  have HG : Hid (∀ W, Calls Try.prog 4 #[.agg #[.int .i64 x1, .int .i64 x2, .int .i64 x3, .string x4]] W fun e W' => e = .returned (.bool true) ∧ Below W.heap.size W W') := hide fun W => by rw [← hg]; exact rgood_any x1 x2 x3 x4 W
  have HP := hide (fun W => put_good x1 x2 x3 x4 W hg hs)
  obtain ⟨b1, b2, b3⟩ := body_low x1 x2 x3 x4 hg
  have hm0 : (bodyL x1 x2 x3 x4).length ≤ Vary.maxNum := by unfold Vary.maxNum; omega
  have hfr : frameL x1 x2 x3 x4 = Vary.put (bodyL x1 x2 x3 x4).length ++ Crc.sealed (bodyL x1 x2 x3 x4) := by rw [frameL, putI_nat hm0]
  have hdig := Vary.put_digits hm0
  have hlen9 := Vary.put_len9 hm0
  have hlen1 := (Vary.put_length (bodyL x1 x2 x3 x4).length).1
  have hpsm := Vary.put_small hm0
  have n1 : ¬ (2000 : Int) < (x4.size : Int) := by omega
  have hq0 : ((t : Int) == 0) = false := by simp; omega
  rw [hfr] at HP
  clear hx hg hfr
  generalize bodyL x1 x2 x3 x4 = bd at *
  have hsl := Crc.sealed_length bd
  have hss := Crc.sealed_small b3
  have HGS := hide (Crc.good_sealed bd)
  generalize hm : bd.length = m at *
  generalize Crc.sealed bd = s at *
  have HPP : Hid (∃ P, P = Vary.put m) := hide ⟨_, rfl⟩
  generalize hP : Vary.put m = P at *
  generalize hh : P.length = h at *
  have HD := hide hdig
  have HSM := hide hpsm
  have HSS := hide hss
  have HM := hide hm
  have HPe := hide hP
  have HH := hide hh
  have HSL := hide hsl
  clear hdig hpsm hss hm hP hh b3 HPP
  have hpl : (P ++ s).length = h + m + 4 := by rw [List.length_append, HH.out, HSL.out]; omega
  have HPL := hide hpl
  clear hpl hm0 hsl
  go_enter Try.func3, Try.ntmps3
  go_wp2_with (first
    | (go_at_call 4; refine (HG.out _).mono ?_; rintro e W1 ⟨rfl, hb⟩; have HX1 := hide (HX0.out.up hb); obtain ⟨k0, k1, k2, k3⟩ := HX1.out.cells; clear hb HG)
    | fail)
  refine (HP.out _).mono ?_
  rintro e W2 ⟨v, rfl, hown, hb⟩
  obtain ⟨g, cp, rfl, hgb, hgl⟩ := hown.1.form (by rw [HPL.out]; omega)
  have HX2 := hide (HX1.out.up hb)
  have hown2 : Owns W2 w.heap.size (.slice (some ⟨g, 0, none⟩) (P ++ s).length cp) (P ++ s) := hown.mono HX1.out.lo.size
  rw [HPL.out] at hown2
  have HO := hide hown2
  rw [HPL.out]
  clear hown hown2 hb HP HX0
  have hgw : w.heap.size ≤ g := Nat.le_trans HX1.out.lo.size hgb
  clear hgb
  obtain ⟨N, hN⟩ : ∃ N, N = h + m + 4 := ⟨_, rfl⟩
  rw [← hN] at HO ⊢
  go_wp2_with fail
  go_loopw [9] (fun z wr => wr = W2 ∧ ∃ j : Nat, z = .int .i64 ((j : Int) + 1) ∧ j + 1 ≤ h) (fun z _ => N - (intOf z).toNat)
  case atStart => exact ⟨rfl, 0, rfl, by omega⟩
  case round =>
    obtain ⟨hw, j, rfl, hj⟩ := hrel
    subst hw
    have hcj := row_cell HO.out j (by rw [HPL.out]; omega)
    rw [head_get j (by rw [HH.out]; omega)] at hcj
    have hjN : (j : Int) + 1 < (N : Int) := by omega
    by_cases hlt : j + 1 < h
    · have hd := HD.out.1 j (by omega)
      have hd' : (128 : Int) ≤ (P.getD j 0 : Nat) := by omega
      clear hd
      generalize P.getD j 0 = d at *
      go_wp2
      go_roundw
      case rel => exact ⟨by trivial, j + 1, by go_num, by omega⟩
      case measure => simp [intOf]; omega
    · have hjh : h = j + 1 := by omega
      have hd := HD.out.2
      rw [hjh, Nat.add_sub_cancel] at hd
      have hd' : ¬ (128 : Int) ≤ (P.getD j 0 : Nat) := by omega
      clear hd
      generalize P.getD j 0 = d at *
      have hn8 : ¬ (N : Int) < (j : Int) + 1 + 8 := by omega
      go_wp2_with fail
      subst hjh
      obtain ⟨k, hk, hkl⟩ := place_of at_ (m + 4) (by omega) (by omega)
      obtain ⟨q, hq⟩ : ∃ q, q = 8 * (j + 1) + k := ⟨_, rfl⟩
      have hkq : wrap64 (8 * ((j : Int) + 1) + wrap64 ((IntKind.u64.wrap at_).tmod (8 * ((j : Int) + 1 + (m : Int) + 4 - ((j : Int) + 1)) - 31))) = (q : Int) := by
        rw [show (8 * ((j : Int) + 1 + (m : Int) + 4 - ((j : Int) + 1)) - 31) = 8 * ((m + 4 : Nat) : Int) - 31 by omega, hk]
        unfold wrap64
        omega
      rw [hkq]
      clear hk hkq h1 h2 hq0 hcj hd' hlt hn8 hj hjN
      have HO2 : Hid (Owns wr w.heap.size (.slice (some ⟨g, 0, none⟩) (j + 1 + m + 4) cp) (P ++ s)) := hide (by have := HO.out; rw [hN] at this; exact this)
      have HBW := hide HX2.out.lo
      have HQ := hide hq
      clear hq HO HX1 HX2 k0 k1 k2 k3
      go_loopw [71] (fun z wr' => ∃ i : Nat, ∃ s' : List Nat, i ≤ 32 ∧ z = .int .i64 i ∧ Hid (s'.length = m + 4) ∧ Hid (Crc.run Crc.top s' = Crc.run Crc.top s ^^^ Crc.bits (t % 2 ^ i) (8 * (m + 4) - k)) ∧ Hid (Owns wr' w.heap.size (.slice (some ⟨g, 0, none⟩) (j + 1 + m + 4) cp) (P ++ s')) ∧ Hid (Below w.heap.size w wr')) (fun z _ => 32 - (intOf z).toNat)
      case atStart => exact ⟨0, s, by omega, rfl, hide HSL.out, hide (by simp [Nat.mod_one, Crc.bits_zero]), HO2, HBW⟩
      case round =>
        obtain ⟨i, s', hi, rfl, HS', HR, HO', HB'⟩ := hrel
        by_cases hlt : i < 32
        · obtain ⟨p, hp⟩ : ∃ p, p = q + i := ⟨_, rfl⟩
          have hqv := HQ.out
          have e1 : IntKind.i64.wrap ((q : Int) + (i : Int)) = (p : Int) := by rw [C.wrapI _ (by omega)]; omega
          have hpl : p / 8 < (j + 1 + m + 4) := by omega
          have hfl : (P ++ s').length = (j + 1 + m + 4) := by rw [List.length_append, HH.out, HS'.out]; omega
          have hc := row_cell HO'.out (p / 8) (by rw [hfl]; exact hpl)
          have HFL := hide hfl
          have ho1 : wr.ownsRow w.heap.size 5 1 (.slice (some ⟨g, 0, none⟩) (j + 1 + m + 4) cp) (j + 1 + m + 4) ((P ++ s').map B8) := by have := HO'.out.1; rw [hfl] at this; exact this
          have hf : wr.frozen? ⟨g, p / 8, none⟩ = false := ho1.frozenAt (p / 8)
          have HO1 := hide ho1
          clear ho1 hfl
          have hpm : p / 8 = j + 1 + (k + i) / 8 := by omega
          have hpr : p % 8 = (k + i) % 8 := by omega
          have HPM := hide hpm
          have HPR := hide hpr
          have HP' := hide hp
          have hp8 : p ≤ 100000 := by omega
          clear hp hqv hpm hpr
          generalize hy : (P ++ s').getD (p / 8) 0 = y at *
          have HY := hide hy
          clear hy
          have e3 : (p : Int).tmod 8 = ((p % 8 : Nat) : Int) := by rw [Int.tmod_eq_emod_of_nonneg (by omega)]; omega
          have e4 : IntKind.i64.wrap ((p : Int) / 8) = ((p / 8 : Nat) : Int) := by rw [C.wrapI _ (by omega)]; omega
          have b1' : (0 : Int) ≤ ((p / 8 : Nat) : Int) := by omega
          have b2' : ((p / 8 : Nat) : Int) < (j : Int) + 1 + (m : Int) + 4 := by omega
          have b3' : (0 : Int) ≤ ((p % 8 : Nat) : Int) := by omega
          have b4' : ((p % 8 : Nat) : Int) ≤ 64 := by omega
          generalize hj8 : p / 8 = pj at *
          generalize hr8 : p % 8 = pr at *
          have HJ := hide hj8
          have HR8 := hide hr8
          clear hj8 hr8
          go_wp2
          · skip
            refine free_start (by kernel_rfl) ?_
            refine free_take (i := 0) (oi := { dst := some 79, op := Op.move (Operand.tmp 7), type := 27, pos := _, after := _, guard := none }) (v := _) rfl (by kernel_rfl) (by kernel_rfl) (by kernel_rfl) (fun _ _ _ h => h) (by rfl) (by intro w'; go_simp; try with_reducible rfl) ?_
            simp only [Act.put, List.setIfInBounds_toArray, List.set_cons_zero, List.set_cons_succ]
            refine free_take (i := 1) (oi := { dst := some 80, op := Op.move (Operand.tmp 10), type := 3, pos := _, after := _, guard := none }) (v := _) rfl (by kernel_rfl) (by kernel_rfl) (by kernel_rfl) (fun _ _ _ h => h) (by rfl) (by intro w'; go_simp; try with_reducible rfl) ?_
            simp only [Act.put, List.setIfInBounds_toArray, List.set_cons_zero, List.set_cons_succ]
            refine free_take (i := 2) (oi := { dst := some 81, op := Op.move (Operand.tmp 11), type := 3, pos := _, after := _, guard := none }) (v := _) rfl (by kernel_rfl) (by kernel_rfl) (by kernel_rfl) (fun _ _ _ h => h) (by rfl) (by intro w'; go_simp; try with_reducible rfl) ?_
            simp only [Act.put, List.setIfInBounds_toArray, List.set_cons_zero, List.set_cons_succ]
            refine free_take (i := 3) (oi := { dst := some 82, op := Op.binOp BinOp.add 3 (Operand.tmp 80) (Operand.tmp 81) 3, type := 3, pos := _, after := _, guard := none }) (v := _) rfl (by kernel_rfl) (by kernel_rfl) (by kernel_rfl) (fun _ _ _ h => h) (by rfl) (by intro w'; go_simp; try with_reducible rfl) ?_
            simp only [Act.put, List.setIfInBounds_toArray, List.set_cons_zero, List.set_cons_succ]
            refine free_take (i := 4) (oi := { dst := some 83, op := Op.binOp BinOp.quo 3 (Operand.tmp 82) (Operand.const (Value.int IntKind.i64 8)) 3, type := 3, pos := _, after := _, guard := none }) (v := _) rfl (by kernel_rfl) (by kernel_rfl) (by kernel_rfl) (fun _ _ _ h => h) (by rfl) (by intro w'; go_simp; try with_reducible rfl) ?_
            simp only [Act.put, List.setIfInBounds_toArray, List.set_cons_zero, List.set_cons_succ]
            refine free_take (i := 5) (oi := { dst := some 84, op := Op.indexAddr 27 (Operand.tmp 79) (Operand.tmp 83), type := 0, pos := _, after := _, guard := none }) (v := _) rfl (by kernel_rfl) (by kernel_rfl) (by kernel_rfl) (fun _ _ _ h => h) (by rfl) (by intro w'; go_simp; try with_reducible rfl) ?_
            simp only [Act.put, List.setIfInBounds_toArray, List.set_cons_zero, List.set_cons_succ]
            refine free_take (i := 7) (oi := { dst := some 86, op := Op.move (Operand.tmp 10), type := 3, pos := _, after := _, guard := none }) (v := _) rfl (by kernel_rfl) (by kernel_rfl) (by kernel_rfl) (fun _ _ _ h => h) (by rfl) (by intro w'; go_simp; try with_reducible rfl) ?_
            simp only [Act.put, List.setIfInBounds_toArray, List.set_cons_zero, List.set_cons_succ]
            refine free_take (i := 8) (oi := { dst := some 87, op := Op.move (Operand.tmp 11), type := 3, pos := _, after := _, guard := none }) (v := _) rfl (by kernel_rfl) (by kernel_rfl) (by kernel_rfl) (fun _ _ _ h => h) (by rfl) (by intro w'; go_simp; try with_reducible rfl) ?_
            simp only [Act.put, List.setIfInBounds_toArray, List.set_cons_zero, List.set_cons_succ]
            refine free_take (i := 9) (oi := { dst := some 88, op := Op.binOp BinOp.add 3 (Operand.tmp 86) (Operand.tmp 87) 3, type := 3, pos := _, after := _, guard := none }) (v := _) rfl (by kernel_rfl) (by kernel_rfl) (by kernel_rfl) (fun _ _ _ h => h) (by rfl) (by intro w'; go_simp; try with_reducible rfl) ?_
            simp only [Act.put, List.setIfInBounds_toArray, List.set_cons_zero, List.set_cons_succ]
            refine free_take (i := 10) (oi := { dst := some 89, op := Op.binOp BinOp.rem 3 (Operand.tmp 88) (Operand.const (Value.int IntKind.i64 8)) 3, type := 3, pos := _, after := _, guard := none }) (v := _) rfl (by kernel_rfl) (by kernel_rfl) (by kernel_rfl) (fun _ _ _ h => h) (by rfl) (by intro w'; go_simp; try with_reducible rfl) ?_
            simp only [Act.put, List.setIfInBounds_toArray, List.set_cons_zero, List.set_cons_succ]
            refine free_take (i := 11) (oi := { dst := some 90, op := Op.binOp BinOp.shl 5 (Operand.const (Value.int IntKind.u8 1)) (Operand.tmp 89) 3, type := 5, pos := _, after := _, guard := none }) (v := _) rfl (by kernel_rfl) (by kernel_rfl) (by kernel_rfl) (fun _ _ _ h => h) (by rfl) (by intro w'; go_simp; try with_reducible rfl) ?_
            simp only [Act.put, List.setIfInBounds_toArray, List.set_cons_zero, List.set_cons_succ]
            refine free_step (i := 6) (o := { dst := some 85, op := Op.load 5 (Operand.tmp 84), type := 5, pos := _, after := _, guard := none }) (by kernel_rfl) rfl (by rfl) (fun K hK => ?_)
            go_simp
            refine hK.out _ _ ?_
            clear hK K
            try simp only [Act.put, List.setIfInBounds_toArray, List.set_cons_zero, List.set_cons_succ]
            refine free_take (i := 12) (oi := { dst := some 91, op := Op.binOp BinOp.xor 5 (Operand.tmp 85) (Operand.tmp 90) 5, type := 5, pos := _, after := _, guard := none }) (v := _) rfl (by kernel_rfl) (by kernel_rfl) (by kernel_rfl) (fun _ _ _ h => h) (by rfl) (by intro w'; go_simp; try with_reducible rfl) ?_
            simp only [Act.put, List.setIfInBounds_toArray, List.set_cons_zero, List.set_cons_succ]
            refine free_take (i := 13) (oi := { dst := some 92, op := Op.indexAddr 27 (Operand.tmp 79) (Operand.tmp 83), type := 0, pos := _, after := _, guard := none }) (v := _) rfl (by kernel_rfl) (by kernel_rfl) (by kernel_rfl) (fun _ _ _ h => h) (by rfl) (by intro w'; go_simp; try with_reducible rfl) ?_
            simp only [Act.put, List.setIfInBounds_toArray, List.set_cons_zero, List.set_cons_succ]
            refine free_step (i := 14) (o := { dst := none, op := Op.store 5 (Operand.tmp 92) (Operand.tmp 91), type := 0, pos := _, after := _, guard := none }) (by kernel_rfl) rfl (by rfl) (fun K hK => ?_)
            go_simp
            refine hK.out _ _ ?_
            clear hK K
            try simp only [Act.put, List.setIfInBounds_toArray, List.set_cons_zero, List.set_cons_succ]
            refine free_done (by kernel_rfl) ?_
            go_wp2
            go_roundw
            case rel =>
              have hbit : t / 2 ^ i % 2 = 1 := bit_on t i ht ‹_›
              have hpl8 := HH.out
              have hsl' := HS'.out
              have hjj : (k + i) / 8 < s'.length := by omega
              have hyv : s'.getD ((k + i) / 8) 0 = y := by
                have h3 := HY.out
                rw [HPM.out, ← hpl8, tail_get] at h3
                exact h3
              have hsm' : ∀ c ∈ s', c < 256 := fun c hc => HO'.out.2 c (List.mem_append_right _ hc)
              have hy8 : y < 256 := by rw [← hyv]; exact getD_lt hsm' _
              have hr8 : pr < 8 := by have := HPR.out; omega
              rw [flip_form y pr hy8 hr8]
              have hset : (P ++ s').set pj (y ^^^ 2 ^ pr) = P ++ s'.set ((k + i) / 8) (y ^^^ 2 ^ pr) := by rw [HPM.out, ← hpl8, tail_set]
              refine ⟨i + 1, s'.set ((k + i) / 8) (y ^^^ 2 ^ pr), by omega, by go_num, hide (by simpa using hsl'), hide ?_, hide ?_, hide (HB'.out.setCell hgw _).drew⟩
              · have e5 := Crc.run_flip s' Crc.top ((k + i) / 8) (2 ^ pr) hjj
                rw [hyv, HR.out, hsl', HPR.out, Crc.bits_one (m + 4) k i (by omega), Nat.xor_assoc, ← Crc.bits_xor] at e5
                rw [Crc.mod_next, hbit, Nat.mul_one, ← e5, HPR.out]
              · refine ⟨?_, ?_⟩
                · have := (HO1.out.stored pj (B8 (y ^^^ 2 ^ pr))).1
                  rw [← List.map_set, hset] at this
                  have hl2 : (P ++ s'.set ((k + i) / 8) (y ^^^ 2 ^ pr)).length = j + 1 + m + 4 := by rw [List.length_append, hpl8, List.length_set, hsl']; omega
                  rw [hl2]
                  exact this
                · intro c hc
                  rcases List.mem_append.1 hc with h | h
                  · exact HO'.out.2 c (List.mem_append_left _ h)
                  · rcases List.mem_or_eq_of_mem_set h with h | h
                    · exact hsm' c h
                    · rw [h]; exact Nat.xor_lt_two_pow (n := 8) hy8 (pow_small hr8)
            case measure => simp [intOf]; omega
          · go_roundw
            case rel =>
              have hbit : t / 2 ^ i % 2 = 0 := bit_off t i ht ‹_›
              refine ⟨i + 1, s', by omega, by go_num, HS', hide ?_, HO', HB'⟩
              rw [Crc.mod_next, hbit, Nat.mul_zero, Nat.xor_zero]
              exact HR.out
            case measure => simp [intOf]; omega
        · have hi32 : i = 32 := by omega
          subst hi32
          have hng : ¬ Crc.Good s' m := by
            have hr := HR.out
            rw [Nat.mod_eq_of_lt (by omega)] at hr
            exact Crc.burst_found s s' m k t HSL.out HS'.out HSS.out (fun c hc => HO'.out.2 c (List.mem_append_right _ hc)) ht h0 HGS.out hr
          have hgp : getP (P ++ s') = ((0, 0, 0, ⟨#[]⟩), j + 1 + m + 4, 12) := by
            have := getP_bad m s' (by omega) HS'.out hng
            rw [HPe.out, HH.out] at this
            exact this
          have hfl : (P ++ s').length = j + 1 + m + 4 := by rw [List.length_append, HH.out, HS'.out]; omega
          obtain ⟨a2, c2, e2, k1, k2, k3, _⟩ := HO'.out.form
          rw [hfl] at e2 k1
          simp only [Value.slice.injEq] at e2
          obtain ⟨rfl, -, rfl⟩ := e2
          have HGT := hide (get_any (some ⟨g, 0, none⟩) (P ++ s') (j + 1 + m + 4) cp wr hfl k3.came (by omega) k1 k2)
          unfold GetOut at HGT
          rw [hgp] at HGT
          clear hng hgp hfl k1 k2 k3 hi hlt
          go_wp2_with (first
            | (go_at_call 7; refine HGT.out.mono ?_; rintro e W4 ⟨rfl, hb⟩; have HB4 := hide (HB'.out.trans (hb.mono HB'.out.size)); have HN4 := hide (pup0 W4); have HB5 := hide (HB4.out.trans (HN4.out.1.mono HB4.out.size)); obtain ⟨d0, d1, d2, d3⟩ := pk_cells HN4.out.2; clear hb HGT)
            | (go_at_call 5; refine (lives_any _).mono ?_; rintro e W5 ⟨rfl, hb⟩; have HB6 := hide (HB5.out.trans (hb.mono HB5.out.size)); clear hb))
          go_ret
          exact ⟨rfl, HB6.out⟩

set_option maxHeartbeats 2000000 in
theorem bursts_out (x1 x2 x3 : Int) (x4 : ByteArray) (at_ t : Int) (w : World) (h : 2000 < x4.size ∨ (x4.size ≤ 2000 ∧ goodP x1 x2 x3 x4 = false) ∨ (x4.size ≤ 2000 ∧ goodP x1 x2 x3 x4 = true ∧ t = 0)) :
    Calls Try.prog 3 #[.agg #[.int .i64 x1, .int .i64 x2, .int .i64 x3, .string x4], .int .i64 at_, .int .u32 t] w fun e W' => e = .returned (.bool true) ∧ Below w.heap.size w W' := by
  have hx := pk_new w x1 x2 x3 x4
  obtain ⟨k0, k1, k2, k3⟩ := hx.cells
  have HX0 := hide hx
  clear hx
  rcases h with h1 | ⟨h1, h2⟩ | ⟨h1, h2, h3⟩
  · have n1 : (2000 : Int) < (x4.size : Int) := by omega
    clear h1
    go_enter Try.func3, Try.ntmps3
    go_wp2_with (go_at_call 5; refine (lives_any _).mono ?_; rintro e W5 ⟨rfl, hb⟩; have HX5 := hide (HX0.out.up hb); clear hb)
    go_ret
    exact ⟨rfl, HX5.out.lo⟩
  · have n1 : ¬ (2000 : Int) < (x4.size : Int) := by omega
    have HG : Hid (∀ W, Calls Try.prog 4 #[.agg #[.int .i64 x1, .int .i64 x2, .int .i64 x3, .string x4]] W fun e W' => e = .returned (.bool false) ∧ Below W.heap.size W W') := hide fun W => by rw [← h2]; exact rgood_any x1 x2 x3 x4 W
    clear h1 h2
    go_enter Try.func3, Try.ntmps3
    go_wp2_with (first
      | (go_at_call 4; refine (HG.out _).mono ?_; rintro e W1 ⟨rfl, hb⟩; have HX1 := hide (HX0.out.up hb); clear hb HG)
      | (go_at_call 5; refine (lives_any _).mono ?_; rintro e W5 ⟨rfl, hb⟩; have HX5 := hide (HX1.out.up hb); clear hb))
    go_ret
    exact ⟨rfl, HX5.out.lo⟩
  · have n1 : ¬ (2000 : Int) < (x4.size : Int) := by omega
    have HG : Hid (∀ W, Calls Try.prog 4 #[.agg #[.int .i64 x1, .int .i64 x2, .int .i64 x3, .string x4]] W fun e W' => e = .returned (.bool true) ∧ Below W.heap.size W W') := hide fun W => by rw [← h2]; exact rgood_any x1 x2 x3 x4 W
    subst h3
    clear h1 h2
    go_enter Try.func3, Try.ntmps3
    go_wp2_with (first
      | (go_at_call 4; refine (HG.out _).mono ?_; rintro e W1 ⟨rfl, hb⟩; have HX1 := hide (HX0.out.up hb); clear hb HG)
      | (go_at_call 5; refine (lives_any _).mono ?_; rintro e W5 ⟨rfl, hb⟩; have HX5 := hide (HX1.out.up hb); clear hb))
    go_ret
    exact ⟨rfl, HX5.out.lo⟩

theorem i64_bounds {n : Int} (h : (Lit.int .i64 n).wf = true) : -9223372036854775808 ≤ n ∧ n ≤ 9223372036854775807 := by
  simp [Lit.wf, IntKind.min, IntKind.max, IntKind.bits, IntKind.signed] at h
  omega

theorem u32_bounds {n : Int} (h : (Lit.int .u32 n).wf = true) : 0 ≤ n ∧ n ≤ 4294967295 := by
  simp [Lit.wf, IntKind.min, IntKind.max, IntKind.bits, IntKind.signed] at h
  omega

theorem bursts_any (x1 x2 x3 : Int) (x4 : ByteArray) (at_ t : Int) (w : World) (w1 : (Lit.int .i64 at_).wf = true) (w2 : (Lit.int .u32 t).wf = true) :
    Calls Try.prog 3 #[.agg #[.int .i64 x1, .int .i64 x2, .int .i64 x3, .string x4], .int .i64 at_, .int .u32 t] w fun e W' => e = .returned (.bool true) ∧ Below w.heap.size w W' := by
  by_cases h1 : 2000 < x4.size
  · exact bursts_out x1 x2 x3 x4 at_ t w (.inl h1)
  · cases h2 : goodP x1 x2 x3 x4 with
    | false => exact bursts_out x1 x2 x3 x4 at_ t w (.inr (.inl ⟨by omega, h2⟩))
    | true =>
      by_cases h0 : t = 0
      · exact bursts_out x1 x2 x3 x4 at_ t w (.inr (.inr ⟨by omega, h2, h0⟩))
      · have hb := i64_bounds w1
        have ht := u32_bounds w2
        obtain ⟨u, rfl⟩ := Int.eq_ofNat_of_zero_le ht.1
        exact bursts_walk x1 x2 x3 x4 at_ u w h2 (by omega) hb.1 hb.2 (by omega) (by omega)
end Go.Proofs.Ytgeboanebdmebab.F
