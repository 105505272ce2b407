/- What stands at the head of bytes, as the document says it: numbers of any sign, and texts. -/
import Derived.Test.YtgeboanebdmebaaVRefReads
namespace Vary
theorem refN_bounds {l : List Nat} (hl : ∀ c ∈ l, c < 256) : (refN l).1 ≤ maxNum ∧ (refN l).2 ≤ l.length ∧ ((refN l).2 = 0 ↔ num l = none) := by
  unfold refN
  cases h : num l with
  | none => simp
  | some p =>
    obtain ⟨n, k⟩ := p
    have := num_back hl h
    refine ⟨this.2.1, this.2.2.2.2, ?_⟩
    have := this.2.2.1
    simp; omega
theorem refT_of {l : List Nat} (hl : ∀ c ∈ l, c < 256) : refT l = if (refN l).2 = 0 ∨ l.length - (refN l).2 < (refN l).1 then ([], 0) else ((l.drop (refN l).2).take (refN l).1, (refN l).2 + (refN l).1) := by
  unfold refT txt refN
  cases h : num l with
  | none => simp
  | some p =>
    obtain ⟨n, k⟩ := p
    have h0 := (num_back hl h).2.2.1
    simp only []
    by_cases hc : n ≤ l.length - k
    · rw [if_pos hc, if_neg (by omega)]
    · rw [if_neg hc, if_pos (by omega)]
end Vary
namespace Go.Proofs.Ytgeboanebdmebaa.V
open Go.RowKit Go.By
set_option linter.unusedVariables false
set_option maxRecDepth 20000

/-- Where a slice's bytes lie from the k-th on. -/
def from_ (a : Option Addr) (cap k : Nat) : Option Addr := if cap = k then a else a.map (·.add k)

theorem slice_lo (a : Option Addr) (n cap k : Nat) (h : k ≤ n) (w : World) :
    (Instr.slice 28 (.slice a n cap) (some (.int .i64 (k : Int))) none none).run Try.prog w = .ok (.slice (from_ a cap k) (n - k) (cap - k)) w := by
  rw [run_slice_l w 28 a n cap (by exact Try.underlying28) .i64 k (by omega) (by omega)]
  have hs : (sizeOf (Try.prog.elem 28)).run Try.prog w = .ok 1 w := by kernel_rfl
  rw [hs]
  simp [Result.andThen, sliced, from_]

theorem slice_lohi (a : Option Addr) (n cap k : Nat) (h2 : Int) (m : Nat) (hm : h2 = ((k + m : Nat) : Int)) (h : k + m ≤ cap) (w : World) :
    (Instr.slice 28 (.slice a n cap) (some (.int .i64 (k : Int))) (some (.int .i64 h2)) none).run Try.prog w = .ok (.slice (from_ a cap k) m (cap - k)) w := by
  subst hm
  rw [run_slice_lh w 28 a n cap (by exact Try.underlying28) .i64 .i64 k ((k + m : Nat) : Int) (by omega) (by omega) (by omega)]
  have hs : (sizeOf (Try.prog.elem 28)).run Try.prog w = .ok 1 w := by kernel_rfl
  rw [hs]
  simp only [Result.andThen, sliced, from_, Int.toNat_natCast, Nat.mul_one, Nat.add_sub_cancel_left]

theorem add_eq (b off k : Nat) : (⟨b, off, none⟩ : Addr).add k = ⟨b, off + k, none⟩ := by unfold Addr.add; split <;> simp_all

theorem lies_drop {w : World} {a : Option Addr} {l : List Nat} (h : Lies w a l) (cap k : Nat) (hc : l.length ≤ cap) : Lies w (from_ a cap k) (l.drop k) := by
  refine ⟨fun c hx => h.1 c (List.mem_of_mem_drop hx), ?_⟩
  rcases h.2 with rfl | ⟨b, off, rfl, hcell⟩
  · left; simp
  · by_cases hk : k < l.length
    · right
      refine ⟨b, off + k, ?_, fun i hi => ?_⟩
      · unfold from_; rw [if_neg (by omega)]; simp [add_eq]
      · rw [getD_drop, Nat.add_assoc]; exact hcell _ (by simp at hi; omega)
    · left; exact List.drop_eq_nil_of_le (by omega)

theorem lies_take {w : World} {a : Option Addr} {l : List Nat} (h : Lies w a l) (n : Nat) : Lies w a (l.take n) := by
  refine ⟨fun c hx => h.1 c (List.mem_of_mem_take hx), ?_⟩
  rcases h.2 with rfl | ⟨b, off, rfl, hcell⟩
  · left; simp
  · right
    refine ⟨b, off, rfl, fun i hi => ?_⟩
    have h1 : i < n ∧ i < l.length := by simp at hi; omega
    rw [hcell i h1.2, getD_take l n i h1.1]

set_option maxHeartbeats 400000 in
set_option maxRecDepth 20000 in
theorem refSigned_any (a : Option Addr) (l : List Nat) (len cap : Nat) (w : World) (hlen : l.length = len) (hL : Lies w a l) (hm : len ≤ 20000) :
    Calls Try.prog 107 #[.slice a len cap] w fun e w' => e = .returned (.tuple #[.int .i64 (Vary.sgn ((Vary.refN l).1 : Int)), .int .i64 ((Vary.refN l).2 : Int)]) ∧ w' = w := by
  have hb := Vary.refN_bounds hL.1
  have HL := hide hL
  have HLEN := hide hlen
  clear hL hlen
  have hcall := fun w0 h => refNum_any a l len cap w0 HLEN.out h hm
  generalize hN : Vary.refN l = N at *
  obtain ⟨n, k⟩ := N
  have hn : n ≤ 4611686018427387904 := hb.1
  have HC := hide hcall
  clear hb hcall hN
  go_enter Try.func107, Try.ntmps107
  go_wp2_with fail
  refine (HC.out w HL.out).mono ?_
  rintro e w1 ⟨rfl, hw⟩
  subst hw
  by_cases hodd : (n : Int) % 2 = 1
  · have q : ((n : Int) % 2 == 1) = true := by simp [hodd]
    have HO := hide hodd
    clear hodd
    go_wp2
    go_ret2
    refine ⟨?_, rfl⟩
    have e : Vary.sgn (n : Int) = -(((n : Int) + 1) / 2) := by unfold Vary.sgn; rw [if_pos HO.out]; have := HO.out; omega
    rw [e]
    rfl
  · have q : ((n : Int) % 2 == 1) = false := by simpa using hodd
    have HO := hide hodd
    clear hodd
    go_wp2
    go_ret2
    refine ⟨?_, rfl⟩
    have e : Vary.sgn (n : Int) = (n : Int) / 2 := by unfold Vary.sgn; rw [if_neg HO.out]
    rw [e]
    rfl

set_option maxHeartbeats 400000 in
set_option maxRecDepth 20000 in
theorem refText_any (a : Option Addr) (l : List Nat) (len cap : Nat) (w : World) (hlen : l.length = len) (hL : Lies w a l) (hm : len ≤ 20000) (hcap : len ≤ cap) :
    Calls Try.prog 95 #[.slice a len cap] w fun e w' => e = .returned (.tuple #[.string (str (Vary.refT l).1), .int .i64 ((Vary.refT l).2 : Int)]) ∧ w' = w := by
  have hb := Vary.refN_bounds hL.1
  have hT := Vary.refT_of hL.1
  have HL := hide hL
  have HLEN := hide hlen
  clear hL hlen
  have hcall := fun w0 h => refNum_any a l len cap w0 HLEN.out h hm
  generalize hN : Vary.refN l = N at *
  obtain ⟨n, k⟩ := N
  have hn : n ≤ 4611686018427387904 := hb.1
  have hk : k ≤ len := by rw [← HLEN.out]; exact hb.2.1
  have HC := hide hcall
  simp only [] at hT
  rw [HLEN.out] at hT
  clear hb hcall hN
  by_cases hk0 : k = 0
  · subst hk0
    have HT : Hid (Vary.refT l = ([], 0)) := by show _ = _; rw [hT, if_pos (by omega)]
    clear hT
    go_enter Try.func95, Try.ntmps95
    go_wp2_with fail
    refine (HC.out w HL.out).mono ?_
    rintro e w1 ⟨rfl, hw⟩
    subst hw
    go_wp2
    go_ret2
    exact ⟨by rw [HT.out]; rfl, rfl⟩
  · have q1 : ((k : Int) == 0) = false := by simp; omega
    by_cases hbig : len - k < n
    · have HT : Hid (Vary.refT l = ([], 0)) := by show _ = _; rw [hT, if_pos (by omega)]
      clear hT
      have hbig' : (len : Int) - (k : Int) < (n : Int) := by omega
      go_enter Try.func95, Try.ntmps95
      go_wp2_with fail
      refine (HC.out w HL.out).mono ?_
      rintro e w1 ⟨rfl, hw⟩
      subst hw
      go_wp2
      go_ret2
      exact ⟨by rw [HT.out]; rfl, rfl⟩
    · have HT : Hid (Vary.refT l = ((l.drop k).take n, k + n)) := by show _ = _; rw [hT, if_neg (by omega)]
      clear hT
      have hbig' : (n : Int) ≤ (len : Int) - (k : Int) := by omega
      have hsl := slice_lohi a len cap k ((k : Int) + (n : Int)) n (by omega) (by omega)
      have hcv := run_str (P := Try.prog) (w := w) 28 5 9 Try.underlying28 Try.underlying5 Try.underlying9 (lies_take (lies_drop HL.out cap k (by rw [HLEN.out]; exact hcap)) n) n (cap - k) (show ((l.drop k).take n).length = n by simp; have := HLEN.out; omega)
      go_enter Try.func95, Try.ntmps95
      go_wp2_with fail
      refine (HC.out w HL.out).mono ?_
      rintro e w1 ⟨rfl, hw⟩
      subst hw
      go_wp2
      go_ret2
      refine ⟨?_, rfl⟩
      rw [HT.out]
      rfl
end Go.Proofs.Ytgeboanebdmebaa.V
