/- The reference's sums. -/
import Derived.Test.YtecmiphmefbpnaaEd6
namespace Go.Proofs.Ytecmiphmefbpnaa.E
open Go.Proofs.Ytecmiphmefbpnaa Go.RowKit Go.By Go.Shelf
set_option linter.unusedVariables false

abbrev Ss := Int × Int
def sbad (s : Ss) (x : Rn) : Prop := ¬ (max x.keep x.drop ≤ 16777216 - s.1 ∧ max x.keep (x.add.size : Int) ≤ 16777216 - s.2)
instance (s : Ss) (x : Rn) : Decidable (sbad s x) := by unfold sbad; infer_instance
def snext (s : Ss) (x : Rn) : Ss := (s.1 + (x.keep + x.drop), s.2 + (x.keep + (x.add.size : Int)))
def sstep (s : Option Ss) (x : Rn) : Option Ss := s.bind fun s => if sbad s x then none else some (snext s x)
def sscan (rs : List Rn) : Option Ss := rs.foldl sstep (some (0, 0))
theorem sscan_snoc (pre : List Rn) (x : Rn) : sscan (pre ++ [x]) = sstep (sscan pre) x := by simp [sscan]
theorem sscan_bad {pre : List Rn} {x : Rn} {s : Ss} (h : sscan pre = some s) (hb : sbad s x) : sscan (pre ++ [x]) = none := by rw [sscan_snoc, h]; simp [sstep, hb]
theorem sscan_good {pre : List Rn} {x : Rn} {s : Ss} (h : sscan pre = some s) (hb : ¬ sbad s x) : sscan (pre ++ [x]) = some (snext s x) := by rw [sscan_snoc, h]; simp [sstep, hb]
theorem foldl_sstep_none (rs : List Rn) : rs.foldl sstep none = none := by induction rs with
  | nil => rfl
  | cons x rs ih => exact ih
theorem sscan_none {pre rs : List Rn} (h : pre <+: rs) (hn : sscan pre = none) : sscan rs = none := by
  obtain ⟨t, rfl⟩ := h
  unfold sscan at hn ⊢
  rw [List.foldl_append, hn, foldl_sstep_none]

def sumV : Option Ss → Value
  | none => .tuple #[.int .i64 0, .int .i64 0, .bool false]
  | some s => .tuple #[.int .i64 s.1, .int .i64 s.2, .bool true]

def SumAt (rs : List Rn) (i o : Int) (k : Nat) : Prop := sscan (rs.take k) = some (i, o) ∧ (0 ≤ i ∧ i ≤ 16777216) ∧ (0 ≤ o ∧ o ≤ 16777216)

set_option maxRecDepth 100000 in
set_option maxHeartbeats 8000000 in
theorem sums_any (a : Option Addr) (cap : Nat) (rs : List Rn) (w : World) (hS : CameR w.heap.size w a rs) (hl : rs.length ≤ 1000000) (hK : ∀ x ∈ rs, kind x ≠ 0) :
    Calls Try.prog 36 #[.slice a rs.length cap] w fun e W' => e = .returned (sumV (sscan rs)) ∧ Below w.heap.size w W' := by
  go_enter Try.func36, Try.ntmps36
  go_wp2
  go_loopw [5, 6, 7] (fun i o c wr => ∃ (k : Nat) (x y : Int), k ≤ rs.length ∧ i = .int .i64 x ∧ o = .int .i64 y ∧ c = .int .i64 k ∧ SumAt rs x y k ∧ Below w.heap.size w wr)
    (fun i o c _ => rs.length - (intOf c).toNat)
  case atStart => exact ⟨0, 0, 0, Nat.zero_le _, rfl, rfl, rfl, ⟨rfl, by decide, by decide⟩, Below.refl _ _⟩
  case round =>
    obtain ⟨k, i, o, hk, rfl, rfl, rfl, ⟨hs, hi, ho⟩, hnx⟩ := hrel
    by_cases hlt : k < rs.length
    · obtain ⟨b, off, rfl, hbl, hcell⟩ : ∃ b off, a = some ⟨b, off, none⟩ ∧ b < w.heap.size ∧ _ := by
        rcases hS.below hnx with rfl | h
        · simp at hlt
        · exact h
      obtain ⟨s0, s1, s2⟩ := hcell k hlt
      have hsn : rs.take (k + 1) = rs.take k ++ [rs.getD k rn0] := by rw [List.take_succ_eq_append_getElem hlt]; simp [List.getD, hlt]
      have hkd : kind (rs.getD k rn0) ≠ 0 := hK _ (by simp [List.getD, hlt])
      obtain ⟨x, hx⟩ : ∃ x, x = rs.getD k rn0 := ⟨_, rfl⟩
      rw [← hx] at s0 s1 s2 hsn hkd
      obtain ⟨xk, xa, xd⟩ := x
      replace s0 : wr.cell? ⟨b, off + k * 3, none⟩ = some (.int .i64 xk) := s0
      replace s1 : wr.cell? ⟨b, off + k * 3 + 1, none⟩ = some (.string xa) := s1
      replace s2 : wr.cell? ⟨b, off + k * 3 + 2, none⟩ = some (.int .i64 xd) := s2
      obtain ⟨hxk, hxd, hm1, hm2⟩ := kind_facts hkd
      replace hxk : 0 ≤ xk := hxk
      replace hxd : 0 ≤ xd := hxd
      replace hm1 : max xk xd = xk + xd := hm1
      replace hm2 : max xk (xa.size : Int) = xk + (xa.size : Int) := hm2
      have hlt' : (k : Int) < (rs.length : Int) := by omega
      have w1 : IntKind.i64.wrap (16777216 - i) = 16777216 - i := by rw [IntKind.wrap_i64]; omega
      have w2 : IntKind.i64.wrap (16777216 - o) = 16777216 - o := by rw [IntKind.wrap_i64]; omega
      have HB := hide (hnx.alloc (Nat.le_trans (Nat.le_refl _) hnx.size) (.cells #[.int .i64 xk, .string xa, .int .i64 xd] 51))
      by_cases hf : max xk xd ≤ 16777216 - i ∧ max xk (xa.size : Int) ≤ 16777216 - o
      · have hg : sscan (rs.take (k + 1)) = some (i + (xk + xd), o + (xk + (xa.size : Int))) := by rw [hsn]; exact sscan_good hs (fun h => h hf)
        have w3 : IntKind.i64.wrap (i + xk) = i + xk := by rw [IntKind.wrap_i64]; omega
        have w4 : IntKind.i64.wrap (i + xk + xd) = i + xk + xd := by rw [IntKind.wrap_i64]; omega
        have w5 : IntKind.i64.wrap (o + xk) = o + xk := by rw [IntKind.wrap_i64]; omega
        have w6 : IntKind.i64.wrap (o + xk + (xa.size : Int)) = o + xk + (xa.size : Int) := by rw [IntKind.wrap_i64]; omega
        have d1 : decide (16777216 - i < xk) = false := decide_eq_false (by omega)
        have d2 : decide (16777216 - i < xd) = false := decide_eq_false (by omega)
        have d3 : decide (16777216 - o < xk) = false := decide_eq_false (by omega)
        have d4 : decide (16777216 - o < (xa.size : Int)) = false := decide_eq_false (by omega)
        have HG : Hid (SumAt rs (i + xk + xd) (o + xk + (xa.size : Int)) (k + 1)) := ⟨by rw [hg, Int.add_assoc, Int.add_assoc], by omega, by omega⟩
        clear hcell hx hsn hf hm1 hm2 hg hs hkd hK
        go_wp2
        go_roundw
        case rel => exact ⟨k + 1, _, _, by omega, rfl, rfl, by simp, HG.out, HB.out⟩
        case measure => simp [intOf]; omega
      · have hg : sscan rs = none := sscan_none (List.take_prefix (k + 1) rs) (by rw [hsn]; exact sscan_bad hs hf)
        have HG := hide hg
        by_cases e1 : 16777216 - i < xk
        · have d1 : decide (16777216 - i < xk) = true := decide_eq_true e1
          clear hcell hx hsn hf hm1 hm2 hg hs hkd hK
          go_wp2
          go_ret3
          exact ⟨by rw [HG.out]; rfl, HB.out⟩
        have d1 : decide (16777216 - i < xk) = false := decide_eq_false e1
        by_cases e2 : 16777216 - i < xd
        · have d2 : decide (16777216 - i < xd) = true := decide_eq_true e2
          clear hcell hx hsn hf hm1 hm2 hg hs hkd hK
          go_wp2
          go_ret3
          exact ⟨by rw [HG.out]; rfl, HB.out⟩
        have d2 : decide (16777216 - i < xd) = false := decide_eq_false e2
        by_cases e3 : 16777216 - o < xk
        · have d3 : decide (16777216 - o < xk) = true := decide_eq_true e3
          clear hcell hx hsn hf hm1 hm2 hg hs hkd hK
          go_wp2
          go_ret3
          exact ⟨by rw [HG.out]; rfl, HB.out⟩
        have d3 : decide (16777216 - o < xk) = false := decide_eq_false e3
        have d4 : decide (16777216 - o < (xa.size : Int)) = true := decide_eq_true (by omega)
        clear hcell hx hsn hf hm1 hm2 hg hs hkd hK
        go_wp2
        go_ret3
        exact ⟨by rw [HG.out]; rfl, HB.out⟩
    · obtain rfl : k = rs.length := by omega
      rw [List.take_length] at hs
      have HS := hide hs
      clear hs
      go_wp2
      go_ret3
      exact ⟨by rw [HS.out]; rfl, hnx⟩

end Go.Proofs.Ytecmiphmefbpnaa.E
