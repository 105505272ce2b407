/- The reference's In and Out. -/
import Derived.Test.YtecmiphmefbpnaaEd8
namespace Go.Proofs.Ytecmiphmefbpnaa.E
open Go.Proofs.Ytecmiphmefbpnaa Go.RowKit Go.By Go.Shelf
set_option linter.unusedVariables false

theorem isG_some {rs : List Rn} (h : isG rs = true) : ∃ s, meas rs = some s ∧ sscan rs = some (s.1, s.2.1) ∧ ∀ x ∈ rs, kind x ≠ 0 := by
  unfold isG meas at h
  split at h
  · rename_i hl
    rw [mscan_join] at h
    cases hk : kscan rs with
    | none => rw [hk] at h; cases h
    | some q =>
      cases hs : sscan rs with
      | none => rw [hk, hs] at h; cases h
      | some s => exact ⟨(s.1, s.2, q), by rw [meas, if_pos hl, mscan_join, hk, hs]; rfl, rfl, kscan_all hk⟩
  · cases h
theorem isG_none {rs : List Rn} (h : isG rs = false) : meas rs = none := by
  unfold isG at h
  cases hm : meas rs with
  | none => rfl
  | some s => rw [hm] at h; cases h

set_option maxRecDepth 20000 in
set_option maxHeartbeats 4000000 in
theorem rin_any (a : Option Addr) (cap : Nat) (rs : List Rn) (w : World) (hS : CameR w.heap.size w a rs) (hl : rs.length ≤ 1000000) :
    Calls Try.prog 22 #[.slice a rs.length cap] w fun e W' => e = .returned (.int .i64 (mIn (meas rs))) ∧ Below w.heap.size w W' := by
  have hg := rgood_any a cap rs w hS hl
  go_enter Try.func22, Try.ntmps22
  go_wp2_with fail
  refine hg.mono ?_
  rintro e w1 ⟨rfl, hb⟩
  have HB := hide hb
  cases hG : isG rs with
  | false =>
    have HM := hide (isG_none hG)
    clear hb
    go_wp2
    go_ret
    exact ⟨ret_int (by rw [HM.out]; rfl), HB.out⟩
  | true =>
    obtain ⟨s, hm, hs, hall⟩ := isG_some hG
    have hsm := sums_eq a cap rs w1 ((hS.below hb).mono hb.size) hl hall
    rw [hs] at hsm
    have HM := hide hm
    clear hm hs hall hb
    go_wp2_with fail
    refine hsm.mono ?_
    rintro e w2 ⟨rfl, hb2⟩
    have HB2 := hide (HB.out.trans (hb2.mono HB.out.size))
    clear hb2
    go_wp2
    go_ret
    exact ⟨ret_int (by rw [HM.out]; rfl), HB2.out⟩

set_option maxRecDepth 20000 in
set_option maxHeartbeats 4000000 in
theorem rout_any (a : Option Addr) (cap : Nat) (rs : List Rn) (w : World) (hS : CameR w.heap.size w a rs) (hl : rs.length ≤ 1000000) :
    Calls Try.prog 23 #[.slice a rs.length cap] w fun e W' => e = .returned (.int .i64 (mOut (meas rs))) ∧ Below w.heap.size w W' := by
  have hg := rgood_any a cap rs w hS hl
  go_enter Try.func23, Try.ntmps23
  go_wp2_with fail
  refine hg.mono ?_
  rintro e w1 ⟨rfl, hb⟩
  have HB := hide hb
  cases hG : isG rs with
  | false =>
    have HM := hide (isG_none hG)
    clear hb
    go_wp2
    go_ret
    exact ⟨ret_int (by rw [HM.out]; rfl), HB.out⟩
  | true =>
    obtain ⟨s, hm, hs, hall⟩ := isG_some hG
    have hsm := sums_eq a cap rs w1 ((hS.below hb).mono hb.size) hl hall
    rw [hs] at hsm
    have HM := hide hm
    clear hm hs hall hb
    go_wp2_with fail
    refine hsm.mono ?_
    rintro e w2 ⟨rfl, hb2⟩
    have HB2 := hide (HB.out.trans (hb2.mono HB.out.size))
    clear hb2
    go_wp2
    go_ret
    exact ⟨ret_int (by rw [HM.out]; rfl), HB2.out⟩

end Go.Proofs.Ytecmiphmefbpnaa.E
