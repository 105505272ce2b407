/- Whatever number comes in, the call VaryNobody returns true and writes nothing that was there. -/
import Derived.Test.YtaichjkenfnkbaaReads2
import Derived.Test.YtaichjkenfnkbaaVaryPuts
namespace Go.Proofs.Ytaichjkenfnkbaa
open Go.RowKit Go.By
set_option linter.unusedVariables false

theorem num_empty : Vary.num [] = none := rfl
theorem txt_empty : Vary.txt [] = none := rfl

theorem Num_empty (g : Nat) (w : World) (hR : Rd w g [] false) :
    Calls Try.prog 20 #[.pointer (some ⟨g, 0, none⟩)] w fun e w' => e = .returned (.int .i64 0) ∧ Turn g w w' ∧ Rd w' g [] false := by
  refine (Num_any g [] false w hR (by simp) (by simp)).mono ?_
  rintro e w' ⟨z, rfl, ht, ⟨n, k, h1, -⟩ | ⟨-, rfl, hr⟩⟩
  · rw [num_empty] at h1; cases h1
  · exact ⟨rfl, ht, hr⟩

theorem Signed_empty (g : Nat) (w : World) (hR : Rd w g [] false) :
    Calls Try.prog 21 #[.pointer (some ⟨g, 0, none⟩)] w fun e w' => e = .returned (.int .i64 0) ∧ Turn g w w' ∧ Rd w' g [] false := by
  refine (Signed_any g [] false w hR (by simp) (by simp)).mono ?_
  rintro e w' ⟨z, rfl, ht, ⟨n, k, h1, -⟩ | ⟨-, rfl, hr⟩⟩
  · rw [num_empty] at h1; cases h1
  · exact ⟨rfl, ht, hr⟩

theorem Text_empty (g : Nat) (w : World) (hR : Rd w g [] false) :
    Calls Try.prog 22 #[.pointer (some ⟨g, 0, none⟩)] w fun e w' => e = .returned (.string (str [])) ∧ Turn g w w' ∧ Rd w' g [] false := by
  refine (Text_any g [] false w hR (by simp) (by simp)).mono ?_
  rintro e w' ⟨s, rfl, ht, ⟨k, h1, -⟩ | ⟨-, rfl, hr⟩⟩
  · rw [txt_empty] at h1; cases h1
  · exact ⟨rfl, ht, hr⟩

theorem str_nil : str [] = { data := #[] } := rfl

set_option maxHeartbeats 2000000 in
set_option maxRecDepth 20000 in
theorem nobody_walk (z : Int) (w : World) (z1 : -9223372036854775808 ≤ z) (z2 : z ≤ 9223372036854775807) :
    Calls Try.prog 8 #[.int .i64 z] w fun e w' => e = .returned (.bool true) ∧ Below w.heap.size w w' := by
  go_enter Try.func8, Try.ntmps8
  go_wp2_with fail
  go_loopw [11] (fun y wr => ∃ k : Nat, k ≤ 2 ∧ y = .int .i64 k ∧ Below w.heap.size w wr ∧ Rd wr w.heap.size [] false ∧ wr.heap[w.heap.size + 1]? = some (.cells #[.pointer none, .pointer (some ⟨w.heap.size, 0, none⟩)] 27 (0, 0))) (fun y _ => 2 - (intOf y).toNat)
  case atStart =>
    refine ⟨0, by omega, rfl, ((Below.refl _ _).alloc (Nat.le_refl _) _).alloc (by simp) _, ?_, ?_⟩
    · show ((w.alloc _).alloc _).heap[w.heap.size]? = _
      rw [Below.heap_alloc _ _ _ (by simp), heap_alloc_new]; rfl
    · have := heap_alloc_new (w.alloc (Obj.cells #[Value.string { data := #[] }, Value.bool false] 45)) (Obj.cells #[Value.pointer none, Value.pointer (some { block := w.heap.size, off := 0 })] 27)
      simpa using this
  case round =>
    obtain ⟨k, hk, rfl, hbel, hrd, hsl⟩ := hrel
    have HB := hide hbel
    have HR := hide hrd
    have HS := hide hsl
    have hk2 : k = 0 ∨ k = 1 ∨ k = 2 := by omega
    rcases hk2 with rfl | rfl | rfl
    · have hc : wr.cell? ⟨w.heap.size + 1, 0, none⟩ = some (.pointer none) := by rw [Joins.cell_of_block HS.out]; rfl
      clear hbel hrd hsl
      have hstr := str_nil
      go_wp2_with (first
        | (go_at_call 20; refine (Num_nil _).mono ?_; rintro e w' ⟨rfl, hw⟩; subst hw)
        | (go_at_call 21; refine (Signed_nil _).mono ?_; rintro e w' ⟨rfl, hw⟩; subst hw)
        | (go_at_call 22; refine (Text_nil _).mono ?_; rintro e w' ⟨rfl, hw⟩; subst hw)
        | (go_at_call 23; refine (Bad_nil _).mono ?_; rintro e w' ⟨rfl, hw⟩; subst hw)
        | (go_at_call 24; refine (Left_nil _).mono ?_; rintro e w' ⟨rfl, hw⟩; subst hw)
        | (go_at_call 25; refine (Done_nil _).mono ?_; rintro e w' ⟨rfl, hw⟩; subst hw))
      go_roundw
      case rel => exact ⟨1, by omega, by go_num, HB.out, HR.out, HS.out⟩
      case measure => simp [intOf]
    · have hc : wr.cell? ⟨w.heap.size + 1, 1, none⟩ = some (.pointer (some ⟨w.heap.size, 0, none⟩)) := by rw [Joins.cell_of_block HS.out]; rfl
      have HLT : Hid (w.heap.size + 1 < wr.heap.size) := by
        rcases Nat.lt_or_ge (w.heap.size + 1) wr.heap.size with h1 | h1
        · exact h1
        · have := HS.out; rw [Array.getElem?_eq_none h1] at this; cases this
      clear hbel hrd hsl
      have hstr := str_nil
      go_wp2_with fail
      refine (Num_empty w.heap.size _ HR.out).mono ?_
      rintro e wa ⟨rfl, ta, ra⟩
      have TA := hide ta
      have RA := hide ra
      clear ta ra
      go_wp2_with fail
      refine (Signed_empty w.heap.size _ RA.out).mono ?_
      rintro e wb ⟨rfl, tb, rb⟩
      have TB := hide (TA.out.trans tb)
      have RB := hide rb
      clear tb rb
      go_wp2_with fail
      refine (Text_empty w.heap.size _ RB.out).mono ?_
      rintro e wc ⟨rfl, tc, rc⟩
      have TC := hide (TB.out.trans tc)
      have RC := hide rc
      clear tc rc
      go_wp2_with (first
        | (go_at_call 23; refine (Bad_any w.heap.size [] false _ RC.out).mono ?_; rintro e w' ⟨rfl, hw⟩; subst hw)
        | (go_at_call 24; refine (Left_any w.heap.size [] false _ RC.out).mono ?_; rintro e w' ⟨rfl, hw⟩; subst hw)
        | (go_at_call 25; refine (Done_any w.heap.size [] false _ RC.out).mono ?_; rintro e w' ⟨rfl, hw⟩; subst hw))
      go_roundw
      case rel =>
        refine ⟨2, by omega, by go_num, HB.out.trans (TC.out.below (Nat.le_refl _) HB.out.size), RC.out, ?_⟩
        rw [TC.out.1.block _ HLT.out (by simp)]
        exact HS.out
      case measure => simp [intOf]
    · clear hbel hrd hsl
      go_wp2_with (go_at_call 9; refine (lives_any _).mono ?_; rintro e w' ⟨rfl, hlv⟩)
      go_ret
      exact ⟨rfl, HB.out.trans (hlv.mono HB.out.size)⟩
end Go.Proofs.Ytaichjkenfnkbaa
