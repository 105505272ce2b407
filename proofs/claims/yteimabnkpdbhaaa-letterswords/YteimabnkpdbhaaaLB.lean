/- letters: signs. -/
import Derived.Test.YteimabnkpdbhaaaLA
import Derived.Lib.Bytealg
import Derived.Laws.Externs
import Derived.RangeFuncRecord
namespace Go.Proofs.Yteimabnkpdbhaaa.L
open Go.Proofs.Yteimabnkpdbhaaa Go.RowKit Go.By
set_option linter.unusedVariables false
set_option linter.unusedSimpArgs false
attribute [local go_sem ↓] Go.wp_at_zero Go.wp_at_succ

def shortS : ByteArray := ⟨#[40, 41, 123, 125, 44, 58, 61, 46, 43, 45, 42, 60, 124]⟩
theorem idx_short : ∀ c : Fin 256, decide (0 ≤ Lib.indexByte shortS.data.toList ((c.val : Int).toNat.toUInt8)) = hasB shortS c.val := by decide +kernel

theorem idx32 (c : Nat) (hc : c < 256) (w : World) : Calls Try.prog 32 #[.string shortS, .int .u8 (c : Int)] w fun e W' => (∃ z : Int, e = .returned (.int .i64 z) ∧ Hid (decide (0 ≤ z) = hasB shortS c)) ∧ W' = w := by
  have HV : Hid (decide (0 ≤ Lib.indexByte shortS.data.toList ((c : Int).toNat.toUInt8)) = hasB shortS c) := hide (idx_short ⟨c, hc⟩)
  have hrun := fun W => Lib.run_indexByteString (P := Try.prog) shortS (c : Int) W
  generalize Lib.indexByte shortS.data.toList ((c : Int).toNat.toUInt8) = z at *
  generalize shortS = s at *
  go_enter Try.func32, Try.ntmps32
  go_wp2
  rw [run_callFunc_extern Try.func35 (by kernel_rfl) (by kernel_rfl) (by kernel_rfl) (e := Extern.BytealgIndexByte.indexByte) (by kernel_rfl), hrun]
  simp only [Result.andThen]
  rw [Oper.upon_value]
  go_wp2
  go_ret
  exact ⟨⟨z, rfl, HV⟩, rfl⟩
theorem idx_any (c : Nat) (hc : c < 256) (w : World) : Calls Try.prog 25 #[.string shortS, .int .u8 (c : Int)] w fun e W' => (∃ z : Int, e = .returned (.int .i64 z) ∧ Hid (decide (0 ≤ z) = hasB shortS c)) ∧ W' = w := by
  have HC := hide (fun W => idx32 c hc W)
  generalize hasB shortS c = b at *
  generalize shortS = s at *
  go_enter Try.func25, Try.ntmps25
  go_wp2_with (go_at_call 32; refine (HC.out _).mono ?_; rintro e W1 ⟨⟨z, rfl, HZ⟩, hw⟩; subst hw)
  go_ret
  exact ⟨⟨z, rfl, HZ⟩, rfl⟩

def pre2 (s p : ByteArray) : Bool := decide (2 ≤ s.size) && ((s.extract 0 2).toList == p.toList)
theorem slice_two (s : ByteArray) (h : 2 ≤ s.size) (w : World) :
    Sem.run Try.prog (Instr.slice 9 (.string s) none (some (.int .i64 2)) none) w = .ok (.string (s.extract 0 2)) w := by
  rw [Go.run_slice_string_h w 9 s Try.underlying9 .i64 2 (by omega) (by omega)]
  rfl
theorem hp31 (s p : ByteArray) (hp : p.size = 2) (w : World) : Calls Try.prog 31 #[.string s, .string p] w fun e W' => e = .returned (.bool (pre2 s p)) ∧ W' = w := by
  by_cases h : 2 ≤ s.size
  · have HV : Hid (pre2 s p = ((s.extract 0 2).toList == p.toList)) := hide (by rw [pre2, decide_eq_true h, Bool.true_and])
    have hs := slice_two s h
    have h' : (2 : Int) ≤ (s.size : Int) := by omega
    have hpi : ((p.size : Nat) : Int) = 2 := by omega
    clear h
    go_enter Try.func31, Try.ntmps31
    go_wp2
    go_ret
    exact ⟨by rw [HV.out]; rfl, rfl⟩
  · have HV : Hid (pre2 s p = false) := hide (by rw [pre2, decide_eq_false h, Bool.false_and])
    have h' : ¬ (2 : Int) ≤ (s.size : Int) := by omega
    have hpi : ((p.size : Nat) : Int) = 2 := by omega
    clear h
    go_enter Try.func31, Try.ntmps31
    go_wp2
    go_ret
    exact ⟨by rw [HV.out]; rfl, rfl⟩
theorem hp_any (s p : ByteArray) (hp : p.size = 2) (w : World) : Calls Try.prog 24 #[.string s, .string p] w fun e W' => e = .returned (.bool (pre2 s p)) ∧ W' = w := by
  have HC := hide (hp31 s p hp)
  generalize pre2 s p = b at *
  go_enter Try.func24, Try.ntmps24
  go_wp2_with (go_at_call 31; refine (HC.out _).mono ?_; rintro e W1 ⟨rfl, hw⟩; subst hw)
  go_ret
  exact ⟨rfl, rfl⟩
/-- A text's own box. -/
def SB (w : World) (g : Nat) (s : ByteArray) : Prop := w.heap[g]? = some (.cells #[.string s] 9 (0, 0))
theorem SB.cell {w : World} {g : Nat} {s : ByteArray} (h : SB w g s) : w.cell? ⟨g, 0, none⟩ = some (.string s) := by rw [Joins.cell_of_block h]; rfl
theorem begins_any (s p : ByteArray) (g : Nat) (hp : p.size = 2) (w : World) (h : SB w g s) : Calls Try.prog 23 #[.string p, .pointer (some ⟨g, 0, none⟩)] w fun e W' => e = .returned (.bool (pre2 s p)) ∧ W' = w := by
  have hc := h.cell
  have HC := hide (hp_any s p hp)
  generalize pre2 s p = b at *
  clear h
  go_enter Try.func23, Try.ntmps23
  go_wp2_with (go_at_call 24; refine (HC.out _).mono ?_; rintro e W1 ⟨rfl, hw⟩; subst hw)
  go_ret
  exact ⟨rfl, rfl⟩
end Go.Proofs.Yteimabnkpdbhaaa.L
