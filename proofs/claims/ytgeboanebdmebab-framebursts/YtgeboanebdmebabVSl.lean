/- Where a slice of bytes lies. -/
import Derived.Test.YtgeboanebdmebabVReads2
namespace Go.Proofs.Ytgeboanebdmebab.V
open Go.RowKit Go.By
set_option linter.unusedVariables false
set_option maxRecDepth 20000

/-- Where a slice's bytes lie from the k-th on. -/
def from_ (a : Option Addr) (cap k : Nat) : Option Addr := if cap = k then a else a.map (·.add k)

theorem slice_lo (a : Option Addr) (n cap k : Nat) (h : k ≤ n) (w : World) :
    (Instr.slice 27 (.slice a n cap) (some (.int .i64 (k : Int))) none none).run Try.prog w = .ok (.slice (from_ a cap k) (n - k) (cap - k)) w := by
  rw [run_slice_l w 27 a n cap (by exact Try.underlying27) .i64 k (by omega) (by omega)]
  have hs : (sizeOf (Try.prog.elem 27)).run Try.prog w = .ok 1 w := by kernel_rfl
  rw [hs]
  simp [Result.andThen, sliced, from_]

theorem slice_lohi (a : Option Addr) (n cap k : Nat) (h2 : Int) (m : Nat) (hm : h2 = ((k + m : Nat) : Int)) (h : k + m ≤ cap) (w : World) :
    (Instr.slice 27 (.slice a n cap) (some (.int .i64 (k : Int))) (some (.int .i64 h2)) none).run Try.prog w = .ok (.slice (from_ a cap k) m (cap - k)) w := by
  subst hm
  rw [run_slice_lh w 27 a n cap (by exact Try.underlying27) .i64 .i64 k ((k + m : Nat) : Int) (by omega) (by omega) (by omega)]
  have hs : (sizeOf (Try.prog.elem 27)).run Try.prog w = .ok 1 w := by kernel_rfl
  rw [hs]
  simp only [Result.andThen, sliced, from_, Int.toNat_natCast, Nat.mul_one, Nat.add_sub_cancel_left]

theorem add_eq (b off k : Nat) : (⟨b, off, none⟩ : Addr).add k = ⟨b, off + k, none⟩ := by unfold Addr.add; split <;> simp_all

theorem lies_drop {w : World} {a : Option Addr} {l : List Nat} (h : Lies w a l) (cap k : Nat) (hc : l.length ≤ cap) : Lies w (from_ a cap k) (l.drop k) := by
  refine ⟨fun c hx => h.1 c (List.mem_of_mem_drop hx), ?_⟩
  rcases h.2 with rfl | ⟨b, off, rfl, hcell⟩
  · left; simp
  · by_cases hk : k < l.length
    · right
      refine ⟨b, off + k, ?_, fun i hi => ?_⟩
      · unfold from_; rw [if_neg (by omega)]; simp [add_eq]
      · rw [getD_drop, Nat.add_assoc]; exact hcell _ (by simp at hi; omega)
    · left; exact List.drop_eq_nil_of_le (by omega)

theorem lies_take {w : World} {a : Option Addr} {l : List Nat} (h : Lies w a l) (n : Nat) : Lies w a (l.take n) := by
  refine ⟨fun c hx => h.1 c (List.mem_of_mem_take hx), ?_⟩
  rcases h.2 with rfl | ⟨b, off, rfl, hcell⟩
  · left; simp
  · right
    refine ⟨b, off, rfl, fun i hi => ?_⟩
    have h1 : i < n ∧ i < l.length := by simp at hi; omega
    rw [hcell i h1.2, getD_take l n i h1.1]

end Go.Proofs.Ytgeboanebdmebab.V
