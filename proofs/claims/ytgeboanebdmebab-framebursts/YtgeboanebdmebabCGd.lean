/- What is sealed. -/
import Derived.Test.YtgeboanebdmebabCOpen
import Derived.Test.YtgeboanebdmebabDraw
namespace Crc
theorem good_iff (l : List Nat) (m : Nat) (h : l.length = m + 4) : Good l m ↔ sealed (l.take m) = l := by
  have e : l = l.take m ++ l.drop m := (List.take_append_drop m l).symm
  have hd : (l.drop m).length = 4 := by simp; omega
  have hg : ∀ j, (l.drop m).getD j 0 = l.getD (m + j) 0 := fun j => Go.By.getD_drop l m j
  unfold sealed
  constructor
  · intro g
    have : l.drop m = tail4 (sum (l.take m)) := by
      generalize l.drop m = d at hd hg
      match d, hd with
      | [a, b, c, d], _ =>
        have h0 := (hg 0).trans (g 0 (by omega))
        have h1 := (hg 1).trans (g 1 (by omega))
        have h2 := (hg 2).trans (g 2 (by omega))
        have h3 := (hg 3).trans (g 3 (by omega))
        simp at h0 h1 h2 h3
        simp [tail4, h0, h1, h2, h3]
    rw [← this]; exact e.symm
  · intro g j hj
    have : l.drop m = tail4 (sum (l.take m)) := by
      have h1 : l.take m ++ tail4 (sum (l.take m)) = l.take m ++ l.drop m := by rw [← e]; exact g
      exact (List.append_cancel_left h1).symm
    rw [← hg j, this]
    have : j = 0 ∨ j = 1 ∨ j = 2 ∨ j = 3 := by omega
    rcases this with rfl | rfl | rfl | rfl <;> simp [tail4]
end Crc
namespace Go.Proofs.Ytgeboanebdmebab.C
open Go.RowKit Go.By
theorem str_ne {l m : List Nat} (hl : ∀ c ∈ l, c < 256) (hm : ∀ c ∈ m, c < 256) (h : ¬ l = m) : ((str l).toList == (str m).toList) = false := by
  rw [beq_eq_false_iff_ne]
  intro e
  rw [ByteArray.toList_eq, ByteArray.toList_eq] at e
  exact h (str_inj hl hm (ByteArray.ext (Array.toList_inj.1 e)))

end Go.Proofs.Ytgeboanebdmebab.C
