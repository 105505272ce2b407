/- Strings told by lists of natural numbers. No program is named here. -/
import Derived.Test.YtgeboanebdmebabBytes
import Derived.Lib.AppendStr
namespace Go.By
open Go.RowKit
set_option linter.unusedVariables false

def nums (s : ByteArray) : List Nat := s.data.toList.map UInt8.toNat

theorem nums_length (s : ByteArray) : (nums s).length = s.size := by
  rw [nums, List.length_map, Array.length_toList]; rfl

theorem nums_small (s : ByteArray) : ∀ c ∈ nums s, c < 256 := by
  intro c hc
  obtain ⟨b, _, rfl⟩ := List.mem_map.1 hc
  exact b.toNat_lt

theorem str_nums (s : ByteArray) : str (nums s) = s := by
  apply ByteArray.ext
  apply Array.toList_inj.1
  simp only [str, nums, List.map_map]
  conv => rhs; rw [← List.map_id s.data.toList]
  apply List.map_congr_left
  intro b _
  simp

theorem nums_str {l : List Nat} (h : ∀ c ∈ l, c < 256) : nums (str l) = l := str_inj (nums_small _) h (str_nums _)

theorem strCells_nums (s : ByteArray) : Lib.strCells s = (nums s).map B8 := by
  unfold Lib.strCells nums
  rw [List.map_map]
  rfl

/-- 'append(own, s...)', s a string. -/
theorem wpList_append_text {P : Program} {w : World} {ops : Array Oper} {rest : List Oper} {o : Oper} {a : Act} {Q : Exit → Act → World → Prop} (hgd : o.guard = none) (sl x : Operand)
    (ho : o.op = .call { callee := .builtin .append, args := #[sl, x], argTypes := #[27, 9] })
    (ht : P.underlying 27 = some (.slice 5)) (hu : P.underlying 9 = some .string) (hinfo : (P.info? 5).map (fun i => (i.zero, i.size, i.bytes)) = some (some (.int .u8 0), 1, 1)) (base : Nat)
    (v : Value) (l : List Nat) (hs : a.eval sl = v) (hown : Owns w base v l) (s : ByteArray) (hx : a.eval x = .string s)
    (hsz : l.length + s.size ≤ 140737488355328) (hbase : base ≤ w.heap.size)
    (h : ∀ v' w', Owns w' base v' (l ++ nums s) → w.grownBy w' v.ownBlock → wpList P ops Q rest (a.put o.dst v') w') : wpList P ops Q (o :: rest) a w := by
  obtain ⟨i0, hi, hz0, hz1, hz2⟩ := info_parts hinfo
  refine Lib.wpList_append_own_string w hgd sl x 27 9 ho base 5 i0 ht hu hi hz0 hz1 hz2 v l.length (l.map B8) hs hown.1 s hx (by unfold maxLen; omega) hsz hbase ?_
  intro v' w' h1 h2 _
  refine h v' w' (Owns.append ?_ hown.2 (nums_small s)) h2
  rw [nums_length, ← strCells_nums]
  exact h1

end Go.By
