/-
  No cell of these rows narrows 'for every input' (looked for: loops, veiled, ifaces, maps, wideKeys, modest, calm, conditions, laid).
  DERIVED. THE GIVEN ROWS OF THIS SEAT. 4 by the template 'for every input the law returns true; each argument reads behind the call as it read before'; 0 by the template 'total and deterministic' (their statements: YtaichjkenfnkbabTotals.lean).
  GIVEN WITH THE SEED: the statements are not yours to turn. If you find one false, say at which input.
  Laid BY PROGRAM, IN A SANDBOX (cutbox-rows.mjs): the forced cells as the released guide's own fill.sh prints them over the translation 8c48c45b28f5ae6c… (all of the seat's roots in one cut). By AI agents, Wed Nov 11 2026. No macro, syntax, notation, axiom, sorry.
-/
import Derived.Test.YtaichjkenfnkbabChecked
import GoSem.Claim
import GoSem.ClaimJoined
import GoSem.ClaimMapViews
import Derived.JoinedTies
import Derived.KernelRfl
namespace Go.Proofs.Ytaichjkenfnkbab
/- THE CELL 'sum', in the pinned program and in every row, IS THE sha256 OF THE DUMP (.gsa) THAT YtaichjkenfnkbabProg.lean LOADS. Nothing in Lean hashes anything: it is a label: what it is worth is what the hold of that sum in a sandbox is worth. -/
noncomputable def Try.pinned : Pinned := { name := "ytaichjkenfnkbab", sum := "8c48c45b28f5ae6c45da7650fd21d13796cfb2bc937707eaeba891f3d2d64f36", checked := Try.checked }
namespace Rows
def none {H : Type} : Left H := { results := [], args := [] }

/-- 'variorumlaw02.Sum32Tells': WHATEVER THE INPUT: true; the input reads as it did. -/
def sum32TellsSpec : ChangeSpec := { name := "sum32Tells", fn := fun _ => fun
  | [d] => { results := [.lit (.bool true)], args := [d] }
  | _ => none }
def sum32TellsRow : OpenClaim := { program := "ytaichjkenfnkbab", sum := "8c48c45b28f5ae6c45da7650fd21d13796cfb2bc937707eaeba891f3d2d64f36", func := "variorum/variorumlaw02.Sum32Tells", spec := "sum32Tells", apart := false }
def Sum32TellsSaid : Prop := sum32TellsRow.holds Try.pinned (OpenSpec.ofChange sum32TellsSpec)

/-- ITS FALSE NEIGHBOUR: 'it returns false'. Refute it at one input. -/
def sum32TellsWrong : ChangeSpec := { name := "sum32Tells", fn := fun _ => fun
  | [d] => { results := [.lit (.bool false)], args := [d] }
  | _ => none }
def Sum32TellsWrongFalsely : Prop := sum32TellsRow.holds Try.pinned (OpenSpec.ofChange sum32TellsWrong)

/-- 'variorumlaw02.Sum32Joins': WHATEVER THE INPUT: true; the input reads as it did. -/
def sum32JoinsSpec : ChangeSpec := { name := "sum32Joins", fn := fun _ => fun
  | [d1, d2, d3, d4, d5] => { results := [.lit (.bool true)], args := [d1, d2, d3, d4, d5] }
  | _ => none }
def sum32JoinsRow : OpenClaim := { program := "ytaichjkenfnkbab", sum := "8c48c45b28f5ae6c45da7650fd21d13796cfb2bc937707eaeba891f3d2d64f36", func := "variorum/variorumlaw02.Sum32Joins", spec := "sum32Joins", unfollowed := true, recurses := true, apart := false }
def Sum32JoinsSaid : Prop := sum32JoinsRow.holds Try.pinned (OpenSpec.ofChange sum32JoinsSpec)

/-- ITS FALSE NEIGHBOUR: 'it returns false'. Refute it at one input. -/
def sum32JoinsWrong : ChangeSpec := { name := "sum32Joins", fn := fun _ => fun
  | [d1, d2, d3, d4, d5] => { results := [.lit (.bool false)], args := [d1, d2, d3, d4, d5] }
  | _ => none }
def Sum32JoinsWrongFalsely : Prop := sum32JoinsRow.holds Try.pinned (OpenSpec.ofChange sum32JoinsWrong)

/-- 'variorumlaw02.Sum32Bursts': WHATEVER THE INPUT: true; the input reads as it did. -/
def sum32BurstsSpec : ChangeSpec := { name := "sum32Bursts", fn := fun _ => fun
  | [d1, d2, d3] => { results := [.lit (.bool true)], args := [d1, d2, d3] }
  | _ => none }
def sum32BurstsRow : OpenClaim := { program := "ytaichjkenfnkbab", sum := "8c48c45b28f5ae6c45da7650fd21d13796cfb2bc937707eaeba891f3d2d64f36", func := "variorum/variorumlaw02.Sum32Bursts", spec := "sum32Bursts", apart := false }
def Sum32BurstsSaid : Prop := sum32BurstsRow.holds Try.pinned (OpenSpec.ofChange sum32BurstsSpec)

/-- ITS FALSE NEIGHBOUR: 'it returns false'. Refute it at one input. -/
def sum32BurstsWrong : ChangeSpec := { name := "sum32Bursts", fn := fun _ => fun
  | [d1, d2, d3] => { results := [.lit (.bool false)], args := [d1, d2, d3] }
  | _ => none }
def Sum32BurstsWrongFalsely : Prop := sum32BurstsRow.holds Try.pinned (OpenSpec.ofChange sum32BurstsWrong)

/-- 'variorumlaw02.Sum32Three': WHATEVER THE INPUT: true; the input reads as it did. -/
def sum32ThreeSpec : ChangeSpec := { name := "sum32Three", fn := fun _ => fun
  | [d1, d2, d3] => { results := [.lit (.bool true)], args := [d1, d2, d3] }
  | _ => none }
def sum32ThreeRow : OpenClaim := { program := "ytaichjkenfnkbab", sum := "8c48c45b28f5ae6c45da7650fd21d13796cfb2bc937707eaeba891f3d2d64f36", func := "variorum/variorumlaw02.Sum32Three", spec := "sum32Three", apart := false }
def Sum32ThreeSaid : Prop := sum32ThreeRow.holds Try.pinned (OpenSpec.ofChange sum32ThreeSpec)

/-- ITS FALSE NEIGHBOUR: 'it returns false'. Refute it at one input. -/
def sum32ThreeWrong : ChangeSpec := { name := "sum32Three", fn := fun _ => fun
  | [d1, d2, d3] => { results := [.lit (.bool false)], args := [d1, d2, d3] }
  | _ => none }
def Sum32ThreeWrongFalsely : Prop := sum32ThreeRow.holds Try.pinned (OpenSpec.ofChange sum32ThreeWrong)

/- THE SECOND FORM. 'bulk': how many values and letters a reading holds, each counted each time it is reached (what is shared counts as often as it is met; a slice's spare places count too). A statement '..UptoSaid' is the law's where the arguments, and the package variables that the reading takes, are together of bulk at most 1048576: NARROWER than '..Said'. Prove '..Said' where nothing that the law and all that it calls make is longer than what came in: it says more and counts as full. Else prove '..UptoSaid'. A law counts once. -/
mutual
def uptoBulk {H : Type} : DataW H → Nat
  | .lit (.string bytes) => bytes.length + 1
  | .lit _ => 1
  | .nil => 1
  | .ptr d => uptoBulk d + 1
  | .slice elems spare => uptoBulkAll elems + uptoBulkAll spare + 1
  | .agg parts => uptoBulkAll parts + 1
  | .iface _ d => uptoBulk d + 1
  | .map entries => uptoBulkEntries entries + 1
  | .held _ => 1
def uptoBulkAll {H : Type} : List (DataW H) → Nat
  | [] => 0
  | d :: r => uptoBulk d + uptoBulkAll r
def uptoBulkEntries {H : Type} : List (Lit × DataW H) → Nat
  | [] => 0
  | x :: r => uptoBulkEntry x + uptoBulkEntries r
def uptoBulkEntry {H : Type} : Lit × DataW H → Nat
  | (.string bytes, d) => bytes.length + uptoBulk d + 1
  | (_, d) => uptoBulk d + 1
 end
def uptoSmall : (H : Type) → List (DataW H) → Bool := fun _ ds => decide (uptoBulkAll ds ≤ 1048576)
def OpenSpec.upto (s : _root_.Go.ChangeSpec) : _root_.Go.OpenSpec := { _root_.Go.OpenSpec.ofChange s with cond := some uptoSmall }

/-- 'variorumlaw02.Sum32Tells', WHERE WHAT IT READS IS OF BULK AT MOST 1048576: true; the input reads as it did. -/
def sum32TellsUptoRow : OpenClaim := { program := "ytaichjkenfnkbab", sum := "8c48c45b28f5ae6c45da7650fd21d13796cfb2bc937707eaeba891f3d2d64f36", func := "variorum/variorumlaw02.Sum32Tells", spec := "sum32Tells", apart := false, narrowed := true }
def Sum32TellsUptoSaid : Prop := sum32TellsUptoRow.holds Try.pinned (OpenSpec.upto sum32TellsSpec)

/-- 'variorumlaw02.Sum32Joins', WHERE WHAT IT READS IS OF BULK AT MOST 1048576: true; the input reads as it did. -/
def sum32JoinsUptoRow : OpenClaim := { program := "ytaichjkenfnkbab", sum := "8c48c45b28f5ae6c45da7650fd21d13796cfb2bc937707eaeba891f3d2d64f36", func := "variorum/variorumlaw02.Sum32Joins", spec := "sum32Joins", unfollowed := true, recurses := true, apart := false, narrowed := true }
def Sum32JoinsUptoSaid : Prop := sum32JoinsUptoRow.holds Try.pinned (OpenSpec.upto sum32JoinsSpec)

/-- 'variorumlaw02.Sum32Bursts', WHERE WHAT IT READS IS OF BULK AT MOST 1048576: true; the input reads as it did. -/
def sum32BurstsUptoRow : OpenClaim := { program := "ytaichjkenfnkbab", sum := "8c48c45b28f5ae6c45da7650fd21d13796cfb2bc937707eaeba891f3d2d64f36", func := "variorum/variorumlaw02.Sum32Bursts", spec := "sum32Bursts", apart := false, narrowed := true }
def Sum32BurstsUptoSaid : Prop := sum32BurstsUptoRow.holds Try.pinned (OpenSpec.upto sum32BurstsSpec)

/-- 'variorumlaw02.Sum32Three', WHERE WHAT IT READS IS OF BULK AT MOST 1048576: true; the input reads as it did. -/
def sum32ThreeUptoRow : OpenClaim := { program := "ytaichjkenfnkbab", sum := "8c48c45b28f5ae6c45da7650fd21d13796cfb2bc937707eaeba891f3d2d64f36", func := "variorum/variorumlaw02.Sum32Three", spec := "sum32Three", apart := false, narrowed := true }
def Sum32ThreeUptoSaid : Prop := sum32ThreeUptoRow.holds Try.pinned (OpenSpec.upto sum32ThreeSpec)

end Rows
end Go.Proofs.Ytaichjkenfnkbab
