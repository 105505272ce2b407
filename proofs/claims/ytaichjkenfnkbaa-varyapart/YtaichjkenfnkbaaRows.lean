/-
  No cell of these rows narrows 'for every input' (looked for: loops, veiled, ifaces, maps, wideKeys, modest, calm, conditions, laid).
  DERIVED. THE GIVEN ROWS OF THIS SEAT. 6 by the template 'for every input the law returns true; each argument reads behind the call as it read before'; 0 by the template 'total and deterministic' (their statements: YtaichjkenfnkbaaTotals.lean).
  GIVEN WITH THE SEED: the statements are not yours to turn. If you find one false, say at which input.
  Laid BY PROGRAM, IN A SANDBOX (cutbox-rows.mjs): the forced cells as the released guide's own fill.sh prints them over the translation 960cbd3777da5e0e… (all of the seat's roots in one cut). By AI agents, Wed Nov 11 2026. No macro, syntax, notation, axiom, sorry.
-/
import Derived.Test.YtaichjkenfnkbaaChecked
import GoSem.Claim
import GoSem.ClaimJoined
import GoSem.ClaimMapViews
import Derived.JoinedTies
import Derived.KernelRfl
namespace Go.Proofs.Ytaichjkenfnkbaa
/- THE CELL 'sum', in the pinned program and in every row, IS THE sha256 OF THE DUMP (.gsa) THAT YtaichjkenfnkbaaProg.lean LOADS. Nothing in Lean hashes anything: it is a label: what it is worth is what the hold of that sum in a sandbox is worth. -/
noncomputable def Try.pinned : Pinned := { name := "ytaichjkenfnkbaa", sum := "960cbd3777da5e0ec9290e24785c2bc84169fc0236a08492ac250d1ca35d4644", checked := Try.checked }
namespace Rows
def none {H : Type} : Left H := { results := [], args := [] }

/-- 'variorumlaw01.VaryPuts': WHATEVER THE INPUT: true; the input reads as it did. -/
def varyPutsSpec : ChangeSpec := { name := "varyPuts", fn := fun _ => fun
  | [d1, d2, d3] => { results := [.lit (.bool true)], args := [d1, d2, d3] }
  | _ => none }
def varyPutsRow : OpenClaim := { program := "ytaichjkenfnkbaa", sum := "960cbd3777da5e0ec9290e24785c2bc84169fc0236a08492ac250d1ca35d4644", func := "variorum/variorumlaw01.VaryPuts", spec := "varyPuts", unfollowed := true, recurses := true, apart := false }
def VaryPutsSaid : Prop := varyPutsRow.holds Try.pinned (OpenSpec.ofChange varyPutsSpec)

/-- ITS FALSE NEIGHBOUR: 'it returns false'. Refute it at one input. -/
def varyPutsWrong : ChangeSpec := { name := "varyPuts", fn := fun _ => fun
  | [d1, d2, d3] => { results := [.lit (.bool false)], args := [d1, d2, d3] }
  | _ => none }
def VaryPutsWrongFalsely : Prop := varyPutsRow.holds Try.pinned (OpenSpec.ofChange varyPutsWrong)

/-- 'variorumlaw01.VaryReads': WHATEVER THE INPUT: true; the input reads as it did. -/
def varyReadsSpec : ChangeSpec := { name := "varyReads", fn := fun _ => fun
  | [d1, d2] => { results := [.lit (.bool true)], args := [d1, d2] }
  | _ => none }
def varyReadsRow : OpenClaim := { program := "ytaichjkenfnkbaa", sum := "960cbd3777da5e0ec9290e24785c2bc84169fc0236a08492ac250d1ca35d4644", func := "variorum/variorumlaw01.VaryReads", spec := "varyReads", unfollowed := true, recurses := true, apart := false }
def VaryReadsSaid : Prop := varyReadsRow.holds Try.pinned (OpenSpec.ofChange varyReadsSpec)

/-- ITS FALSE NEIGHBOUR: 'it returns false'. Refute it at one input. -/
def varyReadsWrong : ChangeSpec := { name := "varyReads", fn := fun _ => fun
  | [d1, d2] => { results := [.lit (.bool false)], args := [d1, d2] }
  | _ => none }
def VaryReadsWrongFalsely : Prop := varyReadsRow.holds Try.pinned (OpenSpec.ofChange varyReadsWrong)

/-- 'variorumlaw01.VaryBack': WHATEVER THE INPUT: true; the input reads as it did. -/
def varyBackSpec : ChangeSpec := { name := "varyBack", fn := fun _ => fun
  | [d1, d2, d3, d4] => { results := [.lit (.bool true)], args := [d1, d2, d3, d4] }
  | _ => none }
def varyBackRow : OpenClaim := { program := "ytaichjkenfnkbaa", sum := "960cbd3777da5e0ec9290e24785c2bc84169fc0236a08492ac250d1ca35d4644", func := "variorum/variorumlaw01.VaryBack", spec := "varyBack", unfollowed := true, recurses := true, apart := false }
def VaryBackSaid : Prop := varyBackRow.holds Try.pinned (OpenSpec.ofChange varyBackSpec)

/-- ITS FALSE NEIGHBOUR: 'it returns false'. Refute it at one input. -/
def varyBackWrong : ChangeSpec := { name := "varyBack", fn := fun _ => fun
  | [d1, d2, d3, d4] => { results := [.lit (.bool false)], args := [d1, d2, d3, d4] }
  | _ => none }
def VaryBackWrongFalsely : Prop := varyBackRow.holds Try.pinned (OpenSpec.ofChange varyBackWrong)

/-- 'variorumlaw01.VaryOne': WHATEVER THE INPUT: true; the input reads as it did. -/
def varyOneSpec : ChangeSpec := { name := "varyOne", fn := fun _ => fun
  | [d] => { results := [.lit (.bool true)], args := [d] }
  | _ => none }
def varyOneRow : OpenClaim := { program := "ytaichjkenfnkbaa", sum := "960cbd3777da5e0ec9290e24785c2bc84169fc0236a08492ac250d1ca35d4644", func := "variorum/variorumlaw01.VaryOne", spec := "varyOne", unfollowed := true, recurses := true, apart := false }
def VaryOneSaid : Prop := varyOneRow.holds Try.pinned (OpenSpec.ofChange varyOneSpec)

/-- ITS FALSE NEIGHBOUR: 'it returns false'. Refute it at one input. -/
def varyOneWrong : ChangeSpec := { name := "varyOne", fn := fun _ => fun
  | [d] => { results := [.lit (.bool false)], args := [d] }
  | _ => none }
def VaryOneWrongFalsely : Prop := varyOneRow.holds Try.pinned (OpenSpec.ofChange varyOneWrong)

/-- 'variorumlaw01.VaryApart': WHATEVER THE INPUT: true; the input reads as it did. -/
def varyApartSpec : ChangeSpec := { name := "varyApart", fn := fun _ => fun
  | [d1, d2] => { results := [.lit (.bool true)], args := [d1, d2] }
  | _ => none }
def varyApartRow : OpenClaim := { program := "ytaichjkenfnkbaa", sum := "960cbd3777da5e0ec9290e24785c2bc84169fc0236a08492ac250d1ca35d4644", func := "variorum/variorumlaw01.VaryApart", spec := "varyApart", unfollowed := true, recurses := true, apart := false }
def VaryApartSaid : Prop := varyApartRow.holds Try.pinned (OpenSpec.ofChange varyApartSpec)

/-- ITS FALSE NEIGHBOUR: 'it returns false'. Refute it at one input. -/
def varyApartWrong : ChangeSpec := { name := "varyApart", fn := fun _ => fun
  | [d1, d2] => { results := [.lit (.bool false)], args := [d1, d2] }
  | _ => none }
def VaryApartWrongFalsely : Prop := varyApartRow.holds Try.pinned (OpenSpec.ofChange varyApartWrong)

/-- 'variorumlaw01.VaryNobody': WHATEVER THE INPUT: true; the input reads as it did. -/
def varyNobodySpec : ChangeSpec := { name := "varyNobody", fn := fun _ => fun
  | [d] => { results := [.lit (.bool true)], args := [d] }
  | _ => none }
def varyNobodyRow : OpenClaim := { program := "ytaichjkenfnkbaa", sum := "960cbd3777da5e0ec9290e24785c2bc84169fc0236a08492ac250d1ca35d4644", func := "variorum/variorumlaw01.VaryNobody", spec := "varyNobody", unfollowed := true, recurses := true, apart := false }
def VaryNobodySaid : Prop := varyNobodyRow.holds Try.pinned (OpenSpec.ofChange varyNobodySpec)

/-- ITS FALSE NEIGHBOUR: 'it returns false'. Refute it at one input. -/
def varyNobodyWrong : ChangeSpec := { name := "varyNobody", fn := fun _ => fun
  | [d] => { results := [.lit (.bool false)], args := [d] }
  | _ => none }
def VaryNobodyWrongFalsely : Prop := varyNobodyRow.holds Try.pinned (OpenSpec.ofChange varyNobodyWrong)

/- THE SECOND FORM. 'bulk': how many values and letters a reading holds, each counted each time it is reached (what is shared counts as often as it is met; a slice's spare places count too). A statement '..UptoSaid' is the law's where the arguments, and the package variables that the reading takes, are together of bulk at most 1048576: NARROWER than '..Said'. Prove '..Said' where nothing that the law and all that it calls make is longer than what came in: it says more and counts as full. Else prove '..UptoSaid'. A law counts once. -/
mutual
def uptoBulk {H : Type} : DataW H → Nat
  | .lit (.string bytes) => bytes.length + 1
  | .lit _ => 1
  | .nil => 1
  | .ptr d => uptoBulk d + 1
  | .slice elems spare => uptoBulkAll elems + uptoBulkAll spare + 1
  | .agg parts => uptoBulkAll parts + 1
  | .iface _ d => uptoBulk d + 1
  | .map entries => uptoBulkEntries entries + 1
  | .held _ => 1
def uptoBulkAll {H : Type} : List (DataW H) → Nat
  | [] => 0
  | d :: r => uptoBulk d + uptoBulkAll r
def uptoBulkEntries {H : Type} : List (Lit × DataW H) → Nat
  | [] => 0
  | x :: r => uptoBulkEntry x + uptoBulkEntries r
def uptoBulkEntry {H : Type} : Lit × DataW H → Nat
  | (.string bytes, d) => bytes.length + uptoBulk d + 1
  | (_, d) => uptoBulk d + 1
 end
def uptoSmall : (H : Type) → List (DataW H) → Bool := fun _ ds => decide (uptoBulkAll ds ≤ 1048576)
def OpenSpec.upto (s : _root_.Go.ChangeSpec) : _root_.Go.OpenSpec := { _root_.Go.OpenSpec.ofChange s with cond := some uptoSmall }

/-- 'variorumlaw01.VaryPuts', WHERE WHAT IT READS IS OF BULK AT MOST 1048576: true; the input reads as it did. -/
def varyPutsUptoRow : OpenClaim := { program := "ytaichjkenfnkbaa", sum := "960cbd3777da5e0ec9290e24785c2bc84169fc0236a08492ac250d1ca35d4644", func := "variorum/variorumlaw01.VaryPuts", spec := "varyPuts", unfollowed := true, recurses := true, apart := false, narrowed := true }
def VaryPutsUptoSaid : Prop := varyPutsUptoRow.holds Try.pinned (OpenSpec.upto varyPutsSpec)

/-- 'variorumlaw01.VaryReads', WHERE WHAT IT READS IS OF BULK AT MOST 1048576: true; the input reads as it did. -/
def varyReadsUptoRow : OpenClaim := { program := "ytaichjkenfnkbaa", sum := "960cbd3777da5e0ec9290e24785c2bc84169fc0236a08492ac250d1ca35d4644", func := "variorum/variorumlaw01.VaryReads", spec := "varyReads", unfollowed := true, recurses := true, apart := false, narrowed := true }
def VaryReadsUptoSaid : Prop := varyReadsUptoRow.holds Try.pinned (OpenSpec.upto varyReadsSpec)

/-- 'variorumlaw01.VaryBack', WHERE WHAT IT READS IS OF BULK AT MOST 1048576: true; the input reads as it did. -/
def varyBackUptoRow : OpenClaim := { program := "ytaichjkenfnkbaa", sum := "960cbd3777da5e0ec9290e24785c2bc84169fc0236a08492ac250d1ca35d4644", func := "variorum/variorumlaw01.VaryBack", spec := "varyBack", unfollowed := true, recurses := true, apart := false, narrowed := true }
def VaryBackUptoSaid : Prop := varyBackUptoRow.holds Try.pinned (OpenSpec.upto varyBackSpec)

/-- 'variorumlaw01.VaryOne', WHERE WHAT IT READS IS OF BULK AT MOST 1048576: true; the input reads as it did. -/
def varyOneUptoRow : OpenClaim := { program := "ytaichjkenfnkbaa", sum := "960cbd3777da5e0ec9290e24785c2bc84169fc0236a08492ac250d1ca35d4644", func := "variorum/variorumlaw01.VaryOne", spec := "varyOne", unfollowed := true, recurses := true, apart := false, narrowed := true }
def VaryOneUptoSaid : Prop := varyOneUptoRow.holds Try.pinned (OpenSpec.upto varyOneSpec)

/-- 'variorumlaw01.VaryApart', WHERE WHAT IT READS IS OF BULK AT MOST 1048576: true; the input reads as it did. -/
def varyApartUptoRow : OpenClaim := { program := "ytaichjkenfnkbaa", sum := "960cbd3777da5e0ec9290e24785c2bc84169fc0236a08492ac250d1ca35d4644", func := "variorum/variorumlaw01.VaryApart", spec := "varyApart", unfollowed := true, recurses := true, apart := false, narrowed := true }
def VaryApartUptoSaid : Prop := varyApartUptoRow.holds Try.pinned (OpenSpec.upto varyApartSpec)

/-- 'variorumlaw01.VaryNobody', WHERE WHAT IT READS IS OF BULK AT MOST 1048576: true; the input reads as it did. -/
def varyNobodyUptoRow : OpenClaim := { program := "ytaichjkenfnkbaa", sum := "960cbd3777da5e0ec9290e24785c2bc84169fc0236a08492ac250d1ca35d4644", func := "variorum/variorumlaw01.VaryNobody", spec := "varyNobody", unfollowed := true, recurses := true, apart := false, narrowed := true }
def VaryNobodyUptoSaid : Prop := varyNobodyUptoRow.holds Try.pinned (OpenSpec.upto varyNobodySpec)

end Rows
end Go.Proofs.Ytaichjkenfnkbaa
