/-
  No cell of these rows narrows 'for every input' (looked for: loops, veiled, ifaces, maps, wideKeys, modest, calm, conditions, laid).
  DERIVED. THE GIVEN ROWS OF THIS SEAT. 3 by the template 'for every input the law returns true; each argument reads behind the call as it read before'; 0 by the template 'total and deterministic' (their statements: YteimabnkpdbhaaaTotals.lean).
  GIVEN WITH THE SEED: the statements are not yours to turn. If you find one false, say at which input.
  Laid BY PROGRAM, IN A SANDBOX (cutbox-rows.mjs): the forced cells as the released guide's own fill.sh prints them over the translation 99c1f7eefa36f83e… (all of the seat's roots in one cut). By AI agents, Wed Nov 11 2026. No macro, syntax, notation, axiom, sorry.
-/
import Derived.Test.YteimabnkpdbhaaaChecked
import GoSem.Claim
import GoSem.ClaimJoined
import GoSem.ClaimMapViews
import Derived.JoinedTies
import Derived.KernelRfl
namespace Go.Proofs.Yteimabnkpdbhaaa
/- THE CELL 'sum', in the pinned program and in every row, IS THE sha256 OF THE DUMP (.gsa) THAT YteimabnkpdbhaaaProg.lean LOADS. Nothing in Lean hashes anything: it is a label: what it is worth is what the hold of that sum in a sandbox is worth. -/
noncomputable def Try.pinned : Pinned := { name := "yteimabnkpdbhaaa", sum := "99c1f7eefa36f83e90691c224ee91008c968e9ddca4ca1c3deda137ff62e75cb", checked := Try.checked }
namespace Rows
def none {H : Type} : Left H := { results := [], args := [] }

/-- 'variorumlaw22.LettersBytes': WHATEVER THE INPUT: true; the input reads as it did. -/
def lettersBytesSpec : ChangeSpec := { name := "lettersBytes", fn := fun _ => fun
  | [d] => { results := [.lit (.bool true)], args := [d] }
  | _ => none }
def lettersBytesRow : OpenClaim := { program := "yteimabnkpdbhaaa", sum := "99c1f7eefa36f83e90691c224ee91008c968e9ddca4ca1c3deda137ff62e75cb", func := "variorum/variorumlaw22.LettersBytes", spec := "lettersBytes", inPlace := ["internal/bytealg.IndexByteString"], unfollowed := true, recurses := true, apart := false }
def LettersBytesSaid : Prop := lettersBytesRow.holds Try.pinned (OpenSpec.ofChange lettersBytesSpec)

/-- ITS FALSE NEIGHBOUR: 'it returns false'. Refute it at one input. -/
def lettersBytesWrong : ChangeSpec := { name := "lettersBytes", fn := fun _ => fun
  | [d] => { results := [.lit (.bool false)], args := [d] }
  | _ => none }
def LettersBytesWrongFalsely : Prop := lettersBytesRow.holds Try.pinned (OpenSpec.ofChange lettersBytesWrong)

/-- 'variorumlaw22.LettersTexts': WHATEVER THE INPUT: true; the input reads as it did. -/
def lettersTextsSpec : ChangeSpec := { name := "lettersTexts", fn := fun _ => fun
  | [d] => { results := [.lit (.bool true)], args := [d] }
  | _ => none }
def lettersTextsRow : OpenClaim := { program := "yteimabnkpdbhaaa", sum := "99c1f7eefa36f83e90691c224ee91008c968e9ddca4ca1c3deda137ff62e75cb", func := "variorum/variorumlaw22.LettersTexts", spec := "lettersTexts", inPlace := ["internal/bytealg.IndexByteString"], unfollowed := true, recurses := true, apart := false }
def LettersTextsSaid : Prop := lettersTextsRow.holds Try.pinned (OpenSpec.ofChange lettersTextsSpec)

/-- ITS FALSE NEIGHBOUR: 'it returns false'. Refute it at one input. -/
def lettersTextsWrong : ChangeSpec := { name := "lettersTexts", fn := fun _ => fun
  | [d] => { results := [.lit (.bool false)], args := [d] }
  | _ => none }
def LettersTextsWrongFalsely : Prop := lettersTextsRow.holds Try.pinned (OpenSpec.ofChange lettersTextsWrong)

/-- 'variorumlaw22.LettersWords': WHATEVER THE INPUT: true; the input reads as it did. -/
def lettersWordsSpec : ChangeSpec := { name := "lettersWords", fn := fun _ => fun
  | [d] => { results := [.lit (.bool true)], args := [d] }
  | _ => none }
def lettersWordsRow : OpenClaim := { program := "yteimabnkpdbhaaa", sum := "99c1f7eefa36f83e90691c224ee91008c968e9ddca4ca1c3deda137ff62e75cb", func := "variorum/variorumlaw22.LettersWords", spec := "lettersWords", inPlace := ["internal/bytealg.IndexByteString"], unfollowed := true, recurses := true, apart := false }
def LettersWordsSaid : Prop := lettersWordsRow.holds Try.pinned (OpenSpec.ofChange lettersWordsSpec)

/-- ITS FALSE NEIGHBOUR: 'it returns false'. Refute it at one input. -/
def lettersWordsWrong : ChangeSpec := { name := "lettersWords", fn := fun _ => fun
  | [d] => { results := [.lit (.bool false)], args := [d] }
  | _ => none }
def LettersWordsWrongFalsely : Prop := lettersWordsRow.holds Try.pinned (OpenSpec.ofChange lettersWordsWrong)

/- THE SECOND FORM. 'bulk': how many values and letters a reading holds, each counted each time it is reached (what is shared counts as often as it is met; a slice's spare places count too). A statement '..UptoSaid' is the law's where the arguments, and the package variables that the reading takes, are together of bulk at most 1048576: NARROWER than '..Said'. Prove '..Said' where nothing that the law and all that it calls make is longer than what came in: it says more and counts as full. Else prove '..UptoSaid'. A law counts once. -/
mutual
def uptoBulk {H : Type} : DataW H → Nat
  | .lit (.string bytes) => bytes.length + 1
  | .lit _ => 1
  | .nil => 1
  | .ptr d => uptoBulk d + 1
  | .slice elems spare => uptoBulkAll elems + uptoBulkAll spare + 1
  | .agg parts => uptoBulkAll parts + 1
  | .iface _ d => uptoBulk d + 1
  | .map entries => uptoBulkEntries entries + 1
  | .held _ => 1
def uptoBulkAll {H : Type} : List (DataW H) → Nat
  | [] => 0
  | d :: r => uptoBulk d + uptoBulkAll r
def uptoBulkEntries {H : Type} : List (Lit × DataW H) → Nat
  | [] => 0
  | x :: r => uptoBulkEntry x + uptoBulkEntries r
def uptoBulkEntry {H : Type} : Lit × DataW H → Nat
  | (.string bytes, d) => bytes.length + uptoBulk d + 1
  | (_, d) => uptoBulk d + 1
 end
def uptoSmall : (H : Type) → List (DataW H) → Bool := fun _ ds => decide (uptoBulkAll ds ≤ 1048576)
def OpenSpec.upto (s : _root_.Go.ChangeSpec) : _root_.Go.OpenSpec := { _root_.Go.OpenSpec.ofChange s with cond := some uptoSmall }

/-- 'variorumlaw22.LettersBytes', WHERE WHAT IT READS IS OF BULK AT MOST 1048576: true; the input reads as it did. -/
def lettersBytesUptoRow : OpenClaim := { program := "yteimabnkpdbhaaa", sum := "99c1f7eefa36f83e90691c224ee91008c968e9ddca4ca1c3deda137ff62e75cb", func := "variorum/variorumlaw22.LettersBytes", spec := "lettersBytes", inPlace := ["internal/bytealg.IndexByteString"], unfollowed := true, recurses := true, apart := false, narrowed := true }
def LettersBytesUptoSaid : Prop := lettersBytesUptoRow.holds Try.pinned (OpenSpec.upto lettersBytesSpec)

/-- 'variorumlaw22.LettersTexts', WHERE WHAT IT READS IS OF BULK AT MOST 1048576: true; the input reads as it did. -/
def lettersTextsUptoRow : OpenClaim := { program := "yteimabnkpdbhaaa", sum := "99c1f7eefa36f83e90691c224ee91008c968e9ddca4ca1c3deda137ff62e75cb", func := "variorum/variorumlaw22.LettersTexts", spec := "lettersTexts", inPlace := ["internal/bytealg.IndexByteString"], unfollowed := true, recurses := true, apart := false, narrowed := true }
def LettersTextsUptoSaid : Prop := lettersTextsUptoRow.holds Try.pinned (OpenSpec.upto lettersTextsSpec)

/-- 'variorumlaw22.LettersWords', WHERE WHAT IT READS IS OF BULK AT MOST 1048576: true; the input reads as it did. -/
def lettersWordsUptoRow : OpenClaim := { program := "yteimabnkpdbhaaa", sum := "99c1f7eefa36f83e90691c224ee91008c968e9ddca4ca1c3deda137ff62e75cb", func := "variorum/variorumlaw22.LettersWords", spec := "lettersWords", inPlace := ["internal/bytealg.IndexByteString"], unfollowed := true, recurses := true, apart := false, narrowed := true }
def LettersWordsUptoSaid : Prop := lettersWordsUptoRow.holds Try.pinned (OpenSpec.upto lettersWordsSpec)

end Rows
end Go.Proofs.Yteimabnkpdbhaaa
