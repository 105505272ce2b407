/-
  No cell of these rows narrows 'for every input' (looked for: loops, veiled, ifaces, maps, wideKeys, modest, calm, conditions, laid).
  DERIVED. THE GIVEN ROWS OF THIS SEAT. 20 by the template 'for every input the law returns true; each argument reads behind the call as it read before'; 0 by the template 'total and deterministic' (their statements: YtpmijaplkbmbiaaTotals.lean).
  GIVEN WITH THE SEED: the statements are not yours to turn. If you find one false, say at which input.
  Laid BY PROGRAM, IN A SANDBOX (cutbox-rows.mjs): the forced cells as the released guide's own fill.sh prints them over the translation 21ce8c0984d7c244… (all of the seat's roots in one cut). By AI agents, Wed Nov 11 2026. No macro, syntax, notation, axiom, sorry.
-/
import Derived.Test.YtpmijaplkbmbiaaChecked
import GoSem.Claim
import GoSem.ClaimJoined
import GoSem.ClaimMapViews
import Derived.JoinedTies
import Derived.KernelRfl
namespace Go.Proofs.Ytpmijaplkbmbiaa
/- THE CELL 'sum', in the pinned program and in every row, IS THE sha256 OF THE DUMP (.gsa) THAT YtpmijaplkbmbiaaProg.lean LOADS. Nothing in Lean hashes anything: it is a label: what it is worth is what the hold of that sum in a sandbox is worth. -/
noncomputable def Try.pinned : Pinned := { name := "ytpmijaplkbmbiaa", sum := "21ce8c0984d7c2448fb5c2f8f3a5defc0f69a670d1df01202b764ad4cf9c8e1e", checked := Try.checked }
namespace Rows
def none {H : Type} : Left H := { results := [], args := [] }

/-- 'variorumlaw04.PiecePlays': WHATEVER THE INPUT: true; the input reads as it did. -/
def piecePlaysSpec : ChangeSpec := { name := "piecePlays", fn := fun _ => fun
  | [d1, d2] => { results := [.lit (.bool true)], args := [d1, d2] }
  | _ => none }
def piecePlaysRow : OpenClaim := { program := "ytpmijaplkbmbiaa", sum := "21ce8c0984d7c2448fb5c2f8f3a5defc0f69a670d1df01202b764ad4cf9c8e1e", func := "variorum/variorumlaw04.PiecePlays", spec := "piecePlays", inPlace := ["slices.overlaps[string]", "internal/abi.NoEscape", "internal/bytealg.MakeNoZero"], unfollowed := true, recurses := true, apart := false }
def PiecePlaysSaid : Prop := piecePlaysRow.holds Try.pinned (OpenSpec.ofChange piecePlaysSpec)

/-- ITS FALSE NEIGHBOUR: 'it returns false'. Refute it at one input. -/
def piecePlaysWrong : ChangeSpec := { name := "piecePlays", fn := fun _ => fun
  | [d1, d2] => { results := [.lit (.bool false)], args := [d1, d2] }
  | _ => none }
def PiecePlaysWrongFalsely : Prop := piecePlaysRow.holds Try.pinned (OpenSpec.ofChange piecePlaysWrong)

/-- 'variorumlaw04.PieceSlices': WHATEVER THE INPUT: true; the input reads as it did. -/
def pieceSlicesSpec : ChangeSpec := { name := "pieceSlices", fn := fun _ => fun
  | [d1, d2, d3, d4] => { results := [.lit (.bool true)], args := [d1, d2, d3, d4] }
  | _ => none }
def pieceSlicesRow : OpenClaim := { program := "ytpmijaplkbmbiaa", sum := "21ce8c0984d7c2448fb5c2f8f3a5defc0f69a670d1df01202b764ad4cf9c8e1e", func := "variorum/variorumlaw04.PieceSlices", spec := "pieceSlices", inPlace := ["slices.overlaps[string]", "internal/abi.NoEscape", "internal/bytealg.MakeNoZero"], unfollowed := true, recurses := true, apart := false }
def PieceSlicesSaid : Prop := pieceSlicesRow.holds Try.pinned (OpenSpec.ofChange pieceSlicesSpec)

/-- ITS FALSE NEIGHBOUR: 'it returns false'. Refute it at one input. -/
def pieceSlicesWrong : ChangeSpec := { name := "pieceSlices", fn := fun _ => fun
  | [d1, d2, d3, d4] => { results := [.lit (.bool false)], args := [d1, d2, d3, d4] }
  | _ => none }
def PieceSlicesWrongFalsely : Prop := pieceSlicesRow.holds Try.pinned (OpenSpec.ofChange pieceSlicesWrong)

/-- 'variorumlaw04.PieceBack': WHATEVER THE INPUT: true; the input reads as it did. -/
def pieceBackSpec : ChangeSpec := { name := "pieceBack", fn := fun _ => fun
  | [d1, d2, d3, d4] => { results := [.lit (.bool true)], args := [d1, d2, d3, d4] }
  | _ => none }
def pieceBackRow : OpenClaim := { program := "ytpmijaplkbmbiaa", sum := "21ce8c0984d7c2448fb5c2f8f3a5defc0f69a670d1df01202b764ad4cf9c8e1e", func := "variorum/variorumlaw04.PieceBack", spec := "pieceBack", inPlace := ["slices.overlaps[string]", "internal/abi.NoEscape", "internal/bytealg.MakeNoZero"], unfollowed := true, recurses := true, apart := false }
def PieceBackSaid : Prop := pieceBackRow.holds Try.pinned (OpenSpec.ofChange pieceBackSpec)

/-- ITS FALSE NEIGHBOUR: 'it returns false'. Refute it at one input. -/
def pieceBackWrong : ChangeSpec := { name := "pieceBack", fn := fun _ => fun
  | [d1, d2, d3, d4] => { results := [.lit (.bool false)], args := [d1, d2, d3, d4] }
  | _ => none }
def PieceBackWrongFalsely : Prop := pieceBackRow.holds Try.pinned (OpenSpec.ofChange pieceBackWrong)

/-- 'variorumlaw04.PieceClones': WHATEVER THE INPUT: true; the input reads as it did. -/
def pieceClonesSpec : ChangeSpec := { name := "pieceClones", fn := fun _ => fun
  | [d1, d2, d3] => { results := [.lit (.bool true)], args := [d1, d2, d3] }
  | _ => none }
def pieceClonesRow : OpenClaim := { program := "ytpmijaplkbmbiaa", sum := "21ce8c0984d7c2448fb5c2f8f3a5defc0f69a670d1df01202b764ad4cf9c8e1e", func := "variorum/variorumlaw04.PieceClones", spec := "pieceClones", inPlace := ["slices.overlaps[string]", "internal/abi.NoEscape", "internal/bytealg.MakeNoZero"], unfollowed := true, recurses := true, apart := false }
def PieceClonesSaid : Prop := pieceClonesRow.holds Try.pinned (OpenSpec.ofChange pieceClonesSpec)

/-- ITS FALSE NEIGHBOUR: 'it returns false'. Refute it at one input. -/
def pieceClonesWrong : ChangeSpec := { name := "pieceClones", fn := fun _ => fun
  | [d1, d2, d3] => { results := [.lit (.bool false)], args := [d1, d2, d3] }
  | _ => none }
def PieceClonesWrongFalsely : Prop := pieceClonesRow.holds Try.pinned (OpenSpec.ofChange pieceClonesWrong)

/-- 'variorumlaw04.PieceNobody': WHATEVER THE INPUT: true; the input reads as it did. -/
def pieceNobodySpec : ChangeSpec := { name := "pieceNobody", fn := fun _ => fun
  | [d1, d2] => { results := [.lit (.bool true)], args := [d1, d2] }
  | _ => none }
def pieceNobodyRow : OpenClaim := { program := "ytpmijaplkbmbiaa", sum := "21ce8c0984d7c2448fb5c2f8f3a5defc0f69a670d1df01202b764ad4cf9c8e1e", func := "variorum/variorumlaw04.PieceNobody", spec := "pieceNobody", inPlace := ["internal/abi.NoEscape", "internal/bytealg.MakeNoZero", "slices.overlaps[string]"], unfollowed := true, recurses := true, apart := false }
def PieceNobodySaid : Prop := pieceNobodyRow.holds Try.pinned (OpenSpec.ofChange pieceNobodySpec)

/-- ITS FALSE NEIGHBOUR: 'it returns false'. Refute it at one input. -/
def pieceNobodyWrong : ChangeSpec := { name := "pieceNobody", fn := fun _ => fun
  | [d1, d2] => { results := [.lit (.bool false)], args := [d1, d2] }
  | _ => none }
def PieceNobodyWrongFalsely : Prop := pieceNobodyRow.holds Try.pinned (OpenSpec.ofChange pieceNobodyWrong)

/-- 'variorumlaw05.LinesPlay': WHATEVER THE INPUT: true; the input reads as it did. -/
def linesPlaySpec : ChangeSpec := { name := "linesPlay", fn := fun _ => fun
  | [d1, d2, d3, d4, d5] => { results := [.lit (.bool true)], args := [d1, d2, d3, d4, d5] }
  | _ => none }
def linesPlayRow : OpenClaim := { program := "ytpmijaplkbmbiaa", sum := "21ce8c0984d7c2448fb5c2f8f3a5defc0f69a670d1df01202b764ad4cf9c8e1e", func := "variorum/variorumlaw05.LinesPlay", spec := "linesPlay", inPlace := ["internal/bytealg.CountString", "internal/bytealg.IndexByteString", "internal/bytealg.IndexString", "slices.overlaps[int]"], unfollowed := true, recurses := true, named := ["internal/bytealg.MaxLen"], apart := false }
def LinesPlaySaid : Prop := linesPlayRow.holds Try.pinned (OpenSpec.ofChange linesPlaySpec)

/-- ITS FALSE NEIGHBOUR: 'it returns false'. Refute it at one input. -/
def linesPlayWrong : ChangeSpec := { name := "linesPlay", fn := fun _ => fun
  | [d1, d2, d3, d4, d5] => { results := [.lit (.bool false)], args := [d1, d2, d3, d4, d5] }
  | _ => none }
def LinesPlayWrongFalsely : Prop := linesPlayRow.holds Try.pinned (OpenSpec.ofChange linesPlayWrong)

/-- 'variorumlaw05.LinesBack': WHATEVER THE INPUT: true; the input reads as it did. -/
def linesBackSpec : ChangeSpec := { name := "linesBack", fn := fun _ => fun
  | [d1, d2] => { results := [.lit (.bool true)], args := [d1, d2] }
  | _ => none }
def linesBackRow : OpenClaim := { program := "ytpmijaplkbmbiaa", sum := "21ce8c0984d7c2448fb5c2f8f3a5defc0f69a670d1df01202b764ad4cf9c8e1e", func := "variorum/variorumlaw05.LinesBack", spec := "linesBack", inPlace := ["internal/bytealg.CountString", "internal/bytealg.IndexByteString", "internal/bytealg.IndexString", "slices.overlaps[int]"], unfollowed := true, recurses := true, named := ["internal/bytealg.MaxLen"], apart := false }
def LinesBackSaid : Prop := linesBackRow.holds Try.pinned (OpenSpec.ofChange linesBackSpec)

/-- ITS FALSE NEIGHBOUR: 'it returns false'. Refute it at one input. -/
def linesBackWrong : ChangeSpec := { name := "linesBack", fn := fun _ => fun
  | [d1, d2] => { results := [.lit (.bool false)], args := [d1, d2] }
  | _ => none }
def LinesBackWrongFalsely : Prop := linesBackRow.holds Try.pinned (OpenSpec.ofChange linesBackWrong)

/-- 'variorumlaw05.LinesClones': WHATEVER THE INPUT: true; the input reads as it did. -/
def linesClonesSpec : ChangeSpec := { name := "linesClones", fn := fun _ => fun
  | [d1, d2, d3] => { results := [.lit (.bool true)], args := [d1, d2, d3] }
  | _ => none }
def linesClonesRow : OpenClaim := { program := "ytpmijaplkbmbiaa", sum := "21ce8c0984d7c2448fb5c2f8f3a5defc0f69a670d1df01202b764ad4cf9c8e1e", func := "variorum/variorumlaw05.LinesClones", spec := "linesClones", inPlace := ["internal/bytealg.CountString", "internal/bytealg.IndexByteString", "internal/bytealg.IndexString", "slices.overlaps[int]"], unfollowed := true, recurses := true, named := ["internal/bytealg.MaxLen"], apart := false }
def LinesClonesSaid : Prop := linesClonesRow.holds Try.pinned (OpenSpec.ofChange linesClonesSpec)

/-- ITS FALSE NEIGHBOUR: 'it returns false'. Refute it at one input. -/
def linesClonesWrong : ChangeSpec := { name := "linesClones", fn := fun _ => fun
  | [d1, d2, d3] => { results := [.lit (.bool false)], args := [d1, d2, d3] }
  | _ => none }
def LinesClonesWrongFalsely : Prop := linesClonesRow.holds Try.pinned (OpenSpec.ofChange linesClonesWrong)

/-- 'variorumlaw05.LinesNobody': WHATEVER THE INPUT: true; the input reads as it did. -/
def linesNobodySpec : ChangeSpec := { name := "linesNobody", fn := fun _ => fun
  | [d1, d2] => { results := [.lit (.bool true)], args := [d1, d2] }
  | _ => none }
def linesNobodyRow : OpenClaim := { program := "ytpmijaplkbmbiaa", sum := "21ce8c0984d7c2448fb5c2f8f3a5defc0f69a670d1df01202b764ad4cf9c8e1e", func := "variorum/variorumlaw05.LinesNobody", spec := "linesNobody", inPlace := ["internal/bytealg.CountString", "internal/bytealg.IndexByteString", "internal/bytealg.IndexString", "slices.overlaps[int]"], unfollowed := true, recurses := true, named := ["internal/bytealg.MaxLen"], apart := false }
def LinesNobodySaid : Prop := linesNobodyRow.holds Try.pinned (OpenSpec.ofChange linesNobodySpec)

/-- ITS FALSE NEIGHBOUR: 'it returns false'. Refute it at one input. -/
def linesNobodyWrong : ChangeSpec := { name := "linesNobody", fn := fun _ => fun
  | [d1, d2] => { results := [.lit (.bool false)], args := [d1, d2] }
  | _ => none }
def LinesNobodyWrongFalsely : Prop := linesNobodyRow.holds Try.pinned (OpenSpec.ofChange linesNobodyWrong)

/-- 'variorumlaw06.EditTells': WHATEVER THE INPUT: true; the input reads as it did. -/
def editTellsSpec : ChangeSpec := { name := "editTells", fn := fun _ => fun
  | [d1, d2] => { results := [.lit (.bool true)], args := [d1, d2] }
  | _ => none }
def editTellsRow : OpenClaim := { program := "ytpmijaplkbmbiaa", sum := "21ce8c0984d7c2448fb5c2f8f3a5defc0f69a670d1df01202b764ad4cf9c8e1e", func := "variorum/variorumlaw06.EditTells", spec := "editTells", inPlace := ["internal/abi.NoEscape", "internal/bytealg.MakeNoZero"], unfollowed := true, recurses := true, apart := false }
def EditTellsSaid : Prop := editTellsRow.holds Try.pinned (OpenSpec.ofChange editTellsSpec)

/-- ITS FALSE NEIGHBOUR: 'it returns false'. Refute it at one input. -/
def editTellsWrong : ChangeSpec := { name := "editTells", fn := fun _ => fun
  | [d1, d2] => { results := [.lit (.bool false)], args := [d1, d2] }
  | _ => none }
def EditTellsWrongFalsely : Prop := editTellsRow.holds Try.pinned (OpenSpec.ofChange editTellsWrong)

/-- 'variorumlaw06.EditMakes': WHATEVER THE INPUT: true; the input reads as it did. -/
def editMakesSpec : ChangeSpec := { name := "editMakes", fn := fun _ => fun
  | [d1, d2, d3, d4] => { results := [.lit (.bool true)], args := [d1, d2, d3, d4] }
  | _ => none }
def editMakesRow : OpenClaim := { program := "ytpmijaplkbmbiaa", sum := "21ce8c0984d7c2448fb5c2f8f3a5defc0f69a670d1df01202b764ad4cf9c8e1e", func := "variorum/variorumlaw06.EditMakes", spec := "editMakes", inPlace := ["internal/abi.NoEscape", "internal/bytealg.MakeNoZero"], unfollowed := true, recurses := true, apart := false }
def EditMakesSaid : Prop := editMakesRow.holds Try.pinned (OpenSpec.ofChange editMakesSpec)

/-- ITS FALSE NEIGHBOUR: 'it returns false'. Refute it at one input. -/
def editMakesWrong : ChangeSpec := { name := "editMakes", fn := fun _ => fun
  | [d1, d2, d3, d4] => { results := [.lit (.bool false)], args := [d1, d2, d3, d4] }
  | _ => none }
def EditMakesWrongFalsely : Prop := editMakesRow.holds Try.pinned (OpenSpec.ofChange editMakesWrong)

/-- 'variorumlaw06.EditNorms': WHATEVER THE INPUT: true; the input reads as it did. -/
def editNormsSpec : ChangeSpec := { name := "editNorms", fn := fun _ => fun
  | [d1, d2] => { results := [.lit (.bool true)], args := [d1, d2] }
  | _ => none }
def editNormsRow : OpenClaim := { program := "ytpmijaplkbmbiaa", sum := "21ce8c0984d7c2448fb5c2f8f3a5defc0f69a670d1df01202b764ad4cf9c8e1e", func := "variorum/variorumlaw06.EditNorms", spec := "editNorms", inPlace := ["internal/abi.NoEscape", "internal/bytealg.MakeNoZero"], unfollowed := true, recurses := true, apart := false }
def EditNormsSaid : Prop := editNormsRow.holds Try.pinned (OpenSpec.ofChange editNormsSpec)

/-- ITS FALSE NEIGHBOUR: 'it returns false'. Refute it at one input. -/
def editNormsWrong : ChangeSpec := { name := "editNorms", fn := fun _ => fun
  | [d1, d2] => { results := [.lit (.bool false)], args := [d1, d2] }
  | _ => none }
def EditNormsWrongFalsely : Prop := editNormsRow.holds Try.pinned (OpenSpec.ofChange editNormsWrong)

/-- 'variorumlaw07.RunApplies': WHATEVER THE INPUT: true; the input reads as it did. -/
def runAppliesSpec : ChangeSpec := { name := "runApplies", fn := fun _ => fun
  | [d1, d2] => { results := [.lit (.bool true)], args := [d1, d2] }
  | _ => none }
def runAppliesRow : OpenClaim := { program := "ytpmijaplkbmbiaa", sum := "21ce8c0984d7c2448fb5c2f8f3a5defc0f69a670d1df01202b764ad4cf9c8e1e", func := "variorum/variorumlaw07.RunApplies", spec := "runApplies", inPlace := ["internal/abi.NoEscape", "internal/bytealg.MakeNoZero", "slices.overlaps[string]"], unfollowed := true, recurses := true, apart := false }
def RunAppliesSaid : Prop := runAppliesRow.holds Try.pinned (OpenSpec.ofChange runAppliesSpec)

/-- ITS FALSE NEIGHBOUR: 'it returns false'. Refute it at one input. -/
def runAppliesWrong : ChangeSpec := { name := "runApplies", fn := fun _ => fun
  | [d1, d2] => { results := [.lit (.bool false)], args := [d1, d2] }
  | _ => none }
def RunAppliesWrongFalsely : Prop := runAppliesRow.holds Try.pinned (OpenSpec.ofChange runAppliesWrong)

/-- 'variorumlaw07.RunBack': WHATEVER THE INPUT: true; the input reads as it did. -/
def runBackSpec : ChangeSpec := { name := "runBack", fn := fun _ => fun
  | [d1, d2] => { results := [.lit (.bool true)], args := [d1, d2] }
  | _ => none }
def runBackRow : OpenClaim := { program := "ytpmijaplkbmbiaa", sum := "21ce8c0984d7c2448fb5c2f8f3a5defc0f69a670d1df01202b764ad4cf9c8e1e", func := "variorum/variorumlaw07.RunBack", spec := "runBack", inPlace := ["internal/abi.NoEscape", "internal/bytealg.MakeNoZero"], unfollowed := true, recurses := true, apart := false }
def RunBackSaid : Prop := runBackRow.holds Try.pinned (OpenSpec.ofChange runBackSpec)

/-- ITS FALSE NEIGHBOUR: 'it returns false'. Refute it at one input. -/
def runBackWrong : ChangeSpec := { name := "runBack", fn := fun _ => fun
  | [d1, d2] => { results := [.lit (.bool false)], args := [d1, d2] }
  | _ => none }
def RunBackWrongFalsely : Prop := runBackRow.holds Try.pinned (OpenSpec.ofChange runBackWrong)

/-- 'variorumlaw07.RunBetween': WHATEVER THE INPUT: true; the input reads as it did. -/
def runBetweenSpec : ChangeSpec := { name := "runBetween", fn := fun _ => fun
  | [d1, d2] => { results := [.lit (.bool true)], args := [d1, d2] }
  | _ => none }
def runBetweenRow : OpenClaim := { program := "ytpmijaplkbmbiaa", sum := "21ce8c0984d7c2448fb5c2f8f3a5defc0f69a670d1df01202b764ad4cf9c8e1e", func := "variorum/variorumlaw07.RunBetween", spec := "runBetween", inPlace := ["internal/abi.NoEscape", "internal/bytealg.MakeNoZero"], unfollowed := true, recurses := true, apart := false }
def RunBetweenSaid : Prop := runBetweenRow.holds Try.pinned (OpenSpec.ofChange runBetweenSpec)

/-- ITS FALSE NEIGHBOUR: 'it returns false'. Refute it at one input. -/
def runBetweenWrong : ChangeSpec := { name := "runBetween", fn := fun _ => fun
  | [d1, d2] => { results := [.lit (.bool false)], args := [d1, d2] }
  | _ => none }
def RunBetweenWrongFalsely : Prop := runBetweenRow.holds Try.pinned (OpenSpec.ofChange runBetweenWrong)

/-- 'variorumlaw07.RunFolds': WHATEVER THE INPUT: true; the input reads as it did. -/
def runFoldsSpec : ChangeSpec := { name := "runFolds", fn := fun _ => fun
  | [d1, d2, d3] => { results := [.lit (.bool true)], args := [d1, d2, d3] }
  | _ => none }
def runFoldsRow : OpenClaim := { program := "ytpmijaplkbmbiaa", sum := "21ce8c0984d7c2448fb5c2f8f3a5defc0f69a670d1df01202b764ad4cf9c8e1e", func := "variorum/variorumlaw07.RunFolds", spec := "runFolds", inPlace := ["internal/abi.NoEscape", "internal/bytealg.MakeNoZero"], unfollowed := true, recurses := true, apart := false }
def RunFoldsSaid : Prop := runFoldsRow.holds Try.pinned (OpenSpec.ofChange runFoldsSpec)

/-- ITS FALSE NEIGHBOUR: 'it returns false'. Refute it at one input. -/
def runFoldsWrong : ChangeSpec := { name := "runFolds", fn := fun _ => fun
  | [d1, d2, d3] => { results := [.lit (.bool false)], args := [d1, d2, d3] }
  | _ => none }
def RunFoldsWrongFalsely : Prop := runFoldsRow.holds Try.pinned (OpenSpec.ofChange runFoldsWrong)

/-- 'variorumlaw08.ComposeTwo': WHATEVER THE INPUT: true; the input reads as it did. -/
def composeTwoSpec : ChangeSpec := { name := "composeTwo", fn := fun _ => fun
  | [d1, d2] => { results := [.lit (.bool true)], args := [d1, d2] }
  | _ => none }
def composeTwoRow : OpenClaim := { program := "ytpmijaplkbmbiaa", sum := "21ce8c0984d7c2448fb5c2f8f3a5defc0f69a670d1df01202b764ad4cf9c8e1e", func := "variorum/variorumlaw08.ComposeTwo", spec := "composeTwo", inPlace := ["internal/abi.NoEscape", "internal/bytealg.MakeNoZero"], unfollowed := true, recurses := true, apart := false }
def ComposeTwoSaid : Prop := composeTwoRow.holds Try.pinned (OpenSpec.ofChange composeTwoSpec)

/-- ITS FALSE NEIGHBOUR: 'it returns false'. Refute it at one input. -/
def composeTwoWrong : ChangeSpec := { name := "composeTwo", fn := fun _ => fun
  | [d1, d2] => { results := [.lit (.bool false)], args := [d1, d2] }
  | _ => none }
def ComposeTwoWrongFalsely : Prop := composeTwoRow.holds Try.pinned (OpenSpec.ofChange composeTwoWrong)

/-- 'variorumlaw08.ComposeAll': WHATEVER THE INPUT: true; the input reads as it did. -/
def composeAllSpec : ChangeSpec := { name := "composeAll", fn := fun _ => fun
  | [d1, d2] => { results := [.lit (.bool true)], args := [d1, d2] }
  | _ => none }
def composeAllRow : OpenClaim := { program := "ytpmijaplkbmbiaa", sum := "21ce8c0984d7c2448fb5c2f8f3a5defc0f69a670d1df01202b764ad4cf9c8e1e", func := "variorum/variorumlaw08.ComposeAll", spec := "composeAll", inPlace := ["internal/abi.NoEscape", "internal/bytealg.MakeNoZero"], unfollowed := true, recurses := true, apart := false }
def ComposeAllSaid : Prop := composeAllRow.holds Try.pinned (OpenSpec.ofChange composeAllSpec)

/-- ITS FALSE NEIGHBOUR: 'it returns false'. Refute it at one input. -/
def composeAllWrong : ChangeSpec := { name := "composeAll", fn := fun _ => fun
  | [d1, d2] => { results := [.lit (.bool false)], args := [d1, d2] }
  | _ => none }
def ComposeAllWrongFalsely : Prop := composeAllRow.holds Try.pinned (OpenSpec.ofChange composeAllWrong)

/-- 'variorumlaw08.ComposeApplies': WHATEVER THE INPUT: true; the input reads as it did. -/
def composeAppliesSpec : ChangeSpec := { name := "composeApplies", fn := fun _ => fun
  | [d1, d2, d3] => { results := [.lit (.bool true)], args := [d1, d2, d3] }
  | _ => none }
def composeAppliesRow : OpenClaim := { program := "ytpmijaplkbmbiaa", sum := "21ce8c0984d7c2448fb5c2f8f3a5defc0f69a670d1df01202b764ad4cf9c8e1e", func := "variorum/variorumlaw08.ComposeApplies", spec := "composeApplies", inPlace := ["internal/abi.NoEscape", "internal/bytealg.MakeNoZero"], unfollowed := true, recurses := true, apart := false }
def ComposeAppliesSaid : Prop := composeAppliesRow.holds Try.pinned (OpenSpec.ofChange composeAppliesSpec)

/-- ITS FALSE NEIGHBOUR: 'it returns false'. Refute it at one input. -/
def composeAppliesWrong : ChangeSpec := { name := "composeApplies", fn := fun _ => fun
  | [d1, d2, d3] => { results := [.lit (.bool false)], args := [d1, d2, d3] }
  | _ => none }
def ComposeAppliesWrongFalsely : Prop := composeAppliesRow.holds Try.pinned (OpenSpec.ofChange composeAppliesWrong)

/-- 'variorumlaw08.ComposeThree': WHATEVER THE INPUT: true; the input reads as it did. -/
def composeThreeSpec : ChangeSpec := { name := "composeThree", fn := fun _ => fun
  | [d1, d2, d3, d4] => { results := [.lit (.bool true)], args := [d1, d2, d3, d4] }
  | _ => none }
def composeThreeRow : OpenClaim := { program := "ytpmijaplkbmbiaa", sum := "21ce8c0984d7c2448fb5c2f8f3a5defc0f69a670d1df01202b764ad4cf9c8e1e", func := "variorum/variorumlaw08.ComposeThree", spec := "composeThree", inPlace := ["internal/abi.NoEscape", "internal/bytealg.MakeNoZero"], unfollowed := true, recurses := true, apart := false }
def ComposeThreeSaid : Prop := composeThreeRow.holds Try.pinned (OpenSpec.ofChange composeThreeSpec)

/-- ITS FALSE NEIGHBOUR: 'it returns false'. Refute it at one input. -/
def composeThreeWrong : ChangeSpec := { name := "composeThree", fn := fun _ => fun
  | [d1, d2, d3, d4] => { results := [.lit (.bool false)], args := [d1, d2, d3, d4] }
  | _ => none }
def ComposeThreeWrongFalsely : Prop := composeThreeRow.holds Try.pinned (OpenSpec.ofChange composeThreeWrong)

/- THE SECOND FORM. 'bulk': how many values and letters a reading holds, each counted each time it is reached (what is shared counts as often as it is met; a slice's spare places count too). A statement '..UptoSaid' is the law's where the arguments, and the package variables that the reading takes, are together of bulk at most 1048576: NARROWER than '..Said'. Prove '..Said' where nothing that the law and all that it calls make is longer than what came in: it says more and counts as full. Else prove '..UptoSaid'. A law counts once. -/
mutual
def uptoBulk {H : Type} : DataW H → Nat
  | .lit (.string bytes) => bytes.length + 1
  | .lit _ => 1
  | .nil => 1
  | .ptr d => uptoBulk d + 1
  | .slice elems spare => uptoBulkAll elems + uptoBulkAll spare + 1
  | .agg parts => uptoBulkAll parts + 1
  | .iface _ d => uptoBulk d + 1
  | .map entries => uptoBulkEntries entries + 1
  | .held _ => 1
def uptoBulkAll {H : Type} : List (DataW H) → Nat
  | [] => 0
  | d :: r => uptoBulk d + uptoBulkAll r
def uptoBulkEntries {H : Type} : List (Lit × DataW H) → Nat
  | [] => 0
  | x :: r => uptoBulkEntry x + uptoBulkEntries r
def uptoBulkEntry {H : Type} : Lit × DataW H → Nat
  | (.string bytes, d) => bytes.length + uptoBulk d + 1
  | (_, d) => uptoBulk d + 1
 end
def uptoSmall : (H : Type) → List (DataW H) → Bool := fun _ ds => decide (uptoBulkAll ds ≤ 1048576)
def OpenSpec.upto (s : _root_.Go.ChangeSpec) : _root_.Go.OpenSpec := { _root_.Go.OpenSpec.ofChange s with cond := some uptoSmall }

/-- 'variorumlaw04.PiecePlays', WHERE WHAT IT READS IS OF BULK AT MOST 1048576: true; the input reads as it did. -/
def piecePlaysUptoRow : OpenClaim := { program := "ytpmijaplkbmbiaa", sum := "21ce8c0984d7c2448fb5c2f8f3a5defc0f69a670d1df01202b764ad4cf9c8e1e", func := "variorum/variorumlaw04.PiecePlays", spec := "piecePlays", inPlace := ["slices.overlaps[string]", "internal/abi.NoEscape", "internal/bytealg.MakeNoZero"], unfollowed := true, recurses := true, apart := false, narrowed := true }
def PiecePlaysUptoSaid : Prop := piecePlaysUptoRow.holds Try.pinned (OpenSpec.upto piecePlaysSpec)

/-- 'variorumlaw04.PieceSlices', WHERE WHAT IT READS IS OF BULK AT MOST 1048576: true; the input reads as it did. -/
def pieceSlicesUptoRow : OpenClaim := { program := "ytpmijaplkbmbiaa", sum := "21ce8c0984d7c2448fb5c2f8f3a5defc0f69a670d1df01202b764ad4cf9c8e1e", func := "variorum/variorumlaw04.PieceSlices", spec := "pieceSlices", inPlace := ["slices.overlaps[string]", "internal/abi.NoEscape", "internal/bytealg.MakeNoZero"], unfollowed := true, recurses := true, apart := false, narrowed := true }
def PieceSlicesUptoSaid : Prop := pieceSlicesUptoRow.holds Try.pinned (OpenSpec.upto pieceSlicesSpec)

/-- 'variorumlaw04.PieceBack', WHERE WHAT IT READS IS OF BULK AT MOST 1048576: true; the input reads as it did. -/
def pieceBackUptoRow : OpenClaim := { program := "ytpmijaplkbmbiaa", sum := "21ce8c0984d7c2448fb5c2f8f3a5defc0f69a670d1df01202b764ad4cf9c8e1e", func := "variorum/variorumlaw04.PieceBack", spec := "pieceBack", inPlace := ["slices.overlaps[string]", "internal/abi.NoEscape", "internal/bytealg.MakeNoZero"], unfollowed := true, recurses := true, apart := false, narrowed := true }
def PieceBackUptoSaid : Prop := pieceBackUptoRow.holds Try.pinned (OpenSpec.upto pieceBackSpec)

/-- 'variorumlaw04.PieceClones', WHERE WHAT IT READS IS OF BULK AT MOST 1048576: true; the input reads as it did. -/
def pieceClonesUptoRow : OpenClaim := { program := "ytpmijaplkbmbiaa", sum := "21ce8c0984d7c2448fb5c2f8f3a5defc0f69a670d1df01202b764ad4cf9c8e1e", func := "variorum/variorumlaw04.PieceClones", spec := "pieceClones", inPlace := ["slices.overlaps[string]", "internal/abi.NoEscape", "internal/bytealg.MakeNoZero"], unfollowed := true, recurses := true, apart := false, narrowed := true }
def PieceClonesUptoSaid : Prop := pieceClonesUptoRow.holds Try.pinned (OpenSpec.upto pieceClonesSpec)

/-- 'variorumlaw04.PieceNobody', WHERE WHAT IT READS IS OF BULK AT MOST 1048576: true; the input reads as it did. -/
def pieceNobodyUptoRow : OpenClaim := { program := "ytpmijaplkbmbiaa", sum := "21ce8c0984d7c2448fb5c2f8f3a5defc0f69a670d1df01202b764ad4cf9c8e1e", func := "variorum/variorumlaw04.PieceNobody", spec := "pieceNobody", inPlace := ["internal/abi.NoEscape", "internal/bytealg.MakeNoZero", "slices.overlaps[string]"], unfollowed := true, recurses := true, apart := false, narrowed := true }
def PieceNobodyUptoSaid : Prop := pieceNobodyUptoRow.holds Try.pinned (OpenSpec.upto pieceNobodySpec)

/-- 'variorumlaw05.LinesPlay', WHERE WHAT IT READS IS OF BULK AT MOST 1048576: true; the input reads as it did. -/
def linesPlayUptoRow : OpenClaim := { program := "ytpmijaplkbmbiaa", sum := "21ce8c0984d7c2448fb5c2f8f3a5defc0f69a670d1df01202b764ad4cf9c8e1e", func := "variorum/variorumlaw05.LinesPlay", spec := "linesPlay", inPlace := ["internal/bytealg.CountString", "internal/bytealg.IndexByteString", "internal/bytealg.IndexString", "slices.overlaps[int]"], unfollowed := true, recurses := true, named := ["internal/bytealg.MaxLen"], apart := false, narrowed := true }
def LinesPlayUptoSaid : Prop := linesPlayUptoRow.holds Try.pinned (OpenSpec.upto linesPlaySpec)

/-- 'variorumlaw05.LinesBack', WHERE WHAT IT READS IS OF BULK AT MOST 1048576: true; the input reads as it did. -/
def linesBackUptoRow : OpenClaim := { program := "ytpmijaplkbmbiaa", sum := "21ce8c0984d7c2448fb5c2f8f3a5defc0f69a670d1df01202b764ad4cf9c8e1e", func := "variorum/variorumlaw05.LinesBack", spec := "linesBack", inPlace := ["internal/bytealg.CountString", "internal/bytealg.IndexByteString", "internal/bytealg.IndexString", "slices.overlaps[int]"], unfollowed := true, recurses := true, named := ["internal/bytealg.MaxLen"], apart := false, narrowed := true }
def LinesBackUptoSaid : Prop := linesBackUptoRow.holds Try.pinned (OpenSpec.upto linesBackSpec)

/-- 'variorumlaw05.LinesClones', WHERE WHAT IT READS IS OF BULK AT MOST 1048576: true; the input reads as it did. -/
def linesClonesUptoRow : OpenClaim := { program := "ytpmijaplkbmbiaa", sum := "21ce8c0984d7c2448fb5c2f8f3a5defc0f69a670d1df01202b764ad4cf9c8e1e", func := "variorum/variorumlaw05.LinesClones", spec := "linesClones", inPlace := ["internal/bytealg.CountString", "internal/bytealg.IndexByteString", "internal/bytealg.IndexString", "slices.overlaps[int]"], unfollowed := true, recurses := true, named := ["internal/bytealg.MaxLen"], apart := false, narrowed := true }
def LinesClonesUptoSaid : Prop := linesClonesUptoRow.holds Try.pinned (OpenSpec.upto linesClonesSpec)

/-- 'variorumlaw05.LinesNobody', WHERE WHAT IT READS IS OF BULK AT MOST 1048576: true; the input reads as it did. -/
def linesNobodyUptoRow : OpenClaim := { program := "ytpmijaplkbmbiaa", sum := "21ce8c0984d7c2448fb5c2f8f3a5defc0f69a670d1df01202b764ad4cf9c8e1e", func := "variorum/variorumlaw05.LinesNobody", spec := "linesNobody", inPlace := ["internal/bytealg.CountString", "internal/bytealg.IndexByteString", "internal/bytealg.IndexString", "slices.overlaps[int]"], unfollowed := true, recurses := true, named := ["internal/bytealg.MaxLen"], apart := false, narrowed := true }
def LinesNobodyUptoSaid : Prop := linesNobodyUptoRow.holds Try.pinned (OpenSpec.upto linesNobodySpec)

/-- 'variorumlaw06.EditTells', WHERE WHAT IT READS IS OF BULK AT MOST 1048576: true; the input reads as it did. -/
def editTellsUptoRow : OpenClaim := { program := "ytpmijaplkbmbiaa", sum := "21ce8c0984d7c2448fb5c2f8f3a5defc0f69a670d1df01202b764ad4cf9c8e1e", func := "variorum/variorumlaw06.EditTells", spec := "editTells", inPlace := ["internal/abi.NoEscape", "internal/bytealg.MakeNoZero"], unfollowed := true, recurses := true, apart := false, narrowed := true }
def EditTellsUptoSaid : Prop := editTellsUptoRow.holds Try.pinned (OpenSpec.upto editTellsSpec)

/-- 'variorumlaw06.EditMakes', WHERE WHAT IT READS IS OF BULK AT MOST 1048576: true; the input reads as it did. -/
def editMakesUptoRow : OpenClaim := { program := "ytpmijaplkbmbiaa", sum := "21ce8c0984d7c2448fb5c2f8f3a5defc0f69a670d1df01202b764ad4cf9c8e1e", func := "variorum/variorumlaw06.EditMakes", spec := "editMakes", inPlace := ["internal/abi.NoEscape", "internal/bytealg.MakeNoZero"], unfollowed := true, recurses := true, apart := false, narrowed := true }
def EditMakesUptoSaid : Prop := editMakesUptoRow.holds Try.pinned (OpenSpec.upto editMakesSpec)

/-- 'variorumlaw06.EditNorms', WHERE WHAT IT READS IS OF BULK AT MOST 1048576: true; the input reads as it did. -/
def editNormsUptoRow : OpenClaim := { program := "ytpmijaplkbmbiaa", sum := "21ce8c0984d7c2448fb5c2f8f3a5defc0f69a670d1df01202b764ad4cf9c8e1e", func := "variorum/variorumlaw06.EditNorms", spec := "editNorms", inPlace := ["internal/abi.NoEscape", "internal/bytealg.MakeNoZero"], unfollowed := true, recurses := true, apart := false, narrowed := true }
def EditNormsUptoSaid : Prop := editNormsUptoRow.holds Try.pinned (OpenSpec.upto editNormsSpec)

/-- 'variorumlaw07.RunApplies', WHERE WHAT IT READS IS OF BULK AT MOST 1048576: true; the input reads as it did. -/
def runAppliesUptoRow : OpenClaim := { program := "ytpmijaplkbmbiaa", sum := "21ce8c0984d7c2448fb5c2f8f3a5defc0f69a670d1df01202b764ad4cf9c8e1e", func := "variorum/variorumlaw07.RunApplies", spec := "runApplies", inPlace := ["internal/abi.NoEscape", "internal/bytealg.MakeNoZero", "slices.overlaps[string]"], unfollowed := true, recurses := true, apart := false, narrowed := true }
def RunAppliesUptoSaid : Prop := runAppliesUptoRow.holds Try.pinned (OpenSpec.upto runAppliesSpec)

/-- 'variorumlaw07.RunBack', WHERE WHAT IT READS IS OF BULK AT MOST 1048576: true; the input reads as it did. -/
def runBackUptoRow : OpenClaim := { program := "ytpmijaplkbmbiaa", sum := "21ce8c0984d7c2448fb5c2f8f3a5defc0f69a670d1df01202b764ad4cf9c8e1e", func := "variorum/variorumlaw07.RunBack", spec := "runBack", inPlace := ["internal/abi.NoEscape", "internal/bytealg.MakeNoZero"], unfollowed := true, recurses := true, apart := false, narrowed := true }
def RunBackUptoSaid : Prop := runBackUptoRow.holds Try.pinned (OpenSpec.upto runBackSpec)

/-- 'variorumlaw07.RunBetween', WHERE WHAT IT READS IS OF BULK AT MOST 1048576: true; the input reads as it did. -/
def runBetweenUptoRow : OpenClaim := { program := "ytpmijaplkbmbiaa", sum := "21ce8c0984d7c2448fb5c2f8f3a5defc0f69a670d1df01202b764ad4cf9c8e1e", func := "variorum/variorumlaw07.RunBetween", spec := "runBetween", inPlace := ["internal/abi.NoEscape", "internal/bytealg.MakeNoZero"], unfollowed := true, recurses := true, apart := false, narrowed := true }
def RunBetweenUptoSaid : Prop := runBetweenUptoRow.holds Try.pinned (OpenSpec.upto runBetweenSpec)

/-- 'variorumlaw07.RunFolds', WHERE WHAT IT READS IS OF BULK AT MOST 1048576: true; the input reads as it did. -/
def runFoldsUptoRow : OpenClaim := { program := "ytpmijaplkbmbiaa", sum := "21ce8c0984d7c2448fb5c2f8f3a5defc0f69a670d1df01202b764ad4cf9c8e1e", func := "variorum/variorumlaw07.RunFolds", spec := "runFolds", inPlace := ["internal/abi.NoEscape", "internal/bytealg.MakeNoZero"], unfollowed := true, recurses := true, apart := false, narrowed := true }
def RunFoldsUptoSaid : Prop := runFoldsUptoRow.holds Try.pinned (OpenSpec.upto runFoldsSpec)

/-- 'variorumlaw08.ComposeTwo', WHERE WHAT IT READS IS OF BULK AT MOST 1048576: true; the input reads as it did. -/
def composeTwoUptoRow : OpenClaim := { program := "ytpmijaplkbmbiaa", sum := "21ce8c0984d7c2448fb5c2f8f3a5defc0f69a670d1df01202b764ad4cf9c8e1e", func := "variorum/variorumlaw08.ComposeTwo", spec := "composeTwo", inPlace := ["internal/abi.NoEscape", "internal/bytealg.MakeNoZero"], unfollowed := true, recurses := true, apart := false, narrowed := true }
def ComposeTwoUptoSaid : Prop := composeTwoUptoRow.holds Try.pinned (OpenSpec.upto composeTwoSpec)

/-- 'variorumlaw08.ComposeAll', WHERE WHAT IT READS IS OF BULK AT MOST 1048576: true; the input reads as it did. -/
def composeAllUptoRow : OpenClaim := { program := "ytpmijaplkbmbiaa", sum := "21ce8c0984d7c2448fb5c2f8f3a5defc0f69a670d1df01202b764ad4cf9c8e1e", func := "variorum/variorumlaw08.ComposeAll", spec := "composeAll", inPlace := ["internal/abi.NoEscape", "internal/bytealg.MakeNoZero"], unfollowed := true, recurses := true, apart := false, narrowed := true }
def ComposeAllUptoSaid : Prop := composeAllUptoRow.holds Try.pinned (OpenSpec.upto composeAllSpec)

/-- 'variorumlaw08.ComposeApplies', WHERE WHAT IT READS IS OF BULK AT MOST 1048576: true; the input reads as it did. -/
def composeAppliesUptoRow : OpenClaim := { program := "ytpmijaplkbmbiaa", sum := "21ce8c0984d7c2448fb5c2f8f3a5defc0f69a670d1df01202b764ad4cf9c8e1e", func := "variorum/variorumlaw08.ComposeApplies", spec := "composeApplies", inPlace := ["internal/abi.NoEscape", "internal/bytealg.MakeNoZero"], unfollowed := true, recurses := true, apart := false, narrowed := true }
def ComposeAppliesUptoSaid : Prop := composeAppliesUptoRow.holds Try.pinned (OpenSpec.upto composeAppliesSpec)

/-- 'variorumlaw08.ComposeThree', WHERE WHAT IT READS IS OF BULK AT MOST 1048576: true; the input reads as it did. -/
def composeThreeUptoRow : OpenClaim := { program := "ytpmijaplkbmbiaa", sum := "21ce8c0984d7c2448fb5c2f8f3a5defc0f69a670d1df01202b764ad4cf9c8e1e", func := "variorum/variorumlaw08.ComposeThree", spec := "composeThree", inPlace := ["internal/abi.NoEscape", "internal/bytealg.MakeNoZero"], unfollowed := true, recurses := true, apart := false, narrowed := true }
def ComposeThreeUptoSaid : Prop := composeThreeUptoRow.holds Try.pinned (OpenSpec.upto composeThreeSpec)

end Rows
end Go.Proofs.Ytpmijaplkbmbiaa
