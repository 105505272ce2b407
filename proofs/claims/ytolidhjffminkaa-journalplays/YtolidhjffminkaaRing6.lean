/- The ring: all of its elements, told as a slice of the call's own. -/
import Derived.Test.YtolidhjffminkaaRing5
namespace Go.Proofs.Ytolidhjffminkaa
open Go.RowKit Go.By Go.Shelf
set_option linter.unusedVariables false
attribute [local go_sem] Oper.semAt_some
end Go.Proofs.Ytolidhjffminkaa
