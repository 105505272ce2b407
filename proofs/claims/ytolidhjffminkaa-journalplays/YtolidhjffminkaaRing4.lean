/- The ring: what is skipped and taken. -/
import Derived.Test.YtolidhjffminkaaRing3
namespace Go.Proofs.Ytolidhjffminkaa
open Go.RowKit Go.By
set_option linter.unusedVariables false
end Go.Proofs.Ytolidhjffminkaa
