/- A statement whose order Go leaves open, outside a round. No program is named here. -/
import Derived.Test.YtpmijaplkbmbiaaUR
namespace Go.By
open Go.RowKit
set_option linter.unusedVariables false
theorem heldS_startP {P : Program} {ops : Array Oper} {Q : Exit → Act → World → Prop} {S : World → Prop} {id : Nat} {a : Act} {w : World} (hm : P.follows .mixedOrders = true)
    (h : HeldS P .any ops Q S ops.size (Array.replicate ops.size false) a w.drew) : (Code.region id ops true).wp P Q a w :=
  wp_region_held hm h.2
end Go.By
