/-
  What the reference's At answers (layer 8). Conditions: the table reads; the place is an int.
-/
import Derived.Test.YtbpngpommgcogaaDoorB9
import Derived.Deep.MidRow
namespace Go.Proofs.YtbpngpommgcogaaDoor
open Go.RowKit
set_option linter.unusedVariables false
end Go.Proofs.YtbpngpommgcogaaDoor
