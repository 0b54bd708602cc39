/-
  What slices.Clone answers at leaves and at slices of leaves (tables). Conditions: what came in reads.
-/
import Derived.Test.YtlljcdmblmkblaaGreatM9
import Derived.Lib.SliceRun
namespace Go.Proofs.YtlljcdmblmkblaaGreat
open Go.RowKit
set_option linter.unusedVariables false

end Go.Proofs.YtlljcdmblmkblaaGreat
