/-
  What the project's shots.Find answers (12.2). Conditions: the meta reads.
-/
import Derived.Test.YtipljkegmhclkaaSh
namespace Go.Proofs.Ytipljkegmhclkaa
open Go.RowKit
set_option linter.unusedVariables false

end Go.Proofs.Ytipljkegmhclkaa
