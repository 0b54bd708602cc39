/-
  What the reference's Size and BackShot answer (layers 12, 13). Conditions: the bitmaps read, short sets.
-/
import Derived.Test.YtipljkegmhclkaaSu
namespace Go.Proofs.Ytipljkegmhclkaa
open Go.RowKit
set_option linter.unusedVariables false

end Go.Proofs.Ytipljkegmhclkaa
