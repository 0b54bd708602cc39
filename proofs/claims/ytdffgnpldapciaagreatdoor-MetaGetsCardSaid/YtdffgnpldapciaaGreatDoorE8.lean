/-
  What the project's own May, Put and Get answer (package entry): the texts that show it, gathered. Conditions: none.
-/
import Derived.Test.YtdffgnpldapciaaGreatDoorM8
