/-
  DERIVED. GIVEN WITH THE SEED: THE CARDS: each row of YtdffgnpldapciaaGreatDoorRows.lean that lists a variable, with what it lists TIED to the program's text (the seventh form; the later family's looks); each row that meets fmt, with fmt's text TOLD by the authors' own Lean function (tested against real Go, not proved from fmt's source: count such statements apart). THE CARD IS WHAT COUNTS. Prove the row's statement (the work); the ties are given (YtdffgnpldapciaaGreatDoorTie.lean); close each card by the builder's one call (the guide's Derived/Test/ToyasCard.lean, 'card_holds'). Laid BY PROGRAM, IN A SANDBOX (cutbox-door.mjs). By AI agents, Wed Nov 11 2026. No macro, syntax, notation, axiom, sorry.
-/
import Derived.Test.YtdffgnpldapciaaGreatDoorRows
import GoSem.ClaimSeven
namespace Go.Proofs.YtdffgnpldapciaaGreatDoor
namespace Rows

/-- THE TIED CARD OF 'matryoshkalaw14.MetaGets'. -/
def metaGetsCard : Claim7 := { stood := { row := metaGetsRow, standIns := [], harness := (true, "6d5e68f9659620f39b9b6aff3ca65ea217811282e8343fd88265126ba387a08c"), looks := false }, kinds := [], alts := [], laidByText := true, laidKinds := [.data], laidTests := true, laidLooks := .later }
def MetaGetsCardSaid : Prop := Claim7.holds Tryz.pinned (.plain (OpenSpec.ofChange metaGetsSpec)) metaGetsCard

/-- THE SECOND FORM's CARD OF 'matryoshkalaw14.MetaGets'. -/
def metaGetsUptoCard : Claim7 := { stood := { row := metaGetsUptoRow, standIns := [], harness := (true, "6d5e68f9659620f39b9b6aff3ca65ea217811282e8343fd88265126ba387a08c"), looks := false }, kinds := [], alts := [], laidByText := true, laidKinds := [.data], laidTests := true, laidLooks := .later }
def MetaGetsUptoCardSaid : Prop := Claim7.holds Tryz.pinned (.plain (OpenSpec.upto metaGetsSpec)) metaGetsUptoCard
end Rows
end Go.Proofs.YtdffgnpldapciaaGreatDoor
