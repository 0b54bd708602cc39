/-
  DERIVED. GIVEN WITH THE SEED: THE CARDS: each row of YtondacmkgaabkaaDoorRows.lean that lists a variable, with what it lists TIED to the program's text (the seventh form; the later family's looks); each row that meets fmt, with fmt's text TOLD by the authors' own Lean function (tested against real Go, not proved from fmt's source: count such statements apart). THE CARD IS WHAT COUNTS. Prove the row's statement (the work); the ties are given (YtondacmkgaabkaaDoorTie.lean); close each card by the builder's one call (the guide's Derived/Test/ToyasCard.lean, 'card_holds'). Laid BY PROGRAM, IN A SANDBOX (cutbox-door.mjs). By AI agents, Wed Nov 11 2026. No macro, syntax, notation, axiom, sorry.
-/
import Derived.Test.YtondacmkgaabkaaDoorRows
import GoSem.ClaimSeven
namespace Go.Proofs.YtondacmkgaabkaaDoor
namespace Rows

/-- THE TIED CARD OF 'matryoshkalaw7.EntryPuts'. -/
def entryPutsCard : Claim7 := { stood := { row := entryPutsRow, standIns := [], harness := (true, "e0b7cfd3de9f31e07b616b5c378574e112246cc00a1ec29ffeb7ff8201922e66"), looks := false }, kinds := [], alts := [], laidByText := true, laidKinds := [.data], laidTests := true, laidLooks := .later }
def EntryPutsCardSaid : Prop := Claim7.holds Tryd.pinned (.plain (OpenSpec.ofChange entryPutsSpec)) entryPutsCard

/-- THE TIED CARD OF 'matryoshkalaw7.EntryGets'. -/
def entryGetsCard : Claim7 := { stood := { row := entryGetsRow, standIns := [], harness := (true, "e0b7cfd3de9f31e07b616b5c378574e112246cc00a1ec29ffeb7ff8201922e66"), looks := false }, kinds := [], alts := [], laidByText := true, laidKinds := [.data], laidTests := true, laidLooks := .later }
def EntryGetsCardSaid : Prop := Claim7.holds Tryd.pinned (.plain (OpenSpec.ofChange entryGetsSpec)) entryGetsCard

/-- THE TIED CARD OF 'matryoshkalaw7.EntryBack'. -/
def entryBackCard : Claim7 := { stood := { row := entryBackRow, standIns := [], harness := (true, "e0b7cfd3de9f31e07b616b5c378574e112246cc00a1ec29ffeb7ff8201922e66"), looks := false }, kinds := [], alts := [], laidByText := true, laidKinds := [.data], laidTests := true, laidLooks := .later }
def EntryBackCardSaid : Prop := Claim7.holds Tryd.pinned (.plain (OpenSpec.ofChange entryBackSpec)) entryBackCard

/-- THE TIED CARD OF 'matryoshkalaw7.EntryBytes'. -/
def entryBytesCard : Claim7 := { stood := { row := entryBytesRow, standIns := [], harness := (true, "e0b7cfd3de9f31e07b616b5c378574e112246cc00a1ec29ffeb7ff8201922e66"), looks := false }, kinds := [], alts := [], laidByText := true, laidKinds := [.data], laidTests := true, laidLooks := .later }
def EntryBytesCardSaid : Prop := Claim7.holds Tryd.pinned (.plain (OpenSpec.ofChange entryBytesSpec)) entryBytesCard

/-- THE TIED CARD OF 'matryoshkalaw7.EntryEnds'. -/
def entryEndsCard : Claim7 := { stood := { row := entryEndsRow, standIns := [], harness := (true, "e0b7cfd3de9f31e07b616b5c378574e112246cc00a1ec29ffeb7ff8201922e66"), looks := false }, kinds := [], alts := [], laidByText := true, laidKinds := [.data], laidTests := true, laidLooks := .later }
def EntryEndsCardSaid : Prop := Claim7.holds Tryd.pinned (.plain (OpenSpec.ofChange entryEndsSpec)) entryEndsCard

/-- THE SECOND FORM's CARD OF 'matryoshkalaw7.EntryPuts'. -/
def entryPutsUptoCard : Claim7 := { stood := { row := entryPutsUptoRow, standIns := [], harness := (true, "e0b7cfd3de9f31e07b616b5c378574e112246cc00a1ec29ffeb7ff8201922e66"), looks := false }, kinds := [], alts := [], laidByText := true, laidKinds := [.data], laidTests := true, laidLooks := .later }
def EntryPutsUptoCardSaid : Prop := Claim7.holds Tryd.pinned (.plain (OpenSpec.upto entryPutsSpec)) entryPutsUptoCard

/-- THE SECOND FORM's CARD OF 'matryoshkalaw7.EntryGets'. -/
def entryGetsUptoCard : Claim7 := { stood := { row := entryGetsUptoRow, standIns := [], harness := (true, "e0b7cfd3de9f31e07b616b5c378574e112246cc00a1ec29ffeb7ff8201922e66"), looks := false }, kinds := [], alts := [], laidByText := true, laidKinds := [.data], laidTests := true, laidLooks := .later }
def EntryGetsUptoCardSaid : Prop := Claim7.holds Tryd.pinned (.plain (OpenSpec.upto entryGetsSpec)) entryGetsUptoCard

/-- THE SECOND FORM's CARD OF 'matryoshkalaw7.EntryBack'. -/
def entryBackUptoCard : Claim7 := { stood := { row := entryBackUptoRow, standIns := [], harness := (true, "e0b7cfd3de9f31e07b616b5c378574e112246cc00a1ec29ffeb7ff8201922e66"), looks := false }, kinds := [], alts := [], laidByText := true, laidKinds := [.data], laidTests := true, laidLooks := .later }
def EntryBackUptoCardSaid : Prop := Claim7.holds Tryd.pinned (.plain (OpenSpec.upto entryBackSpec)) entryBackUptoCard

/-- THE SECOND FORM's CARD OF 'matryoshkalaw7.EntryBytes'. -/
def entryBytesUptoCard : Claim7 := { stood := { row := entryBytesUptoRow, standIns := [], harness := (true, "e0b7cfd3de9f31e07b616b5c378574e112246cc00a1ec29ffeb7ff8201922e66"), looks := false }, kinds := [], alts := [], laidByText := true, laidKinds := [.data], laidTests := true, laidLooks := .later }
def EntryBytesUptoCardSaid : Prop := Claim7.holds Tryd.pinned (.plain (OpenSpec.upto entryBytesSpec)) entryBytesUptoCard

/-- THE SECOND FORM's CARD OF 'matryoshkalaw7.EntryEnds'. -/
def entryEndsUptoCard : Claim7 := { stood := { row := entryEndsUptoRow, standIns := [], harness := (true, "e0b7cfd3de9f31e07b616b5c378574e112246cc00a1ec29ffeb7ff8201922e66"), looks := false }, kinds := [], alts := [], laidByText := true, laidKinds := [.data], laidTests := true, laidLooks := .later }
def EntryEndsUptoCardSaid : Prop := Claim7.holds Tryd.pinned (.plain (OpenSpec.upto entryEndsSpec)) entryEndsUptoCard
end Rows
end Go.Proofs.YtondacmkgaabkaaDoor
