/-
  No cell of these rows narrows 'for every input' (looked for: loops, veiled, ifaces, maps, wideKeys, modest, calm, conditions, laid).
  DERIVED. THE GIVEN ROWS OF THIS SEAT. 10 by the template 'for every input the law returns true; each argument reads behind the call as it read before'; 0 by the template 'total and deterministic' (their statements: YtjaaieamlgghhaaTotals.lean).
  GIVEN WITH THE SEED: the statements are not yours to turn. If you find one false, say at which input.
  Laid BY PROGRAM, IN A SANDBOX (cutbox-rows.mjs): the forced cells as the released guide's own fill.sh prints them over the translation f8084785d8159fc0… (all of the seat's roots in one cut). By AI agents, Wed Nov 11 2026. No macro, syntax, notation, axiom, sorry.
-/
import Derived.Test.YtjaaieamlgghhaaChecked
import GoSem.Claim
import GoSem.ClaimJoined
import GoSem.ClaimMapViews
import Derived.JoinedTies
import Derived.KernelRfl
namespace Go.Proofs.Ytjaaieamlgghhaa
/- THE CELL 'sum', in the pinned program and in every row, IS THE sha256 OF THE DUMP (.gsa) THAT YtjaaieamlgghhaaProg.lean LOADS. Nothing in Lean hashes anything: it is a label: what it is worth is what the hold of that sum in a sandbox is worth. -/
noncomputable def Try.pinned : Pinned := { name := "ytjaaieamlgghhaa", sum := "f8084785d8159fc098db2cea2430345b5ee1a44575ee6dd7ab992e1319470f7c", checked := Try.checked }
namespace Rows
def none {H : Type} : Left H := { results := [], args := [] }

/-- 'matryoshkalaw12.ShotTurns': WHATEVER THE INPUT: true; the input reads as it did. -/
def shotTurnsSpec : ChangeSpec := { name := "shotTurns", fn := fun _ => fun
  | [d1, d2] => { results := [.lit (.bool true)], args := [d1, d2] }
  | _ => none }
def shotTurnsRow : OpenClaim := { program := "ytjaaieamlgghhaa", sum := "f8084785d8159fc098db2cea2430345b5ee1a44575ee6dd7ab992e1319470f7c", func := "matryoshka/matryoshkalaw12.ShotTurns", spec := "shotTurns", unfollowed := true, recurses := true, apart := false }
def ShotTurnsSaid : Prop := shotTurnsRow.holds Try.pinned (OpenSpec.ofChange shotTurnsSpec)

/-- ITS FALSE NEIGHBOUR: 'it returns false'. Refute it at one input. -/
def shotTurnsWrong : ChangeSpec := { name := "shotTurns", fn := fun _ => fun
  | [d1, d2] => { results := [.lit (.bool false)], args := [d1, d2] }
  | _ => none }
def ShotTurnsWrongFalsely : Prop := shotTurnsRow.holds Try.pinned (OpenSpec.ofChange shotTurnsWrong)

/-- 'matryoshkalaw12.ShotBack': WHATEVER THE INPUT: true; the input reads as it did. -/
def shotBackSpec : ChangeSpec := { name := "shotBack", fn := fun _ => fun
  | [d1, d2, d3] => { results := [.lit (.bool true)], args := [d1, d2, d3] }
  | _ => none }
def shotBackRow : OpenClaim := { program := "ytjaaieamlgghhaa", sum := "f8084785d8159fc098db2cea2430345b5ee1a44575ee6dd7ab992e1319470f7c", func := "matryoshka/matryoshkalaw12.ShotBack", spec := "shotBack", unfollowed := true, recurses := true, apart := false }
def ShotBackSaid : Prop := shotBackRow.holds Try.pinned (OpenSpec.ofChange shotBackSpec)

/-- ITS FALSE NEIGHBOUR: 'it returns false'. Refute it at one input. -/
def shotBackWrong : ChangeSpec := { name := "shotBack", fn := fun _ => fun
  | [d1, d2, d3] => { results := [.lit (.bool false)], args := [d1, d2, d3] }
  | _ => none }
def ShotBackWrongFalsely : Prop := shotBackRow.holds Try.pinned (OpenSpec.ofChange shotBackWrong)

/-- 'matryoshkalaw12.ShotApart': WHATEVER THE INPUT: true; the input reads as it did. -/
def shotApartSpec : ChangeSpec := { name := "shotApart", fn := fun _ => fun
  | [d] => { results := [.lit (.bool true)], args := [d] }
  | _ => none }
def shotApartRow : OpenClaim := { program := "ytjaaieamlgghhaa", sum := "f8084785d8159fc098db2cea2430345b5ee1a44575ee6dd7ab992e1319470f7c", func := "matryoshka/matryoshkalaw12.ShotApart", spec := "shotApart", unfollowed := true, recurses := true, apart := false }
def ShotApartSaid : Prop := shotApartRow.holds Try.pinned (OpenSpec.ofChange shotApartSpec)

/-- ITS FALSE NEIGHBOUR: 'it returns false'. Refute it at one input. -/
def shotApartWrong : ChangeSpec := { name := "shotApart", fn := fun _ => fun
  | [d] => { results := [.lit (.bool false)], args := [d] }
  | _ => none }
def ShotApartWrongFalsely : Prop := shotApartRow.holds Try.pinned (OpenSpec.ofChange shotApartWrong)

/-- 'matryoshkalaw12.ShotDrops': WHATEVER THE INPUT: true; the input reads as it did. -/
def shotDropsSpec : ChangeSpec := { name := "shotDrops", fn := fun _ => fun
  | [d1, d2] => { results := [.lit (.bool true)], args := [d1, d2] }
  | _ => none }
def shotDropsRow : OpenClaim := { program := "ytjaaieamlgghhaa", sum := "f8084785d8159fc098db2cea2430345b5ee1a44575ee6dd7ab992e1319470f7c", func := "matryoshka/matryoshkalaw12.ShotDrops", spec := "shotDrops", unfollowed := true, recurses := true, apart := false }
def ShotDropsSaid : Prop := shotDropsRow.holds Try.pinned (OpenSpec.ofChange shotDropsSpec)

/-- ITS FALSE NEIGHBOUR: 'it returns false'. Refute it at one input. -/
def shotDropsWrong : ChangeSpec := { name := "shotDrops", fn := fun _ => fun
  | [d1, d2] => { results := [.lit (.bool false)], args := [d1, d2] }
  | _ => none }
def ShotDropsWrongFalsely : Prop := shotDropsRow.holds Try.pinned (OpenSpec.ofChange shotDropsWrong)

/-- 'matryoshkalaw13.MapTurns': WHATEVER THE INPUT: true; the input reads as it did. -/
def mapTurnsSpec : ChangeSpec := { name := "mapTurns", fn := fun _ => fun
  | [d1, d2, d3, d4] => { results := [.lit (.bool true)], args := [d1, d2, d3, d4] }
  | _ => none }
def mapTurnsRow : OpenClaim := { program := "ytjaaieamlgghhaa", sum := "f8084785d8159fc098db2cea2430345b5ee1a44575ee6dd7ab992e1319470f7c", func := "matryoshka/matryoshkalaw13.MapTurns", spec := "mapTurns", unfollowed := true, recurses := true, apart := false }
def MapTurnsSaid : Prop := mapTurnsRow.holds Try.pinned (OpenSpec.ofChange mapTurnsSpec)

/-- ITS FALSE NEIGHBOUR: 'it returns false'. Refute it at one input. -/
def mapTurnsWrong : ChangeSpec := { name := "mapTurns", fn := fun _ => fun
  | [d1, d2, d3, d4] => { results := [.lit (.bool false)], args := [d1, d2, d3, d4] }
  | _ => none }
def MapTurnsWrongFalsely : Prop := mapTurnsRow.holds Try.pinned (OpenSpec.ofChange mapTurnsWrong)

/-- 'matryoshkalaw13.MapTouches': WHATEVER THE INPUT: true; the input reads as it did. -/
def mapTouchesSpec : ChangeSpec := { name := "mapTouches", fn := fun _ => fun
  | [d1, d2, d3, d4] => { results := [.lit (.bool true)], args := [d1, d2, d3, d4] }
  | _ => none }
def mapTouchesRow : OpenClaim := { program := "ytjaaieamlgghhaa", sum := "f8084785d8159fc098db2cea2430345b5ee1a44575ee6dd7ab992e1319470f7c", func := "matryoshka/matryoshkalaw13.MapTouches", spec := "mapTouches", unfollowed := true, recurses := true, apart := false }
def MapTouchesSaid : Prop := mapTouchesRow.holds Try.pinned (OpenSpec.ofChange mapTouchesSpec)

/-- ITS FALSE NEIGHBOUR: 'it returns false'. Refute it at one input. -/
def mapTouchesWrong : ChangeSpec := { name := "mapTouches", fn := fun _ => fun
  | [d1, d2, d3, d4] => { results := [.lit (.bool false)], args := [d1, d2, d3, d4] }
  | _ => none }
def MapTouchesWrongFalsely : Prop := mapTouchesRow.holds Try.pinned (OpenSpec.ofChange mapTouchesWrong)

/-- 'matryoshkalaw13.MapNotes': WHATEVER THE INPUT: true; the input reads as it did. -/
def mapNotesSpec : ChangeSpec := { name := "mapNotes", fn := fun _ => fun
  | [d] => { results := [.lit (.bool true)], args := [d] }
  | _ => none }
def mapNotesRow : OpenClaim := { program := "ytjaaieamlgghhaa", sum := "f8084785d8159fc098db2cea2430345b5ee1a44575ee6dd7ab992e1319470f7c", func := "matryoshka/matryoshkalaw13.MapNotes", spec := "mapNotes", unfollowed := true, recurses := true, apart := false }
def MapNotesSaid : Prop := mapNotesRow.holds Try.pinned (OpenSpec.ofChange mapNotesSpec)

/-- ITS FALSE NEIGHBOUR: 'it returns false'. Refute it at one input. -/
def mapNotesWrong : ChangeSpec := { name := "mapNotes", fn := fun _ => fun
  | [d] => { results := [.lit (.bool false)], args := [d] }
  | _ => none }
def MapNotesWrongFalsely : Prop := mapNotesRow.holds Try.pinned (OpenSpec.ofChange mapNotesWrong)

/-- 'matryoshkalaw13.MapSizes': WHATEVER THE INPUT: true; the input reads as it did. -/
def mapSizesSpec : ChangeSpec := { name := "mapSizes", fn := fun _ => fun
  | [d1, d2, d3, d4] => { results := [.lit (.bool true)], args := [d1, d2, d3, d4] }
  | _ => none }
def mapSizesRow : OpenClaim := { program := "ytjaaieamlgghhaa", sum := "f8084785d8159fc098db2cea2430345b5ee1a44575ee6dd7ab992e1319470f7c", func := "matryoshka/matryoshkalaw13.MapSizes", spec := "mapSizes", unfollowed := true, recurses := true, apart := false }
def MapSizesSaid : Prop := mapSizesRow.holds Try.pinned (OpenSpec.ofChange mapSizesSpec)

/-- ITS FALSE NEIGHBOUR: 'it returns false'. Refute it at one input. -/
def mapSizesWrong : ChangeSpec := { name := "mapSizes", fn := fun _ => fun
  | [d1, d2, d3, d4] => { results := [.lit (.bool false)], args := [d1, d2, d3, d4] }
  | _ => none }
def MapSizesWrongFalsely : Prop := mapSizesRow.holds Try.pinned (OpenSpec.ofChange mapSizesWrong)

/-- 'matryoshkalaw13.MapMany': WHATEVER THE INPUT: true; the input reads as it did. -/
def mapManySpec : ChangeSpec := { name := "mapMany", fn := fun _ => fun
  | [d] => { results := [.lit (.bool true)], args := [d] }
  | _ => none }
def mapManyRow : OpenClaim := { program := "ytjaaieamlgghhaa", sum := "f8084785d8159fc098db2cea2430345b5ee1a44575ee6dd7ab992e1319470f7c", func := "matryoshka/matryoshkalaw13.MapMany", spec := "mapMany", unfollowed := true, recurses := true, apart := false }
def MapManySaid : Prop := mapManyRow.holds Try.pinned (OpenSpec.ofChange mapManySpec)

/-- ITS FALSE NEIGHBOUR: 'it returns false'. Refute it at one input. -/
def mapManyWrong : ChangeSpec := { name := "mapMany", fn := fun _ => fun
  | [d] => { results := [.lit (.bool false)], args := [d] }
  | _ => none }
def MapManyWrongFalsely : Prop := mapManyRow.holds Try.pinned (OpenSpec.ofChange mapManyWrong)

/-- 'matryoshkalaw13.MapOthers': WHATEVER THE INPUT: true; the input reads as it did. -/
def mapOthersSpec : ChangeSpec := { name := "mapOthers", fn := fun _ => fun
  | [d1, d2, d3] => { results := [.lit (.bool true)], args := [d1, d2, d3] }
  | _ => none }
def mapOthersRow : OpenClaim := { program := "ytjaaieamlgghhaa", sum := "f8084785d8159fc098db2cea2430345b5ee1a44575ee6dd7ab992e1319470f7c", func := "matryoshka/matryoshkalaw13.MapOthers", spec := "mapOthers", unfollowed := true, recurses := true, apart := false }
def MapOthersSaid : Prop := mapOthersRow.holds Try.pinned (OpenSpec.ofChange mapOthersSpec)

/-- ITS FALSE NEIGHBOUR: 'it returns false'. Refute it at one input. -/
def mapOthersWrong : ChangeSpec := { name := "mapOthers", fn := fun _ => fun
  | [d1, d2, d3] => { results := [.lit (.bool false)], args := [d1, d2, d3] }
  | _ => none }
def MapOthersWrongFalsely : Prop := mapOthersRow.holds Try.pinned (OpenSpec.ofChange mapOthersWrong)

/- THE SECOND FORM. 'bulk': how many values and letters a reading holds, each counted each time it is reached (what is shared counts as often as it is met; a slice's spare places count too). A statement '..UptoSaid' is the law's where the arguments, and the package variables that the reading takes, are together of bulk at most 1048576: NARROWER than '..Said'. Prove '..Said' where nothing that the law and all that it calls make is longer than what came in: it says more and counts as full. Else prove '..UptoSaid'. A law counts once. -/
mutual
def uptoBulk {H : Type} : DataW H → Nat
  | .lit (.string bytes) => bytes.length + 1
  | .lit _ => 1
  | .nil => 1
  | .ptr d => uptoBulk d + 1
  | .slice elems spare => uptoBulkAll elems + uptoBulkAll spare + 1
  | .agg parts => uptoBulkAll parts + 1
  | .iface _ d => uptoBulk d + 1
  | .map entries => uptoBulkEntries entries + 1
  | .held _ => 1
def uptoBulkAll {H : Type} : List (DataW H) → Nat
  | [] => 0
  | d :: r => uptoBulk d + uptoBulkAll r
def uptoBulkEntries {H : Type} : List (Lit × DataW H) → Nat
  | [] => 0
  | x :: r => uptoBulkEntry x + uptoBulkEntries r
def uptoBulkEntry {H : Type} : Lit × DataW H → Nat
  | (.string bytes, d) => bytes.length + uptoBulk d + 1
  | (_, d) => uptoBulk d + 1
 end
def uptoSmall : (H : Type) → List (DataW H) → Bool := fun _ ds => decide (uptoBulkAll ds ≤ 1048576)
def OpenSpec.upto (s : _root_.Go.ChangeSpec) : _root_.Go.OpenSpec := { _root_.Go.OpenSpec.ofChange s with cond := some uptoSmall }

/-- 'matryoshkalaw12.ShotTurns', WHERE WHAT IT READS IS OF BULK AT MOST 1048576: true; the input reads as it did. -/
def shotTurnsUptoRow : OpenClaim := { program := "ytjaaieamlgghhaa", sum := "f8084785d8159fc098db2cea2430345b5ee1a44575ee6dd7ab992e1319470f7c", func := "matryoshka/matryoshkalaw12.ShotTurns", spec := "shotTurns", unfollowed := true, recurses := true, apart := false, narrowed := true }
def ShotTurnsUptoSaid : Prop := shotTurnsUptoRow.holds Try.pinned (OpenSpec.upto shotTurnsSpec)

/-- 'matryoshkalaw12.ShotBack', WHERE WHAT IT READS IS OF BULK AT MOST 1048576: true; the input reads as it did. -/
def shotBackUptoRow : OpenClaim := { program := "ytjaaieamlgghhaa", sum := "f8084785d8159fc098db2cea2430345b5ee1a44575ee6dd7ab992e1319470f7c", func := "matryoshka/matryoshkalaw12.ShotBack", spec := "shotBack", unfollowed := true, recurses := true, apart := false, narrowed := true }
def ShotBackUptoSaid : Prop := shotBackUptoRow.holds Try.pinned (OpenSpec.upto shotBackSpec)

/-- 'matryoshkalaw12.ShotApart', WHERE WHAT IT READS IS OF BULK AT MOST 1048576: true; the input reads as it did. -/
def shotApartUptoRow : OpenClaim := { program := "ytjaaieamlgghhaa", sum := "f8084785d8159fc098db2cea2430345b5ee1a44575ee6dd7ab992e1319470f7c", func := "matryoshka/matryoshkalaw12.ShotApart", spec := "shotApart", unfollowed := true, recurses := true, apart := false, narrowed := true }
def ShotApartUptoSaid : Prop := shotApartUptoRow.holds Try.pinned (OpenSpec.upto shotApartSpec)

/-- 'matryoshkalaw12.ShotDrops', WHERE WHAT IT READS IS OF BULK AT MOST 1048576: true; the input reads as it did. -/
def shotDropsUptoRow : OpenClaim := { program := "ytjaaieamlgghhaa", sum := "f8084785d8159fc098db2cea2430345b5ee1a44575ee6dd7ab992e1319470f7c", func := "matryoshka/matryoshkalaw12.ShotDrops", spec := "shotDrops", unfollowed := true, recurses := true, apart := false, narrowed := true }
def ShotDropsUptoSaid : Prop := shotDropsUptoRow.holds Try.pinned (OpenSpec.upto shotDropsSpec)

/-- 'matryoshkalaw13.MapTurns', WHERE WHAT IT READS IS OF BULK AT MOST 1048576: true; the input reads as it did. -/
def mapTurnsUptoRow : OpenClaim := { program := "ytjaaieamlgghhaa", sum := "f8084785d8159fc098db2cea2430345b5ee1a44575ee6dd7ab992e1319470f7c", func := "matryoshka/matryoshkalaw13.MapTurns", spec := "mapTurns", unfollowed := true, recurses := true, apart := false, narrowed := true }
def MapTurnsUptoSaid : Prop := mapTurnsUptoRow.holds Try.pinned (OpenSpec.upto mapTurnsSpec)

/-- 'matryoshkalaw13.MapTouches', WHERE WHAT IT READS IS OF BULK AT MOST 1048576: true; the input reads as it did. -/
def mapTouchesUptoRow : OpenClaim := { program := "ytjaaieamlgghhaa", sum := "f8084785d8159fc098db2cea2430345b5ee1a44575ee6dd7ab992e1319470f7c", func := "matryoshka/matryoshkalaw13.MapTouches", spec := "mapTouches", unfollowed := true, recurses := true, apart := false, narrowed := true }
def MapTouchesUptoSaid : Prop := mapTouchesUptoRow.holds Try.pinned (OpenSpec.upto mapTouchesSpec)

/-- 'matryoshkalaw13.MapNotes', WHERE WHAT IT READS IS OF BULK AT MOST 1048576: true; the input reads as it did. -/
def mapNotesUptoRow : OpenClaim := { program := "ytjaaieamlgghhaa", sum := "f8084785d8159fc098db2cea2430345b5ee1a44575ee6dd7ab992e1319470f7c", func := "matryoshka/matryoshkalaw13.MapNotes", spec := "mapNotes", unfollowed := true, recurses := true, apart := false, narrowed := true }
def MapNotesUptoSaid : Prop := mapNotesUptoRow.holds Try.pinned (OpenSpec.upto mapNotesSpec)

/-- 'matryoshkalaw13.MapSizes', WHERE WHAT IT READS IS OF BULK AT MOST 1048576: true; the input reads as it did. -/
def mapSizesUptoRow : OpenClaim := { program := "ytjaaieamlgghhaa", sum := "f8084785d8159fc098db2cea2430345b5ee1a44575ee6dd7ab992e1319470f7c", func := "matryoshka/matryoshkalaw13.MapSizes", spec := "mapSizes", unfollowed := true, recurses := true, apart := false, narrowed := true }
def MapSizesUptoSaid : Prop := mapSizesUptoRow.holds Try.pinned (OpenSpec.upto mapSizesSpec)

/-- 'matryoshkalaw13.MapMany', WHERE WHAT IT READS IS OF BULK AT MOST 1048576: true; the input reads as it did. -/
def mapManyUptoRow : OpenClaim := { program := "ytjaaieamlgghhaa", sum := "f8084785d8159fc098db2cea2430345b5ee1a44575ee6dd7ab992e1319470f7c", func := "matryoshka/matryoshkalaw13.MapMany", spec := "mapMany", unfollowed := true, recurses := true, apart := false, narrowed := true }
def MapManyUptoSaid : Prop := mapManyUptoRow.holds Try.pinned (OpenSpec.upto mapManySpec)

/-- 'matryoshkalaw13.MapOthers', WHERE WHAT IT READS IS OF BULK AT MOST 1048576: true; the input reads as it did. -/
def mapOthersUptoRow : OpenClaim := { program := "ytjaaieamlgghhaa", sum := "f8084785d8159fc098db2cea2430345b5ee1a44575ee6dd7ab992e1319470f7c", func := "matryoshka/matryoshkalaw13.MapOthers", spec := "mapOthers", unfollowed := true, recurses := true, apart := false, narrowed := true }
def MapOthersUptoSaid : Prop := mapOthersUptoRow.holds Try.pinned (OpenSpec.upto mapOthersSpec)

end Rows
end Go.Proofs.Ytjaaieamlgghhaa
