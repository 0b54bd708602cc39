/-
  No cell of these rows narrows 'for every input' (looked for: loops, veiled, ifaces, maps, wideKeys, modest, calm, conditions, laid).
  DERIVED. THE GIVEN ROWS OF THIS SEAT. 8 by the template 'for every input the law returns true; each argument reads behind the call as it read before'; 0 by the template 'total and deterministic' (their statements: YtidknkhkblloaaaTotals.lean).
  GIVEN WITH THE SEED: the statements are not yours to turn. If you find one false, say at which input.
  Laid BY PROGRAM, IN A SANDBOX (cutbox-rows.mjs): the forced cells as the released guide's own fill.sh prints them over the translation 1528246b8f65b666… (all of the seat's roots in one cut). By AI agents, Wed Nov 11 2026. No macro, syntax, notation, axiom, sorry.
-/
import Derived.Test.YtidknkhkblloaaaChecked
import GoSem.Claim
import GoSem.ClaimJoined
import GoSem.ClaimMapViews
import Derived.JoinedTies
import Derived.KernelRfl
namespace Go.Proofs.Ytidknkhkblloaaa
/- THE CELL 'sum', in the pinned program and in every row, IS THE sha256 OF THE DUMP (.gsa) THAT YtidknkhkblloaaaProg.lean LOADS. Nothing in Lean hashes anything: it is a label: what it is worth is what the hold of that sum in a sandbox is worth. -/
noncomputable def Try.pinned : Pinned := { name := "ytidknkhkblloaaa", sum := "1528246b8f65b666712543a58e99679ea67238b2629b7696e46867a5acdb1b68", checked := Try.checked }
namespace Rows
def none {H : Type} : Left H := { results := [], args := [] }

/-- 'matryoshkalaw9.CountOfs': WHATEVER THE INPUT: true; the input reads as it did. -/
def countOfsSpec : ChangeSpec := { name := "countOfs", fn := fun _ => fun
  | [d1, d2] => { results := [.lit (.bool true)], args := [d1, d2] }
  | _ => none }
def countOfsRow : OpenClaim := { program := "ytidknkhkblloaaa", sum := "1528246b8f65b666712543a58e99679ea67238b2629b7696e46867a5acdb1b68", func := "matryoshka/matryoshkalaw9.CountOfs", spec := "countOfs", unfollowed := true, recurses := true, apart := false }
def CountOfsSaid : Prop := countOfsRow.holds Try.pinned (OpenSpec.ofChange countOfsSpec)

/-- ITS FALSE NEIGHBOUR: 'it returns false'. Refute it at one input. -/
def countOfsWrong : ChangeSpec := { name := "countOfs", fn := fun _ => fun
  | [d1, d2] => { results := [.lit (.bool false)], args := [d1, d2] }
  | _ => none }
def CountOfsWrongFalsely : Prop := countOfsRow.holds Try.pinned (OpenSpec.ofChange countOfsWrong)

/-- 'matryoshkalaw9.CountEachs': WHATEVER THE INPUT: true; the input reads as it did. -/
def countEachsSpec : ChangeSpec := { name := "countEachs", fn := fun _ => fun
  | [d] => { results := [.lit (.bool true)], args := [d] }
  | _ => none }
def countEachsRow : OpenClaim := { program := "ytidknkhkblloaaa", sum := "1528246b8f65b666712543a58e99679ea67238b2629b7696e46867a5acdb1b68", func := "matryoshka/matryoshkalaw9.CountEachs", spec := "countEachs", unfollowed := true, recurses := true, apart := false }
def CountEachsSaid : Prop := countEachsRow.holds Try.pinned (OpenSpec.ofChange countEachsSpec)

/-- ITS FALSE NEIGHBOUR: 'it returns false'. Refute it at one input. -/
def countEachsWrong : ChangeSpec := { name := "countEachs", fn := fun _ => fun
  | [d] => { results := [.lit (.bool false)], args := [d] }
  | _ => none }
def CountEachsWrongFalsely : Prop := countEachsRow.holds Try.pinned (OpenSpec.ofChange countEachsWrong)

/-- 'matryoshkalaw9.CountFrees': WHATEVER THE INPUT: true; the input reads as it did. -/
def countFreesSpec : ChangeSpec := { name := "countFrees", fn := fun _ => fun
  | [d1, d2, d3, d4] => { results := [.lit (.bool true)], args := [d1, d2, d3, d4] }
  | _ => none }
def countFreesRow : OpenClaim := { program := "ytidknkhkblloaaa", sum := "1528246b8f65b666712543a58e99679ea67238b2629b7696e46867a5acdb1b68", func := "matryoshka/matryoshkalaw9.CountFrees", spec := "countFrees", unfollowed := true, recurses := true, apart := false }
def CountFreesSaid : Prop := countFreesRow.holds Try.pinned (OpenSpec.ofChange countFreesSpec)

/-- ITS FALSE NEIGHBOUR: 'it returns false'. Refute it at one input. -/
def countFreesWrong : ChangeSpec := { name := "countFrees", fn := fun _ => fun
  | [d1, d2, d3, d4] => { results := [.lit (.bool false)], args := [d1, d2, d3, d4] }
  | _ => none }
def CountFreesWrongFalsely : Prop := countFreesRow.holds Try.pinned (OpenSpec.ofChange countFreesWrong)

/-- 'matryoshkalaw9.CountSums': WHATEVER THE INPUT: true; the input reads as it did. -/
def countSumsSpec : ChangeSpec := { name := "countSums", fn := fun _ => fun
  | [d] => { results := [.lit (.bool true)], args := [d] }
  | _ => none }
def countSumsRow : OpenClaim := { program := "ytidknkhkblloaaa", sum := "1528246b8f65b666712543a58e99679ea67238b2629b7696e46867a5acdb1b68", func := "matryoshka/matryoshkalaw9.CountSums", spec := "countSums", unfollowed := true, recurses := true, apart := false }
def CountSumsSaid : Prop := countSumsRow.holds Try.pinned (OpenSpec.ofChange countSumsSpec)

/-- ITS FALSE NEIGHBOUR: 'it returns false'. Refute it at one input. -/
def countSumsWrong : ChangeSpec := { name := "countSums", fn := fun _ => fun
  | [d] => { results := [.lit (.bool false)], args := [d] }
  | _ => none }
def CountSumsWrongFalsely : Prop := countSumsRow.holds Try.pinned (OpenSpec.ofChange countSumsWrong)

/-- 'matryoshkalaw9.CountRooms': WHATEVER THE INPUT: true; the input reads as it did. -/
def countRoomsSpec : ChangeSpec := { name := "countRooms", fn := fun _ => fun
  | [d1, d2, d3] => { results := [.lit (.bool true)], args := [d1, d2, d3] }
  | _ => none }
def countRoomsRow : OpenClaim := { program := "ytidknkhkblloaaa", sum := "1528246b8f65b666712543a58e99679ea67238b2629b7696e46867a5acdb1b68", func := "matryoshka/matryoshkalaw9.CountRooms", spec := "countRooms", unfollowed := true, recurses := true, apart := false }
def CountRoomsSaid : Prop := countRoomsRow.holds Try.pinned (OpenSpec.ofChange countRoomsSpec)

/-- ITS FALSE NEIGHBOUR: 'it returns false'. Refute it at one input. -/
def countRoomsWrong : ChangeSpec := { name := "countRooms", fn := fun _ => fun
  | [d1, d2, d3] => { results := [.lit (.bool false)], args := [d1, d2, d3] }
  | _ => none }
def CountRoomsWrongFalsely : Prop := countRoomsRow.holds Try.pinned (OpenSpec.ofChange countRoomsWrong)

/-- 'matryoshkalaw9.CountShots': WHATEVER THE INPUT: true; the input reads as it did. -/
def countShotsSpec : ChangeSpec := { name := "countShots", fn := fun _ => fun
  | [d] => { results := [.lit (.bool true)], args := [d] }
  | _ => none }
def countShotsRow : OpenClaim := { program := "ytidknkhkblloaaa", sum := "1528246b8f65b666712543a58e99679ea67238b2629b7696e46867a5acdb1b68", func := "matryoshka/matryoshkalaw9.CountShots", spec := "countShots", unfollowed := true, recurses := true, apart := false }
def CountShotsSaid : Prop := countShotsRow.holds Try.pinned (OpenSpec.ofChange countShotsSpec)

/-- ITS FALSE NEIGHBOUR: 'it returns false'. Refute it at one input. -/
def countShotsWrong : ChangeSpec := { name := "countShots", fn := fun _ => fun
  | [d] => { results := [.lit (.bool false)], args := [d] }
  | _ => none }
def CountShotsWrongFalsely : Prop := countShotsRow.holds Try.pinned (OpenSpec.ofChange countShotsWrong)

/-- 'matryoshkalaw9.CountBegins': WHATEVER THE INPUT: true; the input reads as it did. -/
def countBeginsSpec : ChangeSpec := { name := "countBegins", fn := fun _ => fun
  | [d1, d2] => { results := [.lit (.bool true)], args := [d1, d2] }
  | _ => none }
def countBeginsRow : OpenClaim := { program := "ytidknkhkblloaaa", sum := "1528246b8f65b666712543a58e99679ea67238b2629b7696e46867a5acdb1b68", func := "matryoshka/matryoshkalaw9.CountBegins", spec := "countBegins", unfollowed := true, recurses := true, apart := false }
def CountBeginsSaid : Prop := countBeginsRow.holds Try.pinned (OpenSpec.ofChange countBeginsSpec)

/-- ITS FALSE NEIGHBOUR: 'it returns false'. Refute it at one input. -/
def countBeginsWrong : ChangeSpec := { name := "countBegins", fn := fun _ => fun
  | [d1, d2] => { results := [.lit (.bool false)], args := [d1, d2] }
  | _ => none }
def CountBeginsWrongFalsely : Prop := countBeginsRow.holds Try.pinned (OpenSpec.ofChange countBeginsWrong)

/-- 'matryoshkalaw9.CountNone': WHATEVER THE INPUT: true; the input reads as it did. -/
def countNoneSpec : ChangeSpec := { name := "countNone", fn := fun _ => fun
  | [d1, d2] => { results := [.lit (.bool true)], args := [d1, d2] }
  | _ => none }
def countNoneRow : OpenClaim := { program := "ytidknkhkblloaaa", sum := "1528246b8f65b666712543a58e99679ea67238b2629b7696e46867a5acdb1b68", func := "matryoshka/matryoshkalaw9.CountNone", spec := "countNone", unfollowed := true, recurses := true, apart := false }
def CountNoneSaid : Prop := countNoneRow.holds Try.pinned (OpenSpec.ofChange countNoneSpec)

/-- ITS FALSE NEIGHBOUR: 'it returns false'. Refute it at one input. -/
def countNoneWrong : ChangeSpec := { name := "countNone", fn := fun _ => fun
  | [d1, d2] => { results := [.lit (.bool false)], args := [d1, d2] }
  | _ => none }
def CountNoneWrongFalsely : Prop := countNoneRow.holds Try.pinned (OpenSpec.ofChange countNoneWrong)

/- THE SECOND FORM. 'bulk': how many values and letters a reading holds, each counted each time it is reached (what is shared counts as often as it is met; a slice's spare places count too). A statement '..UptoSaid' is the law's where the arguments, and the package variables that the reading takes, are together of bulk at most 1048576: NARROWER than '..Said'. Prove '..Said' where nothing that the law and all that it calls make is longer than what came in: it says more and counts as full. Else prove '..UptoSaid'. A law counts once. -/
mutual
def uptoBulk {H : Type} : DataW H → Nat
  | .lit (.string bytes) => bytes.length + 1
  | .lit _ => 1
  | .nil => 1
  | .ptr d => uptoBulk d + 1
  | .slice elems spare => uptoBulkAll elems + uptoBulkAll spare + 1
  | .agg parts => uptoBulkAll parts + 1
  | .iface _ d => uptoBulk d + 1
  | .map entries => uptoBulkEntries entries + 1
  | .held _ => 1
def uptoBulkAll {H : Type} : List (DataW H) → Nat
  | [] => 0
  | d :: r => uptoBulk d + uptoBulkAll r
def uptoBulkEntries {H : Type} : List (Lit × DataW H) → Nat
  | [] => 0
  | x :: r => uptoBulkEntry x + uptoBulkEntries r
def uptoBulkEntry {H : Type} : Lit × DataW H → Nat
  | (.string bytes, d) => bytes.length + uptoBulk d + 1
  | (_, d) => uptoBulk d + 1
 end
def uptoSmall : (H : Type) → List (DataW H) → Bool := fun _ ds => decide (uptoBulkAll ds ≤ 1048576)
def OpenSpec.upto (s : _root_.Go.ChangeSpec) : _root_.Go.OpenSpec := { _root_.Go.OpenSpec.ofChange s with cond := some uptoSmall }

/-- 'matryoshkalaw9.CountOfs', WHERE WHAT IT READS IS OF BULK AT MOST 1048576: true; the input reads as it did. -/
def countOfsUptoRow : OpenClaim := { program := "ytidknkhkblloaaa", sum := "1528246b8f65b666712543a58e99679ea67238b2629b7696e46867a5acdb1b68", func := "matryoshka/matryoshkalaw9.CountOfs", spec := "countOfs", unfollowed := true, recurses := true, apart := false, narrowed := true }
def CountOfsUptoSaid : Prop := countOfsUptoRow.holds Try.pinned (OpenSpec.upto countOfsSpec)

/-- 'matryoshkalaw9.CountEachs', WHERE WHAT IT READS IS OF BULK AT MOST 1048576: true; the input reads as it did. -/
def countEachsUptoRow : OpenClaim := { program := "ytidknkhkblloaaa", sum := "1528246b8f65b666712543a58e99679ea67238b2629b7696e46867a5acdb1b68", func := "matryoshka/matryoshkalaw9.CountEachs", spec := "countEachs", unfollowed := true, recurses := true, apart := false, narrowed := true }
def CountEachsUptoSaid : Prop := countEachsUptoRow.holds Try.pinned (OpenSpec.upto countEachsSpec)

/-- 'matryoshkalaw9.CountFrees', WHERE WHAT IT READS IS OF BULK AT MOST 1048576: true; the input reads as it did. -/
def countFreesUptoRow : OpenClaim := { program := "ytidknkhkblloaaa", sum := "1528246b8f65b666712543a58e99679ea67238b2629b7696e46867a5acdb1b68", func := "matryoshka/matryoshkalaw9.CountFrees", spec := "countFrees", unfollowed := true, recurses := true, apart := false, narrowed := true }
def CountFreesUptoSaid : Prop := countFreesUptoRow.holds Try.pinned (OpenSpec.upto countFreesSpec)

/-- 'matryoshkalaw9.CountSums', WHERE WHAT IT READS IS OF BULK AT MOST 1048576: true; the input reads as it did. -/
def countSumsUptoRow : OpenClaim := { program := "ytidknkhkblloaaa", sum := "1528246b8f65b666712543a58e99679ea67238b2629b7696e46867a5acdb1b68", func := "matryoshka/matryoshkalaw9.CountSums", spec := "countSums", unfollowed := true, recurses := true, apart := false, narrowed := true }
def CountSumsUptoSaid : Prop := countSumsUptoRow.holds Try.pinned (OpenSpec.upto countSumsSpec)

/-- 'matryoshkalaw9.CountRooms', WHERE WHAT IT READS IS OF BULK AT MOST 1048576: true; the input reads as it did. -/
def countRoomsUptoRow : OpenClaim := { program := "ytidknkhkblloaaa", sum := "1528246b8f65b666712543a58e99679ea67238b2629b7696e46867a5acdb1b68", func := "matryoshka/matryoshkalaw9.CountRooms", spec := "countRooms", unfollowed := true, recurses := true, apart := false, narrowed := true }
def CountRoomsUptoSaid : Prop := countRoomsUptoRow.holds Try.pinned (OpenSpec.upto countRoomsSpec)

/-- 'matryoshkalaw9.CountShots', WHERE WHAT IT READS IS OF BULK AT MOST 1048576: true; the input reads as it did. -/
def countShotsUptoRow : OpenClaim := { program := "ytidknkhkblloaaa", sum := "1528246b8f65b666712543a58e99679ea67238b2629b7696e46867a5acdb1b68", func := "matryoshka/matryoshkalaw9.CountShots", spec := "countShots", unfollowed := true, recurses := true, apart := false, narrowed := true }
def CountShotsUptoSaid : Prop := countShotsUptoRow.holds Try.pinned (OpenSpec.upto countShotsSpec)

/-- 'matryoshkalaw9.CountBegins', WHERE WHAT IT READS IS OF BULK AT MOST 1048576: true; the input reads as it did. -/
def countBeginsUptoRow : OpenClaim := { program := "ytidknkhkblloaaa", sum := "1528246b8f65b666712543a58e99679ea67238b2629b7696e46867a5acdb1b68", func := "matryoshka/matryoshkalaw9.CountBegins", spec := "countBegins", unfollowed := true, recurses := true, apart := false, narrowed := true }
def CountBeginsUptoSaid : Prop := countBeginsUptoRow.holds Try.pinned (OpenSpec.upto countBeginsSpec)

/-- 'matryoshkalaw9.CountNone', WHERE WHAT IT READS IS OF BULK AT MOST 1048576: true; the input reads as it did. -/
def countNoneUptoRow : OpenClaim := { program := "ytidknkhkblloaaa", sum := "1528246b8f65b666712543a58e99679ea67238b2629b7696e46867a5acdb1b68", func := "matryoshka/matryoshkalaw9.CountNone", spec := "countNone", unfollowed := true, recurses := true, apart := false, narrowed := true }
def CountNoneUptoSaid : Prop := countNoneUptoRow.holds Try.pinned (OpenSpec.upto countNoneSpec)

end Rows
end Go.Proofs.Ytidknkhkblloaaa
