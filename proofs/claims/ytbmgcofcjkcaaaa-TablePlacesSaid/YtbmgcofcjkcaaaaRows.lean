/-
  No cell of these rows narrows 'for every input' (looked for: loops, veiled, ifaces, maps, wideKeys, modest, calm, conditions, laid).
  DERIVED. THE GIVEN ROWS OF THIS SEAT. 5 by the template 'for every input the law returns true; each argument reads behind the call as it read before'; 0 by the template 'total and deterministic' (their statements: YtbmgcofcjkcaaaaTotals.lean).
  GIVEN WITH THE SEED: the statements are not yours to turn. If you find one false, say at which input.
  Laid BY PROGRAM, IN A SANDBOX (cutbox-rows.mjs): the forced cells as the released guide's own fill.sh prints them over the translation a7884822fbad9d7d… (all of the seat's roots in one cut). By AI agents, Wed Nov 11 2026. No macro, syntax, notation, axiom, sorry.
-/
import Derived.Test.YtbmgcofcjkcaaaaChecked
import GoSem.Claim
import GoSem.ClaimJoined
import GoSem.ClaimMapViews
import Derived.JoinedTies
import Derived.KernelRfl
namespace Go.Proofs.Ytbmgcofcjkcaaaa
/- THE CELL 'sum', in the pinned program and in every row, IS THE sha256 OF THE DUMP (.gsa) THAT YtbmgcofcjkcaaaaProg.lean LOADS. Nothing in Lean hashes anything: it is a label: what it is worth is what the hold of that sum in a sandbox is worth. -/
noncomputable def Try.pinned : Pinned := { name := "ytbmgcofcjkcaaaa", sum := "a7884822fbad9d7dc08a6225d4c46ef800017993dcbf20d84242d0401b7ada76", checked := Try.checked }
namespace Rows
def none {H : Type} : Left H := { results := [], args := [] }

/-- 'matryoshkalaw8.TableSets': WHATEVER THE INPUT: true; the input reads as it did. -/
def tableSetsSpec : ChangeSpec := { name := "tableSets", fn := fun _ => fun
  | [d1, d2, d3, d4] => { results := [.lit (.bool true)], args := [d1, d2, d3, d4] }
  | _ => none }
def tableSetsRow : OpenClaim := { program := "ytbmgcofcjkcaaaa", sum := "a7884822fbad9d7dc08a6225d4c46ef800017993dcbf20d84242d0401b7ada76", func := "matryoshka/matryoshkalaw8.TableSets", spec := "tableSets", apart := false }
def TableSetsSaid : Prop := tableSetsRow.holds Try.pinned (OpenSpec.ofChange tableSetsSpec)

/-- ITS FALSE NEIGHBOUR: 'it returns false'. Refute it at one input. -/
def tableSetsWrong : ChangeSpec := { name := "tableSets", fn := fun _ => fun
  | [d1, d2, d3, d4] => { results := [.lit (.bool false)], args := [d1, d2, d3, d4] }
  | _ => none }
def TableSetsWrongFalsely : Prop := tableSetsRow.holds Try.pinned (OpenSpec.ofChange tableSetsWrong)

/-- 'matryoshkalaw8.TablePlaces': WHATEVER THE INPUT: true; the input reads as it did. -/
def tablePlacesSpec : ChangeSpec := { name := "tablePlaces", fn := fun _ => fun
  | [d1, d2, d3] => { results := [.lit (.bool true)], args := [d1, d2, d3] }
  | _ => none }
def tablePlacesRow : OpenClaim := { program := "ytbmgcofcjkcaaaa", sum := "a7884822fbad9d7dc08a6225d4c46ef800017993dcbf20d84242d0401b7ada76", func := "matryoshka/matryoshkalaw8.TablePlaces", spec := "tablePlaces", apart := false }
def TablePlacesSaid : Prop := tablePlacesRow.holds Try.pinned (OpenSpec.ofChange tablePlacesSpec)

/-- ITS FALSE NEIGHBOUR: 'it returns false'. Refute it at one input. -/
def tablePlacesWrong : ChangeSpec := { name := "tablePlaces", fn := fun _ => fun
  | [d1, d2, d3] => { results := [.lit (.bool false)], args := [d1, d2, d3] }
  | _ => none }
def TablePlacesWrongFalsely : Prop := tablePlacesRow.holds Try.pinned (OpenSpec.ofChange tablePlacesWrong)

/-- 'matryoshkalaw8.TableOrder': WHATEVER THE INPUT: true; the input reads as it did. -/
def tableOrderSpec : ChangeSpec := { name := "tableOrder", fn := fun _ => fun
  | [d] => { results := [.lit (.bool true)], args := [d] }
  | _ => none }
def tableOrderRow : OpenClaim := { program := "ytbmgcofcjkcaaaa", sum := "a7884822fbad9d7dc08a6225d4c46ef800017993dcbf20d84242d0401b7ada76", func := "matryoshka/matryoshkalaw8.TableOrder", spec := "tableOrder", apart := false }
def TableOrderSaid : Prop := tableOrderRow.holds Try.pinned (OpenSpec.ofChange tableOrderSpec)

/-- ITS FALSE NEIGHBOUR: 'it returns false'. Refute it at one input. -/
def tableOrderWrong : ChangeSpec := { name := "tableOrder", fn := fun _ => fun
  | [d] => { results := [.lit (.bool false)], args := [d] }
  | _ => none }
def TableOrderWrongFalsely : Prop := tableOrderRow.holds Try.pinned (OpenSpec.ofChange tableOrderWrong)

/-- 'matryoshkalaw8.TableEmpties': WHATEVER THE INPUT: true; the input reads as it did. -/
def tableEmptiesSpec : ChangeSpec := { name := "tableEmpties", fn := fun _ => fun
  | [d1, d2] => { results := [.lit (.bool true)], args := [d1, d2] }
  | _ => none }
def tableEmptiesRow : OpenClaim := { program := "ytbmgcofcjkcaaaa", sum := "a7884822fbad9d7dc08a6225d4c46ef800017993dcbf20d84242d0401b7ada76", func := "matryoshka/matryoshkalaw8.TableEmpties", spec := "tableEmpties", apart := false }
def TableEmptiesSaid : Prop := tableEmptiesRow.holds Try.pinned (OpenSpec.ofChange tableEmptiesSpec)

/-- ITS FALSE NEIGHBOUR: 'it returns false'. Refute it at one input. -/
def tableEmptiesWrong : ChangeSpec := { name := "tableEmpties", fn := fun _ => fun
  | [d1, d2] => { results := [.lit (.bool false)], args := [d1, d2] }
  | _ => none }
def TableEmptiesWrongFalsely : Prop := tableEmptiesRow.holds Try.pinned (OpenSpec.ofChange tableEmptiesWrong)

/-- 'matryoshkalaw8.TableMixed': WHATEVER THE INPUT: true; the input reads as it did. -/
def tableMixedSpec : ChangeSpec := { name := "tableMixed", fn := fun _ => fun
  | [d1, d2] => { results := [.lit (.bool true)], args := [d1, d2] }
  | _ => none }
def tableMixedRow : OpenClaim := { program := "ytbmgcofcjkcaaaa", sum := "a7884822fbad9d7dc08a6225d4c46ef800017993dcbf20d84242d0401b7ada76", func := "matryoshka/matryoshkalaw8.TableMixed", spec := "tableMixed", apart := false }
def TableMixedSaid : Prop := tableMixedRow.holds Try.pinned (OpenSpec.ofChange tableMixedSpec)

/-- ITS FALSE NEIGHBOUR: 'it returns false'. Refute it at one input. -/
def tableMixedWrong : ChangeSpec := { name := "tableMixed", fn := fun _ => fun
  | [d1, d2] => { results := [.lit (.bool false)], args := [d1, d2] }
  | _ => none }
def TableMixedWrongFalsely : Prop := tableMixedRow.holds Try.pinned (OpenSpec.ofChange tableMixedWrong)

/- THE SECOND FORM. 'bulk': how many values and letters a reading holds, each counted each time it is reached (what is shared counts as often as it is met; a slice's spare places count too). A statement '..UptoSaid' is the law's where the arguments, and the package variables that the reading takes, are together of bulk at most 1048576: NARROWER than '..Said'. Prove '..Said' where nothing that the law and all that it calls make is longer than what came in: it says more and counts as full. Else prove '..UptoSaid'. A law counts once. -/
mutual
def uptoBulk {H : Type} : DataW H → Nat
  | .lit (.string bytes) => bytes.length + 1
  | .lit _ => 1
  | .nil => 1
  | .ptr d => uptoBulk d + 1
  | .slice elems spare => uptoBulkAll elems + uptoBulkAll spare + 1
  | .agg parts => uptoBulkAll parts + 1
  | .iface _ d => uptoBulk d + 1
  | .map entries => uptoBulkEntries entries + 1
  | .held _ => 1
def uptoBulkAll {H : Type} : List (DataW H) → Nat
  | [] => 0
  | d :: r => uptoBulk d + uptoBulkAll r
def uptoBulkEntries {H : Type} : List (Lit × DataW H) → Nat
  | [] => 0
  | x :: r => uptoBulkEntry x + uptoBulkEntries r
def uptoBulkEntry {H : Type} : Lit × DataW H → Nat
  | (.string bytes, d) => bytes.length + uptoBulk d + 1
  | (_, d) => uptoBulk d + 1
 end
def uptoSmall : (H : Type) → List (DataW H) → Bool := fun _ ds => decide (uptoBulkAll ds ≤ 1048576)
def OpenSpec.upto (s : _root_.Go.ChangeSpec) : _root_.Go.OpenSpec := { _root_.Go.OpenSpec.ofChange s with cond := some uptoSmall }

/-- 'matryoshkalaw8.TableSets', WHERE WHAT IT READS IS OF BULK AT MOST 1048576: true; the input reads as it did. -/
def tableSetsUptoRow : OpenClaim := { program := "ytbmgcofcjkcaaaa", sum := "a7884822fbad9d7dc08a6225d4c46ef800017993dcbf20d84242d0401b7ada76", func := "matryoshka/matryoshkalaw8.TableSets", spec := "tableSets", apart := false, narrowed := true }
def TableSetsUptoSaid : Prop := tableSetsUptoRow.holds Try.pinned (OpenSpec.upto tableSetsSpec)

/-- 'matryoshkalaw8.TablePlaces', WHERE WHAT IT READS IS OF BULK AT MOST 1048576: true; the input reads as it did. -/
def tablePlacesUptoRow : OpenClaim := { program := "ytbmgcofcjkcaaaa", sum := "a7884822fbad9d7dc08a6225d4c46ef800017993dcbf20d84242d0401b7ada76", func := "matryoshka/matryoshkalaw8.TablePlaces", spec := "tablePlaces", apart := false, narrowed := true }
def TablePlacesUptoSaid : Prop := tablePlacesUptoRow.holds Try.pinned (OpenSpec.upto tablePlacesSpec)

/-- 'matryoshkalaw8.TableOrder', WHERE WHAT IT READS IS OF BULK AT MOST 1048576: true; the input reads as it did. -/
def tableOrderUptoRow : OpenClaim := { program := "ytbmgcofcjkcaaaa", sum := "a7884822fbad9d7dc08a6225d4c46ef800017993dcbf20d84242d0401b7ada76", func := "matryoshka/matryoshkalaw8.TableOrder", spec := "tableOrder", apart := false, narrowed := true }
def TableOrderUptoSaid : Prop := tableOrderUptoRow.holds Try.pinned (OpenSpec.upto tableOrderSpec)

/-- 'matryoshkalaw8.TableEmpties', WHERE WHAT IT READS IS OF BULK AT MOST 1048576: true; the input reads as it did. -/
def tableEmptiesUptoRow : OpenClaim := { program := "ytbmgcofcjkcaaaa", sum := "a7884822fbad9d7dc08a6225d4c46ef800017993dcbf20d84242d0401b7ada76", func := "matryoshka/matryoshkalaw8.TableEmpties", spec := "tableEmpties", apart := false, narrowed := true }
def TableEmptiesUptoSaid : Prop := tableEmptiesUptoRow.holds Try.pinned (OpenSpec.upto tableEmptiesSpec)

/-- 'matryoshkalaw8.TableMixed', WHERE WHAT IT READS IS OF BULK AT MOST 1048576: true; the input reads as it did. -/
def tableMixedUptoRow : OpenClaim := { program := "ytbmgcofcjkcaaaa", sum := "a7884822fbad9d7dc08a6225d4c46ef800017993dcbf20d84242d0401b7ada76", func := "matryoshka/matryoshkalaw8.TableMixed", spec := "tableMixed", apart := false, narrowed := true }
def TableMixedUptoSaid : Prop := tableMixedUptoRow.holds Try.pinned (OpenSpec.upto tableMixedSpec)

end Rows
end Go.Proofs.Ytbmgcofcjkcaaaa
