/-
  No cell of these rows narrows 'for every input' (looked for: loops, veiled, ifaces, maps, wideKeys, modest, calm, conditions, laid).
  DERIVED. THE GIVEN ROWS OF THIS SEAT. 6 by the template 'for every input the law returns true; each argument reads behind the call as it read before'; 0 by the template 'total and deterministic' (their statements: YtlkdmceieeeiiaaTotals.lean).
  GIVEN WITH THE SEED: the statements are not yours to turn. If you find one false, say at which input.
  Laid BY PROGRAM, IN A SANDBOX (cutbox-rows.mjs): the forced cells as the released guide's own fill.sh prints them over the translation 46b501b16a19a4a5… (all of the seat's roots in one cut). By AI agents, Wed Nov 11 2026. No macro, syntax, notation, axiom, sorry.
-/
import Derived.Test.YtlkdmceieeeiiaaChecked
import GoSem.Claim
import GoSem.ClaimJoined
import GoSem.ClaimMapViews
import Derived.JoinedTies
import Derived.KernelRfl
namespace Go.Proofs.Ytlkdmceieeeiiaa
/- THE CELL 'sum', in the pinned program and in every row, IS THE sha256 OF THE DUMP (.gsa) THAT YtlkdmceieeeiiaaProg.lean LOADS. Nothing in Lean hashes anything: it is a label: what it is worth is what the hold of that sum in a sandbox is worth. -/
noncomputable def Try.pinned : Pinned := { name := "ytlkdmceieeeiiaa", sum := "46b501b16a19a4a58473a9e8dbe50d7f3845151ca22e92a0583692982c84eb81", checked := Try.checked }
namespace Rows
def none {H : Type} : Left H := { results := [], args := [] }

/-- 'matryoshkalaw12.ShotNames': WHATEVER THE INPUT: true; the input reads as it did. -/
def shotNamesSpec : ChangeSpec := { name := "shotNames", fn := fun _ => fun
  | [d] => { results := [.lit (.bool true)], args := [d] }
  | _ => none }
def shotNamesRow : OpenClaim := { program := "ytlkdmceieeeiiaa", sum := "46b501b16a19a4a58473a9e8dbe50d7f3845151ca22e92a0583692982c84eb81", func := "matryoshka/matryoshkalaw12.ShotNames", spec := "shotNames", unfollowed := true, recurses := true, apart := false }
def ShotNamesSaid : Prop := shotNamesRow.holds Try.pinned (OpenSpec.ofChange shotNamesSpec)

/-- ITS FALSE NEIGHBOUR: 'it returns false'. Refute it at one input. -/
def shotNamesWrong : ChangeSpec := { name := "shotNames", fn := fun _ => fun
  | [d] => { results := [.lit (.bool false)], args := [d] }
  | _ => none }
def ShotNamesWrongFalsely : Prop := shotNamesRow.holds Try.pinned (OpenSpec.ofChange shotNamesWrong)

/-- 'matryoshkalaw12.ShotTurns': WHATEVER THE INPUT: true; the input reads as it did. -/
def shotTurnsSpec : ChangeSpec := { name := "shotTurns", fn := fun _ => fun
  | [d1, d2] => { results := [.lit (.bool true)], args := [d1, d2] }
  | _ => none }
def shotTurnsRow : OpenClaim := { program := "ytlkdmceieeeiiaa", sum := "46b501b16a19a4a58473a9e8dbe50d7f3845151ca22e92a0583692982c84eb81", func := "matryoshka/matryoshkalaw12.ShotTurns", spec := "shotTurns", unfollowed := true, recurses := true, apart := false }
def ShotTurnsSaid : Prop := shotTurnsRow.holds Try.pinned (OpenSpec.ofChange shotTurnsSpec)

/-- ITS FALSE NEIGHBOUR: 'it returns false'. Refute it at one input. -/
def shotTurnsWrong : ChangeSpec := { name := "shotTurns", fn := fun _ => fun
  | [d1, d2] => { results := [.lit (.bool false)], args := [d1, d2] }
  | _ => none }
def ShotTurnsWrongFalsely : Prop := shotTurnsRow.holds Try.pinned (OpenSpec.ofChange shotTurnsWrong)

/-- 'matryoshkalaw12.ShotBack': WHATEVER THE INPUT: true; the input reads as it did. -/
def shotBackSpec : ChangeSpec := { name := "shotBack", fn := fun _ => fun
  | [d1, d2, d3] => { results := [.lit (.bool true)], args := [d1, d2, d3] }
  | _ => none }
def shotBackRow : OpenClaim := { program := "ytlkdmceieeeiiaa", sum := "46b501b16a19a4a58473a9e8dbe50d7f3845151ca22e92a0583692982c84eb81", func := "matryoshka/matryoshkalaw12.ShotBack", spec := "shotBack", unfollowed := true, recurses := true, apart := false }
def ShotBackSaid : Prop := shotBackRow.holds Try.pinned (OpenSpec.ofChange shotBackSpec)

/-- ITS FALSE NEIGHBOUR: 'it returns false'. Refute it at one input. -/
def shotBackWrong : ChangeSpec := { name := "shotBack", fn := fun _ => fun
  | [d1, d2, d3] => { results := [.lit (.bool false)], args := [d1, d2, d3] }
  | _ => none }
def ShotBackWrongFalsely : Prop := shotBackRow.holds Try.pinned (OpenSpec.ofChange shotBackWrong)

/-- 'matryoshkalaw12.ShotMany': WHATEVER THE INPUT: true; the input reads as it did. -/
def shotManySpec : ChangeSpec := { name := "shotMany", fn := fun _ => fun
  | [d] => { results := [.lit (.bool true)], args := [d] }
  | _ => none }
def shotManyRow : OpenClaim := { program := "ytlkdmceieeeiiaa", sum := "46b501b16a19a4a58473a9e8dbe50d7f3845151ca22e92a0583692982c84eb81", func := "matryoshka/matryoshkalaw12.ShotMany", spec := "shotMany", unfollowed := true, recurses := true, apart := false }
def ShotManySaid : Prop := shotManyRow.holds Try.pinned (OpenSpec.ofChange shotManySpec)

/-- ITS FALSE NEIGHBOUR: 'it returns false'. Refute it at one input. -/
def shotManyWrong : ChangeSpec := { name := "shotMany", fn := fun _ => fun
  | [d] => { results := [.lit (.bool false)], args := [d] }
  | _ => none }
def ShotManyWrongFalsely : Prop := shotManyRow.holds Try.pinned (OpenSpec.ofChange shotManyWrong)

/-- 'matryoshkalaw12.ShotApart': WHATEVER THE INPUT: true; the input reads as it did. -/
def shotApartSpec : ChangeSpec := { name := "shotApart", fn := fun _ => fun
  | [d] => { results := [.lit (.bool true)], args := [d] }
  | _ => none }
def shotApartRow : OpenClaim := { program := "ytlkdmceieeeiiaa", sum := "46b501b16a19a4a58473a9e8dbe50d7f3845151ca22e92a0583692982c84eb81", func := "matryoshka/matryoshkalaw12.ShotApart", spec := "shotApart", unfollowed := true, recurses := true, apart := false }
def ShotApartSaid : Prop := shotApartRow.holds Try.pinned (OpenSpec.ofChange shotApartSpec)

/-- ITS FALSE NEIGHBOUR: 'it returns false'. Refute it at one input. -/
def shotApartWrong : ChangeSpec := { name := "shotApart", fn := fun _ => fun
  | [d] => { results := [.lit (.bool false)], args := [d] }
  | _ => none }
def ShotApartWrongFalsely : Prop := shotApartRow.holds Try.pinned (OpenSpec.ofChange shotApartWrong)

/-- 'matryoshkalaw12.ShotDrops': WHATEVER THE INPUT: true; the input reads as it did. -/
def shotDropsSpec : ChangeSpec := { name := "shotDrops", fn := fun _ => fun
  | [d1, d2] => { results := [.lit (.bool true)], args := [d1, d2] }
  | _ => none }
def shotDropsRow : OpenClaim := { program := "ytlkdmceieeeiiaa", sum := "46b501b16a19a4a58473a9e8dbe50d7f3845151ca22e92a0583692982c84eb81", func := "matryoshka/matryoshkalaw12.ShotDrops", spec := "shotDrops", unfollowed := true, recurses := true, apart := false }
def ShotDropsSaid : Prop := shotDropsRow.holds Try.pinned (OpenSpec.ofChange shotDropsSpec)

/-- ITS FALSE NEIGHBOUR: 'it returns false'. Refute it at one input. -/
def shotDropsWrong : ChangeSpec := { name := "shotDrops", fn := fun _ => fun
  | [d1, d2] => { results := [.lit (.bool false)], args := [d1, d2] }
  | _ => none }
def ShotDropsWrongFalsely : Prop := shotDropsRow.holds Try.pinned (OpenSpec.ofChange shotDropsWrong)

/- THE SECOND FORM. 'bulk': how many values and letters a reading holds, each counted each time it is reached (what is shared counts as often as it is met; a slice's spare places count too). A statement '..UptoSaid' is the law's where the arguments, and the package variables that the reading takes, are together of bulk at most 1048576: NARROWER than '..Said'. Prove '..Said' where nothing that the law and all that it calls make is longer than what came in: it says more and counts as full. Else prove '..UptoSaid'. A law counts once. -/
mutual
def uptoBulk {H : Type} : DataW H → Nat
  | .lit (.string bytes) => bytes.length + 1
  | .lit _ => 1
  | .nil => 1
  | .ptr d => uptoBulk d + 1
  | .slice elems spare => uptoBulkAll elems + uptoBulkAll spare + 1
  | .agg parts => uptoBulkAll parts + 1
  | .iface _ d => uptoBulk d + 1
  | .map entries => uptoBulkEntries entries + 1
  | .held _ => 1
def uptoBulkAll {H : Type} : List (DataW H) → Nat
  | [] => 0
  | d :: r => uptoBulk d + uptoBulkAll r
def uptoBulkEntries {H : Type} : List (Lit × DataW H) → Nat
  | [] => 0
  | x :: r => uptoBulkEntry x + uptoBulkEntries r
def uptoBulkEntry {H : Type} : Lit × DataW H → Nat
  | (.string bytes, d) => bytes.length + uptoBulk d + 1
  | (_, d) => uptoBulk d + 1
 end
def uptoSmall : (H : Type) → List (DataW H) → Bool := fun _ ds => decide (uptoBulkAll ds ≤ 1048576)
def OpenSpec.upto (s : _root_.Go.ChangeSpec) : _root_.Go.OpenSpec := { _root_.Go.OpenSpec.ofChange s with cond := some uptoSmall }

/-- 'matryoshkalaw12.ShotNames', WHERE WHAT IT READS IS OF BULK AT MOST 1048576: true; the input reads as it did. -/
def shotNamesUptoRow : OpenClaim := { program := "ytlkdmceieeeiiaa", sum := "46b501b16a19a4a58473a9e8dbe50d7f3845151ca22e92a0583692982c84eb81", func := "matryoshka/matryoshkalaw12.ShotNames", spec := "shotNames", unfollowed := true, recurses := true, apart := false, narrowed := true }
def ShotNamesUptoSaid : Prop := shotNamesUptoRow.holds Try.pinned (OpenSpec.upto shotNamesSpec)

/-- 'matryoshkalaw12.ShotTurns', WHERE WHAT IT READS IS OF BULK AT MOST 1048576: true; the input reads as it did. -/
def shotTurnsUptoRow : OpenClaim := { program := "ytlkdmceieeeiiaa", sum := "46b501b16a19a4a58473a9e8dbe50d7f3845151ca22e92a0583692982c84eb81", func := "matryoshka/matryoshkalaw12.ShotTurns", spec := "shotTurns", unfollowed := true, recurses := true, apart := false, narrowed := true }
def ShotTurnsUptoSaid : Prop := shotTurnsUptoRow.holds Try.pinned (OpenSpec.upto shotTurnsSpec)

/-- 'matryoshkalaw12.ShotBack', WHERE WHAT IT READS IS OF BULK AT MOST 1048576: true; the input reads as it did. -/
def shotBackUptoRow : OpenClaim := { program := "ytlkdmceieeeiiaa", sum := "46b501b16a19a4a58473a9e8dbe50d7f3845151ca22e92a0583692982c84eb81", func := "matryoshka/matryoshkalaw12.ShotBack", spec := "shotBack", unfollowed := true, recurses := true, apart := false, narrowed := true }
def ShotBackUptoSaid : Prop := shotBackUptoRow.holds Try.pinned (OpenSpec.upto shotBackSpec)

/-- 'matryoshkalaw12.ShotMany', WHERE WHAT IT READS IS OF BULK AT MOST 1048576: true; the input reads as it did. -/
def shotManyUptoRow : OpenClaim := { program := "ytlkdmceieeeiiaa", sum := "46b501b16a19a4a58473a9e8dbe50d7f3845151ca22e92a0583692982c84eb81", func := "matryoshka/matryoshkalaw12.ShotMany", spec := "shotMany", unfollowed := true, recurses := true, apart := false, narrowed := true }
def ShotManyUptoSaid : Prop := shotManyUptoRow.holds Try.pinned (OpenSpec.upto shotManySpec)

/-- 'matryoshkalaw12.ShotApart', WHERE WHAT IT READS IS OF BULK AT MOST 1048576: true; the input reads as it did. -/
def shotApartUptoRow : OpenClaim := { program := "ytlkdmceieeeiiaa", sum := "46b501b16a19a4a58473a9e8dbe50d7f3845151ca22e92a0583692982c84eb81", func := "matryoshka/matryoshkalaw12.ShotApart", spec := "shotApart", unfollowed := true, recurses := true, apart := false, narrowed := true }
def ShotApartUptoSaid : Prop := shotApartUptoRow.holds Try.pinned (OpenSpec.upto shotApartSpec)

/-- 'matryoshkalaw12.ShotDrops', WHERE WHAT IT READS IS OF BULK AT MOST 1048576: true; the input reads as it did. -/
def shotDropsUptoRow : OpenClaim := { program := "ytlkdmceieeeiiaa", sum := "46b501b16a19a4a58473a9e8dbe50d7f3845151ca22e92a0583692982c84eb81", func := "matryoshka/matryoshkalaw12.ShotDrops", spec := "shotDrops", unfollowed := true, recurses := true, apart := false, narrowed := true }
def ShotDropsUptoSaid : Prop := shotDropsUptoRow.holds Try.pinned (OpenSpec.upto shotDropsSpec)

end Rows
end Go.Proofs.Ytlkdmceieeeiiaa
