/-
  No cell of these rows narrows 'for every input' (looked for: loops, veiled, ifaces, maps, wideKeys, modest, calm, conditions, laid).
  DERIVED. THE GIVEN ROWS OF THIS SEAT. 8 by the template 'for every input the law returns true; each argument reads behind the call as it read before'; 0 by the template 'total and deterministic' (their statements: YtlkpedknhjgdiaaTotals.lean).
  GIVEN WITH THE SEED: the statements are not yours to turn. If you find one false, say at which input.
  Laid BY PROGRAM, IN A SANDBOX (cutbox-rows.mjs): the forced cells as the released guide's own fill.sh prints them over the translation 8db22c9e51c6df74… (all of the seat's roots in one cut). By AI agents, Wed Nov 11 2026. No macro, syntax, notation, axiom, sorry.
-/
import Derived.Test.YtlkpedknhjgdiaaChecked
import GoSem.Claim
import GoSem.ClaimJoined
import GoSem.ClaimMapViews
import Derived.JoinedTies
import Derived.KernelRfl
namespace Go.Proofs.Ytlkpedknhjgdiaa
/- THE CELL 'sum', in the pinned program and in every row, IS THE sha256 OF THE DUMP (.gsa) THAT YtlkpedknhjgdiaaProg.lean LOADS. Nothing in Lean hashes anything: it is a label: what it is worth is what the hold of that sum in a sandbox is worth. -/
noncomputable def Try.pinned : Pinned := { name := "ytlkpedknhjgdiaa", sum := "8db22c9e51c6df745d89ed83200153039792008209a28eab10f45fcbfaeae3fd", checked := Try.checked }
namespace Rows
def none {H : Type} : Left H := { results := [], args := [] }

/-- 'matryoshkalaw3.LzUnpacks': WHATEVER THE INPUT: true; the input reads as it did. -/
def lzUnpacksSpec : ChangeSpec := { name := "lzUnpacks", fn := fun _ => fun
  | [d1, d2] => { results := [.lit (.bool true)], args := [d1, d2] }
  | _ => none }
def lzUnpacksRow : OpenClaim := { program := "ytlkpedknhjgdiaa", sum := "8db22c9e51c6df745d89ed83200153039792008209a28eab10f45fcbfaeae3fd", func := "matryoshka/matryoshkalaw3.LzUnpacks", spec := "lzUnpacks", unfollowed := true, recurses := true, plainKeys := false, apart := false }
def LzUnpacksSaid : Prop := lzUnpacksRow.holds Try.pinned (OpenSpec.ofChange lzUnpacksSpec)

/-- ITS FALSE NEIGHBOUR: 'it returns false'. Refute it at one input. -/
def lzUnpacksWrong : ChangeSpec := { name := "lzUnpacks", fn := fun _ => fun
  | [d1, d2] => { results := [.lit (.bool false)], args := [d1, d2] }
  | _ => none }
def LzUnpacksWrongFalsely : Prop := lzUnpacksRow.holds Try.pinned (OpenSpec.ofChange lzUnpacksWrong)

/-- 'matryoshkalaw3.LzBack': WHATEVER THE INPUT: true; the input reads as it did. -/
def lzBackSpec : ChangeSpec := { name := "lzBack", fn := fun _ => fun
  | [d] => { results := [.lit (.bool true)], args := [d] }
  | _ => none }
def lzBackRow : OpenClaim := { program := "ytlkpedknhjgdiaa", sum := "8db22c9e51c6df745d89ed83200153039792008209a28eab10f45fcbfaeae3fd", func := "matryoshka/matryoshkalaw3.LzBack", spec := "lzBack", unfollowed := true, recurses := true, plainKeys := false, apart := false }
def LzBackSaid : Prop := lzBackRow.holds Try.pinned (OpenSpec.ofChange lzBackSpec)

/-- ITS FALSE NEIGHBOUR: 'it returns false'. Refute it at one input. -/
def lzBackWrong : ChangeSpec := { name := "lzBack", fn := fun _ => fun
  | [d] => { results := [.lit (.bool false)], args := [d] }
  | _ => none }
def LzBackWrongFalsely : Prop := lzBackRow.holds Try.pinned (OpenSpec.ofChange lzBackWrong)

/-- 'matryoshkalaw3.LzLess': WHATEVER THE INPUT: true; the input reads as it did. -/
def lzLessSpec : ChangeSpec := { name := "lzLess", fn := fun _ => fun
  | [d] => { results := [.lit (.bool true)], args := [d] }
  | _ => none }
def lzLessRow : OpenClaim := { program := "ytlkpedknhjgdiaa", sum := "8db22c9e51c6df745d89ed83200153039792008209a28eab10f45fcbfaeae3fd", func := "matryoshka/matryoshkalaw3.LzLess", spec := "lzLess", unfollowed := true, recurses := true, plainKeys := false, apart := false }
def LzLessSaid : Prop := lzLessRow.holds Try.pinned (OpenSpec.ofChange lzLessSpec)

/-- ITS FALSE NEIGHBOUR: 'it returns false'. Refute it at one input. -/
def lzLessWrong : ChangeSpec := { name := "lzLess", fn := fun _ => fun
  | [d] => { results := [.lit (.bool false)], args := [d] }
  | _ => none }
def LzLessWrongFalsely : Prop := lzLessRow.holds Try.pinned (OpenSpec.ofChange lzLessWrong)

/-- 'matryoshkalaw3.LzRuns': WHATEVER THE INPUT: true; the input reads as it did. -/
def lzRunsSpec : ChangeSpec := { name := "lzRuns", fn := fun _ => fun
  | [d1, d2] => { results := [.lit (.bool true)], args := [d1, d2] }
  | _ => none }
def lzRunsRow : OpenClaim := { program := "ytlkpedknhjgdiaa", sum := "8db22c9e51c6df745d89ed83200153039792008209a28eab10f45fcbfaeae3fd", func := "matryoshka/matryoshkalaw3.LzRuns", spec := "lzRuns", unfollowed := true, recurses := true, plainKeys := false, apart := false }
def LzRunsSaid : Prop := lzRunsRow.holds Try.pinned (OpenSpec.ofChange lzRunsSpec)

/-- ITS FALSE NEIGHBOUR: 'it returns false'. Refute it at one input. -/
def lzRunsWrong : ChangeSpec := { name := "lzRuns", fn := fun _ => fun
  | [d1, d2] => { results := [.lit (.bool false)], args := [d1, d2] }
  | _ => none }
def LzRunsWrongFalsely : Prop := lzRunsRow.holds Try.pinned (OpenSpec.ofChange lzRunsWrong)

/-- 'matryoshkalaw3.LzCuts': WHATEVER THE INPUT: true; the input reads as it did. -/
def lzCutsSpec : ChangeSpec := { name := "lzCuts", fn := fun _ => fun
  | [d1, d2] => { results := [.lit (.bool true)], args := [d1, d2] }
  | _ => none }
def lzCutsRow : OpenClaim := { program := "ytlkpedknhjgdiaa", sum := "8db22c9e51c6df745d89ed83200153039792008209a28eab10f45fcbfaeae3fd", func := "matryoshka/matryoshkalaw3.LzCuts", spec := "lzCuts", unfollowed := true, recurses := true, plainKeys := false, apart := false }
def LzCutsSaid : Prop := lzCutsRow.holds Try.pinned (OpenSpec.ofChange lzCutsSpec)

/-- ITS FALSE NEIGHBOUR: 'it returns false'. Refute it at one input. -/
def lzCutsWrong : ChangeSpec := { name := "lzCuts", fn := fun _ => fun
  | [d1, d2] => { results := [.lit (.bool false)], args := [d1, d2] }
  | _ => none }
def LzCutsWrongFalsely : Prop := lzCutsRow.holds Try.pinned (OpenSpec.ofChange lzCutsWrong)

/-- 'matryoshkalaw3.LzHand': WHATEVER THE INPUT: true; the input reads as it did. -/
def lzHandSpec : ChangeSpec := { name := "lzHand", fn := fun _ => fun
  | [d1, d2, d3, d4] => { results := [.lit (.bool true)], args := [d1, d2, d3, d4] }
  | _ => none }
def lzHandRow : OpenClaim := { program := "ytlkpedknhjgdiaa", sum := "8db22c9e51c6df745d89ed83200153039792008209a28eab10f45fcbfaeae3fd", func := "matryoshka/matryoshkalaw3.LzHand", spec := "lzHand", unfollowed := true, recurses := true, plainKeys := false, apart := false }
def LzHandSaid : Prop := lzHandRow.holds Try.pinned (OpenSpec.ofChange lzHandSpec)

/-- ITS FALSE NEIGHBOUR: 'it returns false'. Refute it at one input. -/
def lzHandWrong : ChangeSpec := { name := "lzHand", fn := fun _ => fun
  | [d1, d2, d3, d4] => { results := [.lit (.bool false)], args := [d1, d2, d3, d4] }
  | _ => none }
def LzHandWrongFalsely : Prop := lzHandRow.holds Try.pinned (OpenSpec.ofChange lzHandWrong)

/-- 'matryoshkalaw3.LzFar': WHATEVER THE INPUT: true; the input reads as it did. -/
def lzFarSpec : ChangeSpec := { name := "lzFar", fn := fun _ => fun
  | [d1, d2, d3] => { results := [.lit (.bool true)], args := [d1, d2, d3] }
  | _ => none }
def lzFarRow : OpenClaim := { program := "ytlkpedknhjgdiaa", sum := "8db22c9e51c6df745d89ed83200153039792008209a28eab10f45fcbfaeae3fd", func := "matryoshka/matryoshkalaw3.LzFar", spec := "lzFar", unfollowed := true, recurses := true, plainKeys := false, apart := false }
def LzFarSaid : Prop := lzFarRow.holds Try.pinned (OpenSpec.ofChange lzFarSpec)

/-- ITS FALSE NEIGHBOUR: 'it returns false'. Refute it at one input. -/
def lzFarWrong : ChangeSpec := { name := "lzFar", fn := fun _ => fun
  | [d1, d2, d3] => { results := [.lit (.bool false)], args := [d1, d2, d3] }
  | _ => none }
def LzFarWrongFalsely : Prop := lzFarRow.holds Try.pinned (OpenSpec.ofChange lzFarWrong)

/-- 'matryoshkalaw3.LzRoom': WHATEVER THE INPUT: true; the input reads as it did. -/
def lzRoomSpec : ChangeSpec := { name := "lzRoom", fn := fun _ => fun
  | [d1, d2] => { results := [.lit (.bool true)], args := [d1, d2] }
  | _ => none }
def lzRoomRow : OpenClaim := { program := "ytlkpedknhjgdiaa", sum := "8db22c9e51c6df745d89ed83200153039792008209a28eab10f45fcbfaeae3fd", func := "matryoshka/matryoshkalaw3.LzRoom", spec := "lzRoom", unfollowed := true, recurses := true, plainKeys := false, apart := false }
def LzRoomSaid : Prop := lzRoomRow.holds Try.pinned (OpenSpec.ofChange lzRoomSpec)

/-- ITS FALSE NEIGHBOUR: 'it returns false'. Refute it at one input. -/
def lzRoomWrong : ChangeSpec := { name := "lzRoom", fn := fun _ => fun
  | [d1, d2] => { results := [.lit (.bool false)], args := [d1, d2] }
  | _ => none }
def LzRoomWrongFalsely : Prop := lzRoomRow.holds Try.pinned (OpenSpec.ofChange lzRoomWrong)

/- THE SECOND FORM. 'bulk': how many values and letters a reading holds, each counted each time it is reached (what is shared counts as often as it is met; a slice's spare places count too). A statement '..UptoSaid' is the law's where the arguments, and the package variables that the reading takes, are together of bulk at most 1048576: NARROWER than '..Said'. Prove '..Said' where nothing that the law and all that it calls make is longer than what came in: it says more and counts as full. Else prove '..UptoSaid'. A law counts once. -/
mutual
def uptoBulk {H : Type} : DataW H → Nat
  | .lit (.string bytes) => bytes.length + 1
  | .lit _ => 1
  | .nil => 1
  | .ptr d => uptoBulk d + 1
  | .slice elems spare => uptoBulkAll elems + uptoBulkAll spare + 1
  | .agg parts => uptoBulkAll parts + 1
  | .iface _ d => uptoBulk d + 1
  | .map entries => uptoBulkEntries entries + 1
  | .held _ => 1
def uptoBulkAll {H : Type} : List (DataW H) → Nat
  | [] => 0
  | d :: r => uptoBulk d + uptoBulkAll r
def uptoBulkEntries {H : Type} : List (Lit × DataW H) → Nat
  | [] => 0
  | x :: r => uptoBulkEntry x + uptoBulkEntries r
def uptoBulkEntry {H : Type} : Lit × DataW H → Nat
  | (.string bytes, d) => bytes.length + uptoBulk d + 1
  | (_, d) => uptoBulk d + 1
 end
def uptoSmall : (H : Type) → List (DataW H) → Bool := fun _ ds => decide (uptoBulkAll ds ≤ 1048576)
def OpenSpec.upto (s : _root_.Go.ChangeSpec) : _root_.Go.OpenSpec := { _root_.Go.OpenSpec.ofChange s with cond := some uptoSmall }

/-- 'matryoshkalaw3.LzUnpacks', WHERE WHAT IT READS IS OF BULK AT MOST 1048576: true; the input reads as it did. -/
def lzUnpacksUptoRow : OpenClaim := { program := "ytlkpedknhjgdiaa", sum := "8db22c9e51c6df745d89ed83200153039792008209a28eab10f45fcbfaeae3fd", func := "matryoshka/matryoshkalaw3.LzUnpacks", spec := "lzUnpacks", unfollowed := true, recurses := true, plainKeys := false, apart := false, narrowed := true }
def LzUnpacksUptoSaid : Prop := lzUnpacksUptoRow.holds Try.pinned (OpenSpec.upto lzUnpacksSpec)

/-- 'matryoshkalaw3.LzBack', WHERE WHAT IT READS IS OF BULK AT MOST 1048576: true; the input reads as it did. -/
def lzBackUptoRow : OpenClaim := { program := "ytlkpedknhjgdiaa", sum := "8db22c9e51c6df745d89ed83200153039792008209a28eab10f45fcbfaeae3fd", func := "matryoshka/matryoshkalaw3.LzBack", spec := "lzBack", unfollowed := true, recurses := true, plainKeys := false, apart := false, narrowed := true }
def LzBackUptoSaid : Prop := lzBackUptoRow.holds Try.pinned (OpenSpec.upto lzBackSpec)

/-- 'matryoshkalaw3.LzLess', WHERE WHAT IT READS IS OF BULK AT MOST 1048576: true; the input reads as it did. -/
def lzLessUptoRow : OpenClaim := { program := "ytlkpedknhjgdiaa", sum := "8db22c9e51c6df745d89ed83200153039792008209a28eab10f45fcbfaeae3fd", func := "matryoshka/matryoshkalaw3.LzLess", spec := "lzLess", unfollowed := true, recurses := true, plainKeys := false, apart := false, narrowed := true }
def LzLessUptoSaid : Prop := lzLessUptoRow.holds Try.pinned (OpenSpec.upto lzLessSpec)

/-- 'matryoshkalaw3.LzRuns', WHERE WHAT IT READS IS OF BULK AT MOST 1048576: true; the input reads as it did. -/
def lzRunsUptoRow : OpenClaim := { program := "ytlkpedknhjgdiaa", sum := "8db22c9e51c6df745d89ed83200153039792008209a28eab10f45fcbfaeae3fd", func := "matryoshka/matryoshkalaw3.LzRuns", spec := "lzRuns", unfollowed := true, recurses := true, plainKeys := false, apart := false, narrowed := true }
def LzRunsUptoSaid : Prop := lzRunsUptoRow.holds Try.pinned (OpenSpec.upto lzRunsSpec)

/-- 'matryoshkalaw3.LzCuts', WHERE WHAT IT READS IS OF BULK AT MOST 1048576: true; the input reads as it did. -/
def lzCutsUptoRow : OpenClaim := { program := "ytlkpedknhjgdiaa", sum := "8db22c9e51c6df745d89ed83200153039792008209a28eab10f45fcbfaeae3fd", func := "matryoshka/matryoshkalaw3.LzCuts", spec := "lzCuts", unfollowed := true, recurses := true, plainKeys := false, apart := false, narrowed := true }
def LzCutsUptoSaid : Prop := lzCutsUptoRow.holds Try.pinned (OpenSpec.upto lzCutsSpec)

/-- 'matryoshkalaw3.LzHand', WHERE WHAT IT READS IS OF BULK AT MOST 1048576: true; the input reads as it did. -/
def lzHandUptoRow : OpenClaim := { program := "ytlkpedknhjgdiaa", sum := "8db22c9e51c6df745d89ed83200153039792008209a28eab10f45fcbfaeae3fd", func := "matryoshka/matryoshkalaw3.LzHand", spec := "lzHand", unfollowed := true, recurses := true, plainKeys := false, apart := false, narrowed := true }
def LzHandUptoSaid : Prop := lzHandUptoRow.holds Try.pinned (OpenSpec.upto lzHandSpec)

/-- 'matryoshkalaw3.LzFar', WHERE WHAT IT READS IS OF BULK AT MOST 1048576: true; the input reads as it did. -/
def lzFarUptoRow : OpenClaim := { program := "ytlkpedknhjgdiaa", sum := "8db22c9e51c6df745d89ed83200153039792008209a28eab10f45fcbfaeae3fd", func := "matryoshka/matryoshkalaw3.LzFar", spec := "lzFar", unfollowed := true, recurses := true, plainKeys := false, apart := false, narrowed := true }
def LzFarUptoSaid : Prop := lzFarUptoRow.holds Try.pinned (OpenSpec.upto lzFarSpec)

/-- 'matryoshkalaw3.LzRoom', WHERE WHAT IT READS IS OF BULK AT MOST 1048576: true; the input reads as it did. -/
def lzRoomUptoRow : OpenClaim := { program := "ytlkpedknhjgdiaa", sum := "8db22c9e51c6df745d89ed83200153039792008209a28eab10f45fcbfaeae3fd", func := "matryoshka/matryoshkalaw3.LzRoom", spec := "lzRoom", unfollowed := true, recurses := true, plainKeys := false, apart := false, narrowed := true }
def LzRoomUptoSaid : Prop := lzRoomUptoRow.holds Try.pinned (OpenSpec.upto lzRoomSpec)

end Rows
end Go.Proofs.Ytlkpedknhjgdiaa
