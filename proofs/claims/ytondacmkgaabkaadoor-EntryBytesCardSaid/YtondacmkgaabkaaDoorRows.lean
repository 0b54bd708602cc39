/-
  NARROWER THAN 'FOR EVERY INPUT', by the rows' own cells (each row's printed sentence says how): EntryPuts: laid · EntryGets: laid · EntryBack: laid · EntryBytes: laid · EntryEnds: laid.
  DERIVED. THE GIVEN ROWS OF THIS SEAT. 5 by the template 'for every input the law returns true; each argument reads behind the call as it read before'; 0 by the template 'total and deterministic' (their statements: YtondacmkgaabkaaDoorTotals.lean).
  GIVEN WITH THE SEED: the statements are not yours to turn. If you find one false, say at which input.
  Laid BY PROGRAM, IN A SANDBOX (cutbox-rows.mjs): the forced cells as the released guide's own fill.sh prints them over the translation 71fe93017112bf66… (all of the seat's roots in one cut). By AI agents, Wed Nov 11 2026. No macro, syntax, notation, axiom, sorry.
-/
import Derived.Test.YtondacmkgaabkaaDoorChecked
import GoSem.Claim
import GoSem.ClaimJoined
import GoSem.ClaimMapViews
import Derived.JoinedTies
import Derived.KernelRfl
namespace Go.Proofs.YtondacmkgaabkaaDoor
/- THE CELL 'sum', in the pinned program and in every row, IS THE sha256 OF THE DUMP (.gsa) THAT YtondacmkgaabkaaDoorProg.lean LOADS. Nothing in Lean hashes anything: it is a label: what it is worth is what the hold of that sum in a sandbox is worth. -/
noncomputable def Tryd.pinned : Pinned := { name := "ytondacmkgaabkaadoor", sum := "71fe93017112bf66202b544faceb039d221178982ad81ee485917dde26517445", checked := Tryd.checked }
namespace Rows
def none {H : Type} : Left H := { results := [], args := [] }

/- WHAT THE LISTED PACKAGE-LEVEL VARIABLES READ AS WHEN THE CALL BEGINS. Each datum BY PROGRAM (the guide's laid-datum.mjs) off the statement by which the dump's own 'gosem.cut.vars' lays the variable. In a bare row this is a premise. The card (YtondacmkgaabkaaDoorCards.lean) ties it to the program's text. -/
def laid_matryoshka_entry_widths {H : Type} : DataW H := .agg [.lit (.int .i64 1), .lit (.int .i64 1), .lit (.int .i64 2), .lit (.int .i64 4), .lit (.int .i64 4), .lit (.int .i64 4)]

/-- 'matryoshkalaw7.EntryPuts': WHATEVER THE INPUT: true; the input reads as it did. -/
def entryPutsSpec : ChangeSpec := { name := "entryPuts", fn := fun _ => fun
  | [d1, d2] => { results := [.lit (.bool true)], args := [d1, d2] }
  | _ => none }
def entryPutsRow : OpenClaim := { program := "ytondacmkgaabkaadoor", sum := "71fe93017112bf66202b544faceb039d221178982ad81ee485917dde26517445", func := "matryoshka/matryoshkalaw7.EntryPuts", spec := "entryPuts", inPlace := ["sync/atomic.AddInt64", "sync/atomic.LoadInt64"], named := ["matryoshka/entry.widths"], apart := false, laid := [("matryoshka/entry.widths", laid_matryoshka_entry_widths)] }
def EntryPutsSaid : Prop := entryPutsRow.holds Tryd.pinned (OpenSpec.ofChange entryPutsSpec)

/-- ITS FALSE NEIGHBOUR: 'it returns false'. Refute it at one input. -/
def entryPutsWrong : ChangeSpec := { name := "entryPuts", fn := fun _ => fun
  | [d1, d2] => { results := [.lit (.bool false)], args := [d1, d2] }
  | _ => none }
def EntryPutsWrongFalsely : Prop := entryPutsRow.holds Tryd.pinned (OpenSpec.ofChange entryPutsWrong)

/-- 'matryoshkalaw7.EntryGets': WHATEVER THE INPUT: true; the input reads as it did. -/
def entryGetsSpec : ChangeSpec := { name := "entryGets", fn := fun _ => fun
  | [d1, d2] => { results := [.lit (.bool true)], args := [d1, d2] }
  | _ => none }
def entryGetsRow : OpenClaim := { program := "ytondacmkgaabkaadoor", sum := "71fe93017112bf66202b544faceb039d221178982ad81ee485917dde26517445", func := "matryoshka/matryoshkalaw7.EntryGets", spec := "entryGets", inPlace := ["sync/atomic.AddInt64", "sync/atomic.LoadInt64"], unfollowed := true, recurses := true, named := ["matryoshka/entry.widths"], apart := false, laid := [("matryoshka/entry.widths", laid_matryoshka_entry_widths)] }
def EntryGetsSaid : Prop := entryGetsRow.holds Tryd.pinned (OpenSpec.ofChange entryGetsSpec)

/-- ITS FALSE NEIGHBOUR: 'it returns false'. Refute it at one input. -/
def entryGetsWrong : ChangeSpec := { name := "entryGets", fn := fun _ => fun
  | [d1, d2] => { results := [.lit (.bool false)], args := [d1, d2] }
  | _ => none }
def EntryGetsWrongFalsely : Prop := entryGetsRow.holds Tryd.pinned (OpenSpec.ofChange entryGetsWrong)

/-- 'matryoshkalaw7.EntryBack': WHATEVER THE INPUT: true; the input reads as it did. -/
def entryBackSpec : ChangeSpec := { name := "entryBack", fn := fun _ => fun
  | [d1, d2, d3, d4, d5] => { results := [.lit (.bool true)], args := [d1, d2, d3, d4, d5] }
  | _ => none }
def entryBackRow : OpenClaim := { program := "ytondacmkgaabkaadoor", sum := "71fe93017112bf66202b544faceb039d221178982ad81ee485917dde26517445", func := "matryoshka/matryoshkalaw7.EntryBack", spec := "entryBack", inPlace := ["sync/atomic.AddInt64", "sync/atomic.LoadInt64"], unfollowed := true, recurses := true, named := ["matryoshka/entry.widths"], apart := false, laid := [("matryoshka/entry.widths", laid_matryoshka_entry_widths)] }
def EntryBackSaid : Prop := entryBackRow.holds Tryd.pinned (OpenSpec.ofChange entryBackSpec)

/-- ITS FALSE NEIGHBOUR: 'it returns false'. Refute it at one input. -/
def entryBackWrong : ChangeSpec := { name := "entryBack", fn := fun _ => fun
  | [d1, d2, d3, d4, d5] => { results := [.lit (.bool false)], args := [d1, d2, d3, d4, d5] }
  | _ => none }
def EntryBackWrongFalsely : Prop := entryBackRow.holds Tryd.pinned (OpenSpec.ofChange entryBackWrong)

/-- 'matryoshkalaw7.EntryBytes': WHATEVER THE INPUT: true; the input reads as it did. -/
def entryBytesSpec : ChangeSpec := { name := "entryBytes", fn := fun _ => fun
  | [d1, d2, d3, d4, d5] => { results := [.lit (.bool true)], args := [d1, d2, d3, d4, d5] }
  | _ => none }
def entryBytesRow : OpenClaim := { program := "ytondacmkgaabkaadoor", sum := "71fe93017112bf66202b544faceb039d221178982ad81ee485917dde26517445", func := "matryoshka/matryoshkalaw7.EntryBytes", spec := "entryBytes", inPlace := ["sync/atomic.AddInt64", "sync/atomic.LoadInt64"], unfollowed := true, recurses := true, named := ["matryoshka/entry.widths"], apart := false, laid := [("matryoshka/entry.widths", laid_matryoshka_entry_widths)] }
def EntryBytesSaid : Prop := entryBytesRow.holds Tryd.pinned (OpenSpec.ofChange entryBytesSpec)

/-- ITS FALSE NEIGHBOUR: 'it returns false'. Refute it at one input. -/
def entryBytesWrong : ChangeSpec := { name := "entryBytes", fn := fun _ => fun
  | [d1, d2, d3, d4, d5] => { results := [.lit (.bool false)], args := [d1, d2, d3, d4, d5] }
  | _ => none }
def EntryBytesWrongFalsely : Prop := entryBytesRow.holds Tryd.pinned (OpenSpec.ofChange entryBytesWrong)

/-- 'matryoshkalaw7.EntryEnds': WHATEVER THE INPUT: true; the input reads as it did. -/
def entryEndsSpec : ChangeSpec := { name := "entryEnds", fn := fun _ => fun
  | [d1, d2] => { results := [.lit (.bool true)], args := [d1, d2] }
  | _ => none }
def entryEndsRow : OpenClaim := { program := "ytondacmkgaabkaadoor", sum := "71fe93017112bf66202b544faceb039d221178982ad81ee485917dde26517445", func := "matryoshka/matryoshkalaw7.EntryEnds", spec := "entryEnds", inPlace := ["sync/atomic.AddInt64", "sync/atomic.LoadInt64"], named := ["matryoshka/entry.widths"], apart := false, laid := [("matryoshka/entry.widths", laid_matryoshka_entry_widths)] }
def EntryEndsSaid : Prop := entryEndsRow.holds Tryd.pinned (OpenSpec.ofChange entryEndsSpec)

/-- ITS FALSE NEIGHBOUR: 'it returns false'. Refute it at one input. -/
def entryEndsWrong : ChangeSpec := { name := "entryEnds", fn := fun _ => fun
  | [d1, d2] => { results := [.lit (.bool false)], args := [d1, d2] }
  | _ => none }
def EntryEndsWrongFalsely : Prop := entryEndsRow.holds Tryd.pinned (OpenSpec.ofChange entryEndsWrong)

/- THE SECOND FORM. 'bulk': how many values and letters a reading holds, each counted each time it is reached (what is shared counts as often as it is met; a slice's spare places count too). A statement '..UptoSaid' is the law's where the arguments, and the package variables that the reading takes, are together of bulk at most 1048576: NARROWER than '..Said'. Prove '..Said' where nothing that the law and all that it calls make is longer than what came in: it says more and counts as full. Else prove '..UptoSaid'. A law counts once. -/
mutual
def uptoBulk {H : Type} : DataW H → Nat
  | .lit (.string bytes) => bytes.length + 1
  | .lit _ => 1
  | .nil => 1
  | .ptr d => uptoBulk d + 1
  | .slice elems spare => uptoBulkAll elems + uptoBulkAll spare + 1
  | .agg parts => uptoBulkAll parts + 1
  | .iface _ d => uptoBulk d + 1
  | .map entries => uptoBulkEntries entries + 1
  | .held _ => 1
def uptoBulkAll {H : Type} : List (DataW H) → Nat
  | [] => 0
  | d :: r => uptoBulk d + uptoBulkAll r
def uptoBulkEntries {H : Type} : List (Lit × DataW H) → Nat
  | [] => 0
  | x :: r => uptoBulkEntry x + uptoBulkEntries r
def uptoBulkEntry {H : Type} : Lit × DataW H → Nat
  | (.string bytes, d) => bytes.length + uptoBulk d + 1
  | (_, d) => uptoBulk d + 1
 end
def uptoSmall : (H : Type) → List (DataW H) → Bool := fun _ ds => decide (uptoBulkAll ds ≤ 1048576)
def OpenSpec.upto (s : _root_.Go.ChangeSpec) : _root_.Go.OpenSpec := { _root_.Go.OpenSpec.ofChange s with cond := some uptoSmall }

/-- 'matryoshkalaw7.EntryPuts', WHERE WHAT IT READS IS OF BULK AT MOST 1048576: true; the input reads as it did. -/
def entryPutsUptoRow : OpenClaim := { program := "ytondacmkgaabkaadoor", sum := "71fe93017112bf66202b544faceb039d221178982ad81ee485917dde26517445", func := "matryoshka/matryoshkalaw7.EntryPuts", spec := "entryPuts", inPlace := ["sync/atomic.AddInt64", "sync/atomic.LoadInt64"], named := ["matryoshka/entry.widths"], apart := false, laid := [("matryoshka/entry.widths", laid_matryoshka_entry_widths)], narrowed := true }
def EntryPutsUptoSaid : Prop := entryPutsUptoRow.holds Tryd.pinned (OpenSpec.upto entryPutsSpec)

/-- 'matryoshkalaw7.EntryGets', WHERE WHAT IT READS IS OF BULK AT MOST 1048576: true; the input reads as it did. -/
def entryGetsUptoRow : OpenClaim := { program := "ytondacmkgaabkaadoor", sum := "71fe93017112bf66202b544faceb039d221178982ad81ee485917dde26517445", func := "matryoshka/matryoshkalaw7.EntryGets", spec := "entryGets", inPlace := ["sync/atomic.AddInt64", "sync/atomic.LoadInt64"], unfollowed := true, recurses := true, named := ["matryoshka/entry.widths"], apart := false, laid := [("matryoshka/entry.widths", laid_matryoshka_entry_widths)], narrowed := true }
def EntryGetsUptoSaid : Prop := entryGetsUptoRow.holds Tryd.pinned (OpenSpec.upto entryGetsSpec)

/-- 'matryoshkalaw7.EntryBack', WHERE WHAT IT READS IS OF BULK AT MOST 1048576: true; the input reads as it did. -/
def entryBackUptoRow : OpenClaim := { program := "ytondacmkgaabkaadoor", sum := "71fe93017112bf66202b544faceb039d221178982ad81ee485917dde26517445", func := "matryoshka/matryoshkalaw7.EntryBack", spec := "entryBack", inPlace := ["sync/atomic.AddInt64", "sync/atomic.LoadInt64"], unfollowed := true, recurses := true, named := ["matryoshka/entry.widths"], apart := false, laid := [("matryoshka/entry.widths", laid_matryoshka_entry_widths)], narrowed := true }
def EntryBackUptoSaid : Prop := entryBackUptoRow.holds Tryd.pinned (OpenSpec.upto entryBackSpec)

/-- 'matryoshkalaw7.EntryBytes', WHERE WHAT IT READS IS OF BULK AT MOST 1048576: true; the input reads as it did. -/
def entryBytesUptoRow : OpenClaim := { program := "ytondacmkgaabkaadoor", sum := "71fe93017112bf66202b544faceb039d221178982ad81ee485917dde26517445", func := "matryoshka/matryoshkalaw7.EntryBytes", spec := "entryBytes", inPlace := ["sync/atomic.AddInt64", "sync/atomic.LoadInt64"], unfollowed := true, recurses := true, named := ["matryoshka/entry.widths"], apart := false, laid := [("matryoshka/entry.widths", laid_matryoshka_entry_widths)], narrowed := true }
def EntryBytesUptoSaid : Prop := entryBytesUptoRow.holds Tryd.pinned (OpenSpec.upto entryBytesSpec)

/-- 'matryoshkalaw7.EntryEnds', WHERE WHAT IT READS IS OF BULK AT MOST 1048576: true; the input reads as it did. -/
def entryEndsUptoRow : OpenClaim := { program := "ytondacmkgaabkaadoor", sum := "71fe93017112bf66202b544faceb039d221178982ad81ee485917dde26517445", func := "matryoshka/matryoshkalaw7.EntryEnds", spec := "entryEnds", inPlace := ["sync/atomic.AddInt64", "sync/atomic.LoadInt64"], named := ["matryoshka/entry.widths"], apart := false, laid := [("matryoshka/entry.widths", laid_matryoshka_entry_widths)], narrowed := true }
def EntryEndsUptoSaid : Prop := entryEndsUptoRow.holds Tryd.pinned (OpenSpec.upto entryEndsSpec)

end Rows
end Go.Proofs.YtondacmkgaabkaaDoor
