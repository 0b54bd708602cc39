/-
  NARROWER THAN 'FOR EVERY INPUT', by the rows' own cells (each row's printed sentence says how): MetaPuts: laid · MetaBack: laid · MetaCuts: laid · MetaRuns: laid · MetaUnlike: laid.
  DERIVED. THE GIVEN ROWS OF THIS SEAT. 5 by the template 'for every input the law returns true; each argument reads behind the call as it read before'; 0 by the template 'total and deterministic' (their statements: YtdffgnpldapciaaDoorTotals.lean).
  GIVEN WITH THE SEED: the statements are not yours to turn. If you find one false, say at which input.
  Laid BY PROGRAM, IN A SANDBOX (cutbox-rows.mjs): the forced cells as the released guide's own fill.sh prints them over the translation 0bdcb9289f98acb3… (all of the seat's roots in one cut). By AI agents, Wed Nov 11 2026. No macro, syntax, notation, axiom, sorry.
-/
import Derived.Test.YtdffgnpldapciaaDoorChecked
import GoSem.Claim
import GoSem.ClaimJoined
import GoSem.ClaimMapViews
import Derived.JoinedTies
import Derived.KernelRfl
namespace Go.Proofs.YtdffgnpldapciaaDoor
/- THE CELL 'sum', in the pinned program and in every row, IS THE sha256 OF THE DUMP (.gsa) THAT YtdffgnpldapciaaDoorProg.lean LOADS. Nothing in Lean hashes anything: it is a label: what it is worth is what the hold of that sum in a sandbox is worth. -/
noncomputable def Tryd.pinned : Pinned := { name := "ytdffgnpldapciaadoor", sum := "0bdcb9289f98acb396a564a7a0341b04cf4ad0a0ba5ef0ccebb3049041b2fa43", checked := Tryd.checked }
namespace Rows
def none {H : Type} : Left H := { results := [], args := [] }

/- WHAT THE LISTED PACKAGE-LEVEL VARIABLES READ AS WHEN THE CALL BEGINS. Each datum BY PROGRAM (the guide's laid-datum.mjs) off the statement by which the dump's own 'gosem.cut.vars' lays the variable. In a bare row this is a premise. The card (YtdffgnpldapciaaDoorCards.lean) ties it to the program's text. -/
def laid_matryoshka_entry_widths {H : Type} : DataW H := .agg [.lit (.int .i64 1), .lit (.int .i64 1), .lit (.int .i64 2), .lit (.int .i64 4), .lit (.int .i64 4), .lit (.int .i64 4)]

/-- 'matryoshkalaw14.MetaPuts': WHATEVER THE INPUT: true; the input reads as it did. -/
def metaPutsSpec : ChangeSpec := { name := "metaPuts", fn := fun _ => fun
  | [d] => { results := [.lit (.bool true)], args := [d] }
  | _ => none }
def metaPutsRow : OpenClaim := { program := "ytdffgnpldapciaadoor", sum := "0bdcb9289f98acb396a564a7a0341b04cf4ad0a0ba5ef0ccebb3049041b2fa43", func := "matryoshka/matryoshkalaw14.MetaPuts", spec := "metaPuts", inPlace := ["sync/atomic.AddInt64", "sync/atomic.LoadInt64"], named := ["matryoshka/entry.widths"], apart := false, laid := [("matryoshka/entry.widths", laid_matryoshka_entry_widths)] }
def MetaPutsSaid : Prop := metaPutsRow.holds Tryd.pinned (OpenSpec.ofChange metaPutsSpec)

/-- ITS FALSE NEIGHBOUR: 'it returns false'. Refute it at one input. -/
def metaPutsWrong : ChangeSpec := { name := "metaPuts", fn := fun _ => fun
  | [d] => { results := [.lit (.bool false)], args := [d] }
  | _ => none }
def MetaPutsWrongFalsely : Prop := metaPutsRow.holds Tryd.pinned (OpenSpec.ofChange metaPutsWrong)

/-- 'matryoshkalaw14.MetaBack': WHATEVER THE INPUT: true; the input reads as it did. -/
def metaBackSpec : ChangeSpec := { name := "metaBack", fn := fun _ => fun
  | [d] => { results := [.lit (.bool true)], args := [d] }
  | _ => none }
def metaBackRow : OpenClaim := { program := "ytdffgnpldapciaadoor", sum := "0bdcb9289f98acb396a564a7a0341b04cf4ad0a0ba5ef0ccebb3049041b2fa43", func := "matryoshka/matryoshkalaw14.MetaBack", spec := "metaBack", inPlace := ["sync/atomic.AddInt64", "sync/atomic.LoadInt64"], unfollowed := true, recurses := true, named := ["matryoshka/entry.widths"], apart := false, laid := [("matryoshka/entry.widths", laid_matryoshka_entry_widths)] }
def MetaBackSaid : Prop := metaBackRow.holds Tryd.pinned (OpenSpec.ofChange metaBackSpec)

/-- ITS FALSE NEIGHBOUR: 'it returns false'. Refute it at one input. -/
def metaBackWrong : ChangeSpec := { name := "metaBack", fn := fun _ => fun
  | [d] => { results := [.lit (.bool false)], args := [d] }
  | _ => none }
def MetaBackWrongFalsely : Prop := metaBackRow.holds Tryd.pinned (OpenSpec.ofChange metaBackWrong)

/-- 'matryoshkalaw14.MetaCuts': WHATEVER THE INPUT: true; the input reads as it did. -/
def metaCutsSpec : ChangeSpec := { name := "metaCuts", fn := fun _ => fun
  | [d1, d2, d3] => { results := [.lit (.bool true)], args := [d1, d2, d3] }
  | _ => none }
def metaCutsRow : OpenClaim := { program := "ytdffgnpldapciaadoor", sum := "0bdcb9289f98acb396a564a7a0341b04cf4ad0a0ba5ef0ccebb3049041b2fa43", func := "matryoshka/matryoshkalaw14.MetaCuts", spec := "metaCuts", inPlace := ["sync/atomic.AddInt64", "sync/atomic.LoadInt64"], unfollowed := true, recurses := true, named := ["matryoshka/entry.widths"], apart := false, laid := [("matryoshka/entry.widths", laid_matryoshka_entry_widths)] }
def MetaCutsSaid : Prop := metaCutsRow.holds Tryd.pinned (OpenSpec.ofChange metaCutsSpec)

/-- ITS FALSE NEIGHBOUR: 'it returns false'. Refute it at one input. -/
def metaCutsWrong : ChangeSpec := { name := "metaCuts", fn := fun _ => fun
  | [d1, d2, d3] => { results := [.lit (.bool false)], args := [d1, d2, d3] }
  | _ => none }
def MetaCutsWrongFalsely : Prop := metaCutsRow.holds Tryd.pinned (OpenSpec.ofChange metaCutsWrong)

/-- 'matryoshkalaw14.MetaRuns': WHATEVER THE INPUT: true; the input reads as it did. -/
def metaRunsSpec : ChangeSpec := { name := "metaRuns", fn := fun _ => fun
  | [d1, d2, d3] => { results := [.lit (.bool true)], args := [d1, d2, d3] }
  | _ => none }
def metaRunsRow : OpenClaim := { program := "ytdffgnpldapciaadoor", sum := "0bdcb9289f98acb396a564a7a0341b04cf4ad0a0ba5ef0ccebb3049041b2fa43", func := "matryoshka/matryoshkalaw14.MetaRuns", spec := "metaRuns", inPlace := ["sync/atomic.AddInt64", "sync/atomic.LoadInt64"], unfollowed := true, recurses := true, named := ["matryoshka/entry.widths"], apart := false, laid := [("matryoshka/entry.widths", laid_matryoshka_entry_widths)] }
def MetaRunsSaid : Prop := metaRunsRow.holds Tryd.pinned (OpenSpec.ofChange metaRunsSpec)

/-- ITS FALSE NEIGHBOUR: 'it returns false'. Refute it at one input. -/
def metaRunsWrong : ChangeSpec := { name := "metaRuns", fn := fun _ => fun
  | [d1, d2, d3] => { results := [.lit (.bool false)], args := [d1, d2, d3] }
  | _ => none }
def MetaRunsWrongFalsely : Prop := metaRunsRow.holds Tryd.pinned (OpenSpec.ofChange metaRunsWrong)

/-- 'matryoshkalaw14.MetaUnlike': WHATEVER THE INPUT: true; the input reads as it did. -/
def metaUnlikeSpec : ChangeSpec := { name := "metaUnlike", fn := fun _ => fun
  | [d1, d2] => { results := [.lit (.bool true)], args := [d1, d2] }
  | _ => none }
def metaUnlikeRow : OpenClaim := { program := "ytdffgnpldapciaadoor", sum := "0bdcb9289f98acb396a564a7a0341b04cf4ad0a0ba5ef0ccebb3049041b2fa43", func := "matryoshka/matryoshkalaw14.MetaUnlike", spec := "metaUnlike", inPlace := ["sync/atomic.AddInt64", "sync/atomic.LoadInt64"], named := ["matryoshka/entry.widths"], apart := false, laid := [("matryoshka/entry.widths", laid_matryoshka_entry_widths)] }
def MetaUnlikeSaid : Prop := metaUnlikeRow.holds Tryd.pinned (OpenSpec.ofChange metaUnlikeSpec)

/-- ITS FALSE NEIGHBOUR: 'it returns false'. Refute it at one input. -/
def metaUnlikeWrong : ChangeSpec := { name := "metaUnlike", fn := fun _ => fun
  | [d1, d2] => { results := [.lit (.bool false)], args := [d1, d2] }
  | _ => none }
def MetaUnlikeWrongFalsely : Prop := metaUnlikeRow.holds Tryd.pinned (OpenSpec.ofChange metaUnlikeWrong)

/- THE SECOND FORM. 'bulk': how many values and letters a reading holds, each counted each time it is reached (what is shared counts as often as it is met; a slice's spare places count too). A statement '..UptoSaid' is the law's where the arguments, and the package variables that the reading takes, are together of bulk at most 1048576: NARROWER than '..Said'. Prove '..Said' where nothing that the law and all that it calls make is longer than what came in: it says more and counts as full. Else prove '..UptoSaid'. A law counts once. -/
mutual
def uptoBulk {H : Type} : DataW H → Nat
  | .lit (.string bytes) => bytes.length + 1
  | .lit _ => 1
  | .nil => 1
  | .ptr d => uptoBulk d + 1
  | .slice elems spare => uptoBulkAll elems + uptoBulkAll spare + 1
  | .agg parts => uptoBulkAll parts + 1
  | .iface _ d => uptoBulk d + 1
  | .map entries => uptoBulkEntries entries + 1
  | .held _ => 1
def uptoBulkAll {H : Type} : List (DataW H) → Nat
  | [] => 0
  | d :: r => uptoBulk d + uptoBulkAll r
def uptoBulkEntries {H : Type} : List (Lit × DataW H) → Nat
  | [] => 0
  | x :: r => uptoBulkEntry x + uptoBulkEntries r
def uptoBulkEntry {H : Type} : Lit × DataW H → Nat
  | (.string bytes, d) => bytes.length + uptoBulk d + 1
  | (_, d) => uptoBulk d + 1
 end
def uptoSmall : (H : Type) → List (DataW H) → Bool := fun _ ds => decide (uptoBulkAll ds ≤ 1048576)
def OpenSpec.upto (s : _root_.Go.ChangeSpec) : _root_.Go.OpenSpec := { _root_.Go.OpenSpec.ofChange s with cond := some uptoSmall }

/-- 'matryoshkalaw14.MetaPuts', WHERE WHAT IT READS IS OF BULK AT MOST 1048576: true; the input reads as it did. -/
def metaPutsUptoRow : OpenClaim := { program := "ytdffgnpldapciaadoor", sum := "0bdcb9289f98acb396a564a7a0341b04cf4ad0a0ba5ef0ccebb3049041b2fa43", func := "matryoshka/matryoshkalaw14.MetaPuts", spec := "metaPuts", inPlace := ["sync/atomic.AddInt64", "sync/atomic.LoadInt64"], named := ["matryoshka/entry.widths"], apart := false, laid := [("matryoshka/entry.widths", laid_matryoshka_entry_widths)], narrowed := true }
def MetaPutsUptoSaid : Prop := metaPutsUptoRow.holds Tryd.pinned (OpenSpec.upto metaPutsSpec)

/-- 'matryoshkalaw14.MetaBack', WHERE WHAT IT READS IS OF BULK AT MOST 1048576: true; the input reads as it did. -/
def metaBackUptoRow : OpenClaim := { program := "ytdffgnpldapciaadoor", sum := "0bdcb9289f98acb396a564a7a0341b04cf4ad0a0ba5ef0ccebb3049041b2fa43", func := "matryoshka/matryoshkalaw14.MetaBack", spec := "metaBack", inPlace := ["sync/atomic.AddInt64", "sync/atomic.LoadInt64"], unfollowed := true, recurses := true, named := ["matryoshka/entry.widths"], apart := false, laid := [("matryoshka/entry.widths", laid_matryoshka_entry_widths)], narrowed := true }
def MetaBackUptoSaid : Prop := metaBackUptoRow.holds Tryd.pinned (OpenSpec.upto metaBackSpec)

/-- 'matryoshkalaw14.MetaCuts', WHERE WHAT IT READS IS OF BULK AT MOST 1048576: true; the input reads as it did. -/
def metaCutsUptoRow : OpenClaim := { program := "ytdffgnpldapciaadoor", sum := "0bdcb9289f98acb396a564a7a0341b04cf4ad0a0ba5ef0ccebb3049041b2fa43", func := "matryoshka/matryoshkalaw14.MetaCuts", spec := "metaCuts", inPlace := ["sync/atomic.AddInt64", "sync/atomic.LoadInt64"], unfollowed := true, recurses := true, named := ["matryoshka/entry.widths"], apart := false, laid := [("matryoshka/entry.widths", laid_matryoshka_entry_widths)], narrowed := true }
def MetaCutsUptoSaid : Prop := metaCutsUptoRow.holds Tryd.pinned (OpenSpec.upto metaCutsSpec)

/-- 'matryoshkalaw14.MetaRuns', WHERE WHAT IT READS IS OF BULK AT MOST 1048576: true; the input reads as it did. -/
def metaRunsUptoRow : OpenClaim := { program := "ytdffgnpldapciaadoor", sum := "0bdcb9289f98acb396a564a7a0341b04cf4ad0a0ba5ef0ccebb3049041b2fa43", func := "matryoshka/matryoshkalaw14.MetaRuns", spec := "metaRuns", inPlace := ["sync/atomic.AddInt64", "sync/atomic.LoadInt64"], unfollowed := true, recurses := true, named := ["matryoshka/entry.widths"], apart := false, laid := [("matryoshka/entry.widths", laid_matryoshka_entry_widths)], narrowed := true }
def MetaRunsUptoSaid : Prop := metaRunsUptoRow.holds Tryd.pinned (OpenSpec.upto metaRunsSpec)

/-- 'matryoshkalaw14.MetaUnlike', WHERE WHAT IT READS IS OF BULK AT MOST 1048576: true; the input reads as it did. -/
def metaUnlikeUptoRow : OpenClaim := { program := "ytdffgnpldapciaadoor", sum := "0bdcb9289f98acb396a564a7a0341b04cf4ad0a0ba5ef0ccebb3049041b2fa43", func := "matryoshka/matryoshkalaw14.MetaUnlike", spec := "metaUnlike", inPlace := ["sync/atomic.AddInt64", "sync/atomic.LoadInt64"], named := ["matryoshka/entry.widths"], apart := false, laid := [("matryoshka/entry.widths", laid_matryoshka_entry_widths)], narrowed := true }
def MetaUnlikeUptoSaid : Prop := metaUnlikeUptoRow.holds Tryd.pinned (OpenSpec.upto metaUnlikeSpec)

end Rows
end Go.Proofs.YtdffgnpldapciaaDoor
