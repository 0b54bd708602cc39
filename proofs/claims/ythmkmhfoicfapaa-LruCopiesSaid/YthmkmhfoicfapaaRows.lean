/-
  No cell of these rows narrows 'for every input' (looked for: loops, veiled, ifaces, maps, wideKeys, modest, calm, conditions, laid).
  DERIVED. THE GIVEN ROWS OF THIS SEAT. 7 by the template 'for every input the law returns true; each argument reads behind the call as it read before'; 0 by the template 'total and deterministic' (their statements: YthmkmhfoicfapaaTotals.lean).
  GIVEN WITH THE SEED: the statements are not yours to turn. If you find one false, say at which input.
  Laid BY PROGRAM, IN A SANDBOX (cutbox-rows.mjs): the forced cells as the released guide's own fill.sh prints them over the translation 3e58a49dc73344d2… (all of the seat's roots in one cut). By AI agents, Wed Nov 11 2026. No macro, syntax, notation, axiom, sorry.
-/
import Derived.Test.YthmkmhfoicfapaaChecked
import GoSem.Claim
import GoSem.ClaimJoined
import GoSem.ClaimMapViews
import Derived.JoinedTies
import Derived.KernelRfl
namespace Go.Proofs.Ythmkmhfoicfapaa
/- THE CELL 'sum', in the pinned program and in every row, IS THE sha256 OF THE DUMP (.gsa) THAT YthmkmhfoicfapaaProg.lean LOADS. Nothing in Lean hashes anything: it is a label: what it is worth is what the hold of that sum in a sandbox is worth. -/
noncomputable def Try.pinned : Pinned := { name := "ythmkmhfoicfapaa", sum := "3e58a49dc73344d2f3209fa487d9a05f92953e2eb76e3915fa5db64d08158951", checked := Try.checked }
namespace Rows
def none {H : Type} : Left H := { results := [], args := [] }

/-- 'matryoshkalaw10.LruRuns': WHATEVER THE INPUT: true; the input reads as it did. -/
def lruRunsSpec : ChangeSpec := { name := "lruRuns", fn := fun _ => fun
  | [d1, d2] => { results := [.lit (.bool true)], args := [d1, d2] }
  | _ => none }
def lruRunsRow : OpenClaim := { program := "ythmkmhfoicfapaa", sum := "3e58a49dc73344d2f3209fa487d9a05f92953e2eb76e3915fa5db64d08158951", func := "matryoshka/matryoshkalaw10.LruRuns", spec := "lruRuns", inPlace := ["slices.overlaps[*matryoshka/lru.item]", "sync/atomic.AddUint64"], unfollowed := true, recurses := true, apart := false }
def LruRunsSaid : Prop := lruRunsRow.holds Try.pinned (OpenSpec.ofChange lruRunsSpec)

/-- ITS FALSE NEIGHBOUR: 'it returns false'. Refute it at one input. -/
def lruRunsWrong : ChangeSpec := { name := "lruRuns", fn := fun _ => fun
  | [d1, d2] => { results := [.lit (.bool false)], args := [d1, d2] }
  | _ => none }
def LruRunsWrongFalsely : Prop := lruRunsRow.holds Try.pinned (OpenSpec.ofChange lruRunsWrong)

/-- 'matryoshkalaw10.LruOrder': WHATEVER THE INPUT: true; the input reads as it did. -/
def lruOrderSpec : ChangeSpec := { name := "lruOrder", fn := fun _ => fun
  | [d1, d2] => { results := [.lit (.bool true)], args := [d1, d2] }
  | _ => none }
def lruOrderRow : OpenClaim := { program := "ythmkmhfoicfapaa", sum := "3e58a49dc73344d2f3209fa487d9a05f92953e2eb76e3915fa5db64d08158951", func := "matryoshka/matryoshkalaw10.LruOrder", spec := "lruOrder", inPlace := ["slices.overlaps[*matryoshka/lru.item]", "sync/atomic.AddUint64"], unfollowed := true, recurses := true, apart := false }
def LruOrderSaid : Prop := lruOrderRow.holds Try.pinned (OpenSpec.ofChange lruOrderSpec)

/-- ITS FALSE NEIGHBOUR: 'it returns false'. Refute it at one input. -/
def lruOrderWrong : ChangeSpec := { name := "lruOrder", fn := fun _ => fun
  | [d1, d2] => { results := [.lit (.bool false)], args := [d1, d2] }
  | _ => none }
def LruOrderWrongFalsely : Prop := lruOrderRow.holds Try.pinned (OpenSpec.ofChange lruOrderWrong)

/-- 'matryoshkalaw10.LruRoom': WHATEVER THE INPUT: true; the input reads as it did. -/
def lruRoomSpec : ChangeSpec := { name := "lruRoom", fn := fun _ => fun
  | [d1, d2] => { results := [.lit (.bool true)], args := [d1, d2] }
  | _ => none }
def lruRoomRow : OpenClaim := { program := "ythmkmhfoicfapaa", sum := "3e58a49dc73344d2f3209fa487d9a05f92953e2eb76e3915fa5db64d08158951", func := "matryoshka/matryoshkalaw10.LruRoom", spec := "lruRoom", inPlace := ["slices.overlaps[*matryoshka/lru.item]", "sync/atomic.AddUint64", "sync/atomic.LoadUint64", "sync/atomic.StoreUint64"], unfollowed := true, recurses := true, apart := false }
def LruRoomSaid : Prop := lruRoomRow.holds Try.pinned (OpenSpec.ofChange lruRoomSpec)

/-- ITS FALSE NEIGHBOUR: 'it returns false'. Refute it at one input. -/
def lruRoomWrong : ChangeSpec := { name := "lruRoom", fn := fun _ => fun
  | [d1, d2] => { results := [.lit (.bool false)], args := [d1, d2] }
  | _ => none }
def LruRoomWrongFalsely : Prop := lruRoomRow.holds Try.pinned (OpenSpec.ofChange lruRoomWrong)

/-- 'matryoshkalaw10.LruCopies': WHATEVER THE INPUT: true; the input reads as it did. -/
def lruCopiesSpec : ChangeSpec := { name := "lruCopies", fn := fun _ => fun
  | [d1, d2] => { results := [.lit (.bool true)], args := [d1, d2] }
  | _ => none }
def lruCopiesRow : OpenClaim := { program := "ythmkmhfoicfapaa", sum := "3e58a49dc73344d2f3209fa487d9a05f92953e2eb76e3915fa5db64d08158951", func := "matryoshka/matryoshkalaw10.LruCopies", spec := "lruCopies", inPlace := ["slices.overlaps[*matryoshka/lru.item]", "sync/atomic.AddUint64", "sync/atomic.LoadUint64", "sync/atomic.StoreUint64"], unfollowed := true, recurses := true, apart := false }
def LruCopiesSaid : Prop := lruCopiesRow.holds Try.pinned (OpenSpec.ofChange lruCopiesSpec)

/-- ITS FALSE NEIGHBOUR: 'it returns false'. Refute it at one input. -/
def lruCopiesWrong : ChangeSpec := { name := "lruCopies", fn := fun _ => fun
  | [d1, d2] => { results := [.lit (.bool false)], args := [d1, d2] }
  | _ => none }
def LruCopiesWrongFalsely : Prop := lruCopiesRow.holds Try.pinned (OpenSpec.ofChange lruCopiesWrong)

/-- 'matryoshkalaw10.LruNil': WHATEVER THE INPUT: true; the input reads as it did. -/
def lruNilSpec : ChangeSpec := { name := "lruNil", fn := fun _ => fun
  | [d1, d2] => { results := [.lit (.bool true)], args := [d1, d2] }
  | _ => none }
def lruNilRow : OpenClaim := { program := "ythmkmhfoicfapaa", sum := "3e58a49dc73344d2f3209fa487d9a05f92953e2eb76e3915fa5db64d08158951", func := "matryoshka/matryoshkalaw10.LruNil", spec := "lruNil", inPlace := ["sync/atomic.AddUint64", "slices.overlaps[*matryoshka/lru.item]", "sync/atomic.LoadUint64", "sync/atomic.StoreUint64"], unfollowed := true, recurses := true, apart := false }
def LruNilSaid : Prop := lruNilRow.holds Try.pinned (OpenSpec.ofChange lruNilSpec)

/-- ITS FALSE NEIGHBOUR: 'it returns false'. Refute it at one input. -/
def lruNilWrong : ChangeSpec := { name := "lruNil", fn := fun _ => fun
  | [d1, d2] => { results := [.lit (.bool false)], args := [d1, d2] }
  | _ => none }
def LruNilWrongFalsely : Prop := lruNilRow.holds Try.pinned (OpenSpec.ofChange lruNilWrong)

/-- 'matryoshkalaw10.LruWrites': WHATEVER THE INPUT: true; the input reads as it did. -/
def lruWritesSpec : ChangeSpec := { name := "lruWrites", fn := fun _ => fun
  | [d1, d2] => { results := [.lit (.bool true)], args := [d1, d2] }
  | _ => none }
def lruWritesRow : OpenClaim := { program := "ythmkmhfoicfapaa", sum := "3e58a49dc73344d2f3209fa487d9a05f92953e2eb76e3915fa5db64d08158951", func := "matryoshka/matryoshkalaw10.LruWrites", spec := "lruWrites", inPlace := ["slices.overlaps[*matryoshka/lru.item]", "sync/atomic.AddUint64"], unfollowed := true, recurses := true, apart := false }
def LruWritesSaid : Prop := lruWritesRow.holds Try.pinned (OpenSpec.ofChange lruWritesSpec)

/-- ITS FALSE NEIGHBOUR: 'it returns false'. Refute it at one input. -/
def lruWritesWrong : ChangeSpec := { name := "lruWrites", fn := fun _ => fun
  | [d1, d2] => { results := [.lit (.bool false)], args := [d1, d2] }
  | _ => none }
def LruWritesWrongFalsely : Prop := lruWritesRow.holds Try.pinned (OpenSpec.ofChange lruWritesWrong)

/-- 'matryoshkalaw10.LruCircles': WHATEVER THE INPUT: true; the input reads as it did. -/
def lruCirclesSpec : ChangeSpec := { name := "lruCircles", fn := fun _ => fun
  | [d1, d2] => { results := [.lit (.bool true)], args := [d1, d2] }
  | _ => none }
def lruCirclesRow : OpenClaim := { program := "ythmkmhfoicfapaa", sum := "3e58a49dc73344d2f3209fa487d9a05f92953e2eb76e3915fa5db64d08158951", func := "matryoshka/matryoshkalaw10.LruCircles", spec := "lruCircles", inPlace := ["slices.overlaps[*matryoshka/lru.item]", "sync/atomic.AddUint64"], unfollowed := true, recurses := true, apart := false }
def LruCirclesSaid : Prop := lruCirclesRow.holds Try.pinned (OpenSpec.ofChange lruCirclesSpec)

/-- ITS FALSE NEIGHBOUR: 'it returns false'. Refute it at one input. -/
def lruCirclesWrong : ChangeSpec := { name := "lruCircles", fn := fun _ => fun
  | [d1, d2] => { results := [.lit (.bool false)], args := [d1, d2] }
  | _ => none }
def LruCirclesWrongFalsely : Prop := lruCirclesRow.holds Try.pinned (OpenSpec.ofChange lruCirclesWrong)

/- THE SECOND FORM. 'bulk': how many values and letters a reading holds, each counted each time it is reached (what is shared counts as often as it is met; a slice's spare places count too). A statement '..UptoSaid' is the law's where the arguments, and the package variables that the reading takes, are together of bulk at most 1048576: NARROWER than '..Said'. Prove '..Said' where nothing that the law and all that it calls make is longer than what came in: it says more and counts as full. Else prove '..UptoSaid'. A law counts once. -/
mutual
def uptoBulk {H : Type} : DataW H → Nat
  | .lit (.string bytes) => bytes.length + 1
  | .lit _ => 1
  | .nil => 1
  | .ptr d => uptoBulk d + 1
  | .slice elems spare => uptoBulkAll elems + uptoBulkAll spare + 1
  | .agg parts => uptoBulkAll parts + 1
  | .iface _ d => uptoBulk d + 1
  | .map entries => uptoBulkEntries entries + 1
  | .held _ => 1
def uptoBulkAll {H : Type} : List (DataW H) → Nat
  | [] => 0
  | d :: r => uptoBulk d + uptoBulkAll r
def uptoBulkEntries {H : Type} : List (Lit × DataW H) → Nat
  | [] => 0
  | x :: r => uptoBulkEntry x + uptoBulkEntries r
def uptoBulkEntry {H : Type} : Lit × DataW H → Nat
  | (.string bytes, d) => bytes.length + uptoBulk d + 1
  | (_, d) => uptoBulk d + 1
 end
def uptoSmall : (H : Type) → List (DataW H) → Bool := fun _ ds => decide (uptoBulkAll ds ≤ 1048576)
def OpenSpec.upto (s : _root_.Go.ChangeSpec) : _root_.Go.OpenSpec := { _root_.Go.OpenSpec.ofChange s with cond := some uptoSmall }

/-- 'matryoshkalaw10.LruRuns', WHERE WHAT IT READS IS OF BULK AT MOST 1048576: true; the input reads as it did. -/
def lruRunsUptoRow : OpenClaim := { program := "ythmkmhfoicfapaa", sum := "3e58a49dc73344d2f3209fa487d9a05f92953e2eb76e3915fa5db64d08158951", func := "matryoshka/matryoshkalaw10.LruRuns", spec := "lruRuns", inPlace := ["slices.overlaps[*matryoshka/lru.item]", "sync/atomic.AddUint64"], unfollowed := true, recurses := true, apart := false, narrowed := true }
def LruRunsUptoSaid : Prop := lruRunsUptoRow.holds Try.pinned (OpenSpec.upto lruRunsSpec)

/-- 'matryoshkalaw10.LruOrder', WHERE WHAT IT READS IS OF BULK AT MOST 1048576: true; the input reads as it did. -/
def lruOrderUptoRow : OpenClaim := { program := "ythmkmhfoicfapaa", sum := "3e58a49dc73344d2f3209fa487d9a05f92953e2eb76e3915fa5db64d08158951", func := "matryoshka/matryoshkalaw10.LruOrder", spec := "lruOrder", inPlace := ["slices.overlaps[*matryoshka/lru.item]", "sync/atomic.AddUint64"], unfollowed := true, recurses := true, apart := false, narrowed := true }
def LruOrderUptoSaid : Prop := lruOrderUptoRow.holds Try.pinned (OpenSpec.upto lruOrderSpec)

/-- 'matryoshkalaw10.LruRoom', WHERE WHAT IT READS IS OF BULK AT MOST 1048576: true; the input reads as it did. -/
def lruRoomUptoRow : OpenClaim := { program := "ythmkmhfoicfapaa", sum := "3e58a49dc73344d2f3209fa487d9a05f92953e2eb76e3915fa5db64d08158951", func := "matryoshka/matryoshkalaw10.LruRoom", spec := "lruRoom", inPlace := ["slices.overlaps[*matryoshka/lru.item]", "sync/atomic.AddUint64", "sync/atomic.LoadUint64", "sync/atomic.StoreUint64"], unfollowed := true, recurses := true, apart := false, narrowed := true }
def LruRoomUptoSaid : Prop := lruRoomUptoRow.holds Try.pinned (OpenSpec.upto lruRoomSpec)

/-- 'matryoshkalaw10.LruCopies', WHERE WHAT IT READS IS OF BULK AT MOST 1048576: true; the input reads as it did. -/
def lruCopiesUptoRow : OpenClaim := { program := "ythmkmhfoicfapaa", sum := "3e58a49dc73344d2f3209fa487d9a05f92953e2eb76e3915fa5db64d08158951", func := "matryoshka/matryoshkalaw10.LruCopies", spec := "lruCopies", inPlace := ["slices.overlaps[*matryoshka/lru.item]", "sync/atomic.AddUint64", "sync/atomic.LoadUint64", "sync/atomic.StoreUint64"], unfollowed := true, recurses := true, apart := false, narrowed := true }
def LruCopiesUptoSaid : Prop := lruCopiesUptoRow.holds Try.pinned (OpenSpec.upto lruCopiesSpec)

/-- 'matryoshkalaw10.LruNil', WHERE WHAT IT READS IS OF BULK AT MOST 1048576: true; the input reads as it did. -/
def lruNilUptoRow : OpenClaim := { program := "ythmkmhfoicfapaa", sum := "3e58a49dc73344d2f3209fa487d9a05f92953e2eb76e3915fa5db64d08158951", func := "matryoshka/matryoshkalaw10.LruNil", spec := "lruNil", inPlace := ["sync/atomic.AddUint64", "slices.overlaps[*matryoshka/lru.item]", "sync/atomic.LoadUint64", "sync/atomic.StoreUint64"], unfollowed := true, recurses := true, apart := false, narrowed := true }
def LruNilUptoSaid : Prop := lruNilUptoRow.holds Try.pinned (OpenSpec.upto lruNilSpec)

/-- 'matryoshkalaw10.LruWrites', WHERE WHAT IT READS IS OF BULK AT MOST 1048576: true; the input reads as it did. -/
def lruWritesUptoRow : OpenClaim := { program := "ythmkmhfoicfapaa", sum := "3e58a49dc73344d2f3209fa487d9a05f92953e2eb76e3915fa5db64d08158951", func := "matryoshka/matryoshkalaw10.LruWrites", spec := "lruWrites", inPlace := ["slices.overlaps[*matryoshka/lru.item]", "sync/atomic.AddUint64"], unfollowed := true, recurses := true, apart := false, narrowed := true }
def LruWritesUptoSaid : Prop := lruWritesUptoRow.holds Try.pinned (OpenSpec.upto lruWritesSpec)

/-- 'matryoshkalaw10.LruCircles', WHERE WHAT IT READS IS OF BULK AT MOST 1048576: true; the input reads as it did. -/
def lruCirclesUptoRow : OpenClaim := { program := "ythmkmhfoicfapaa", sum := "3e58a49dc73344d2f3209fa487d9a05f92953e2eb76e3915fa5db64d08158951", func := "matryoshka/matryoshkalaw10.LruCircles", spec := "lruCircles", inPlace := ["slices.overlaps[*matryoshka/lru.item]", "sync/atomic.AddUint64"], unfollowed := true, recurses := true, apart := false, narrowed := true }
def LruCirclesUptoSaid : Prop := lruCirclesUptoRow.holds Try.pinned (OpenSpec.upto lruCirclesSpec)

end Rows
end Go.Proofs.Ythmkmhfoicfapaa
