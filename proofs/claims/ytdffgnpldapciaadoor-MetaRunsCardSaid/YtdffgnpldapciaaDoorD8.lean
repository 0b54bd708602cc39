/-
  What the reference's GetEntry answers (layer 7). Conditions: the slice reads as bytes.
-/
import Derived.Test.YtdffgnpldapciaaDoorC8
namespace Go.Proofs.YtdffgnpldapciaaDoor
open Go.RowKit
set_option linter.unusedVariables false

/-- What 'Get' hands back. -/
def GotN (o : Option En) (w0 : World) (e : Ending) (w : World) : Prop := e = .returned (.tuple #[.agg (enV (o.getD enZ)).toArray, .int .i64 (if o.isSome then 0 else 3)]) ∧ Below w0.heap.size w0 w
theorem wp_b {w : World} {b off n : Nat} {l : List Int} (h : Bytes w (some ⟨b, off, none⟩) n l) (hn : 1 < n) {w' : World} (hb : Below w.heap.size w w') (v : Int) (hv : l.getD 1 0 = v) : w'.cell? ⟨b, off + 1, none⟩ = some (.int .u8 v) := by
  rw [← hv]
  exact (h.later hb).cellAt 1 hn
end Go.Proofs.YtdffgnpldapciaaDoor
