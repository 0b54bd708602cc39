/-
  Both sides' Put of a table answer alike; num of layer 8. Conditions: the table reads and is no greater than a statement goes through.
-/
import Derived.Test.YtjpcclllbjncfaaDoorP1
import Derived.Test.YtjpcclllbjncfaaDoorR1
import Derived.Test.YtjpcclllbjncfaaDoorW9
namespace Go.Proofs.YtjpcclllbjncfaaDoor
open Go.RowKit
set_option linter.unusedVariables false

theorem num9 (n : Int) (w : World) : Calls Tryd.prog 10 #[.int .i64 n] w fun e w' => e = .returned (.int .i64 n) ∧ w = w' := by
  go_enter Tryd.func10, Tryd.ntmps10
  go_wp2
  go_ret
  exact ⟨rfl, rfl⟩
theorem tabPut_both (T : Tb) (c : Int) : ∃ (L : List Int) (err : Int),
    (∀ (w : World) (a : Option Addr) (len cap : Nat), Wid w → Tab w a len cap T → Calls Tryd.prog 8 #[.agg #[.slice a len cap], .int .i64 c] w (PutPost w L err)) ∧
    (∀ (w : World) (a : Option Addr) (len cap : Nat), Tab w a len cap T → Calls Tryd.prog 9 #[.agg #[.slice a len cap], .int .i64 c] w (PutPost w L err)) := by
  by_cases hr : rightT T 4096 c
  · refine ⟨tblB T, 0, fun w a len cap hw h => ?_, fun w a len cap h => ?_⟩
    · obtain ⟨ds, h1, h2, rfl, h3, _⟩ := h
      exact put9_ok w a len cap ds c h1 h3 hr hw
    · obtain ⟨ds, h1, h2, rfl, h3, _⟩ := h
      exact refTable9_ok w a len cap ds c h1 h3 hr
  · refine ⟨[], 1, fun w a len cap hw h => ?_, fun w a len cap h => ?_⟩
    · obtain ⟨ds, h1, h2, rfl, h3, _⟩ := h
      exact put9_no w a len cap ds c h1 h3 hr
    · obtain ⟨ds, h1, h2, rfl, h3, _⟩ := h
      exact refTable9_no w a len cap ds c h1 hr
end Go.Proofs.YtjpcclllbjncfaaDoor
