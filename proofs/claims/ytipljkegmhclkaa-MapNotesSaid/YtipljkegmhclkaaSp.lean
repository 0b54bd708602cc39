/-
  What the reference's Ints and Maps answer (layers 6, 12). Conditions: what is compared reads.
-/
import Derived.Test.YtipljkegmhclkaaSo
namespace Go.Proofs.Ytipljkegmhclkaa
open Go.RowKit
set_option linter.unusedVariables false

def ivAt (K : List Int) (i : Nat) : Int := K.getD i 0
theorem iv_cell {w : World} {a : Option Addr} {n : Nat} {K : List Int} (h : Reads ivV w a n K) (i : Nat) (hi : i < n) : ∃ b off, a = some ⟨b, off, none⟩ ∧ w.cell? ⟨b, off + i, none⟩ = some (.int .i64 (ivAt K i)) ∧ K[i]? = some (ivAt K i) := by
  obtain ⟨b, off, rfl⟩ := h.lies (by omega)
  have hl := h.1
  have hx : K[i]? = some (ivAt K i) := by
    unfold ivAt
    rw [List.getD_eq_getElem?_getD, List.getElem?_eq_getElem (by omega)]
    rfl
  have := h.cellAt iv_rowed i 0 _ _ hx rfl
  rw [Nat.mul_one, Nat.add_zero] at this
  exact ⟨b, off, rfl, this, hx⟩
theorem list_eq_of {α : Type} {l m : List α} {n : Nat} (h1 : l.length = n) (h2 : m.length = n) (h : ∀ k, k < n → l[k]? = m[k]?) : l = m := by
  refine List.ext_getElem? fun i => ?_
  by_cases hi : i < n
  · exact h i hi
  · rw [List.getElem?_eq_none (by omega), List.getElem?_eq_none (by omega)]
end Go.Proofs.Ytipljkegmhclkaa
