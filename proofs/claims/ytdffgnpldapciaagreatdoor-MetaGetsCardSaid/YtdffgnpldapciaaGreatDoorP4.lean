/-
  Plain mathematics of sectors by clusters, and lists of pieces in memory. Condition: none.
-/
import Derived.Test.YtdffgnpldapciaaGreatDoorT4
import Derived.Test.YtdffgnpldapciaaGreatDoorA8
namespace Go.Proofs.YtdffgnpldapciaaGreatDoor
open Go.RowKit

theorem i64_wf {n : Int} (h : (Lit.int .i64 n).wf = true) : I64 n := bounds_i64 h
def SpFit (l : List Sp) : Prop := ∀ x ∈ l, I64 x.1 ∧ I64 x.2
theorem Rt.fit : ∀ {lo : Int} {l : List Sp}, Rt lo l → -1 ≤ lo → SpFit l
  | _, [], _, _ => fun x hx => by cases hx
  | lo, y :: r, h, hlo => fun x hx => by
    have h1 := h.1
    have h2 := h.2.1
    have h3 := h.2.2.1
    rcases List.mem_cons.1 hx with rfl | hx
    · unfold I64
      omega
    · exact Rt.fit h.2.2.2 (by omega) x hx
theorem fit_of {l : List Sp} {len : Nat} (hl : l.length = len) (h : ∀ i, i < len → (Lit.int .i64 (spAt l i).1).wf = true ∧ (Lit.int .i64 (spAt l i).2).wf = true) : SpFit l := fun x hx => by
  obtain ⟨i, hi, rfl⟩ := List.getElem_of_mem hx
  have e : spAt l i = l[i] := by
    have := spAt_some l i hi
    rw [List.getElem?_eq_getElem hi] at this
    injection this with this
    exact this.symm
  obtain ⟨g1, g2⟩ := h i (by omega)
  rw [e] at g1 g2
  exact ⟨i64_wf g1, i64_wf g2⟩
end Go.Proofs.YtdffgnpldapciaaGreatDoor
