/-
  What the reference's Sub answers. Conditions: the slice reads as spans, no more than 100000 of them.
-/
import Derived.Test.YtipljkegmhclkaaT4
import Derived.Lib.MinMax
namespace Go.Proofs.Ytipljkegmhclkaa
open Go.RowKit

theorem subs_snoc (l : List Sp) (s : Sp) (j : Nat) (h : j < l.length) : subs (l.take (j + 1)) s = subs (l.take j) s ++ piece s (spAt l j) := by
  unfold subs
  have e : spAt l j = l[j] := by
    have := spAt_some l j h
    rw [List.getElem?_eq_getElem h] at this
    injection this with this
    exact this.symm
  rw [List.take_succ_eq_append_getElem h, List.flatMap_append, e]
  simp
theorem piece_len (s x : Sp) : (piece s x).length ≤ 2 := by
  unfold piece
  split <;> split <;> simp
theorem subs_len (s : Sp) : ∀ l : List Sp, (subs l s).length ≤ 2 * l.length
  | [] => by simp [subs]
  | x :: r => by
    have h1 := piece_len s x
    have h2 := subs_len s r
    show (piece s x ++ subs r s).length ≤ _
    rw [List.length_append, List.length_cons]
    omega

end Go.Proofs.Ytipljkegmhclkaa
