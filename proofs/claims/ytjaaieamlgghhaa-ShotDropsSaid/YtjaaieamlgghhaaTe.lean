/-
  Shots dropped from a right meta (ShotDrops). Conditions: the meta is right.
-/
import Derived.Test.YtjaaieamlgghhaaTa
import Derived.Test.YtjaaieamlgghhaaTc
import Derived.Test.YtjaaieamlgghhaaTd
namespace Go.Proofs.Ytjaaieamlgghhaa
open Go.RowKit
set_option linter.unusedVariables false

theorem fnd_at {M : MM} (h : RightMt M) {k : Nat} {d : ShM} (hk : M.S[k]? = some d) : fndS d.1 M.S = k := (h.S k d hk).2.1
theorem dropM_at {M : MM} (h : RightMt M) {k : Nat} {d : ShM} (hk : M.S[k]? = some d) : dropM M d.1 = ({ M with S := M.S.take k ++ M.S.drop (k + 1) }, 0) := by
  unfold dropM
  rw [fnd_at h hk, if_neg (by omega)]
  rfl
theorem gone_at {M : MM} (h : RightMt M) {k : Nat} {d : ShM} (hk : M.S[k]? = some d) : fndS d.1 (M.S.take k ++ M.S.drop (k + 1)) = -1 := by
  refine fndS_none fun e he hn => ?_
  rcases List.mem_append.1 he with h1 | h1
  · obtain ⟨i, hi⟩ := List.getElem?_of_mem h1
    have hl := (List.getElem?_eq_some_iff.1 hi).1
    rw [List.length_take] at hl
    rw [List.getElem?_take_of_lt (by omega)] at hi
    have a := fnd_at h hi
    rw [hn, fnd_at h hk] at a
    omega
  · obtain ⟨i, hi⟩ := List.getElem?_of_mem h1
    rw [List.getElem?_drop] at hi
    have a := fnd_at h hi
    rw [hn, fnd_at h hk] at a
    omega
theorem left_at {S : List ShM} {k i : Nat} (hk : k < S.length) (hi : i < S.length - 1) : (S.take k ++ S.drop (k + 1))[i]? = S[if k ≤ i then i + 1 else i]? := by
  by_cases h : k ≤ i
  · rw [if_pos h, List.getElem?_append_right (by rw [List.length_take]; omega), List.getElem?_drop, List.length_take]
    congr 1
    omega
  · rw [if_neg h, List.getElem?_append_left (by rw [List.length_take]; omega), List.getElem?_take_of_lt (by omega)]
end Go.Proofs.Ytjaaieamlgghhaa
