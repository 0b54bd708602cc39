/-
  Plain mathematics: how a sequence that was made by hand is unpacked. Conditions: short texts, a distance below 65536.
-/
import Derived.Test.YtlkpedknhjgdiaaQ3
namespace Go.Proofs.Ytlkpedknhjgdiaa
open Go.RowKit

theorem getD_mid (A rest : List Int) (c : Int) : (A ++ c :: rest).getD A.length 0 = c := by
  rw [List.getD_eq_getElem?_getD, List.getElem?_append_right (Nat.le_refl _), Nat.sub_self]
  rfl
theorem addTo_run : ∀ (i f x r : Nat) (A rest : List Int), i < f → r < 255 → addTo (A ++ (List.replicate i 255 ++ ((r : Int) :: rest))) f A.length x = (x + 255 * i + r, A.length + i + 1, true)
  | 0, f + 1, x, r, A, rest, _, hr => by
    rw [List.replicate_zero, List.nil_append, addTo_stop _ _ _ _ (by simp) (by rw [getD_mid]; omega), getD_mid]
    simp
  | i + 1, f + 1, x, r, A, rest, hf, hr => by
    rw [List.replicate_succ, List.cons_append, addTo_on _ _ _ _ (by simp) (getD_mid _ _ _)]
    have := addTo_run i f (x + 255) r (A ++ [255]) rest (by omega) hr
    rw [List.append_assoc, List.length_append] at this
    rw [show A ++ 255 :: (List.replicate i 255 ++ ((r : Int) :: rest)) = A ++ ([255] ++ (List.replicate i 255 ++ ((r : Int) :: rest))) from rfl]
    refine this.trans ?_
    simp
    omega
theorem lengthOf_added (A rest : List Int) (n : Nat) : lengthOf (A ++ (addedL n ++ rest)) A.length (min n 15) = (n, A.length + (addedL n).length, true) := by
  unfold lengthOf addedL
  by_cases h : n < 15
  · rw [if_pos (by omega), if_pos h, Nat.min_eq_left (by omega)]
    rfl
  · rw [if_neg (by omega), if_neg h, List.append_assoc]
    have hr : (n - 15) % 255 < 255 := Nat.mod_lt _ (by decide)
    refine (addTo_run ((n - 15) / 255) _ 15 ((n - 15) % 255) A rest (by simp; omega) hr).trans ?_
    simp
    omega
theorem lits_run (most : Nat) : ∀ (l A rest out : List Int), out.length + l.length ≤ most → lits (A ++ (l ++ rest)) most l.length A.length out = .ok (A.length + l.length) (out ++ l)
  | [], A, rest, out, _ => by
    show lits _ most 0 _ _ = _
    rw [lits_done]
    simp
  | c :: l, A, rest, out, h => by
    show lits _ most (l.length + 1) _ _ = _
    rw [List.length_cons] at h
    rw [lits_on _ _ _ _ _ (by simp) (by omega), List.cons_append, getD_mid]
    have := lits_run most l (A ++ [c]) rest (out ++ [c]) (by simp; omega)
    rw [List.append_assoc, List.length_append] at this
    rw [show A ++ c :: (l ++ rest) = A ++ ([c] ++ (l ++ rest)) from rfl]
    refine this.trans ?_
    simp
    omega
/-- The place of the distance in a sequence. -/
def farAt (l : List Int) : Nat := 1 + (addedL l.length).length + l.length
theorem seq_form (l rest : List Int) (far m : Nat) : seqL l far m ++ rest = [((min l.length 15 * 16 + min m 15 : Nat) : Int)] ++ (addedL l.length ++ (l ++ (((far % 256 : Nat) : Int) :: ((far / 256 : Nat) : Int) :: (addedL m ++ rest)))) := by
  unfold seqL
  simp
theorem seq_lits (l rest : List Int) (far m most f : Nat) (hl : l.length ≤ most) (_hfar : far < 65536) :
    unp (seqL l far m ++ rest) most (f + 1) 0 [] = unpLits (seqL l far m ++ rest) most (min l.length 15 * 16 + min m 15) f (.ok (farAt l) l) ∧ farOf (seqL l far m ++ rest) (farAt l) = far ∧ farAt l + 2 + (addedL m).length + rest.length = (seqL l far m ++ rest).length := by
  obtain ⟨T, hT⟩ : ∃ T : List Int, ((far % 256 : Nat) : Int) :: ((far / 256 : Nat) : Int) :: (addedL m ++ rest) = T := ⟨_, rfl⟩
  have hg : (seqL l far m ++ rest).getD 0 0 = ((min l.length 15 * 16 + min m 15 : Nat) : Int) := by
    rw [seq_form]
    rfl
  have hlen : lengthOf (seqL l far m ++ rest) 1 (min l.length 15) = (l.length, 1 + (addedL l.length).length, true) := by
    rw [seq_form]
    exact lengthOf_added [_] _ l.length
  have hlit : lits (seqL l far m ++ rest) most l.length (1 + (addedL l.length).length) [] = .ok (farAt l) l := by
    rw [seq_form, hT, ← List.append_assoc]
    have := lits_run most l ([((min l.length 15 * 16 + min m 15 : Nat) : Int)] ++ addedL l.length) T [] (by simpa using hl)
    rw [List.length_append, List.nil_append] at this
    exact this
  refine ⟨?_, ?_, ?_⟩
  · rw [unp_lits _ _ _ _ l.length (1 + (addedL l.length).length) [] (by rw [seq_form]; simp) (by rw [hg, Int.toNat_natCast, show (min l.length 15 * 16 + min m 15) / 16 = min l.length 15 by omega]; exact hlen), hlit, hg, Int.toNat_natCast]
  · unfold farOf
    rw [seq_form, ← List.append_assoc, ← List.append_assoc]
    have e0 : farAt l = ([((min l.length 15 * 16 + min m 15 : Nat) : Int)] ++ addedL l.length ++ l).length := by simp [farAt]; omega
    have e1 : farAt l + 1 = ([((min l.length 15 * 16 + min m 15 : Nat) : Int)] ++ addedL l.length ++ l ++ [((far % 256 : Nat) : Int)]).length := by simp [farAt]; omega
    have g0 : ([((min l.length 15 * 16 + min m 15 : Nat) : Int)] ++ addedL l.length ++ l ++ ((far % 256 : Nat) : Int) :: ((far / 256 : Nat) : Int) :: (addedL m ++ rest)).getD (farAt l) 0 = ((far % 256 : Nat) : Int) := by
      rw [e0]
      exact getD_mid _ _ _
    have g1 : ([((min l.length 15 * 16 + min m 15 : Nat) : Int)] ++ addedL l.length ++ l ++ ((far % 256 : Nat) : Int) :: ((far / 256 : Nat) : Int) :: (addedL m ++ rest)).getD (farAt l + 1) 0 = ((far / 256 : Nat) : Int) := by
      rw [e1, show ([((min l.length 15 * 16 + min m 15 : Nat) : Int)] ++ addedL l.length ++ l ++ ((far % 256 : Nat) : Int) :: ((far / 256 : Nat) : Int) :: (addedL m ++ rest)) = ([((min l.length 15 * 16 + min m 15 : Nat) : Int)] ++ addedL l.length ++ l ++ [((far % 256 : Nat) : Int)]) ++ ((far / 256 : Nat) : Int) :: (addedL m ++ rest) by simp]
      exact getD_mid _ _ _
    rw [g0, g1, Int.toNat_natCast, Int.toNat_natCast]
    omega
  · rw [seq_form]
    simp [farAt]
    omega
/-- 3.1: a distance of nought, or ahead of the first byte. -/
theorem unpack_far (l rest : List Int) (far : Nat) (hl : l.length ≤ 1048576) (hfar : far < 65536) (h : far = 0 ∨ l.length < far) : unpackOf (seqL l far 0 ++ rest) 1048576 = ([], 3) := by
  obtain ⟨h1, h2, h3⟩ := seq_lits l rest far 0 1048576 ((seqL l far 0 ++ rest).length) hl hfar
  have hne : ¬ (seqL l far 0 ++ rest) = [] := by rw [seq_form]; simp
  unfold unpackOf
  rw [if_neg (by omega), if_neg hne]
  show unp (seqL l far 0 ++ rest) 1048576 _ 0 [] = _
  rw [h1]
  exact back_far _ _ _ _ _ _ (by omega) (by omega) (by rw [h2]; exact h)
end Go.Proofs.Ytlkpedknhjgdiaa
