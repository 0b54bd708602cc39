/-
  Plain mathematics: a sequence by hand, and bytes behind it, are unpacked as they were meant. Conditions: short texts, a distance from 1 to the length of the plain bytes.
-/
import Derived.Test.YtlkpedknhjgdiaaV3
namespace Go.Proofs.Ytlkpedknhjgdiaa
open Go.RowKit

/-- Bytes told again, one by one. -/
def repL (far : Nat) : Nat → List Int → List Int
  | 0, out => out
  | k + 1, out => repL far k (out ++ [out.getD (out.length - far) 0])
theorem repL_len (far : Nat) : ∀ (k : Nat) (out : List Int), (repL far k out).length = out.length + k
  | 0, _ => rfl
  | k + 1, out => by
    show (repL far k _).length = _
    rw [repL_len far k]
    simp
    omega
theorem repL_snoc (far : Nat) : ∀ (k : Nat) (out : List Int), repL far (k + 1) out = repL far k out ++ [(repL far k out).getD ((repL far k out).length - far) 0]
  | 0, _ => rfl
  | k + 1, out => by
    show repL far (k + 1) (out ++ [out.getD (out.length - far) 0]) = _
    rw [repL_snoc far k]
    rfl
theorem reps_run (most far : Nat) : ∀ (k : Nat) (out : List Int), out.length + k ≤ most → reps most far k out = .ok 0 (repL far k out)
  | 0, _, _ => rfl
  | k + 1, out, h => by
    rw [reps_on _ _ _ _ (by omega), reps_run most far k _ (by simp; omega)]
    rfl
theorem reps_over (most far : Nat) : ∀ (k : Nat) (out : List Int), out.length ≤ most → most < out.length + k → reps most far k out = .bad 2
  | 0, _, h, h2 => by omega
  | k + 1, out, h, h2 => by
    by_cases he : most ≤ out.length
    · exact reps_long _ _ _ _ he
    · rw [reps_on _ _ _ _ he, reps_over most far k _ (by simp; omega) (by simp; omega)]
theorem lits_over (most : Nat) : ∀ (l A rest out : List Int), out.length ≤ most → most < out.length + l.length → lits (A ++ (l ++ rest)) most l.length A.length out = .bad 2
  | [], _, _, _, h, h2 => by simp at h2; omega
  | c :: l, A, rest, out, h, h2 => by
    show lits _ most (l.length + 1) _ _ = _
    rw [List.length_cons] at h2
    by_cases he : most ≤ out.length
    · exact lits_long _ _ _ _ _ (by simp) he
    · rw [lits_on _ _ _ _ _ (by simp) he, List.cons_append, getD_mid]
      have := lits_over most l (A ++ [c]) rest (out ++ [c]) (by simp; omega) (by simp; omega)
      rw [List.append_assoc, List.length_append] at this
      exact this
/-- The last sequence: bytes that stand as they are. -/
def lastL (t : List Int) : List Int := [((min t.length 15 * 16 : Nat) : Int)] ++ addedL t.length ++ t
theorem last_run (A t out : List Int) (most f : Nat) (h : out.length + t.length ≤ most) : unp (A ++ lastL t) most (f + 1) A.length out = (out ++ t, 0) := by
  have e : A ++ lastL t = A ++ ((min t.length 15 * 16 : Nat) : Int) :: (addedL t.length ++ t) := by simp [lastL]
  have e2 : A ++ lastL t = (A ++ [((min t.length 15 * 16 : Nat) : Int)]) ++ (addedL t.length ++ t) := by simp [lastL]
  have e3 : A ++ lastL t = (A ++ [((min t.length 15 * 16 : Nat) : Int)] ++ addedL t.length) ++ (t ++ []) := by simp [lastL]
  have hg : (A ++ lastL t).getD A.length 0 = ((min t.length 15 * 16 : Nat) : Int) := by rw [e]; exact getD_mid _ _ _
  have hq : A.length + 1 = (A ++ [((min t.length 15 * 16 : Nat) : Int)]).length := by simp
  have hl : lengthOf (A ++ lastL t) (A.length + 1) (min t.length 15) = (t.length, A.length + 1 + (addedL t.length).length, true) := by
    rw [hq, e2]
    exact lengthOf_added _ t t.length
  rw [unp_lits _ _ _ _ t.length (A.length + 1 + (addedL t.length).length) out (by rw [e]; simp) (by rw [hg, Int.toNat_natCast, show min t.length 15 * 16 / 16 = min t.length 15 by omega]; exact hl)]
  have hp : A.length + 1 + (addedL t.length).length = (A ++ [((min t.length 15 * 16 : Nat) : Int)] ++ addedL t.length).length := by simp; omega
  have hrun := lits_run most t (A ++ [((min t.length 15 * 16 : Nat) : Int)] ++ addedL t.length) [] out h
  rw [← e3, ← hp] at hrun
  rw [hrun, show A.length + 1 + (addedL t.length).length + t.length = (A ++ lastL t).length by rw [e3]; simp; omega]
  exact back_end _ _ _ _ _
theorem last_over (A t out : List Int) (most f : Nat) (h : out.length ≤ most) (h2 : most < out.length + t.length) : unp (A ++ lastL t) most (f + 1) A.length out = ([], 2) := by
  have e : A ++ lastL t = A ++ ((min t.length 15 * 16 : Nat) : Int) :: (addedL t.length ++ t) := by simp [lastL]
  have e2 : A ++ lastL t = (A ++ [((min t.length 15 * 16 : Nat) : Int)]) ++ (addedL t.length ++ t) := by simp [lastL]
  have e3 : A ++ lastL t = (A ++ [((min t.length 15 * 16 : Nat) : Int)] ++ addedL t.length) ++ (t ++ []) := by simp [lastL]
  have hg : (A ++ lastL t).getD A.length 0 = ((min t.length 15 * 16 : Nat) : Int) := by rw [e]; exact getD_mid _ _ _
  have hq : A.length + 1 = (A ++ [((min t.length 15 * 16 : Nat) : Int)]).length := by simp
  have hl : lengthOf (A ++ lastL t) (A.length + 1) (min t.length 15) = (t.length, A.length + 1 + (addedL t.length).length, true) := by
    rw [hq, e2]
    exact lengthOf_added _ t t.length
  rw [unp_lits _ _ _ _ t.length (A.length + 1 + (addedL t.length).length) out (by rw [e]; simp) (by rw [hg, Int.toNat_natCast, show min t.length 15 * 16 / 16 = min t.length 15 by omega]; exact hl)]
  have hp : A.length + 1 + (addedL t.length).length = (A ++ [((min t.length 15 * 16 : Nat) : Int)] ++ addedL t.length).length := by simp; omega
  have hrun := lits_over most t (A ++ [((min t.length 15 * 16 : Nat) : Int)] ++ addedL t.length) [] out h h2
  rw [← e3, ← hp] at hrun
  rw [hrun]
  rfl
/-- One sequence, its bytes told again, and the place behind it. -/
theorem seq_reps (l rest : List Int) (far m most f : Nat) (hl : l.length ≤ most) (h0 : 0 < far) (h1 : far ≤ l.length) (hfar : far < 65536) :
    unp (seqL l far m ++ rest) most (f + 1) 0 [] = unpReps (seqL l far m ++ rest) most (seqL l far m).length f (reps most far (m + 4) l) := by
  obtain ⟨g1, g2, g3⟩ := seq_lits l rest far m most f hl hfar
  have hlen : (seqL l far m).length = farAt l + 2 + (addedL m).length := by
    rw [List.length_append] at g3
    omega
  have hlo : lengthOf (seqL l far m ++ rest) (farAt l + 2) (min m 15) = (m, (seqL l far m).length, true) := by
    rw [seq_form]
    have e : ([((min l.length 15 * 16 + min m 15 : Nat) : Int)] ++ (addedL l.length ++ (l ++ (((far % 256 : Nat) : Int) :: ((far / 256 : Nat) : Int) :: (addedL m ++ rest))))) = ([((min l.length 15 * 16 + min m 15 : Nat) : Int)] ++ addedL l.length ++ l ++ [((far % 256 : Nat) : Int), ((far / 256 : Nat) : Int)]) ++ (addedL m ++ rest) := by simp
    have e2 : farAt l + 2 = ([((min l.length 15 * 16 + min m 15 : Nat) : Int)] ++ addedL l.length ++ l ++ [((far % 256 : Nat) : Int), ((far / 256 : Nat) : Int)]).length := by simp [farAt]; omega
    rw [hlen, e, e2]
    exact lengthOf_added _ rest m
  rw [g1]
  have := back_reps (seqL l far m ++ rest) most (min l.length 15 * 16 + min m 15) f (farAt l) m (seqL l far m).length l (by omega) (by omega) (by rw [g2]; omega) (by rw [show (min l.length 15 * 16 + min m 15) % 16 = min m 15 by omega]; exact hlo)
  rw [g2] at this
  exact this
/-- 3.1: unpacked as it was meant; with a byte of room less it is refused. -/
theorem hand_ok (l t : List Int) (far m K : Nat) (h0 : 0 < far) (h1 : far ≤ l.length) (hfar : far < 65536) (hK : K = l.length + (m + 4) + t.length) (hb : K ≤ 1048576) : unpackOf (seqL l far m ++ lastL t) K = (repL far (m + 4) l ++ t, 0) := by
  have hne : ¬ (seqL l far m ++ lastL t) = [] := by rw [seq_form]; simp
  obtain ⟨B, hB⟩ : ∃ B, (seqL l far m ++ lastL t).length = B + 1 := ⟨(seqL l far m ++ lastL t).length - 1, by rw [seq_form]; simp⟩
  unfold unpackOf
  rw [if_neg (by omega), if_neg hne, Int.toNat_natCast, seq_reps l (lastL t) far m K _ (by omega) h0 h1 hfar, reps_run K far (m + 4) l (by omega), hB]
  exact last_run (seqL l far m) t _ K B (by rw [repL_len]; omega)
theorem hand_over (l t : List Int) (far m K : Nat) (h0 : 0 < far) (h1 : far ≤ l.length) (hfar : far < 65536) (hK : K + 1 = l.length + (m + 4) + t.length) (hb : K ≤ 1048576) : unpackOf (seqL l far m ++ lastL t) K = ([], 2) := by
  have hne : ¬ (seqL l far m ++ lastL t) = [] := by rw [seq_form]; simp
  obtain ⟨B, hB⟩ : ∃ B, (seqL l far m ++ lastL t).length = B + 1 := ⟨(seqL l far m ++ lastL t).length - 1, by rw [seq_form]; simp⟩
  unfold unpackOf
  rw [if_neg (by omega), if_neg hne, Int.toNat_natCast, seq_reps l (lastL t) far m K _ (by omega) h0 h1 hfar]
  by_cases ht : t.length = 0
  · rw [reps_over K far (m + 4) l (by omega) (by omega)]
    rfl
  · rw [reps_run K far (m + 4) l (by omega), hB]
    exact last_over (seqL l far m) t _ K B (by rw [repL_len]; omega) (by rw [repL_len]; omega)
end Go.Proofs.Ytlkpedknhjgdiaa
