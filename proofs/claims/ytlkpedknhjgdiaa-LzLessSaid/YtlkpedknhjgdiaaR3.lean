/-
  Plain mathematics: what is unpacked has room; what is refused tells nothing. Condition: none.
-/
import Derived.Test.YtlkpedknhjgdiaaW3
namespace Go.Proofs.Ytlkpedknhjgdiaa
open Go.RowKit

theorem lits_room (b : List Int) (most : Nat) : ∀ (k p : Nat) (out : List Int), out.length ≤ most → ∀ p' out', lits b most k p out = .ok p' out' → out'.length ≤ most
  | 0, p, out, h, p', out', e => by
    rw [lits_done] at e
    cases e
    exact h
  | k + 1, p, out, h, p', out', e => by
    by_cases h1 : b.length ≤ p
    · rw [lits_form _ _ _ _ _ h1] at e; cases e
    · by_cases h2 : most ≤ out.length
      · rw [lits_long _ _ _ _ _ h1 h2] at e; cases e
      · rw [lits_on _ _ _ _ _ h1 h2] at e
        exact lits_room b most k (p + 1) _ (by simp; omega) p' out' e
theorem reps_room (most far : Nat) : ∀ (k : Nat) (out : List Int), out.length ≤ most → ∀ p' out', reps most far k out = .ok p' out' → out'.length ≤ most
  | 0, out, h, p', out', e => by
    rw [reps] at e
    cases e
    exact h
  | k + 1, out, h, p', out', e => by
    by_cases h2 : most ≤ out.length
    · rw [reps_long _ _ _ _ h2] at e; cases e
    · rw [reps_on _ _ _ _ h2] at e
      exact reps_room most far k _ (by simp; omega) p' out' e
def Roomy (most : Nat) (R : List Int × Int) : Prop := R.1.length ≤ most ∧ (R.2 = 0 ∨ R.1 = [])
theorem roomy_bad (most : Nat) (e : Int) : Roomy most ([], e) := ⟨Nat.zero_le _, Or.inr rfl⟩
theorem unp_room (b : List Int) (most : Nat) : ∀ (f p : Nat) (out : List Int), out.length ≤ most → Roomy most (unp b most f p out)
  | 0, _, _, _ => ⟨Nat.zero_le _, Or.inl rfl⟩
  | f + 1, p, out, h => by
    by_cases h1 : b.length ≤ p
    · rw [unp_end _ _ _ _ _ h1]
      exact ⟨h, Or.inl rfl⟩
    · obtain ⟨⟨l, q, k⟩, hx⟩ := named (lengthOf b (p + 1) ((b.getD p 0).toNat / 16))
      cases k with
      | false => rw [unp_bad _ _ _ _ _ _ _ (by omega) hx.out]; exact roomy_bad _ _
      | true =>
        rw [unp_lits _ _ _ _ _ _ _ (by omega) hx.out]
        cases hl : lits b most l q out with
        | bad e => exact roomy_bad _ _
        | ok p' out' =>
          have h' := lits_room b most l q out h p' out' hl
          by_cases g1 : p' = b.length
          · rw [g1, back_end]; exact ⟨h', Or.inl rfl⟩
          · by_cases g2 : b.length - p' < 2
            · rw [back_cut _ _ _ _ _ _ g1 g2]; exact roomy_bad _ _
            · by_cases g3 : farOf b p' = 0 ∨ out'.length < farOf b p'
              · rw [back_far _ _ _ _ _ _ g1 g2 g3]; exact roomy_bad _ _
              · obtain ⟨⟨m, q', k'⟩, hx2⟩ := named (lengthOf b (p' + 2) ((b.getD p 0).toNat % 16))
                cases k' with
                | false => rw [back_bad _ _ _ _ _ _ _ _ g1 g2 g3 hx2.out]; exact roomy_bad _ _
                | true =>
                  rw [back_reps _ _ _ _ _ _ _ _ g1 g2 g3 hx2.out]
                  cases hr : reps most (farOf b p') (m + 4) out' with
                  | bad e => exact roomy_bad _ _
                  | ok x out'' => exact unp_room b most f q' out'' (reps_room most _ _ out' h' x out'' hr)
/-- 3.1: more than there may be is never told. -/
theorem unpackOf_room (b : List Int) (k : Nat) : Roomy k (unpackOf b k) := by
  unfold unpackOf
  by_cases h1 : (k : Int) < 0 ∨ 1048576 < (k : Int)
  · rw [if_pos h1]; exact roomy_bad _ _
  · rw [if_neg h1]
    by_cases h2 : b = []
    · rw [if_pos h2]; exact roomy_bad _ _
    · rw [if_neg h2, Int.toNat_natCast]
      exact unp_room b k _ 0 [] (Nat.zero_le _)
theorem unpackOf_arg (b : List Int) (most : Int) (h : most < 0 ∨ 1048576 < most) : unpackOf b most = ([], 1) := by rw [unpackOf, if_pos h]
end Go.Proofs.Ytlkpedknhjgdiaa
