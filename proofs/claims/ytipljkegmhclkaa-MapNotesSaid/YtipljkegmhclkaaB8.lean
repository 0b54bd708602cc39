/-
  What the reference's May answers (layer 7). Conditions: the fields are numbers of their types.
-/
import Derived.Test.YtipljkegmhclkaaA8
import Derived.RegionTactic
namespace Go.Proofs.Ytipljkegmhclkaa
open Go.RowKit
set_option linter.unusedVariables false

theorem ret_dec {b : Bool} {p q : Prop} [Decidable p] [Decidable q] (hpq : p ↔ q) (h : b = decide q) : Ending.returned (.bool b) = .returned (.bool (decide p)) := by
  rw [h]
  congr 2
  exact decide_eq_decide.2 hpq.symm
set_option maxHeartbeats 4000000 in
theorem refMay_any (k s n z m c : Int) (ho : EnOk (k, s, n, z, m)) (w : World) : Calls Try.prog 32 #[.agg #[.int .i64 k, .int .i64 s, .int .i64 n, .int .i64 z, .int .u32 m], .int .i64 c] w fun e w' => e = .returned (.bool (decide (MayE (k, s, n, z, m) c))) ∧ Below w.heap.size w w' := by
  have HG : Hid (∀ cs, Below w.heap.size w (w.alloc (.cells cs 72))) := fun cs => (Below.refl _ _).alloc (Nat.le_refl _) _
  by_cases hc : 0 ≤ c ∧ c ≤ 6
  · obtain ⟨C, rfl⟩ : ∃ C : Nat, c = C := ⟨c.toNat, by omega⟩
    obtain ⟨P, hP⟩ := named ((2 : Int) ^ C)
    have hPb := pow_le6 hc
    rw [Int.toNat_natCast, hP.out] at hPb
    obtain ⟨hp1, hp2⟩ := hPb
    have hC6 : C ≤ 6 := by omega
    have hPP : wrap64 (2 ^ C) = P := by rw [hP.out]; unfold wrap64; omega
    have hM : ∀ n, MayE (k, s, n, z, m) (C : Int) ↔ (((k = 0 ∨ k = 1) ∧ s = 0 ∧ n = 0 ∧ z = 0 ∧ m = 0) ∨ (k = 2 ∧ 2 ≤ s ∧ n = P ∧ s ≤ 65536 - n ∧ z = 0) ∨ (k = 3 ∧ 2 ≤ s ∧ 1 ≤ n ∧ n < P ∧ s ≤ 65536 - n ∧ 1 ≤ z ∧ z ≤ n * 16 ∧ (n - 1) * 16 < z)) := by
      intro n
      unfold MayE
      rw [Int.toNat_natCast, hP.out]
      dsimp only
      exact ⟨fun h => h.2, fun h => ⟨by omega, h⟩⟩
    have hk : k = 0 ∨ k = 1 ∨ k = 2 ∨ k = 3 ∨ (k ≠ 0 ∧ k ≠ 1 ∧ k ≠ 2 ∧ k ≠ 3) := by omega
    rcases hk with rfl | rfl | rfl | rfl | ⟨k0, k1, k2, k3⟩
    · have HE : Hid (MayE (0, s, n, z, m) (C : Int) ↔ (s = 0 ∧ n = 0 ∧ z = 0 ∧ m = 0)) := by rw [Hid, hM n]; omega
      clear hM
      go_enter Try.func32, Try.ntmps32
      go_wp2
      all_goals go_ret
      all_goals refine ⟨ret_dec (HE.out) ?_, HG.out _⟩
      all_goals first | rfl | (rw [Bool.eq_iff_iff]; simp; omega) | (simp; omega) | (simp only [decide_eq_true_eq, Bool.eq_iff_iff]; omega)
    · have HE : Hid (MayE (1, s, n, z, m) (C : Int) ↔ (s = 0 ∧ n = 0 ∧ z = 0 ∧ m = 0)) := by rw [Hid, hM n]; omega
      clear hM
      go_enter Try.func32, Try.ntmps32
      go_wp2
      all_goals go_ret
      all_goals refine ⟨ret_dec (HE.out) ?_, HG.out _⟩
      all_goals first | rfl | (rw [Bool.eq_iff_iff]; simp; omega) | (simp; omega) | (simp only [decide_eq_true_eq, Bool.eq_iff_iff]; omega)
    · have HE : Hid (∀ n, MayE (2, s, n, z, m) (C : Int) ↔ (2 ≤ s ∧ n = P ∧ s ≤ 65536 - n ∧ z = 0)) := fun n => by rw [hM n]; omega
      clear hM
      go_enter Try.func32, Try.ntmps32
      go_wp2
      all_goals go_ret
      all_goals refine ⟨ret_dec (HE.out _) ?_, HG.out _⟩
      all_goals first | rfl | (rw [Bool.eq_iff_iff]; simp; omega) | (simp; omega) | (simp only [decide_eq_true_eq, Bool.eq_iff_iff]; omega)
    · have HE : Hid (MayE (3, s, n, z, m) (C : Int) ↔ (2 ≤ s ∧ 1 ≤ n ∧ n < P ∧ s ≤ 65536 - n ∧ 1 ≤ z ∧ z ≤ n * 16 ∧ (n - 1) * 16 < z)) := by rw [Hid, hM n]; omega
      clear hM
      have hcs : (2 ≤ s ∧ 1 ≤ n ∧ n < P) ∨ (2 ≤ s ∧ 1 ≤ n ∧ ¬ n < P) ∨ (2 ≤ s ∧ ¬ 1 ≤ n) ∨ ¬ 2 ≤ s := by omega
      rcases hcs with ⟨h1, h2, h3⟩ | ⟨h1, h2, h3⟩ | ⟨h1, h2⟩ | h1
      all_goals
          go_enter Try.func32, Try.ntmps32
          go_wp2
          all_goals go_ret
          all_goals refine ⟨ret_dec HE.out ?_, HG.out _⟩
          all_goals first | rfl | (rw [Bool.eq_iff_iff]; simp; omega) | (simp; omega) | (simp only [decide_eq_true_eq, Bool.eq_iff_iff]; omega)
    · have HE : Hid (MayE (k, s, n, z, m) (C : Int) ↔ False) := by
        rw [Hid, hM n]
        refine ⟨fun h => ?_, False.elim⟩
        rcases h with h | h | h <;> omega
      clear hM
      go_enter Try.func32, Try.ntmps32
      go_wp2
      all_goals go_ret
      all_goals refine ⟨ret_dec (HE.out) ?_, HG.out _⟩
      all_goals first | rfl | (rw [Bool.eq_iff_iff]; simp; omega) | (simp; omega) | (simp only [decide_eq_true_eq, Bool.eq_iff_iff]; omega)
  · have hd : decide (MayE (k, s, n, z, m) c) = false := by rw [decide_eq_false_iff_not]; exact fun h => hc h.1
    rw [hd]
    have hc' : c < 0 ∨ (0 ≤ c ∧ 6 < c) := by omega
    rcases hc' with h | ⟨h1, h2⟩
    · go_enter Try.func32, Try.ntmps32
      go_wp2
      go_ret
      exact ⟨rfl, HG.out _⟩
    · go_enter Try.func32, Try.ntmps32
      go_wp2
      go_ret
      exact ⟨rfl, HG.out _⟩
end Go.Proofs.Ytipljkegmhclkaa
