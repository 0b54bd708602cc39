/-
  What the project's own isWithin, isPlaced, isFilled and May answer (package entry). Conditions: the fields are numbers of their types.
-/
import Derived.Test.YtdffgnpldapciaaGreatDoorB8
namespace Go.Proofs.YtdffgnpldapciaaGreatDoor
open Go.RowKit
set_option linter.unusedVariables false

theorem within8 (n a b : Int) (w : World) : Calls Tryz.prog 99 #[.int .i64 n, .int .i64 a, .int .i64 b] w fun e w' => e = .returned (.bool (decide (a ≤ n) && decide (n ≤ b))) ∧ w = w' := by
  by_cases h1 : a ≤ n
  · by_cases h2 : n ≤ b
    · go_enter Tryz.func99, Tryz.ntmps99
      go_wp2
      go_ret
      exact ⟨by simp [h1, h2], rfl⟩
    · go_enter Tryz.func99, Tryz.ntmps99
      go_wp2
      go_ret
      exact ⟨by simp; omega, rfl⟩
  · go_enter Tryz.func99, Tryz.ntmps99
    go_wp2
    go_ret
    exact ⟨by simp; omega, rfl⟩
theorem within8_yes {n a b : Int} (h : a ≤ n ∧ n ≤ b) (w : World) : Calls Tryz.prog 99 #[.int .i64 n, .int .i64 a, .int .i64 b] w fun e w' => e = .returned (.bool true) ∧ w = w' := by
  have := within8 n a b w
  rwa [decide_eq_true h.1, decide_eq_true h.2] at this
theorem within8_no {n a b : Int} (h : ¬ (a ≤ n ∧ n ≤ b)) (w : World) : Calls Tryz.prog 99 #[.int .i64 n, .int .i64 a, .int .i64 b] w fun e w' => e = .returned (.bool false) ∧ w = w' := by
  have := within8 n a b w
  have e : (decide (a ≤ n) && decide (n ≤ b)) = false := by
    rw [← Bool.decide_and, decide_eq_false_iff_not]
    exact h
  rwa [e] at this
/-- What isPlaced answers where the sum can't wrap round. -/
theorem placed8 (k s n z m : Int) (h1 : 0 ≤ n) (h2 : n ≤ 64) (w : World) : Calls Tryz.prog 100 #[.agg #[.int .i64 k, .int .i64 s, .int .i64 n, .int .i64 z, .int .u32 m]] w fun e w' => e = .returned (.bool (decide (2 ≤ s) && decide (s ≤ 65536 - n))) ∧ w' = w.alloc (.cells #[.int .i64 k, .int .i64 s, .int .i64 n, .int .i64 z, .int .u32 m] 91) := by
  have W1 := fun w => within8 s 2 (65536 - n) w
  have e1 : IntKind.i64.wrap (65536 - n) = 65536 - n := by rw [IntKind.wrap_i64]; omega
  generalize (decide (2 ≤ s) && decide (s ≤ 65536 - n)) = B at W1 ⊢
  obtain ⟨R, hR⟩ := named (65536 - n)
  rw [hR.out] at W1 e1
  have hR' := hR.out
  have H1 := Lib.hid W1
  clear W1
  go_enter Tryz.func100, Tryz.ntmps100
  go_wp2_with (go_at_call 99; (with_reducible refine (H1.out _).mono ?_); rintro e w' ⟨rfl, rfl⟩)
  go_ret
  exact ⟨rfl, rfl⟩
theorem filled8 (k s n z m : Int) (h1 : 0 ≤ n) (h2 : n ≤ 64) (w : World) : Calls Tryz.prog 101 #[.agg #[.int .i64 k, .int .i64 s, .int .i64 n, .int .i64 z, .int .u32 m]] w fun e w' => e = .returned (.bool (decide ((n - 1) * 16 + 1 ≤ z) && decide (z ≤ n * 16))) ∧ w' = w.alloc (.cells #[.int .i64 k, .int .i64 s, .int .i64 n, .int .i64 z, .int .u32 m] 91) := by
  have W1 := fun w => within8 z ((n - 1) * 16 + 1) (n * 16) w
  have e1 : IntKind.i64.wrap (n - 1) = n - 1 := by rw [IntKind.wrap_i64]; omega
  have e2 : IntKind.i64.wrap ((n - 1) * 16) = (n - 1) * 16 := by rw [IntKind.wrap_i64]; omega
  have e3 : IntKind.i64.wrap ((n - 1) * 16 + 1) = (n - 1) * 16 + 1 := by rw [IntKind.wrap_i64]; omega
  have e4 : IntKind.i64.wrap (n * 16) = n * 16 := by rw [IntKind.wrap_i64]; omega
  generalize (decide ((n - 1) * 16 + 1 ≤ z) && decide (z ≤ n * 16)) = B at W1 ⊢
  have H1 := Lib.hid W1
  clear W1
  go_enter Tryz.func101, Tryz.ntmps101
  go_wp2_with (go_at_call 99; (with_reducible refine (H1.out _).mono ?_); rintro e w' ⟨rfl, rfl⟩)
  go_ret
  exact ⟨rfl, rfl⟩
end Go.Proofs.YtdffgnpldapciaaGreatDoor
