/-
  What the project's own May answers (package entry). Conditions: the fields are numbers of their types.
-/
import Derived.Test.YtdffgnpldapciaaGreatDoorH8
namespace Go.Proofs.YtdffgnpldapciaaGreatDoor
open Go.RowKit
set_option linter.unusedVariables false

theorem dec_t {q : Prop} [Decidable q] (h : q) : true = decide q := (decide_eq_true h).symm
theorem dec_f {q : Prop} [Decidable q] (h : ¬ q) : false = decide q := (decide_eq_false h).symm
set_option maxHeartbeats 4000000 in
theorem entryMay_any (k s n z m c : Int) (ho : EnOk (k, s, n, z, m)) (w : World) : Calls Tryz.prog 91 #[.agg #[.int .i64 k, .int .i64 s, .int .i64 n, .int .i64 z, .int .u32 m], .int .i64 c] w fun e w' => e = .returned (.bool (decide (MayE (k, s, n, z, m) c))) ∧ Below w.heap.size w w' := by
  have HG : Hid (∀ cs, Below w.heap.size w (w.alloc (.cells cs 91))) := fun cs => (Below.refl _ _).alloc (Nat.le_refl _) _
  have HG2 : Hid (∀ cs cs', Below w.heap.size w ((w.alloc (.cells cs 91)).alloc (.cells cs' 91))) := fun cs cs' => (HG.out _).alloc (by simp) _
  have HG3 : Hid (∀ cs cs' ds, Below w.heap.size w (((w.alloc (.cells cs 91)).alloc (.cells cs' 91)).alloc (.cells ds 91))) := fun cs cs' ds => (HG2.out _ _).alloc (by simp; omega) _
  by_cases hc : 0 ≤ c ∧ c ≤ 6
  · obtain ⟨C, rfl⟩ : ∃ C : Nat, c = C := ⟨c.toNat, by omega⟩
    have HW0 := Lib.hid (fun w => within8_yes hc w)
    obtain ⟨P, hP⟩ := named ((2 : Int) ^ C)
    have hPb := pow_le6 hc
    rw [Int.toNat_natCast, hP.out] at hPb
    obtain ⟨hp1, hp2⟩ := hPb
    have hC6 : C ≤ 6 := by omega
    have hPP : wrap64 (2 ^ C) = P := by rw [hP.out]; unfold wrap64; omega
    have hM : ∀ n, MayE (k, s, n, z, m) (C : Int) ↔ (((k = 0 ∨ k = 1) ∧ s = 0 ∧ n = 0 ∧ z = 0 ∧ m = 0) ∨ (k = 2 ∧ 2 ≤ s ∧ n = P ∧ s ≤ 65536 - n ∧ z = 0) ∨ (k = 3 ∧ 2 ≤ s ∧ 1 ≤ n ∧ n < P ∧ s ≤ 65536 - n ∧ 1 ≤ z ∧ z ≤ n * 16 ∧ (n - 1) * 16 < z)) := by
      intro n
      unfold MayE
      rw [Int.toNat_natCast, hP.out]
      dsimp only
      exact ⟨fun h => h.2, fun h => ⟨by omega, h⟩⟩
    have hk : k = 0 ∨ k = 1 ∨ k = 2 ∨ k = 3 ∨ (k ≠ 0 ∧ k ≠ 1 ∧ k ≠ 2 ∧ k ≠ 3) := by omega
    rcases hk with rfl | rfl | rfl | rfl | ⟨k0, k1, k2, k3⟩
    · have HE : Hid (MayE (0, s, n, z, m) (C : Int) ↔ (s = 0 ∧ n = 0 ∧ z = 0 ∧ m = 0)) := by rw [Hid, hM n]; omega
      clear hM
      go_enter Tryz.func91, Tryz.ntmps91
      go_wp2_with (first
        | (go_at_call 99; (with_reducible refine (HW0.out _).mono ?_); rintro e w' ⟨rfl, rfl⟩)
        | (go_at_call 99; (with_reducible refine (HW1.out _).mono ?_); rintro e w' ⟨rfl, rfl⟩)
        | (go_at_call 100; (with_reducible refine (HW2.out _).mono ?_); rintro e w' ⟨rfl, rfl⟩)
        | (go_at_call 101; (with_reducible refine (HW3.out _).mono ?_); rintro e w' ⟨rfl, rfl⟩))
      all_goals go_ret
      all_goals refine ⟨ret_dec (HE.out) ?_, by first | exact HG.out _ | exact HG2.out _ _ | exact HG3.out _ _ _⟩
      all_goals first | rfl | exact dec_f (by omega) | exact dec_t (by omega) | exact decide_eq_decide.2 (by omega) | (rw [Bool.eq_iff_iff]; simp; omega) | (simp; omega)
    · have HE : Hid (MayE (1, s, n, z, m) (C : Int) ↔ (s = 0 ∧ n = 0 ∧ z = 0 ∧ m = 0)) := by rw [Hid, hM n]; omega
      clear hM
      go_enter Tryz.func91, Tryz.ntmps91
      go_wp2_with (first
        | (go_at_call 99; (with_reducible refine (HW0.out _).mono ?_); rintro e w' ⟨rfl, rfl⟩)
        | (go_at_call 99; (with_reducible refine (HW1.out _).mono ?_); rintro e w' ⟨rfl, rfl⟩)
        | (go_at_call 100; (with_reducible refine (HW2.out _).mono ?_); rintro e w' ⟨rfl, rfl⟩)
        | (go_at_call 101; (with_reducible refine (HW3.out _).mono ?_); rintro e w' ⟨rfl, rfl⟩))
      all_goals go_ret
      all_goals refine ⟨ret_dec (HE.out) ?_, by first | exact HG.out _ | exact HG2.out _ _ | exact HG3.out _ _ _⟩
      all_goals first | rfl | exact dec_f (by omega) | exact dec_t (by omega) | exact decide_eq_decide.2 (by omega) | (rw [Bool.eq_iff_iff]; simp; omega) | (simp; omega)
    · have HE : Hid (MayE (2, s, n, z, m) (C : Int) ↔ (2 ≤ s ∧ n = P ∧ s ≤ 65536 - n ∧ z = 0)) := by rw [Hid, hM n]; omega
      clear hM
      by_cases hn : n = P
      · subst hn
        have HW1 := Lib.hid (fun w => within8_yes (n := n) (a := n) (b := n) (by omega) w)
        have w2 := fun w => placed8 2 s n z m (by omega) hp2 w
        obtain ⟨B, hB, h2⟩ : ∃ B : Bool, (decide (2 ≤ s) && decide (s ≤ 65536 - n)) = B ∧ ((B = true ∧ 2 ≤ s ∧ s ≤ 65536 - n) ∨ (B = false ∧ ¬ (2 ≤ s ∧ s ≤ 65536 - n))) := by
          by_cases h : 2 ≤ s ∧ s ≤ 65536 - n
          · exact ⟨true, by simp [h.1, h.2], Or.inl ⟨rfl, h⟩⟩
          · exact ⟨false, by rw [← Bool.decide_and, decide_eq_false_iff_not]; exact h, Or.inr ⟨rfl, h⟩⟩
        rw [hB] at w2
        have HW2 := Lib.hid w2
        clear w2 hB
        rcases h2 with ⟨rfl, h2⟩ | ⟨rfl, h2⟩
        all_goals
          go_enter Tryz.func91, Tryz.ntmps91
          go_wp2_with (first
            | (go_at_call 99; (with_reducible refine (HW0.out _).mono ?_); rintro e w' ⟨rfl, rfl⟩)
            | (go_at_call 99; (with_reducible refine (HW1.out _).mono ?_); rintro e w' ⟨rfl, rfl⟩)
            | (go_at_call 100; (with_reducible refine (HW2.out _).mono ?_); rintro e w' ⟨rfl, rfl⟩)
            | (go_at_call 101; (with_reducible refine (HW3.out _).mono ?_); rintro e w' ⟨rfl, rfl⟩))
          all_goals go_ret
          all_goals refine ⟨ret_dec (HE.out) ?_, by first | exact HG.out _ | exact HG2.out _ _ | exact HG3.out _ _ _⟩
          all_goals first | rfl | exact dec_f (by omega) | exact dec_t (by omega) | exact decide_eq_decide.2 (by omega) | (rw [Bool.eq_iff_iff]; simp; omega) | (simp; omega)
      · have HW1 := Lib.hid (fun w => within8_no (n := n) (a := P) (b := P) (by omega) w)
        go_enter Tryz.func91, Tryz.ntmps91
        go_wp2_with (first
          | (go_at_call 99; (with_reducible refine (HW0.out _).mono ?_); rintro e w' ⟨rfl, rfl⟩)
          | (go_at_call 99; (with_reducible refine (HW1.out _).mono ?_); rintro e w' ⟨rfl, rfl⟩)
          | (go_at_call 100; (with_reducible refine (HW2.out _).mono ?_); rintro e w' ⟨rfl, rfl⟩)
          | (go_at_call 101; (with_reducible refine (HW3.out _).mono ?_); rintro e w' ⟨rfl, rfl⟩))
        all_goals go_ret
        all_goals refine ⟨ret_dec (HE.out) ?_, by first | exact HG.out _ | exact HG2.out _ _ | exact HG3.out _ _ _⟩
        all_goals first | rfl | exact dec_f (by omega) | exact dec_t (by omega) | exact decide_eq_decide.2 (by omega) | (rw [Bool.eq_iff_iff]; simp; omega) | (simp; omega)
    · have HE : Hid (MayE (3, s, n, z, m) (C : Int) ↔ (2 ≤ s ∧ 1 ≤ n ∧ n < P ∧ s ≤ 65536 - n ∧ 1 ≤ z ∧ z ≤ n * 16 ∧ (n - 1) * 16 < z)) := by rw [Hid, hM n]; omega
      clear hM
      have eP : IntKind.i64.wrap (P - 1) = P - 1 := by rw [IntKind.wrap_i64]; omega
      by_cases hn : 1 ≤ n ∧ n ≤ P - 1
      · have HW1 := Lib.hid (fun w => within8_yes (n := n) (a := 1) (b := P - 1) (by omega) w)
        have w2 := fun w => placed8 3 s n z m (by omega) (by omega) w
        have w3 := fun w => filled8 3 s n z m (by omega) (by omega) w
        obtain ⟨B, hB, h2⟩ : ∃ B : Bool, (decide (2 ≤ s) && decide (s ≤ 65536 - n)) = B ∧ ((B = true ∧ 2 ≤ s ∧ s ≤ 65536 - n) ∨ (B = false ∧ ¬ (2 ≤ s ∧ s ≤ 65536 - n))) := by
          by_cases h : 2 ≤ s ∧ s ≤ 65536 - n
          · exact ⟨true, by simp [h.1, h.2], Or.inl ⟨rfl, h⟩⟩
          · exact ⟨false, by rw [← Bool.decide_and, decide_eq_false_iff_not]; exact h, Or.inr ⟨rfl, h⟩⟩
        rw [hB] at w2
        obtain ⟨D, hD, h3⟩ : ∃ B : Bool, (decide ((n - 1) * 16 + 1 ≤ z) && decide (z ≤ n * 16)) = B ∧ ((B = true ∧ (n - 1) * 16 + 1 ≤ z ∧ z ≤ n * 16) ∨ (B = false ∧ ¬ ((n - 1) * 16 + 1 ≤ z ∧ z ≤ n * 16))) := by
          by_cases h : (n - 1) * 16 + 1 ≤ z ∧ z ≤ n * 16
          · exact ⟨true, by simp [h.1, h.2], Or.inl ⟨rfl, h⟩⟩
          · exact ⟨false, by rw [← Bool.decide_and, decide_eq_false_iff_not]; exact h, Or.inr ⟨rfl, h⟩⟩
        rw [hD] at w3
        have HW2 := Lib.hid w2
        have HW3 := Lib.hid w3
        clear w2 hB w3 hD
        rcases h2 with ⟨rfl, h2⟩ | ⟨rfl, h2⟩ <;> rcases h3 with ⟨rfl, h3⟩ | ⟨rfl, h3⟩
        all_goals
          go_enter Tryz.func91, Tryz.ntmps91
          go_wp2_with (first
            | (go_at_call 99; (with_reducible refine (HW0.out _).mono ?_); rintro e w' ⟨rfl, rfl⟩)
            | (go_at_call 99; (with_reducible refine (HW1.out _).mono ?_); rintro e w' ⟨rfl, rfl⟩)
            | (go_at_call 100; (with_reducible refine (HW2.out _).mono ?_); rintro e w' ⟨rfl, rfl⟩)
            | (go_at_call 101; (with_reducible refine (HW3.out _).mono ?_); rintro e w' ⟨rfl, rfl⟩))
          all_goals go_ret
          all_goals refine ⟨ret_dec (HE.out) ?_, by first | exact HG.out _ | exact HG2.out _ _ | exact HG3.out _ _ _⟩
          all_goals first | rfl | exact dec_f (by omega) | exact dec_t (by omega) | exact decide_eq_decide.2 (by omega) | (rw [Bool.eq_iff_iff]; simp; omega) | (simp; omega)
      · have HW1 := Lib.hid (fun w => within8_no (n := n) (a := 1) (b := P - 1) (by omega) w)
        go_enter Tryz.func91, Tryz.ntmps91
        go_wp2_with (first
          | (go_at_call 99; (with_reducible refine (HW0.out _).mono ?_); rintro e w' ⟨rfl, rfl⟩)
          | (go_at_call 99; (with_reducible refine (HW1.out _).mono ?_); rintro e w' ⟨rfl, rfl⟩)
          | (go_at_call 100; (with_reducible refine (HW2.out _).mono ?_); rintro e w' ⟨rfl, rfl⟩)
          | (go_at_call 101; (with_reducible refine (HW3.out _).mono ?_); rintro e w' ⟨rfl, rfl⟩))
        all_goals go_ret
        all_goals refine ⟨ret_dec (HE.out) ?_, by first | exact HG.out _ | exact HG2.out _ _ | exact HG3.out _ _ _⟩
        all_goals first | rfl | exact dec_f (by omega) | exact dec_t (by omega) | exact decide_eq_decide.2 (by omega) | (rw [Bool.eq_iff_iff]; simp; omega) | (simp; omega)
    · have HE : Hid (MayE (k, s, n, z, m) (C : Int) ↔ False) := by
        rw [Hid, hM n]
        refine ⟨fun h => ?_, False.elim⟩
        rcases h with h | h | h <;> omega
      clear hM
      go_enter Tryz.func91, Tryz.ntmps91
      go_wp2_with (first
        | (go_at_call 99; (with_reducible refine (HW0.out _).mono ?_); rintro e w' ⟨rfl, rfl⟩)
        | (go_at_call 99; (with_reducible refine (HW1.out _).mono ?_); rintro e w' ⟨rfl, rfl⟩)
        | (go_at_call 100; (with_reducible refine (HW2.out _).mono ?_); rintro e w' ⟨rfl, rfl⟩)
        | (go_at_call 101; (with_reducible refine (HW3.out _).mono ?_); rintro e w' ⟨rfl, rfl⟩))
      all_goals go_ret
      all_goals refine ⟨ret_dec (HE.out) ?_, by first | exact HG.out _ | exact HG2.out _ _ | exact HG3.out _ _ _⟩
      all_goals first | rfl | exact dec_f (by omega) | exact dec_t (by omega) | exact decide_eq_decide.2 (by omega) | (rw [Bool.eq_iff_iff]; simp; omega) | (simp; omega)
  · have hd : decide (MayE (k, s, n, z, m) c) = false := by rw [decide_eq_false_iff_not]; exact fun h => hc h.1
    rw [hd]
    have HW0 := Lib.hid (fun w => within8_no hc w)
    go_enter Tryz.func91, Tryz.ntmps91
    go_wp2_with (go_at_call 99; (with_reducible refine (HW0.out _).mono ?_); rintro e w' ⟨rfl, rfl⟩)
    go_ret
    exact ⟨rfl, HG.out _⟩
end Go.Proofs.YtdffgnpldapciaaGreatDoor
