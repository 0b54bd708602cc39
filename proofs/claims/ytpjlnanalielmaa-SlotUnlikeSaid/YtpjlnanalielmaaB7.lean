/-
  What the project's own isWithin, isSlot, number, with, encode and decode answer (package slot). Conditions: none.
-/
import Derived.Test.YtpjlnanalielmaaA7
import Derived.Deep.RegionHeld3
namespace Go.Proofs.Ytpjlnanalielmaa
open Go.RowKit
set_option linter.unusedVariables false

theorem within_any (n a b : Int) (w : World) : Calls Try.prog 26 #[.int .i64 n, .int .i64 a, .int .i64 b] w fun e w' => e = .returned (.bool (decide (a ≤ n) && decide (n ≤ b))) ∧ w = w' := by
  by_cases h1 : a ≤ n
  · by_cases h2 : n ≤ b
    · go_enter Try.func26, Try.ntmps26
      go_wp2
      go_ret
      exact ⟨by simp [h1, h2], rfl⟩
    · go_enter Try.func26, Try.ntmps26
      go_wp2
      go_ret
      exact ⟨by simp; omega, rfl⟩
  · go_enter Try.func26, Try.ntmps26
    go_wp2
    go_ret
    exact ⟨by simp; omega, rfl⟩

set_option maxHeartbeats 800000 in
theorem isSlot_any (q s c m : Int) (w : World) : Calls Try.prog 18 #[.agg (slV (q, s, c, m)).toArray] w fun e w' => e = .returned (.bool (decide (May (q, s, c, m)))) ∧ Below w.heap.size w w' := by
  have hM : decide (May (q, s, c, m)) = (decide (1 ≤ q) && decide (q ≤ 2147483648) && (decide (2 ≤ s) && decide (s ≤ 65536)) && (decide (1 ≤ c) && decide (c ≤ 1048576))) := by
    simp [May, Bool.and_assoc, and_assoc]
  rw [hM]
  have HB : Hid (Below w.heap.size w (w.alloc (.cells #[.int .i64 q, .int .i64 s, .int .i64 c, .int .u32 m] 24))) := (Below.refl _ _).alloc (Nat.le_refl _) _
  have W1 : ∀ w, Calls Try.prog 26 #[.int .i64 q, .int .i64 1, .int .i64 2147483648] w fun e w' => e = .returned (.bool (decide (1 ≤ q) && decide (q ≤ 2147483648))) ∧ w = w' := fun w => within_any q 1 2147483648 w
  have W2 : ∀ w, Calls Try.prog 26 #[.int .i64 s, .int .i64 2, .int .i64 65536] w fun e w' => e = .returned (.bool (decide (2 ≤ s) && decide (s ≤ 65536))) ∧ w = w' := fun w => within_any s 2 65536 w
  have W3 : ∀ w, Calls Try.prog 26 #[.int .i64 c, .int .i64 1, .int .i64 1048576] w fun e w' => e = .returned (.bool (decide (1 ≤ c) && decide (c ≤ 1048576))) ∧ w = w' := fun w => within_any c 1 1048576 w
  generalize (decide (1 ≤ q) && decide (q ≤ 2147483648)) = b1 at W1 ⊢
  generalize (decide (2 ≤ s) && decide (s ≤ 65536)) = b2 at W2 ⊢
  generalize (decide (1 ≤ c) && decide (c ≤ 1048576)) = b3 at W3 ⊢
  have H1 := Lib.hid W1
  have H2 := Lib.hid W2
  have H3 := Lib.hid W3
  clear W1 W2 W3 hM
  unfold slV
  cases b1 <;> cases b2 <;> cases b3
  all_goals
    go_enter Try.func18, Try.ntmps18
    go_wp2_with (first
      | (go_at_call 26; (with_reducible refine (H1.out _).mono ?_); rintro e w' ⟨rfl, rfl⟩)
      | (go_at_call 26; (with_reducible refine (H2.out _).mono ?_); rintro e w' ⟨rfl, rfl⟩)
      | (go_at_call 26; (with_reducible refine (H3.out _).mono ?_); rintro e w' ⟨rfl, rfl⟩))
    go_ret
    exact ⟨rfl, HB.out⟩

set_option maxHeartbeats 800000 in
/-- The number at a place. -/
theorem number_any7 (w : World) (l : List Int) (hl : l.length = 16) (hb : ∀ c ∈ l, 0 ≤ c ∧ c < 256) (k P : Nat) (K PP : Int) (hK : (k : Int) = K) (hPP : (P : Int) = PP) (hP : K * 4 = PP) (hk : k ≤ 3) :
    Calls Try.prog 29 #[.agg (arrV l), .int .i64 K] w fun e w' => e = .returned (.int .u64 (getTo false 4 P l 4 : Nat)) ∧ Below w.heap.size w w' := by
  obtain ⟨CS, hCS⟩ := named (arrV l)
  have hB := arr_lies (w.alloc (.cells CS 48)) l 48 (small16 hl hb) w.heap.size (by rw [hCS.out]; exact Blk.new w _ CS)
  rw [hl] at hB
  have HG : Hid (Calls Try.prog 34 #[.slice (some ⟨w.heap.size, 0, none⟩) 16 16, .int .i64 PP, .int .i64 4, .bool false] (w.alloc (.cells CS 48)) (GetPost (w.alloc (.cells CS 48)) (getTo false 4 P l 4) 0)) := by
    have := fieldGet_ok (some ⟨w.heap.size, 0, none⟩) 16 16 4 P l false (w.alloc (.cells CS 48)) hB (by omega) (by omega) (by omega) (by omega)
    rw [hPP] at this
    exact this
  obtain ⟨V, hV⟩ := named (getTo false 4 P l 4)
  rw [hV.out] at HG ⊢
  rw [hCS.out]
  have hP' : IntKind.i64.wrap (K * 4) = PP := by rw [IntKind.wrap_i64]; omega
  clear hB hCS hb hPP hP
  go_enter Try.func29, Try.ntmps29
  go_wp2_with (go_at_call 34; refine HG.out.mono ?_; rintro e w' ⟨rfl, hb'⟩; have HB' := Lib.hid hb'; clear hb')
  go_ret
  exact ⟨rfl, ((Below.refl _ _).alloc (Nat.le_refl _) _).trans (HB'.out.mono (by simp))⟩
end Go.Proofs.Ytpjlnanalielmaa
