/-
  Names: which texts are names, the project's Name and the reference's (12.1). Conditions: none.
-/
import Derived.Test.YtdffgnpldapciaaGreatDoorSa
namespace Go.Proofs.YtdffgnpldapciaaGreatDoor
open Go.RowKit
set_option linter.unusedVariables false

/-- A byte of a name. -/
def okC (c : Int) : Prop := (97 ≤ c ∧ c ≤ 122) ∨ (48 ≤ c ∧ c ≤ 57) ∨ c = 45 ∨ c = 95 ∨ c = 46
instance (c : Int) : Decidable (okC c) := by unfold okC; exact inferInstance
def chAt (s : ByteArray) (j : Nat) : Int := if h : j < s.size then ((s[j]'h).toNat : Int) else 0
theorem chAt_in {s : ByteArray} {j : Nat} (h : j < s.size) : ((s[j]'h).toNat : Int) = chAt s j := by unfold chAt; rw [dif_pos h]
def nameOk (s : ByteArray) : Prop := 1 ≤ s.size ∧ s.size ≤ 16 ∧ ∀ k, k < s.size → okC (chAt s k)
instance (s : ByteArray) : Decidable (nameOk s) := by unfold nameOk; exact inferInstance
theorem empty_size {s : ByteArray} : s.toList.isEmpty = true ↔ s.size = 0 := by
  rw [List.isEmpty_iff_length_eq_zero, ByteArray.toList_eq]
  cases s
  rfl
theorem name_no {s : ByteArray} (h : ¬ nameOk s) : decide (nameOk s) = false := decide_eq_false h
theorem name_yes {s : ByteArray} (h : nameOk s) : decide (nameOk s) = true := decide_eq_true h
theorem refName (s : ByteArray) (hs : s.size ≤ 9223372036854775807) {R : Bool} (hR : decide (nameOk s) = R) (w : World) : Calls Tryz.prog 60 #[.string s] w fun e w' => e = .returned (.bool R) ∧ w' = w := by
  have HR := Lib.hid hR
  clear hR
  cases he : s.toList.isEmpty with
  | true =>
    obtain rfl : R = false := by rw [← HR.out]; exact name_no fun h => by have := empty_size.1 he; have := h.1; omega
    go_enter Tryz.func60, Tryz.ntmps60
    go_wp2
    go_ret
    exact ⟨rfl, rfl⟩
  | false =>
    by_cases h16 : (16 : Int) < s.size
    · obtain rfl : R = false := by rw [← HR.out]; exact name_no fun h => by have := h.2.1; omega
      go_enter Tryz.func60, Tryz.ntmps60
      go_wp2
      go_ret
      exact ⟨rfl, rfl⟩
    · have h1 : Hid (1 ≤ s.size ∧ s.size ≤ 16) := by
        refine ⟨?_, by omega⟩
        rcases Nat.eq_zero_or_pos s.size with h | h
        · rw [empty_size.2 h] at he
          cases he
        · exact h
      have d16 : decide ((16 : Int) < s.size) = false := decide_eq_false h16
      clear h16
      go_enter Tryz.func60, Tryz.ntmps60
      go_wp2
      go_loopw [3] (fun i wr => ∃ j : Nat, j ≤ s.size ∧ i = .int .i64 j ∧ w = wr ∧ Hid (∀ k, k < j → okC (chAt s k))) (fun i _ => s.size - (intOf i).toNat)
      case atStart => exact ⟨0, Nat.zero_le _, rfl, rfl, fun k hk => by omega⟩
      case round =>
        obtain ⟨j, hj, rfl, rfl, HJ⟩ := hrel
        by_cases hlt : j < s.size
        · obtain ⟨x, hx⟩ := named (chAt s j)
          have hb := (chAt_in hlt).trans hx.out
          have HX2 : Hid (okC x → ∀ k, k < j + 1 → okC (chAt s k)) := fun h k hk => by
            by_cases e : k = j
            · rw [e, hx.out]; exact h
            · exact HJ.out k (by omega)
          have HX3 : Hid (¬ okC x → R = false) := fun h => by
            rw [← HR.out]
            exact name_no fun h' => h (hx.out ▸ h'.2.2 j hlt)
          clear hx HJ HR h1
          go_wp2
          all_goals first
            | (have hk : ¬ okC x := by (clear hs he d16 HX2 HX3 hj hlt hb; unfold okC; first | omega | (simp at *; omega))
               obtain rfl := HX3.out hk
               go_ret
               exact ⟨rfl, rfl⟩)
            | (have hk : okC x := by (clear hs he d16 HX2 HX3 hj hlt hb; unfold okC; first | omega | (simp at *; omega))
               have HK := Lib.hid (HX2.out hk)
               go_roundw
               case rel => exact ⟨j + 1, by omega, by go_num, by first | rfl | trivial, HK.out⟩
               case measure => simp [intOf]; omega)
        · obtain rfl : j = s.size := by omega
          obtain rfl : R = true := by rw [← HR.out]; exact name_yes ⟨h1.out.1, h1.out.2, HJ.out⟩
          go_wp2
          go_ret
          exact ⟨rfl, rfl⟩
theorem isOfName_any (x : Int) {R : Bool} (hR : decide (okC x) = R) (w : World) : Calls Tryz.prog 53 #[.int .u8 x] w fun e w' => e = .returned (.bool R) ∧ w' = w := by
  have HR := Lib.hid hR
  clear hR
  go_enter Tryz.func53, Tryz.ntmps53
  go_wp2
  all_goals
    go_ret
    refine ⟨?_, rfl⟩
    rw [← HR.out]
    refine ret_bool ?_
    rw [Bool.eq_iff_iff]
    unfold okC
    simp_all <;> omega
theorem shotsName (s : ByteArray) (hs : s.size ≤ 9223372036854775807) {R : Bool} (hR : decide (nameOk s) = R) (w : World) : Calls Tryz.prog 31 #[.string s] w fun e w' => e = .returned (.bool R) ∧ w' = w := by
  have HR := Lib.hid hR
  clear hR
  by_cases h0 : s.size = 0
  · obtain rfl : R = false := by rw [← HR.out]; exact name_no fun h => by have := h.1; omega
    go_enter Tryz.func31, Tryz.ntmps31
    go_wp2
    go_ret
    exact ⟨rfl, rfl⟩
  · by_cases h16 : (16 : Int) < s.size
    · obtain rfl : R = false := by rw [← HR.out]; exact name_no fun h => by have := h.2.1; omega
      go_enter Tryz.func31, Tryz.ntmps31
      go_wp2
      go_ret
      exact ⟨rfl, rfl⟩
    · have h1 : Hid (1 ≤ s.size ∧ s.size ≤ 16) := ⟨by omega, by omega⟩
      have d1 : decide ((s.size : Int) < 1) = false := decide_eq_false (by omega)
      have d16 : decide ((16 : Int) < s.size) = false := decide_eq_false h16
      clear h16 h0
      go_enter Tryz.func31, Tryz.ntmps31
      go_wp2
      go_loopw [14] (fun i wr => ∃ j : Nat, j ≤ s.size ∧ i = .int .i64 j ∧ w = wr ∧ Hid (∀ k, k < j → okC (chAt s k))) (fun i _ => s.size - (intOf i).toNat)
      case atStart => exact ⟨0, Nat.zero_le _, rfl, rfl, fun k hk => by omega⟩
      case round =>
        obtain ⟨j, hj, rfl, rfl, HJ⟩ := hrel
        by_cases hlt : j < s.size
        · obtain ⟨x, hx⟩ := named (chAt s j)
          have hb := (chAt_in hlt).trans hx.out
          have HX2 : Hid (okC x → ∀ k, k < j + 1 → okC (chAt s k)) := fun h k hk => by
            by_cases e : k = j
            · rw [e, hx.out]; exact h
            · exact HJ.out k (by omega)
          have HX3 : Hid (¬ okC x → R = false) := fun h => by
            rw [← HR.out]
            exact name_no fun h' => h (hx.out ▸ h'.2.2 j hlt)
          clear hx HJ HR h1
          by_cases hk : okC x
          · have HC := Lib.hid (isOfName_any x (decide_eq_true hk))
            have HK := Lib.hid (HX2.out hk)
            clear hk HX2 HX3
            go_wp2_with (go_at_call 53; refine (HC.out _).mono ?_; rintro e w1 ⟨rfl, rfl⟩)
            go_roundw
            case rel => exact ⟨j + 1, by omega, by go_num, by first | rfl | trivial, HK.out⟩
            case measure => simp [intOf]; omega
          · have HC := Lib.hid (isOfName_any x (decide_eq_false hk))
            obtain rfl := HX3.out hk
            clear hk HX2 HX3
            go_wp2_with (go_at_call 53; refine (HC.out _).mono ?_; rintro e w1 ⟨rfl, rfl⟩)
            go_ret
            exact ⟨rfl, rfl⟩
        · obtain rfl : j = s.size := by omega
          obtain rfl : R = true := by rw [← HR.out]; exact name_yes ⟨h1.out.1, h1.out.2, HJ.out⟩
          go_wp2
          go_ret
          exact ⟨rfl, rfl⟩
end Go.Proofs.YtdffgnpldapciaaGreatDoor
