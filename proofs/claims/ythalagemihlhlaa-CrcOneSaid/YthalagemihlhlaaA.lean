/-
  What single-bit shifts ('shifted') and the table's step ('next') of package crc answer: the mathematics' shift by so many bits. Conditions: at most 64 bits are shifted; the register is a number of 32 bits; the table's 16 cells hold its words.
-/
import Derived.Test.YthalagemihlhlaaRows
import Derived.Test.YthalagemihlhlaaMath
import Derived.WalkKit
import Derived.WalkSpells
import Derived.WalkLawsBesides
import Derived.Lib.Hide
namespace Go.Proofs.Ythalagemihlhlaa
open Go.RowKit

theorem ret_int {k : IntKind} {a b : Int} (h : a = b) : Ending.returned (.int k a) = .returned (.int k b) := by rw [h]
theorem int_eq {k : IntKind} {a b : Int} (h : a = b) : Value.int k a = .int k b := by rw [h]
theorem and_one (a : Nat) (h : a < 4294967296) : bits .and .u32 (a : Int) 1 = ((a % 2 : Nat) : Int) := by
  have := u32_and_nat a 1 h (by decide)
  rw [Nat.and_one_is_mod] at this
  exact this
theorem shr_odd (a : Nat) (h : a < 4294967296) (t : (bits BinOp.and IntKind.u32 (a : Int) 1 == 1) = true) : bits .xor .u32 ((a : Int) / 2) 2197175160 = ((shr1 a : Nat) : Int) := by
  rw [and_one a h] at t
  have t' : a % 2 = 1 := by have := of_decide_eq_true t; omega
  have := u32_xor_nat (a / 2) 2197175160 (by omega) (by decide)
  rw [shr1, if_pos t', ← this]
  rfl
theorem shr_even (a : Nat) (h : a < 4294967296) (t : (bits BinOp.and IntKind.u32 (a : Int) 1 == 1) = false) : (a : Int) / 2 = ((shr1 a : Nat) : Int) := by
  rw [and_one a h] at t
  have t' : ¬ a % 2 = 1 := by intro e; rw [e] at t; exact absurd t (by decide)
  rw [shr1, if_neg t']
  rfl

set_option maxHeartbeats 400000 in
theorem shifted_any (n r : Nat) (w : World) (hn : n ≤ 64) (hr : r < 4294967296) :
    Calls Try.prog 21 #[.int .u32 r, .int .i64 n] w fun e w' => e = .returned (.int .u32 (shiftN n r)) ∧ w = w' := by
  go_enter Try.func21, Try.ntmps21
  go_wp2
  go_loop [0, 5, 7] (fun x _ i => ∃ k : Nat, k ≤ n ∧ i = .int .i64 k ∧ x = .int .u32 (shiftN k r)) (fun _ _ i => n - (intOf i).toNat)
  case atStart => exact ⟨0, Nat.zero_le _, rfl, rfl⟩
  case round =>
    obtain ⟨k, hk, rfl, rfl⟩ := hrel
    have hs : shiftN k r < 4294967296 := shiftN_lt k hr
    have HS : Hid (shiftN (k + 1) r = shr1 (shiftN k r)) := Lib.hid (shiftN_succ k r)
    by_cases hlt : k < n
    · go_wp2
      all_goals
        go_round
        case rel => exact ⟨k + 1, by omega, by go_num, int_eq (by rw [HS.out]; first | exact shr_odd _ hs ‹_› | exact shr_even _ hs ‹_›)⟩
        case measure => simp [intOf]; omega
    · go_wp2
      go_ret
      exact ⟨ret_int (by rw [show k = n by omega]), rfl⟩

theorem xor_u32 (a b : Nat) (ha : a < 4294967296) (hb : b < 4294967296) : bits .xor .u32 (a : Int) (b : Int) = ((a ^^^ b : Nat) : Int) := u32_xor_nat a b ha hb
theorem step_table (r : Nat) (h : r < 4294967296) : bits .xor .u32 ((r : Int) / 16) ((shiftN 4 (r % 16) : Nat) : Int) = ((shiftN 4 r : Nat) : Int) := by
  rw [shiftN_table 4 r]
  exact u32_xor_nat (r / 16) _ (by omega) (shiftN_lt 4 (by omega))

set_option maxHeartbeats 400000 in
theorem next_any (b r : Nat) (w : World) (hr : r < 4294967296) (hc : ∀ i : Nat, i < 16 → w.cell? ⟨b, i, none⟩ = some (.int .u32 (shiftN 4 i : Nat))) :
    Calls Try.prog 20 #[.pointer (some ⟨b, 0, none⟩), .int .u32 r] w fun e w' => e = .returned (.int .u32 (shiftN 4 r : Nat)) ∧ w = w' := by
  have h0 := hc (r % 16) (by omega)
  have HS := Lib.hid (step_table r hr)
  clear hc
  go_enter Try.func20, Try.ntmps20
  go_wp2
  go_ret
  exact ⟨ret_int HS.out, rfl⟩
end Go.Proofs.Ythalagemihlhlaa
