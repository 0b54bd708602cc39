/-
  What math/bits.Len64 answers, and what that tells of how many bytes a number takes. Conditions: a number of 64 bits.
-/
import Derived.Test.YtdffgnpldapciaaGreatDoorP2
import Derived.Lib.BitFns
namespace Go.Proofs.YtdffgnpldapciaaGreatDoor
open Go.RowKit

/-- The table of math/bits, as the program bears it, under the library's name. -/
theorem tab_fold : (ByteArray.mk (List.toArray ((([0, 1, 2, 2, 3, 3, 3, 3, 4, 4, 4, 4, 4, 4, 4, 4, 5, 5, 5, 5, 5, 5, 5, 5, 5, 5, 5, 5, 5, 5, 5, 5, 6, 6, 6, 6, 6, 6, 6, 6, 6, 6, 6, 6, 6, 6, 6, 6, 6, 6, 6, 6, 6, 6, 6, 6, 6, 6, 6, 6, 6, 6, 6, 6].append [7, 7, 7, 7, 7, 7, 7, 7, 7, 7, 7, 7, 7, 7, 7, 7, 7, 7, 7, 7, 7, 7, 7, 7, 7, 7, 7, 7, 7, 7, 7, 7, 7, 7, 7, 7, 7, 7, 7, 7, 7, 7, 7, 7, 7, 7, 7, 7, 7, 7, 7, 7, 7, 7, 7, 7, 7, 7, 7, 7, 7, 7, 7, 7]).append ([8, 8, 8, 8, 8, 8, 8, 8, 8, 8, 8, 8, 8, 8, 8, 8, 8, 8, 8, 8, 8, 8, 8, 8, 8, 8, 8, 8, 8, 8, 8, 8, 8, 8, 8, 8, 8, 8, 8, 8, 8, 8, 8, 8, 8, 8, 8, 8, 8, 8, 8, 8, 8, 8, 8, 8, 8, 8, 8, 8, 8, 8, 8, 8].append [8, 8, 8, 8, 8, 8, 8, 8, 8, 8, 8, 8, 8, 8, 8, 8, 8, 8, 8, 8, 8, 8, 8, 8, 8, 8, 8, 8, 8, 8, 8, 8, 8, 8, 8, 8, 8, 8, 8, 8, 8, 8, 8, 8, 8, 8, 8, 8, 8, 8, 8, 8, 8, 8, 8, 8, 8, 8, 8, 8, 8, 8, 8, 8])) : List UInt8))) = Lib.len8tab := by kernel_rfl

theorem tab_val (i : Nat) (h : i < Lib.len8tab.size) : (Lib.len8tab[i]'h).toNat = Lib.bitLen i ∧ Lib.bitLen i ≤ 8 := by
  have hs : i < 256 := by rw [Lib.len8tab_size] at h; exact h
  have h1 := Lib.len8_of (i : Int) (by omega) (by omega)
  have h2 := Lib.bitLen_le8' (i : Int) (by omega) (by omega)
  unfold Lib.len8 at h1
  rw [Int.toNat_natCast] at h1 h2
  rw [ByteArray.getElem?_lt' _ _ h, Option.getD_some] at h1
  exact ⟨by omega, h2⟩
theorem wrap_small (n : Int) (h0 : 0 ≤ n) (h1 : n ≤ 1000) : wrap64 n = n := by
  unfold wrap64
  omega
theorem tab_wrap (x b : Nat) (i : Int) (k : Nat) (h : i.toNat < Lib.len8tab.size) (he : i.toNat = b) (hs : Lib.bitLen x = k + Lib.bitLen b) (hk : k ≤ 64) : wrap64 ((k : Int) + wrap64 ((Lib.len8tab[i.toNat]'h).toNat : Int)) = (Lib.bitLen x : Int) := by
  obtain ⟨h1, h2⟩ := tab_val _ h
  rw [h1]
  subst he
  rw [wrap_small (Lib.bitLen i.toNat : Int) (by omega) (by omega), wrap_small _ (by omega) (by omega), hs]
  omega
theorem tab_wrap0 (x : Nat) (i : Int) (h : i.toNat < Lib.len8tab.size) (he : i.toNat = x) : wrap64 (wrap64 ((Lib.len8tab[i.toNat]'h).toNat : Int)) = (Lib.bitLen x : Int) := by
  obtain ⟨h1, h2⟩ := tab_val _ h
  rw [h1]
  subst he
  rw [wrap_small (Lib.bitLen i.toNat : Int) (by omega) (by omega), wrap_small _ (by omega) (by omega)]

set_option maxHeartbeats 4000000 in
set_option maxRecDepth 100000 in
theorem len64_int (x : Int) (w : World) (h0 : 0 ≤ x) (h1 : x ≤ 18446744073709551615) :
    Calls Tryz.prog 84 #[.int .u64 x] w fun e w' => e = .returned (.int .i64 (Lib.bitLen x.toNat)) ∧ w = w' := by
  have hsz := Lib.len8tab_size
  go_enter Tryz.func84, Tryz.ntmps84
  rewrite [tab_fold]
  go_wp2
  all_goals (try (exfalso; omega))
  all_goals (go_ret; refine ⟨ret_int ?_, rfl⟩)
  all_goals first
    | exact tab_wrap x.toNat (x.toNat / 72057594037927936) _ 56 _ (by omega) (Lib.bitLen_shift56 x.toNat (by omega) (by omega)) (by omega)
    | exact tab_wrap x.toNat (x.toNat / 281474976710656) _ 48 _ (by omega) (Lib.bitLen_shift48 x.toNat (by omega) (by omega)) (by omega)
    | exact tab_wrap x.toNat (x.toNat / 1099511627776) _ 40 _ (by omega) (Lib.bitLen_shift40 x.toNat (by omega) (by omega)) (by omega)
    | exact tab_wrap x.toNat (x.toNat / 4294967296) _ 32 _ (by omega) (Lib.bitLen_shift32 x.toNat (by omega) (by omega)) (by omega)
    | exact tab_wrap x.toNat (x.toNat / 16777216) _ 24 _ (by omega) (Lib.bitLen_shift24 x.toNat (by omega) (by omega)) (by omega)
    | exact tab_wrap x.toNat (x.toNat / 65536) _ 16 _ (by omega) (Lib.bitLen_shift16 x.toNat (by omega) (by omega)) (by omega)
    | exact tab_wrap x.toNat (x.toNat / 256) _ 8 _ (by omega) (Lib.bitLen_shift8 x.toNat (by omega) (by omega)) (by omega)
    | exact tab_wrap0 x.toNat _ _ rfl

/-- Whether a number takes more bytes than n. -/
theorem fits_len (n v : Nat) (hv : Fit64 v) : ((n : Int) * 8 < (Lib.bitLen v : Int)) ↔ fitsIn n v = false := by
  unfold Fit64 at hv
  have hle : Lib.bitLen v ≤ 64 := Lib.bitLen_le v 64 (Nat.le_refl _) hv
  unfold fitsIn
  by_cases h8 : 8 ≤ n
  · simp [h8]
    omega
  · have hlt : v / 2 ^ (8 * n) = 0 ↔ v < 2 ^ (8 * n) := Nat.div_eq_zero_iff_lt (Nat.two_pow_pos _)
    have h2 : v < 2 ^ (8 * n) ↔ Lib.bitLen v ≤ 8 * n := by
      constructor
      · exact Lib.bitLen_le v (8 * n) (by omega)
      · intro h
        by_cases h3 : v < 2 ^ (8 * n)
        · exact h3
        · have := Lib.bitLen_shift (8 * n) v (by omega) hv
          have h4 : Lib.bitLen (v / 2 ^ (8 * n)) = 0 := by omega
          exfalso
          have h5 : v / 2 ^ (8 * n) ≠ 0 := fun e => h3 (hlt.1 e)
          have h6 := Lib.bitLen_half (v / 2 ^ (8 * n)) h5 (Nat.lt_of_le_of_lt (Nat.div_le_self _ _) hv)
          omega
    simp only [Bool.or_eq_false_iff, decide_eq_false_iff_not, beq_eq_false_iff_ne, ne_eq]
    rw [hlt, h2]
    omega
end Go.Proofs.YtdffgnpldapciaaGreatDoor
