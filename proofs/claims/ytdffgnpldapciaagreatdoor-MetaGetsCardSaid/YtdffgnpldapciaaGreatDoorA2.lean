/-
  Plain mathematics: a number put together byte by byte, each shifted to its place. Conditions: no more than eight bytes, each from 0 to 255.
-/
import Derived.Test.YtdffgnpldapciaaGreatDoorP2
namespace Go.Proofs.YtdffgnpldapciaaGreatDoor
open Go.RowKit

/-- The number after j bytes of E, each at its place among m. -/
def accTo (big : Bool) (m : Nat) (E : List Int) : Nat → Nat
  | 0 => 0
  | j + 1 => accTo big m E j + (E.getD j 0).toNat * 256 ^ (if big then m - 1 - j else j)
theorem byte_lt {E : List Int} (h : ∀ c ∈ E, 0 ≤ c ∧ c < 256) (j : Nat) : (E.getD j 0).toNat < 256 := by
  by_cases hj : j < E.length
  · have := getD_bd h j hj
    omega
  · rw [List.getD_eq_getElem?_getD, List.getElem?_eq_none (by omega)]
    decide
theorem acc_big {E : List Int} (m : Nat) : ∀ j, j ≤ m → accTo true m E j = getTo true m 0 E j * 256 ^ (m - j)
  | 0, _ => by simp [accTo, getTo]
  | j + 1, h => by
    show accTo true m E j + (E.getD j 0).toNat * 256 ^ (m - 1 - j) = (getTo true m 0 E j * 256 + (E.getD (0 + j) 0).toNat) * 256 ^ (m - (j + 1))
    rw [acc_big m j (by omega), Nat.zero_add, show m - j = (m - 1 - j) + 1 by omega, show m - (j + 1) = m - 1 - j by omega, Nat.pow_succ, Nat.add_mul, Nat.mul_assoc, Nat.mul_comm 256]
theorem acc_little {E : List Int} (m : Nat) : ∀ i, i ≤ m → accTo false m E m = getTo false m 0 E i * 256 ^ (m - i) + accTo false m E (m - i)
  | 0, _ => by simp [getTo]
  | i + 1, h => by
    have e : accTo false m E (m - i) = accTo false m E (m - 1 - i) + (E.getD (m - 1 - i) 0).toNat * 256 ^ (m - 1 - i) := by
      rw [show m - i = (m - 1 - i) + 1 by omega]
      rfl
    show accTo false m E m = (getTo false m 0 E i * 256 + (E.getD (0 + (m - 1 - i)) 0).toNat) * 256 ^ (m - (i + 1)) + accTo false m E (m - (i + 1))
    rw [acc_little m i (by omega), e, Nat.zero_add, show m - i = (m - 1 - i) + 1 by omega, show m - (i + 1) = m - 1 - i by omega, Nat.pow_succ, Nat.add_mul, Nat.mul_assoc, Nat.mul_comm 256]
    omega
theorem acc_all (big : Bool) (m : Nat) (E : List Int) : accTo big m E m = getTo big m 0 E m := by
  cases big with
  | true => rw [acc_big m m (Nat.le_refl _), Nat.sub_self, Nat.pow_zero, Nat.mul_one]
  | false => rw [acc_little m m (Nat.le_refl _), Nat.sub_self, Nat.pow_zero, Nat.mul_one]; rfl
theorem acc_low {E : List Int} (h : ∀ c ∈ E, 0 ≤ c ∧ c < 256) (m : Nat) : ∀ j, accTo false m E j < 256 ^ j
  | 0 => by simp [accTo]
  | j + 1 => by
    have ih := acc_low h m j
    have hb := byte_lt h j
    show accTo false m E j + (E.getD j 0).toNat * 256 ^ j < _
    generalize (E.getD j 0).toNat = b at hb
    have h1 : b * 256 ^ j ≤ 255 * 256 ^ j := Nat.mul_le_mul_right _ (by omega)
    rw [Nat.pow_succ]
    omega
/-- The number of the bytes of l from p on is that of the part. -/
theorem getTo_part (big : Bool) (m p : Nat) (l : List Int) (h : p + m ≤ l.length) : ∀ i, i ≤ m → getTo big m 0 ((l.drop p).take m) i = getTo big m p l i
  | 0, _ => rfl
  | i + 1, hi => by
    have hg : ∀ k, k < m → ((l.drop p).take m).getD (0 + k) 0 = l.getD (p + k) 0 := fun k hk => by
      rw [List.getD_eq_getElem?_getD, List.getD_eq_getElem?_getD, List.getElem?_take, if_pos (by omega), List.getElem?_drop, Nat.zero_add]
    show getTo big m 0 ((l.drop p).take m) i * 256 + _ = getTo big m p l i * 256 + _
    rw [getTo_part big m p l h i (by omega), hg _ (by cases big <;> simp <;> omega)]
theorem pow256 (q : Nat) : 256 ^ q = 2 ^ (8 * q) := by rw [Nat.pow_mul]
theorem or_at (t q : Nat) (c : Int) (h0 : 0 ≤ c) (h1 : c < 256) (hq : q ≤ 7) (ht : Fit64 t) (hd : t % 2 ^ (8 * (q + 1)) = 0 ∨ t < 2 ^ (8 * q)) :
    bits .or .u64 (t : Int) (IntKind.u64.wrap (c * 2 ^ (q * 8))) = ((t + c.toNat * 256 ^ q : Nat) : Int) := by
  unfold Fit64 at ht
  obtain ⟨b, rfl⟩ : ∃ b : Nat, c = (b : Int) := ⟨c.toNat, by omega⟩
  rw [Int.toNat_natCast]
  have hp : 2 ^ (8 * q) ≤ 2 ^ 56 := Nat.pow_le_pow_right (by decide) (by omega)
  have hp0 : 0 < 2 ^ (8 * q) := Nat.two_pow_pos _
  have h56 : 2 ^ 56 = 72057594037927936 := by decide
  have hx : b * 2 ^ (8 * q) ≤ 255 * 2 ^ (8 * q) := Nat.mul_le_mul_right _ (by omega)
  have e2 : 2 ^ (8 * (q + 1)) = 256 * 2 ^ (8 * q) := by rw [Nat.mul_add, Nat.pow_add, Nat.mul_comm]
  have e1 : IntKind.u64.wrap ((b : Int) * 2 ^ (q * 8)) = ((b * 2 ^ (8 * q) : Nat) : Int) := by
    rw [pow_int, Nat.mul_comm q 8, ← Int.natCast_mul, IntKind.wrap_u64]
    omega
  rw [e1, u64_or_nat t (b * 2 ^ (8 * q)) ht (by omega), pow256]
  congr 1
  rcases hd with hd | hd
  · exact nat_join (8 * (q + 1)) _ _ hd (by rw [e2]; omega)
  · have := nat_join (8 * q) (b * 2 ^ (8 * q)) t (Nat.mul_mod_left _ _) hd
    rw [Nat.or_comm, this, Nat.add_comm]
/-- What 'or_at' asks of the number after j bytes. -/
theorem acc_fit {E : List Int} (h : ∀ c ∈ E, 0 ≤ c ∧ c < 256) (big : Bool) (m j : Nat) (hm : m ≤ 8) (hj : j < m) :
    Fit64 (accTo big m E j) ∧ (accTo big m E j % 2 ^ (8 * ((if big then m - 1 - j else j) + 1)) = 0 ∨ accTo big m E j < 2 ^ (8 * (if big then m - 1 - j else j))) := by
  have h64 : 256 ^ 8 = 18446744073709551616 := by decide
  cases big with
  | false =>
    have h1 := acc_low h m j
    have h2 : 256 ^ j ≤ 256 ^ 8 := Nat.pow_le_pow_right (by decide) (by omega)
    refine ⟨by unfold Fit64; omega, Or.inr ?_⟩
    rw [if_neg (by decide), ← pow256]
    exact h1
  | true =>
    have h1 := acc_big (E := E) m j (by omega)
    have h2 := getTo_lt h true m 0 j
    have h3 : getTo true m 0 E j * 256 ^ (m - j) < 256 ^ j * 256 ^ (m - j) := (Nat.mul_lt_mul_right (Nat.pow_pos (by decide))).2 h2
    rw [← Nat.pow_add, show j + (m - j) = m by omega] at h3
    have h4 : 256 ^ m ≤ 256 ^ 8 := Nat.pow_le_pow_right (by decide) hm
    rw [h1]
    refine ⟨by unfold Fit64; omega, Or.inl ?_⟩
    rw [if_pos rfl, show m - 1 - j + 1 = m - j by omega, ← pow256]
    exact Nat.mul_mod_left _ _
end Go.Proofs.YtdffgnpldapciaaGreatDoor
