/-
  Plain mathematics: a number and a text that were put are got back, whatever stands ahead and behind. Conditions: the number fits, the text has fewer than 65536 bytes.
-/
import Derived.Test.YtdffgnpldapciaaGreatDoorT2
namespace Go.Proofs.YtdffgnpldapciaaGreatDoor
open Go.RowKit

theorem byteOf_toNat (v k : Nat) : (byteOf v k).toNat = v / 256 ^ k % 256 := by
  unfold byteOf
  rw [Int.toNat_natCast, Nat.pow_mul]
theorem numB_in (l rest : List Int) (big : Bool) (m v i : Nat) (h : i < m) : (l ++ numB big m v ++ rest).getD (l.length + i) 0 = byteOf v (if big then m - 1 - i else i) := by
  rw [← numB_at big m v i h, List.getD_eq_getElem?_getD, List.getD_eq_getElem?_getD, List.append_assoc, List.getElem?_append_right (by omega), Nat.add_sub_cancel_left, List.getElem?_append_left (by rw [numB_len]; exact h)]
theorem mod_step (a b n : Nat) (h : b < 256) : (a * 256 + b) % (256 * n) = (a % n) * 256 + b := by
  rw [Nat.mod_mul, show (a * 256 + b) % 256 = b by omega, show (a * 256 + b) / 256 = a by omega]
  omega
theorem getTo_put (l rest : List Int) (big : Bool) (m v : Nat) : ∀ i, i ≤ m → getTo big m l.length (l ++ numB big m v ++ rest) i = v / 256 ^ (m - i) % 256 ^ i
  | 0, _ => by simp [getTo, Nat.mod_one]
  | i + 1, hi => by
    show getTo big m l.length (l ++ numB big m v ++ rest) i * 256 + _ = _
    rw [getTo_put l rest big m v i (by omega)]
    have hb : ((l ++ numB big m v ++ rest).getD (l.length + if big then i else m - 1 - i) 0).toNat = v / 256 ^ (m - 1 - i) % 256 := by
      cases big with
      | true => rw [if_pos rfl, numB_in l rest true m v i (by omega), if_pos rfl, byteOf_toNat]
      | false => rw [if_neg (by decide), numB_in l rest false m v (m - 1 - i) (by omega), if_neg (by decide), byteOf_toNat]
    rw [hb, show m - (i + 1) = m - 1 - i by omega, show m - i = (m - 1 - i) + 1 by omega, Nat.pow_succ 256 (m - 1 - i), ← Nat.div_div_eq_div_mul, Nat.pow_succ 256 i, Nat.mul_comm (256 ^ i) 256]
    generalize v / 256 ^ (m - 1 - i) = x
    have e : x = x / 256 * 256 + x % 256 := by omega
    have := mod_step (x / 256) (x % 256) (256 ^ i) (Nat.mod_lt _ (by decide))
    rw [← e] at this
    exact this.symm
/-- 2.5: the number comes back. -/
theorem get_back (l rest : List Int) (big : Bool) (m v : Nat) (hv : Fit64 v) (hm : m ≤ 8) (hf : fitsIn m v = true) : getTo big m l.length (l ++ numB big m v ++ rest) m = v := by
  rw [getTo_put l rest big m v m (Nat.le_refl _), Nat.sub_self, Nat.pow_zero, Nat.div_one]
  apply Nat.mod_eq_of_lt
  unfold fitsIn at hf
  by_cases h8 : 8 ≤ m
  · obtain rfl : m = 8 := by omega
    exact hv
  · simp only [h8, decide_false, Bool.false_or, beq_iff_eq] at hf
    have h1 : 0 < 2 ^ (8 * m) := Nat.two_pow_pos _
    have := (Nat.div_eq_zero_iff_lt h1).1 hf
    rwa [Nat.pow_mul] at this
theorem readN_text (l rest : List Int) (n : Nat) (hn : n < 65536) : readN l.length (l ++ numB false 2 n ++ rest) = n := by
  unfold readN
  rw [getTo_put l rest false 2 n 2 (Nat.le_refl _), Nat.sub_self, Nat.pow_zero, Nat.div_one]
  exact Nat.mod_eq_of_lt hn
/-- 2.5: the text comes back. -/
theorem text_back (l rest : List Int) (s : ByteArray) : strOfNums (((l ++ textB s ++ rest).drop (l.length + 2)).take s.size) = s := by
  have e : ((l ++ textB s ++ rest).drop (l.length + 2)).take s.size = strB s := by
    unfold textB
    rw [List.append_assoc, ← List.drop_drop, List.drop_left, List.append_assoc, List.drop_left' (numB_len false 2 s.size), List.take_left' (strB_len s)]
  rw [e, strB_back]
end Go.Proofs.YtdffgnpldapciaaGreatDoor
