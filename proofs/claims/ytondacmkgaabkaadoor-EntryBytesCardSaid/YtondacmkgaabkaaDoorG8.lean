/-
  Plain mathematics: bytes told as numbers and put again are the same bytes; a byte turned makes another entry, or none (layer 7). Conditions: bytes from 0 to 255.
-/
import Derived.Test.YtondacmkgaabkaaDoorA8
import Derived.Laws.BitsAllLaws
namespace Go.Proofs.YtondacmkgaabkaaDoor
open Go.RowKit
set_option linter.unusedVariables false

theorem getTo_digit {l : List Int} (hb : ∀ c ∈ l, 0 ≤ c ∧ c < 256) (m p : Nat) : ∀ i, i ≤ m → ∀ j, j < i → getTo false m p l i / 256 ^ j % 256 = (l.getD (p + (m - i + j)) 0).toNat
  | 0, _, j, hj => by omega
  | i + 1, hi, j, hj => by
    have hd : ∀ k, (l.getD k 0).toNat < 256 := fun k => by
      by_cases hk : k < l.length
      · have := getD_bd hb k hk
        omega
      · rw [List.getD_eq_getElem?_getD, List.getElem?_eq_none (by omega)]
        decide
    show (getTo false m p l i * 256 + (l.getD (p + (m - 1 - i)) 0).toNat) / 256 ^ j % 256 = _
    cases j with
    | zero =>
      have := hd (p + (m - 1 - i))
      rw [show p + (m - (i + 1) + 0) = p + (m - 1 - i) by omega, Nat.pow_zero, Nat.div_one]
      omega
    | succ j =>
      have h1 := hd (p + (m - 1 - i))
      have ih := getTo_digit hb m p i (by omega) j (by omega)
      rw [Nat.pow_succ, Nat.mul_comm (256 ^ j) 256, ← Nat.div_div_eq_div_mul, show (getTo false m p l i * 256 + (l.getD (p + (m - 1 - i)) 0).toNat) / 256 = getTo false m p l i by omega, ih, show p + (m - (i + 1) + (j + 1)) = p + (m - i + j) by omega]
/-- Told and put again. -/
theorem numB_getTo {l : List Int} (hb : ∀ c ∈ l, 0 ≤ c ∧ c < 256) (m p : Nat) (h : p + m ≤ l.length) : numB false m (getTo false m p l m) = (l.drop p).take m := by
  apply List.ext_getElem?
  intro j
  by_cases hj : j < m
  · rw [List.getElem?_take, if_pos hj, List.getElem?_drop]
    have h1 := numB_at false m (getTo false m p l m) j hj
    have h2 := getTo_digit hb m p m (Nat.le_refl _) j hj
    rw [if_neg (by decide)] at h1
    rw [List.getD_eq_getElem?_getD, List.getElem?_eq_getElem (by rw [numB_len]; exact hj)] at h1
    rw [List.getElem?_eq_getElem (by rw [numB_len]; exact hj), List.getElem?_eq_getElem (by omega)]
    congr 1
    refine (show (numB false m (getTo false m p l m))[j]'(by rw [numB_len]; exact hj) = byteOf (getTo false m p l m) j from h1).trans ?_
    unfold byteOf
    rw [show (2 : Nat) ^ (8 * j) = 256 ^ j by rw [Nat.pow_mul], h2, Nat.sub_self, Nat.zero_add]
    have := getD_bd hb (p + j) (by omega)
    rw [List.getD_eq_getElem?_getD, List.getElem?_eq_getElem (by omega)] at this ⊢
    simp only [Option.getD_some] at this ⊢
    omega
  · rw [List.getElem?_eq_none (by rw [numB_len]; omega), List.getElem?_eq_none (by rw [List.length_take]; omega)]
theorem parts16 {l : List Int} (h : l.length = 16) : (l.drop 0).take 1 ++ (l.drop 1).take 1 ++ (l.drop 2).take 2 ++ (l.drop 4).take 4 ++ (l.drop 8).take 4 ++ (l.drop 12).take 4 = l := by
  match l, h with
  | [_, _, _, _, _, _, _, _, _, _, _, _, _, _, _, _], _ => rfl
theorem second {l : List Int} (h : l.length = 16) : (l.drop 1).take 1 = [l.getD 1 0] := by
  match l, h with
  | [_, _, _, _, _, _, _, _, _, _, _, _, _, _, _, _], _ => rfl
theorem enB_enOf {l : List Int} (hl : l.length = 16) (hb : ∀ c ∈ l, 0 ≤ c ∧ c < 256) (h1 : l.getD 1 0 = 0) : enB (enOf l) = l := by
  unfold enB enOf
  dsimp only
  rw [Int.toNat_natCast, Int.toNat_natCast, Int.toNat_natCast, Int.toNat_natCast, Int.toNat_natCast]
  rw [numB_getTo hb 1 0 (by omega), numB_getTo hb 2 2 (by omega), numB_getTo hb 4 4 (by omega), numB_getTo hb 4 8 (by omega), numB_getTo hb 4 12 (by omega)]
  have q : numB false 1 0 = (l.drop 1).take 1 := by rw [second hl, h1]; rfl
  rw [q]
  exact parts16 hl
theorem getE_is {l : List Int} {c : Int} {y : En} (hb : ∀ c ∈ l, 0 ≤ c ∧ c < 256) (h : getE l c = some y) : enB y = l := by
  unfold getE at h
  split at h
  · rename_i h'
    cases h
    exact enB_enOf h'.1 hb h'.2.1
  · cases h
/-- A byte turned. -/
theorem turned {x y : En} {c : Int} {i : Nat} {v : Int} (hi : i < 16) (hv : 0 ≤ v ∧ v < 256) (hne : v ≠ (enB x).getD i 0) (h : getE ((enB x).set i v) c = some y) : y ≠ x := fun e => by
  subst e
  have h1 := getE_is (fun d hd => by
    rcases List.mem_or_eq_of_mem_set hd with h' | rfl
    · exact enB_bd y d h'
    · exact hv) h
  apply hne
  have h2 : (enB y).getD i 0 = ((enB y).set i v).getD i 0 := congrArg (fun l : List Int => l.getD i 0) h1
  rw [h2, List.getD_eq_getElem?_getD, List.getElem?_set_self (by rw [enB_len]; exact hi)]
  rfl
theorem xor_turn {a b : Int} (h1 : 0 ≤ a) (h2 : a < 256) (h3 : 1 ≤ b) (h4 : b < 256) : ∃ v, bits .xor .u8 a b = v ∧ (0 ≤ v ∧ v < 256) ∧ v ≠ a := by
  have hlt : a.toNat ^^^ b.toNat < 256 := Nat.xor_lt_two_pow (n := 8) (by omega) (by omega)
  refine ⟨_, u8_xor a b h1 h2 (by omega) h4, by omega, fun e => ?_⟩
  have e2 : a.toNat ^^^ b.toNat = a.toNat := by omega
  have e3 : a.toNat ^^^ (a.toNat ^^^ b.toNat) = a.toNat ^^^ a.toNat := by rw [e2]
  rw [Nat.xor_self, ← Nat.xor_assoc, Nat.xor_self, Nat.zero_xor] at e3
  omega
end Go.Proofs.YtondacmkgaabkaaDoor
