/-
  Plain mathematics of numbers in bytes. Conditions: numbers below 2^64, bytes from 0 to 255.
-/
import Derived.Test.YtdffgnpldapciaaGreatDoorBase
namespace Go.Proofs.YtdffgnpldapciaaGreatDoor
open Go.RowKit

/-- A number of 64 bits (its bound is kept behind a name: the walk meets no numeral of that size). -/
def Fit64 (t : Nat) : Prop := t < 18446744073709551616
/-- v in n bytes. -/
def numB (big : Bool) (n v : Nat) : List Int := (List.range n).map fun i => byteOf v (if big then n - 1 - i else i)
theorem numB_len (big : Bool) (n v : Nat) : (numB big n v).length = n := by simp [numB]
theorem numB_bd (big : Bool) (n v : Nat) : ∀ c ∈ numB big n v, 0 ≤ c ∧ c < 256 := fun c hc => by
  obtain ⟨i, _, rfl⟩ := List.mem_map.1 hc
  exact byteOf_bd _ _
theorem numB_at (big : Bool) (n v i : Nat) (h : i < n) : (numB big n v).getD i 0 = byteOf v (if big then n - 1 - i else i) := by
  rw [List.getD_eq_getElem?_getD, List.getElem?_eq_getElem (by rw [numB_len]; exact h)]
  simp [numB]
theorem numB_snoc (big : Bool) (n v i : Nat) (h : i < n) : (numB big n v).take (i + 1) = (numB big n v).take i ++ [byteOf v (if big then n - 1 - i else i)] := by
  rw [take_snoc _ _ (by rw [numB_len]; exact h), numB_at _ _ _ _ h]
theorem byteOf_int (B k : Nat) : ((B : Int) / 2 ^ (8 * k) % 256) = byteOf B k := by
  unfold byteOf
  rw [Int.natCast_emod, Int.natCast_ediv, Int.natCast_pow]
  rfl
theorem byteOf_range (B k : Nat) : 0 ≤ ((B : Int) / 2 ^ (8 * k) % 256) ∧ ((B : Int) / 2 ^ (8 * k) % 256) < 256 := by
  rw [byteOf_int]
  exact byteOf_bd B k
/-- Does v fit into n bytes? -/
def fitsIn (n v : Nat) : Bool := decide (8 ≤ n) || v / 2 ^ (8 * n) == 0
theorem fits_int (n v : Nat) : ((v : Int) / 2 ^ (8 * n) == 0) = (v / 2 ^ (8 * n) == 0) := by
  have e : ((v : Int) / 2 ^ (8 * n)) = ((v / 2 ^ (8 * n) : Nat) : Int) := by rw [Int.natCast_ediv, Int.natCast_pow]; rfl
  rw [e]
  generalize v / 2 ^ (8 * n) = x
  rw [Bool.eq_iff_iff, beq_iff_eq, beq_iff_eq]
  omega
theorem unfit {n v : Nat} (h : fitsIn n v = false) : n < 8 ∧ ((v : Int) / 2 ^ (8 * n) == 0) = false ∧ ((v : Int) / 2 ^ (8 * n) != 0) = true := by
  unfold fitsIn at h
  rw [← fits_int] at h
  simp only [Bool.or_eq_false_iff, decide_eq_false_iff_not] at h
  refine ⟨by omega, h.2, ?_⟩
  simp only [bne, h.2]
  rfl
theorem fit_small {n v : Nat} (h : fitsIn n v = true) (hn : n < 8) : ((v : Int) / 2 ^ (8 * n) == 0) = true ∧ ((v : Int) / 2 ^ (8 * n) != 0) = false := by
  unfold fitsIn at h
  rw [← fits_int] at h
  have : decide (8 ≤ n) = false := by simp; omega
  rw [this, Bool.false_or] at h
  refine ⟨h, ?_⟩
  simp only [bne, h]
  rfl
/-- What 'Put' hands back. -/
def PutPost (w0 : World) (l : List Int) (err : Int) (e : Ending) (w : World) : Prop :=
  ∃ a c, e = .returned (.tuple #[.slice a l.length c, .int .i64 err]) ∧ Bytes w a l.length l ∧ ((a = none → c = 0) ∧ l.length ≤ c) ∧ Below w0.heap.size w0 w
theorem PutPost.empty (w0 : World) (err : Int) : PutPost w0 [] err (.returned (.tuple #[.slice Option.none 0 0, .int .i64 err])) w0 :=
  ⟨Option.none, 0, rfl, none_bytes w0, ⟨fun _ => rfl, Nat.le_refl _⟩, Below.refl _ _⟩
theorem PutPost.own {w0 w : World} {l : List Int} {a : Option Addr} {n c base : Nat} (err : Int) (h : Own w base (.slice a n c) n l) (hb : Below w0.heap.size w0 w) : PutPost w0 l err (.returned (.tuple #[.slice a n c, .int .i64 err])) w := by
  have hl := h.len
  have hB := h.bytes
  have hc := h.capOk
  subst hl
  exact ⟨a, c, rfl, hB.1, ⟨hB.2, hc⟩, hb⟩
/-- The number that n bytes of l from place p on tell, after i of them. -/
def getTo (big : Bool) (n p : Nat) (l : List Int) : Nat → Nat
  | 0 => 0
  | i + 1 => getTo big n p l i * 256 + (l.getD (p + if big then i else n - 1 - i) 0).toNat
theorem getTo_lt {l : List Int} (h : ∀ c ∈ l, 0 ≤ c ∧ c < 256) (big : Bool) (n p : Nat) : ∀ i, getTo big n p l i < 256 ^ i
  | 0 => by simp [getTo]
  | i + 1 => by
    have ih := getTo_lt h big n p i
    have hb : (l.getD (p + if big then i else n - 1 - i) 0).toNat < 256 := by
      by_cases hk : (p + if big then i else n - 1 - i) < l.length
      · have := getD_bd h _ hk
        omega
      · rw [List.getD_eq_getElem?_getD, List.getElem?_eq_none (by omega)]
        decide
    rw [Nat.pow_succ]
    show getTo big n p l i * 256 + _ < _
    omega
theorem getTo_small {l : List Int} (h : ∀ c ∈ l, 0 ≤ c ∧ c < 256) (big : Bool) (n p i : Nat) (hi : i < 8) : getTo big n p l i < 72057594037927936 := by
  have h1 := getTo_lt h big n p i
  have h2 : 256 ^ i ≤ 256 ^ 7 := Nat.pow_le_pow_right (by decide) (by omega)
  have h3 : 256 ^ 7 = 72057594037927936 := by decide
  omega
theorem or_step (t : Nat) (c : Int) (ht : t < 72057594037927936) (h0 : 0 ≤ c) (h1 : c < 256) : bits .or .u64 (IntKind.u64.wrap ((t : Int) * 256)) c = ((t * 256 + c.toNat : Nat) : Int) := by
  have e : IntKind.u64.wrap ((t : Int) * 256) = ((t * 256 : Nat) : Int) := by rw [IntKind.wrap_u64]; omega
  have := u64_or_nat (t * 256) c.toNat (by omega) (by omega)
  rw [Int.toNat_of_nonneg h0] at this
  rw [e, this]
  congr 1
  exact nat_join 8 (t * 256) c.toNat (by omega) (by omega)
theorem ret_pair {k : IntKind} {a b : Int} {v : Value} (h : a = b) : Ending.returned (.tuple #[.int k a, v]) = .returned (.tuple #[.int k b, v]) := by rw [h]
theorem pow_small {m : Nat} (h : m < 8) : 2 ^ (8 * m) ≤ 72057594037927936 := by
  have : 2 ^ (8 * m) ≤ 2 ^ 56 := Nat.pow_le_pow_right (by decide) (by omega)
  have h2 : 2 ^ 56 = 72057594037927936 := by decide
  omega
theorem pow_int (k : Nat) : (2 : Int) ^ k = ((2 ^ k : Nat) : Int) := by rw [Int.natCast_pow]; rfl
/-- 'v & (1<<uint(8*m) - 1)'. -/
theorem mask_of (v m : Nat) (hv : Fit64 v) (hm : m < 8) : ∃ V : Nat, bits .and .u64 (v : Int) (IntKind.u64.wrap (IntKind.u64.wrap ((2 : Int) ^ (8 * m)) - 1)) = (V : Int) ∧ fitsIn m V = true ∧ V = v % 2 ^ (8 * m) := by
  have hp := pow_small hm
  have h1 : 0 < 2 ^ (8 * m) := Nat.two_pow_pos _
  have e1 : IntKind.u64.wrap ((2 : Int) ^ (8 * m)) = ((2 ^ (8 * m) : Nat) : Int) := by rw [pow_int, IntKind.wrap_u64]; omega
  have e2 : IntKind.u64.wrap (IntKind.u64.wrap ((2 : Int) ^ (8 * m)) - 1) = ((2 ^ (8 * m) - 1 : Nat) : Int) := by rw [e1, IntKind.wrap_u64]; omega
  refine ⟨v % 2 ^ (8 * m), ?_, ?_, rfl⟩
  · rw [e2, u64_and_nat v (2 ^ (8 * m) - 1) hv (by omega), Nat.and_two_pow_sub_one_eq_mod]
  · unfold fitsIn
    rw [Nat.div_eq_of_lt (Nat.mod_lt _ h1)]
    simp
/-- '1<<uint(8*m) | low&(1<<uint(8*m) - 1)'. -/
theorem wide_of (v m : Nat) (_hv : Fit64 v) (hm : m < 8) (M : Nat) (hM : M = v % 2 ^ (8 * m)) : ∃ V : Nat, bits .or .u64 (IntKind.u64.wrap ((2 : Int) ^ (8 * m))) (M : Int) = (V : Int) ∧ fitsIn m V = false ∧ fitsIn (m + 1) V = true := by
  have hp := pow_small hm
  have h1 : 0 < 2 ^ (8 * m) := Nat.two_pow_pos _
  have e1 : IntKind.u64.wrap ((2 : Int) ^ (8 * m)) = ((2 ^ (8 * m) : Nat) : Int) := by rw [pow_int, IntKind.wrap_u64]; omega
  have hlt : M < 2 ^ (8 * m) := by rw [hM]; exact Nat.mod_lt _ h1
  have hj : 2 ^ (8 * m) ||| M = 2 ^ (8 * m) + M := nat_join (8 * m) _ _ (Nat.mod_self _) hlt
  refine ⟨2 ^ (8 * m) + M, ?_, ?_, ?_⟩
  · rw [e1, u64_or_nat _ _ (by omega) (by omega), hj]
  · unfold fitsIn
    rw [Nat.add_comm, Nat.add_div_right _ h1, Nat.div_eq_of_lt hlt]
    simp
    omega
  · unfold fitsIn
    by_cases h8 : 8 ≤ m + 1
    · simp [h8]
    · have e : 2 ^ (8 * (m + 1)) = 256 * 2 ^ (8 * m) := by rw [Nat.mul_add, Nat.pow_add, Nat.mul_comm]
      have : (2 ^ (8 * m) + M) / 2 ^ (8 * (m + 1)) = 0 := Nat.div_eq_of_lt (by rw [e]; omega)
      rw [this]
      simp
end Go.Proofs.YtdffgnpldapciaaGreatDoor
