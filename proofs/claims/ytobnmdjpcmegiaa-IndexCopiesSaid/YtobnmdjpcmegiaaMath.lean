/-
  Plain mathematics of CRC-32C and of the fingerprint: registers as natural numbers, bytes as integers. No condition; nothing of the program is in it.
-/
namespace Go.Proofs.Ytobnmdjpcmegiaa

/-- One bit shifted out of the register. -/
def shr1 (r : Nat) : Nat := if r % 2 = 1 then r / 2 ^^^ 2197175160 else r / 2
def shiftN : Nat → Nat → Nat
  | 0, r => r
  | n + 1, r => shiftN n (shr1 r)
/-- The register behind one byte. -/
def bstep (r : Nat) (c : Int) : Nat := shiftN 8 (r ^^^ c.toNat)
def reg (r : Nat) (l : List Int) : Nat := l.foldl bstep r
def inv32 (s : Nat) : Nat := s ^^^ 4294967295
def moreOf (s : Nat) (l : List Int) : Nat := inv32 (reg (inv32 s) l)

theorem xor_left_comm' (a b c : Nat) : a ^^^ (b ^^^ c) = b ^^^ (a ^^^ c) := by rw [← Nat.xor_assoc, Nat.xor_comm a b, Nat.xor_assoc]
theorem xor_cancel (a b : Nat) : (a ^^^ b) ^^^ b = a := by rw [Nat.xor_assoc, Nat.xor_self, Nat.xor_zero]
theorem xor_cancel' (a b : Nat) : a ^^^ (a ^^^ b) = b := by rw [← Nat.xor_assoc, Nat.xor_self, Nat.zero_xor]
theorem xor_inj {a b c : Nat} (h : a ^^^ c = b ^^^ c) : a = b := by rw [← xor_cancel a c, h, xor_cancel]
theorem xor_inj' {a b c : Nat} (h : c ^^^ a = c ^^^ b) : a = b := by rw [← xor_cancel' c a, h, xor_cancel']
theorem inv_inv (s : Nat) : inv32 (inv32 s) = s := xor_cancel _ _
theorem inv_lt {s : Nat} (h : s < 4294967296) : inv32 s < 4294967296 := Nat.xor_lt_two_pow (n := 32) h (by decide)

theorem shr1_lt {r : Nat} (h : r < 4294967296) : shr1 r < 4294967296 := by
  unfold shr1
  split
  · exact Nat.xor_lt_two_pow (n := 32) (by omega) (by decide)
  · omega
theorem shiftN_lt : ∀ (n : Nat) {r : Nat}, r < 4294967296 → shiftN n r < 4294967296
  | 0, _, h => h
  | n + 1, _, h => shiftN_lt n (shr1_lt h)
theorem shiftN_succ : ∀ (n r : Nat), shiftN (n + 1) r = shr1 (shiftN n r)
  | 0, _ => rfl
  | n + 1, r => by
    show shiftN (n + 1) (shr1 r) = shr1 (shiftN n (shr1 r))
    exact shiftN_succ n (shr1 r)
theorem shiftN_add (m n r : Nat) : shiftN (m + n) r = shiftN n (shiftN m r) := by
  induction m generalizing r with
  | zero => rw [Nat.zero_add]; rfl
  | succ m ih =>
    rw [Nat.succ_add]
    exact ih (shr1 r)
theorem byte_lt {c : Int} (h : c < 256) : c.toNat < 256 := by omega
theorem bstep_lt {r : Nat} {c : Int} (h : r < 4294967296) (hc : c < 256) : bstep r c < 4294967296 :=
  shiftN_lt 8 (Nat.xor_lt_two_pow (n := 32) h (by have := byte_lt hc; omega))
theorem reg_lt : ∀ {l : List Int} {r : Nat}, r < 4294967296 → (∀ c ∈ l, c < 256) → reg r l < 4294967296
  | [], _, h, _ => h
  | c :: l, r, h, hl => reg_lt (l := l) (bstep_lt h (hl c (by simp))) fun d hd => hl d (by simp [hd])
theorem moreOf_lt {l : List Int} {s : Nat} (h : s < 4294967296) (hl : ∀ c ∈ l, c < 256) : moreOf s l < 4294967296 := inv_lt (reg_lt (inv_lt h) hl)
theorem reg_append (r : Nat) (a b : List Int) : reg r (a ++ b) = reg (reg r a) b := List.foldl_append ..
theorem reg_snoc (r : Nat) (a : List Int) (c : Int) : reg r (a ++ [c]) = bstep (reg r a) c := by rw [reg_append]; rfl
/-- 1.3: going on with a sum. -/
theorem moreOf_append (s : Nat) (a b : List Int) : moreOf (moreOf s a) b = moreOf s (a ++ b) := by
  unfold moreOf
  rw [inv_inv, reg_append]
theorem moreOf_nil (s : Nat) : moreOf s [] = s := inv_inv s

/-! The shift is linear, and it is one to one. -/
theorem shr1_xor (a b : Nat) : shr1 (a ^^^ b) = shr1 a ^^^ shr1 b := by
  unfold shr1
  have ha : a % 2 = 0 ∨ a % 2 = 1 := by omega
  have hb : b % 2 = 0 ∨ b % 2 = 1 := by omega
  have hm : (a ^^^ b) % 2 = 1 ↔ ¬(a % 2 = 1 ↔ b % 2 = 1) := Nat.xor_mod_two_eq_one
  have hd : (a ^^^ b) / 2 = a / 2 ^^^ b / 2 := Nat.xor_div_two
  rcases ha with ha | ha <;> rcases hb with hb | hb <;> simp only [hm, hd, ha, hb] <;> simp
  · exact Nat.xor_assoc _ _ _
  · rw [Nat.xor_assoc, Nat.xor_comm (b / 2), Nat.xor_assoc]
  · rw [Nat.xor_assoc, xor_left_comm' 2197175160, Nat.xor_self, Nat.xor_zero]
theorem shiftN_xor : ∀ (n a b : Nat), shiftN n (a ^^^ b) = shiftN n a ^^^ shiftN n b
  | 0, _, _ => rfl
  | n + 1, a, b => by
    show shiftN n (shr1 (a ^^^ b)) = shiftN n (shr1 a) ^^^ shiftN n (shr1 b)
    rw [shr1_xor, shiftN_xor n]
theorem shiftN_even : ∀ (n q : Nat), shiftN n (2 ^ n * q) = q
  | 0, q => by simp [shiftN]
  | n + 1, q => by
    have e : shr1 (2 ^ (n + 1) * q) = 2 ^ n * q := by
      unfold shr1
      have : 2 ^ (n + 1) * q = 2 * (2 ^ n * q) := by rw [Nat.pow_succ]; simp [Nat.mul_assoc, Nat.mul_left_comm]
      rw [this, if_neg (by omega)]
      omega
    show shiftN n (shr1 _) = q
    rw [e, shiftN_even n]
theorem split_low (n r : Nat) : r = 2 ^ n * (r / 2 ^ n) ^^^ r % 2 ^ n := by
  have h : r % 2 ^ n < 2 ^ n := Nat.mod_lt _ (Nat.two_pow_pos n)
  apply Nat.eq_of_testBit_eq
  intro i
  rw [Nat.testBit_xor, Nat.testBit_mod_two_pow, Nat.testBit_two_pow_mul, Nat.testBit_div_two_pow]
  by_cases hi : i < n
  · have : ¬ n ≤ i := by omega
    simp [hi, this]
  · have : n ≤ i := by omega
    simp [hi, this]
/-- A shift by a table: the low bits' row, over the rest. -/
theorem shiftN_table (n r : Nat) : shiftN n r = r / 2 ^ n ^^^ shiftN n (r % 2 ^ n) := by
  have e := split_low n r
  calc shiftN n r = shiftN n (2 ^ n * (r / 2 ^ n) ^^^ r % 2 ^ n) := by rw [← e]
    _ = shiftN n (2 ^ n * (r / 2 ^ n)) ^^^ shiftN n (r % 2 ^ n) := shiftN_xor _ _ _
    _ = _ := by rw [shiftN_even]
theorem bstep_twice (r : Nat) (c : Int) : bstep r c = shiftN 4 (shiftN 4 (r ^^^ c.toNat)) := shiftN_add 4 4 _

theorem shr1_top {r : Nat} (h : r < 4294967296) : (shr1 r).testBit 31 = decide (r % 2 = 1) := by
  have hlow : (r / 2).testBit 31 = false := Nat.testBit_lt_two_pow (by omega)
  unfold shr1
  split
  · rename_i h1
    rw [Nat.testBit_xor, hlow, h1]
    decide
  · rename_i h1
    rw [hlow]
    simp [h1]
theorem shr1_inj {a b : Nat} (ha : a < 4294967296) (hb : b < 4294967296) (h : shr1 a = shr1 b) : a = b := by
  have t := shr1_top ha
  rw [h, shr1_top hb] at t
  have hp : a % 2 = 1 ↔ b % 2 = 1 := by
    constructor <;> intro hh <;> simpa [hh] using t
  unfold shr1 at h
  by_cases h1 : a % 2 = 1
  · rw [if_pos h1, if_pos (hp.1 h1)] at h
    have := xor_inj h
    have := hp.1 h1
    omega
  · rw [if_neg h1, if_neg (fun e => h1 (hp.2 e))] at h
    have : ¬ b % 2 = 1 := fun e => h1 (hp.2 e)
    omega
theorem shiftN_inj : ∀ (n : Nat) {a b : Nat}, a < 4294967296 → b < 4294967296 → shiftN n a = shiftN n b → a = b
  | 0, _, _, _, _, h => h
  | n + 1, _, _, ha, hb, h => shr1_inj ha hb (shiftN_inj n (shr1_lt ha) (shr1_lt hb) h)
theorem bstep_inj {a b : Nat} {c : Int} (ha : a < 4294967296) (hb : b < 4294967296) (hc : c < 256) (h : bstep a c = bstep b c) : a = b := by
  have hc' := byte_lt hc
  exact xor_inj (shiftN_inj 8 (Nat.xor_lt_two_pow (n := 32) ha (by omega)) (Nat.xor_lt_two_pow (n := 32) hb (by omega)) h)
theorem reg_inj : ∀ {l : List Int} {a b : Nat}, a < 4294967296 → b < 4294967296 → (∀ c ∈ l, c < 256) → reg a l = reg b l → a = b
  | [], _, _, _, _, _, h => h
  | c :: l, _, _, ha, hb, hl, h =>
    bstep_inj ha hb (hl c (by simp)) (reg_inj (l := l) (bstep_lt ha (hl c (by simp))) (bstep_lt hb (hl c (by simp))) (fun d hd => hl d (by simp [hd])) h)
theorem inv_inj {a b : Nat} (h : inv32 a = inv32 b) : a = b := xor_inj h
theorem moreOf_inj {l : List Int} {a b : Nat} (ha : a < 4294967296) (hb : b < 4294967296) (hl : ∀ c ∈ l, c < 256) (h : moreOf a l = moreOf b l) : a = b :=
  inv_inj (reg_inj (inv_lt ha) (inv_lt hb) hl (inv_inj h))

theorem foldl_snoc (f : Nat → Int → Nat) (h : Nat) (a : List Int) (c : Int) : (a ++ [c]).foldl f h = f (a.foldl f h) c := by rw [List.foldl_append, List.foldl_cons, List.foldl_nil]
theorem foldl_nil' (f : Nat → Int → Nat) (h : Nat) : ([] : List Int).foldl f h = h := rfl
theorem foldl_cons' (f : Nat → Int → Nat) (h : Nat) (c : Int) (l : List Int) : (c :: l).foldl f h = l.foldl f (f h c) := rfl

/-! The fingerprint. -/
def fstep (h : Nat) (c : Int) : Nat := (h ^^^ c.toNat) * 1099511628211 % 18446744073709551616
def fin (h : Nat) (l : List Int) : Nat := l.foldl fstep h
def fold32 (h : Nat) : Nat := h ^^^ h / 4294967296
def fingerOf (l : List Int) : Nat := fold32 (fin 14695981039346656037 l)
theorem fstep_lt (h : Nat) (c : Int) : fstep h c < 18446744073709551616 := Nat.mod_lt _ (by decide)
theorem fin_append (h : Nat) (a b : List Int) : fin h (a ++ b) = fin (fin h a) b := by unfold fin; exact List.foldl_append ..
theorem fin_snoc (h : Nat) (a : List Int) (c : Int) : fin h (a ++ [c]) = fstep (fin h a) c := by unfold fin; exact foldl_snoc _ _ _ _
theorem fin_nil (h : Nat) : fin h [] = h := by unfold fin; exact foldl_nil' _ _
theorem fin_cons (h : Nat) (c : Int) (l : List Int) : fin h (c :: l) = fin (fstep h c) l := by unfold fin; exact foldl_cons' _ _ _ _
theorem fin_lt : ∀ {l : List Int} {h : Nat}, h < 18446744073709551616 → fin h l < 18446744073709551616
  | [], _, h => by rw [fin_nil]; exact h
  | _ :: l, _, _ => by rw [fin_cons]; exact fin_lt (l := l) (fstep_lt _ _)
theorem fold32_lt {h : Nat} (hh : h < 18446744073709551616) : fold32 h < 18446744073709551616 := Nat.xor_lt_two_pow (n := 64) hh (by omega)
theorem fingerOf_lt (l : List Int) : fingerOf l < 18446744073709551616 := fold32_lt (fin_lt (by decide))
theorem fold32_inj {a b : Nat} (ha : a < 18446744073709551616) (hb : b < 18446744073709551616) (h : fold32 a = fold32 b) : a = b := by
  have hd : (a ^^^ a / 2 ^ 32) / 2 ^ 32 = (b ^^^ b / 2 ^ 32) / 2 ^ 32 := by
    unfold fold32 at h
    rw [show (2 : Nat) ^ 32 = 4294967296 by decide, h]
  rw [Nat.xor_div_two_pow, Nat.xor_div_two_pow, show (2 : Nat) ^ 32 = 4294967296 by decide, show a / 4294967296 / 4294967296 = 0 by omega, show b / 4294967296 / 4294967296 = 0 by omega, Nat.xor_zero, Nat.xor_zero] at hd
  unfold fold32 at h
  rw [hd] at h
  exact xor_inj h
theorem mul_inj {a b : Nat} (ha : a < 18446744073709551616) (hb : b < 18446744073709551616) (h : a * 1099511628211 % 18446744073709551616 = b * 1099511628211 % 18446744073709551616) : a = b := by
  have e : ∀ x : Nat, x < 18446744073709551616 → (x * 1099511628211 % 18446744073709551616) * 14886173955864302971 % 18446744073709551616 = x := fun x hx => by
    rw [Nat.mod_mul_mod, Nat.mul_assoc, Nat.mul_mod, show 1099511628211 * 14886173955864302971 % 18446744073709551616 = 1 by decide, Nat.mul_one, Nat.mod_mod, Nat.mod_eq_of_lt hx]
  rw [← e a ha, h, e b hb]
theorem fstep_inj {a b : Nat} {c d : Int} (ha : a < 18446744073709551616) (hb : b < 18446744073709551616) (hc : c < 256) (hd : d < 256) (h : fstep a c = fstep b d) : a ^^^ c.toNat = b ^^^ d.toNat :=
  mul_inj (Nat.xor_lt_two_pow (n := 64) ha (by have := byte_lt hc; omega)) (Nat.xor_lt_two_pow (n := 64) hb (by have := byte_lt hd; omega)) h
theorem fin_inj : ∀ {l : List Int} {a b : Nat}, a < 18446744073709551616 → b < 18446744073709551616 → (∀ c ∈ l, c < 256) → fin a l = fin b l → a = b
  | [], _, _, _, _, _, h => by rw [fin_nil, fin_nil] at h; exact h
  | c :: l, _, _, ha, hb, hl, h => by
    rw [fin_cons, fin_cons] at h
    exact xor_inj (fstep_inj ha hb (hl c (by simp)) (hl c (by simp)) (fin_inj (l := l) (fstep_lt _ _) (fstep_lt _ _) (fun d hd => hl d (by simp [hd])) h))

end Go.Proofs.Ytobnmdjpcmegiaa
