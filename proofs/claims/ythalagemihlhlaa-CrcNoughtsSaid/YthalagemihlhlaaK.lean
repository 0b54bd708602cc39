/-
  Plain mathematics of the consequences: bytes turned within four side by side, one byte turned, three texts over one another, noughts behind. Conditions: bytes are from 0 to 255, registers below 2^32, fingerprints below 2^64.
-/
import Derived.Test.YthalagemihlhlaaMath
namespace Go.Proofs.Ythalagemihlhlaa

theorem shiftN_zero : ∀ n : Nat, shiftN n 0 = 0
  | 0 => rfl
  | n + 1 => shiftN_zero n
theorem shift_zero {x : Nat} (hx : x < 4294967296) (h : shiftN 8 x = 0) : x = 0 := shiftN_inj 8 hx (by decide) (h.trans (shiftN_zero 8).symm)
theorem shift_small {x y : Nat} (hx : x < 4294967296) (hy : y < 16777216) (h : shiftN 8 x = y) : x = 256 * y :=
  shiftN_inj 8 hx (by omega) (h.trans (shiftN_even 8 y).symm)
theorem xor_zero_eq {a b : Nat} (h : a ^^^ b = 0) : a = b := by
  have : a ^^^ b = b ^^^ b := by rw [h, Nat.xor_self]
  exact xor_inj this
theorem xor_move {a b c : Nat} (h : a ^^^ b = c) : a = c ^^^ b := by rw [← h, xor_cancel]
theorem low_zero {x y : Nat} (h : x = 256 * y) (hx : x < 256) : x = 0 ∧ y = 0 := by omega

/-- Four bytes, not all nought, leave a register of noughts not at nought. -/
theorem four_bytes {e0 e1 e2 e3 : Nat} (h0 : e0 < 256) (h1 : e1 < 256) (h2 : e2 < 256) (h3 : e3 < 256)
    (h : shiftN 8 (shiftN 8 (shiftN 8 (shiftN 8 e0 ^^^ e1) ^^^ e2) ^^^ e3) = 0) : e0 = 0 ∧ e1 = 0 ∧ e2 = 0 ∧ e3 = 0 := by
  have b1 : shiftN 8 e0 < 4294967296 := shiftN_lt 8 (by omega)
  have x1 : shiftN 8 e0 ^^^ e1 < 4294967296 := Nat.xor_lt_two_pow (n := 32) b1 (by omega)
  have b2 := shiftN_lt 8 x1
  have x2 : shiftN 8 (shiftN 8 e0 ^^^ e1) ^^^ e2 < 4294967296 := Nat.xor_lt_two_pow (n := 32) b2 (by omega)
  have b3 := shiftN_lt 8 x2
  have x3 : shiftN 8 (shiftN 8 (shiftN 8 e0 ^^^ e1) ^^^ e2) ^^^ e3 < 4294967296 := Nat.xor_lt_two_pow (n := 32) b3 (by omega)
  have g3 := xor_zero_eq (shift_zero x3 h)
  have g2 := shift_small x2 (by omega) g3
  have k2 := xor_move g2
  have s2 : 256 * e3 ^^^ e2 < 16777216 := Nat.xor_lt_two_pow (n := 24) (by omega) (by omega)
  have g1 := shift_small x1 (by rw [← k2] at s2; rw [← k2]; exact s2) k2
  have k1 := xor_move g1
  have s16 : 256 * e3 ^^^ e2 < 65536 := Nat.xor_lt_two_pow (n := 16) (by omega) (by omega)
  have s1 : 256 * (256 * e3 ^^^ e2) ^^^ e1 < 16777216 := Nat.xor_lt_two_pow (n := 24) (by omega) (by omega)
  have g0 := shift_small (x := e0) (by omega) s1 k1
  obtain ⟨z0, z1⟩ := low_zero g0 h0
  have q1 := xor_zero_eq z1
  obtain ⟨y1, y2⟩ := low_zero q1.symm h1
  have q2 := xor_zero_eq y2
  obtain ⟨w1, w2⟩ := low_zero q2.symm h2
  exact ⟨z0, y1, w1, w2⟩

/-- One byte over another, bit by bit. -/
def over (x y : Int) : Int := ((x.toNat ^^^ y.toNat : Nat) : Int)
theorem over_toNat (x y : Int) : (over x y).toNat = x.toNat ^^^ y.toNat := Int.toNat_natCast _
theorem over_lt {x y : Int} (hx : x < 256) (hy : y < 256) : 0 ≤ over x y ∧ over x y < 256 := by
  have h : x.toNat ^^^ y.toNat < 256 := Nat.xor_lt_two_pow (n := 8) (by omega) (by omega)
  unfold over
  omega
theorem bstep_over (r d : Nat) (b e : Int) : bstep (r ^^^ d) (over b e) = bstep r b ^^^ bstep d e := by
  unfold bstep
  rw [← shiftN_xor, over_toNat]
  congr 1
  rw [Nat.xor_assoc, Nat.xor_assoc, xor_left_comm' d]
theorem reg_cons (r : Nat) (c : Int) (l : List Int) : reg r (c :: l) = reg (bstep r c) l := rfl
theorem reg_nil (r : Nat) : reg r [] = r := rfl

theorem four_turned (R : Nat) (b0 b1 b2 b3 e0 e1 e2 e3 : Int) (h0 : 0 ≤ e0 ∧ e0 < 256) (h1 : 0 ≤ e1 ∧ e1 < 256) (h2 : 0 ≤ e2 ∧ e2 < 256) (h3 : 0 ≤ e3 ∧ e3 < 256)
    (h : reg R [over b0 e0, over b1 e1, over b2 e2, over b3 e3] = reg R [b0, b1, b2, b3]) : e0 = 0 ∧ e1 = 0 ∧ e2 = 0 ∧ e3 = 0 := by
  have e : reg R [over b0 e0, over b1 e1, over b2 e2, over b3 e3] = reg R [b0, b1, b2, b3] ^^^ bstep (bstep (bstep (bstep 0 e0) e1) e2) e3 := by
    rw [reg_cons, reg_cons, reg_cons, reg_cons, reg_nil, reg_cons, reg_cons, reg_cons, reg_cons, reg_nil]
    rw [← bstep_over, ← bstep_over, ← bstep_over, ← bstep_over, Nat.xor_zero]
  rw [e] at h
  have hz : bstep (bstep (bstep (bstep 0 e0) e1) e2) e3 = 0 := by
    have : bstep (bstep (bstep (bstep 0 e0) e1) e2) e3 ^^^ reg R [b0, b1, b2, b3] = 0 ^^^ reg R [b0, b1, b2, b3] := by rw [Nat.xor_comm, h, Nat.zero_xor]
    exact xor_inj this
  unfold bstep at hz
  rw [Nat.zero_xor] at hz
  have := four_bytes (by omega) (by omega) (by omega) (by omega) hz
  omega

/-- The i-th byte of a word. -/
def byteOf (w i : Nat) : Int := ((w / 2 ^ (8 * i) % 256 : Nat) : Int)
theorem byteOf_bd (w i : Nat) : 0 ≤ byteOf w i ∧ byteOf w i < 256 := by
  unfold byteOf
  have : w / 2 ^ (8 * i) % 256 < 256 := Nat.mod_lt _ (by decide)
  omega
theorem bytes_zero {w : Nat} (hw : w < 4294967296) (h0 : byteOf w 0 = 0) (h1 : byteOf w 1 = 0) (h2 : byteOf w 2 = 0) (h3 : byteOf w 3 = 0) : w = 0 := by
  unfold byteOf at h0 h1 h2 h3
  simp at h0 h1 h2 h3
  omega
def turnTo (l : List Int) (k w : Nat) : Nat → List Int
  | 0 => l
  | i + 1 => (turnTo l k w i).set (k + i) (over ((turnTo l k w i).getD (k + i) 0) (byteOf w i))
theorem turnTo_len (l : List Int) (k w : Nat) : ∀ i, (turnTo l k w i).length = l.length
  | 0 => rfl
  | i + 1 => by
    show (List.set _ _ _).length = _
    rw [List.length_set, turnTo_len l k w i]
theorem turnTo_bd {l : List Int} {k w : Nat} (hl : ∀ c ∈ l, 0 ≤ c ∧ c < 256) : ∀ i, k + i ≤ l.length → ∀ c ∈ turnTo l k w i, 0 ≤ c ∧ c < 256
  | 0, _ => hl
  | i + 1, hi => by
    intro c hc
    have ih := turnTo_bd (k := k) (w := w) hl i (by omega)
    have hlt : k + i < (turnTo l k w i).length := by rw [turnTo_len]; omega
    rcases List.mem_or_eq_of_mem_set hc with h | rfl
    · exact ih c h
    · refine over_lt ?_ (byteOf_bd w i).2
      rw [List.getD_eq_getElem?_getD, List.getElem?_eq_getElem hlt]
      exact (ih _ (List.getElem_mem hlt)).2
theorem turned_four (p q : List Int) (b0 b1 b2 b3 : Int) (w : Nat) :
    turnTo (p ++ b0 :: b1 :: b2 :: b3 :: q) p.length w 4 = p ++ over b0 (byteOf w 0) :: over b1 (byteOf w 1) :: over b2 (byteOf w 2) :: over b3 (byteOf w 3) :: q := by
  simp [turnTo]
theorem split_four (l : List Int) (k : Nat) (h : k + 4 ≤ l.length) : ∃ p b0 b1 b2 b3 q, l = p ++ b0 :: b1 :: b2 :: b3 :: q ∧ p.length = k := by
  have h0 : l.take k ++ l.drop k = l := List.take_append_drop k l
  have hd : (l.drop k).length = l.length - k := List.length_drop
  match hm : l.drop k, hd with
  | [], hd => simp at hd; omega
  | [_], hd => simp at hd; omega
  | [_, _], hd => simp at hd; omega
  | [_, _, _], hd => simp at hd; omega
  | b0 :: b1 :: b2 :: b3 :: q, _ =>
    rw [hm] at h0
    exact ⟨l.take k, b0, b1, b2, b3, q, h0.symm, by rw [List.length_take]; omega⟩
/-- 1.3: bits turned within four bytes side by side make another sum. -/
theorem turned_sum (l : List Int) (k w : Nat) (hk : k + 4 ≤ l.length) (hl : ∀ c ∈ l, c < 256) (hw : w < 4294967296) (hw0 : w ≠ 0) : moreOf 0 (turnTo l k w 4) ≠ moreOf 0 l := by
  intro h
  obtain ⟨p, b0, b1, b2, b3, q, rfl, rfl⟩ := split_four l k hk
  rw [turned_four] at h
  have hr := inv_inj h
  have e : ∀ x0 x1 x2 x3 : Int, p ++ x0 :: x1 :: x2 :: x3 :: q = (p ++ [x0, x1, x2, x3]) ++ q := fun _ _ _ _ => by simp
  rw [e, e, reg_append, reg_append (b := q), reg_append, reg_append (a := p)] at hr
  have hp : reg (inv32 0) p < 4294967296 := reg_lt (by decide) fun c hc => hl c (by simp [hc])
  have ho : ∀ (b : Int) (i : Nat), b < 256 → over b (byteOf w i) < 256 := fun b i hb => (over_lt hb (byteOf_bd w i).2).2
  have m0 : b0 < 256 := hl b0 (by simp)
  have m1 : b1 < 256 := hl b1 (by simp)
  have m2 : b2 < 256 := hl b2 (by simp)
  have m3 : b3 < 256 := hl b3 (by simp)
  have := reg_inj (reg_lt hp (by simp only [List.mem_cons, List.not_mem_nil, or_false]; rintro c (rfl | rfl | rfl | rfl) <;> exact ho _ _ ‹_›)) (reg_lt hp (by simp only [List.mem_cons, List.not_mem_nil, or_false]; rintro c (rfl | rfl | rfl | rfl) <;> assumption)) (fun c hc => hl c (by simp [hc])) hr
  obtain ⟨z0, z1, z2, z3⟩ := four_turned _ _ _ _ _ _ _ _ _ (byteOf_bd w 0) (byteOf_bd w 1) (byteOf_bd w 2) (byteOf_bd w 3) this
  exact hw0 (bytes_zero hw z0 z1 z2 z3)

/-- 1.3: one byte turned makes another fingerprint. -/
theorem turned_finger (l : List Int) (k : Nat) (e : Int) (hk : k < l.length) (hl : ∀ c ∈ l, c < 256) (h0 : 0 < e) (h1 : e < 256) : fingerOf (l.set k (over (l.getD k 0) e)) ≠ fingerOf l := by
  intro h
  have hg : l.getD k 0 < 256 := by
    rw [List.getD_eq_getElem?_getD, List.getElem?_eq_getElem hk]
    exact hl _ (List.getElem_mem hk)
  obtain ⟨b, hb⟩ : ∃ b, l.getD k 0 = b := ⟨_, rfl⟩
  have hs : l = l.take k ++ b :: l.drop (k + 1) := by
    rw [← hb, List.getD_eq_getElem?_getD, List.getElem?_eq_getElem hk]
    simp
  have hs2 : l.set k (over b e) = l.take k ++ over b e :: l.drop (k + 1) := List.set_eq_take_append_cons_drop ▸ if_pos hk
  rw [hb] at h hg
  have hq : ∀ c ∈ l.drop (k + 1), c < 256 := fun c hc => hl c (List.mem_of_mem_drop hc)
  have hf := fold32_inj (fin_lt (by decide)) (fin_lt (by decide)) h
  rw [hs2] at hf
  have hf2 : fin 14695981039346656037 (l.take k ++ over b e :: l.drop (k + 1)) = fin 14695981039346656037 (l.take k ++ b :: l.drop (k + 1)) := by
    rw [← hs]
    exact hf
  rw [fin_append, fin_cons, fin_append, fin_cons] at hf2
  have hx := fstep_inj (fin_lt (by decide)) (fin_lt (by decide)) (over_lt hg h1).2 hg (fin_inj (fstep_lt _ _) (fstep_lt _ _) hq hf2)
  have := xor_inj' hx
  rw [over_toNat] at this
  have : e.toNat = 0 := by
    have h2 : b.toNat ^^^ e.toNat = b.toNat ^^^ 0 := by rw [this, Nat.xor_zero]
    exact xor_inj' h2
  omega

/-- Three texts over one another. -/
def over3 : List Int → List Int → List Int → List Int
  | a :: l, b :: m, c :: n => over (over a b) c :: over3 l m n
  | _, _, _ => []
theorem reg_over3 : ∀ (a b c : List Int) (r s t : Nat), a.length = b.length → b.length = c.length → reg (r ^^^ s ^^^ t) (over3 a b c) = reg r a ^^^ reg s b ^^^ reg t c
  | [], [], [], _, _, _, _, _ => rfl
  | x :: a, y :: b, z :: c, r, s, t, h, k => by
    show reg (bstep (r ^^^ s ^^^ t) (over (over x y) z)) (over3 a b c) = _
    rw [bstep_over, bstep_over, reg_over3 a b c _ _ _ (by simpa using h) (by simpa using k)]
    rfl
  | [], _ :: _, _, _, _, _, h, _ => by simp at h
  | _ :: _, [], _, _, _, _, h, _ => by simp at h
  | [], [], _ :: _, _, _, _, _, k => by simp at k
  | _ :: _, _ :: _, [], _, _, _, _, k => by simp at k
theorem sum_over3 (a b c : List Int) (h : a.length = b.length) (k : b.length = c.length) : moreOf 0 (over3 a b c) = moreOf 0 a ^^^ moreOf 0 b ^^^ moreOf 0 c := by
  have e := reg_over3 a b c (inv32 0) (inv32 0) (inv32 0) h k
  rw [Nat.xor_self, Nat.zero_xor] at e
  unfold moreOf
  rw [e]
  unfold inv32
  generalize reg (0 ^^^ 4294967295) a = x
  generalize reg (0 ^^^ 4294967295) b = y
  generalize reg (0 ^^^ 4294967295) c = z
  rw [Nat.xor_assoc x 4294967295, xor_left_comm' 4294967295 y, Nat.xor_self, Nat.xor_zero, Nat.xor_assoc (x ^^^ y)]
theorem over3_len : ∀ (a b c : List Int), a.length = b.length → b.length = c.length → (over3 a b c).length = a.length
  | [], [], [], _, _ => rfl
  | _ :: a, _ :: b, _ :: c, h, k => by
    show (over3 a b c).length + 1 = a.length + 1
    rw [over3_len a b c (by simpa using h) (by simpa using k)]
  | [], _ :: _, _, h, _ => by simp at h
  | _ :: _, [], _, h, _ => by simp at h
  | [], [], _ :: _, _, k => by simp at k
  | _ :: _, _ :: _, [], _, k => by simp at k
theorem over3_at : ∀ (a b c : List Int) (i : Nat), a.length = b.length → b.length = c.length → i < a.length → (over3 a b c).getD i 0 = over (over (a.getD i 0) (b.getD i 0)) (c.getD i 0)
  | _ :: _, _ :: _, _ :: _, 0, _, _, _ => rfl
  | _ :: a, _ :: b, _ :: c, i + 1, h, k, hi => by
    show (over3 a b c).getD i 0 = over (over (a.getD i 0) (b.getD i 0)) (c.getD i 0)
    exact over3_at a b c i (by simpa using h) (by simpa using k) (by simpa using hi)
  | [], _, _, _, _, _, hi => by simp at hi
  | _ :: _, [], _, _, h, _, _ => by simp at h
  | _ :: _, _ :: _, [], _, _, k, _ => by simp at k

theorem getD_bd {l : List Int} (h : ∀ c ∈ l, 0 ≤ c ∧ c < 256) (k : Nat) (hk : k < l.length) : 0 ≤ l.getD k 0 ∧ l.getD k 0 < 256 := by
  rw [List.getD_eq_getElem?_getD, List.getElem?_eq_getElem hk]
  exact h _ (List.getElem_mem hk)
/-- Noughts. -/
def noughts (n : Nat) : List Int := List.replicate n 0
theorem noughts_succ (n : Nat) : noughts n ++ [0] = noughts (n + 1) := (List.replicate_succ').symm
theorem noughts_bd (n : Nat) : ∀ c ∈ noughts n, 0 ≤ c ∧ c < 256 := fun c hc => by
  obtain rfl := List.eq_of_mem_replicate hc
  decide
theorem noughts_sum (n : Nat) : moreOf 0 (noughts n) ≠ moreOf 0 (noughts n ++ [0]) := by
  intro h
  have hr := inv_inj h
  have e : noughts n ++ [0] = (0 : Int) :: noughts n := by rw [noughts_succ]; rfl
  rw [e, reg_cons] at hr
  have := reg_inj (by decide) (bstep_lt (by decide) (by decide)) (fun c hc => (noughts_bd n c hc).2) hr
  exact absurd this (by decide)
theorem noughts_finger (n : Nat) : fingerOf (noughts n) ≠ fingerOf (noughts n ++ [0]) := by
  intro h
  have hf := fold32_inj (fin_lt (by decide)) (fin_lt (by decide)) h
  have e : noughts n ++ [0] = (0 : Int) :: noughts n := by rw [noughts_succ]; rfl
  rw [e, fin_cons] at hf
  have := fin_inj (by decide) (fstep_lt _ _) (fun c hc => (noughts_bd n c hc).2) hf
  exact absurd this (by decide)
theorem last_sum {l : List Int} (hl : ∀ c ∈ l, c < 256) {c d : Int} (hc : 0 ≤ c ∧ c < 256) (hd : 0 ≤ d ∧ d < 256) (h : moreOf 0 (l ++ [c]) = moreOf 0 (l ++ [d])) : c = d := by
  have hr := inv_inj h
  rw [reg_snoc, reg_snoc] at hr
  have hp : reg (inv32 0) l < 4294967296 := reg_lt (by decide) hl
  have := xor_inj' (shiftN_inj 8 (Nat.xor_lt_two_pow (n := 32) hp (by omega)) (Nat.xor_lt_two_pow (n := 32) hp (by omega)) hr)
  omega
/-- A text that is written from the front over noughts. -/
def fillTo (l : List Int) (n k : Nat) : List Int := l.take k ++ noughts (n - k)
theorem fillTo_zero (l : List Int) (n : Nat) : fillTo l n 0 = noughts n := by simp [fillTo]
theorem fillTo_all (l : List Int) (n : Nat) (h : l.length = n) : fillTo l n n = l := by
  unfold fillTo noughts
  rw [Nat.sub_self, ← h, List.take_length]
  simp
theorem fillTo_succ (l : List Int) (n k : Nat) (h : l.length = n) (hk : k < n) : (fillTo l n k).set k (l.getD k 0) = fillTo l n (k + 1) := by
  unfold fillTo noughts
  have e : n - k = (n - (k + 1)) + 1 := by omega
  have hl : (l.take k).length = k := by rw [List.length_take]; omega
  rw [e, List.replicate_succ, List.set_append_right _ _ (by omega), hl, Nat.sub_self, List.set_cons_zero, List.take_succ_eq_append_getElem (by omega), List.getD_eq_getElem?_getD, List.getElem?_eq_getElem (by omega)]
  rw [List.append_assoc]
  rfl
end Go.Proofs.Ythalagemihlhlaa
