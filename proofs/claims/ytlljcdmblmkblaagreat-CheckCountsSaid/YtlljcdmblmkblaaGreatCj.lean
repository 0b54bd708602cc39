/-
  A cluster that is put into a file raw: what its entry tells (15.1). Conditions: stated at each.
-/
import Derived.Test.YtlljcdmblmkblaaGreatMe
import Derived.Laws.BitsAllLaws
namespace Go.Proofs.YtlljcdmblmkblaaGreat
open Go.RowKit
set_option linter.unusedVariables false

theorem sum_turn {m a : Nat} (hm : m < 4294967296) (ha : a < 4294967296) : ∃ v : Nat, bits .xor .u32 (m : Int) (bits .or .u32 (a : Int) 1) = (v : Int) ∧ v < 4294967296 ∧ v ≠ m := by
  have h1 : bits .or .u32 (a : Int) 1 = ((a ||| 1 : Nat) : Int) := u32_or_nat a 1 ha (by decide)
  have h2 : a ||| 1 < 4294967296 := Nat.or_lt_two_pow (n := 32) ha (by decide)
  have h3 : 1 ≤ a ||| 1 := Nat.right_le_or
  refine ⟨m ^^^ (a ||| 1), by rw [h1]; exact u32_xor_nat m _ hm h2, Nat.xor_lt_two_pow (n := 32) hm h2, fun e => ?_⟩
  have e3 : m ^^^ (m ^^^ (a ||| 1)) = m ^^^ m := by rw [e]
  rw [Nat.xor_self, ← Nat.xor_assoc, Nat.xor_self, Nat.zero_xor] at e3
  omega
/-- A file: so many sectors of noughts, a cluster behind them. -/
def fileM (s : Nat) (cont : List Int) : List Int := noughts (s * 16) ++ cont
theorem fileM_len {s C : Nat} {cont : List Int} (hc : cont.length = 16 * 2 ^ C) : (fileM s cont).length = (s + 2 ^ C) * 16 := by
  unfold fileM noughts
  rw [List.length_append, List.length_replicate, hc]
  omega
theorem may_made {s C : Nat} (hs : 2 ≤ s ∧ s ≤ 21) (hC : C ≤ 6) (m : Int) : MayE (2, (s : Int), ((2 ^ C : Nat) : Int), 0, m) (C : Int) := by
  have h1 : 2 ^ C ≤ 64 := by
    have : (2 : Nat) ^ 6 = 64 := by decide
    rw [← this]
    exact Nat.pow_le_pow_right (by decide) hC
  refine ⟨by omega, Or.inr (Or.inl ⟨rfl, ?_, ?_, ?_, rfl⟩)⟩
  · show (2 : Int) ≤ (s : Int); omega
  · show ((2 ^ C : Nat) : Int) = 2 ^ (C : Int).toNat
    rw [Int.toNat_natCast, Int.natCast_pow]
    rfl
  · show (s : Int) ≤ 65536 - ((2 ^ C : Nat) : Int); omega
theorem stored_made {s C : Nat} {cont : List Int} (hc : cont.length = 16 * 2 ^ C) (m : Int) : contE (2, (s : Int), ((2 ^ C : Nat) : Int), 0, m) (fileM s cont) ((16 * 2 ^ C : Nat) : Int) = cont := by
  unfold contE
  rw [if_pos rfl]
  unfold storedE fileM
  dsimp only
  rw [Int.toNat_natCast, Int.toNat_natCast, List.drop_append_of_le_length (by unfold noughts; rw [List.length_replicate]; exact Nat.le_refl _), List.drop_eq_nil_of_le (by unfold noughts; rw [List.length_replicate]; exact Nat.le_refl _), List.nil_append, List.take_of_length_le (by omega)]
theorem made_ok {s C : Nat} (hs : 2 ≤ s ∧ s ≤ 21) (hC : C ≤ 6) {cont : List Int} (hc : cont.length = 16 * 2 ^ C) : bytesE (2, (s : Int), ((2 ^ C : Nat) : Int), 0, ((moreOf 0 cont : Nat) : Int)) (fileM s cont) (C : Int) = (cont, 0) := by
  have hp : 2 ^ C ≤ 64 := by
    have : (2 : Nat) ^ 6 = 64 := by decide
    rw [← this]
    exact Nat.pow_le_pow_right (by decide) hC
  unfold bytesE
  rw [if_neg (fun h => h (may_made hs hC _)), if_neg (fun h => h (Or.inl rfl)), if_neg (by rw [fileM_len hc]; unfold wholeN; dsimp only; omega), Int.toNat_natCast, stored_made hc, if_neg (fun h => h.elim (fun h => h hc) (fun h => h rfl))]
theorem made_sum {s C : Nat} (hs : 2 ≤ s ∧ s ≤ 21) (hC : C ≤ 6) {cont : List Int} (hc : cont.length = 16 * 2 ^ C) {v : Nat} (hv : v ≠ moreOf 0 cont) : bytesE (2, (s : Int), ((2 ^ C : Nat) : Int), 0, (v : Int)) (fileM s cont) (C : Int) = ([], 13) := by
  have hp : 2 ^ C ≤ 64 := by
    have : (2 : Nat) ^ 6 = 64 := by decide
    rw [← this]
    exact Nat.pow_le_pow_right (by decide) hC
  unfold bytesE
  rw [if_neg (fun h => h (may_made hs hC _)), if_neg (fun h => h (Or.inl rfl)), if_neg (by rw [fileM_len hc]; unfold wholeN; dsimp only; omega), Int.toNat_natCast, stored_made hc, if_pos (Or.inr (by show ((moreOf 0 cont : Nat) : Int) ≠ (v : Int); omega))]
theorem made_cut {s C : Nat} (hs : 2 ≤ s ∧ s ≤ 21) (hC : C ≤ 6) {cont : List Int} (hc : cont.length = 16 * 2 ^ C) (m : Int) : bytesE (2, (s : Int), ((2 ^ C : Nat) : Int), 0, m) ((fileM s cont).take ((s + 2 ^ C) * 16 - 1)) (C : Int) = ([], 6) := by
  have hp : 1 ≤ 2 ^ C := Nat.one_le_two_pow
  unfold bytesE
  rw [if_neg (fun h => h (may_made hs hC _)), if_neg (fun h => h (Or.inl rfl)), if_pos (by rw [List.length_take, fileM_len hc]; unfold wholeN; dsimp only; omega)]
/-- The first bytes of a text, noughts behind. -/
def contB (l : List Int) (n j : Nat) : List Int := l.take j ++ noughts (n - j)
theorem contB_zero (l : List Int) (n : Nat) : contB l n 0 = noughts n := rfl
theorem contB_next {l : List Int} {n j : Nat} (hj : j < l.length) (hn : j < n) : (contB l n j).set j (l.getD j 0) = contB l n (j + 1) := by
  unfold contB noughts
  have e : n - j = (n - (j + 1)) + 1 := by omega
  rw [e, List.replicate_succ, List.set_append, if_neg (by rw [List.length_take]; omega), List.length_take, Nat.min_eq_left (by omega), Nat.sub_self, List.set_cons_zero, List.take_add_one, List.getD_eq_getElem?_getD, List.getElem?_eq_getElem hj, List.append_assoc]
  rfl
theorem contB_len {l : List Int} {n j : Nat} (hj : j ≤ l.length) (hn : j ≤ n) : (contB l n j).length = n := by
  unfold contB noughts
  rw [List.length_append, List.length_take, List.length_replicate]
  omega
theorem arg_of15 {w : World} {a : Option Addr} {len cap : Nat} {zs : List Int}
    (h : (a = none ∧ len = 0 ∧ cap = 0 ∧ zs = []) ∨ ∃ x, a = some x ∧ len ≤ cap ∧ cap ≤ maxLen ∧ zs.length = cap ∧ (∀ i, i < zs.length → w.cell? (x.add i) = some (.int .u8 (zs.getD i 0))) ∧ ∀ n ∈ zs, (Lit.int .u8 n).wf = true) (k : Nat) (hk : k ≤ len) (hk2 : k ≤ 20000) : ∃ l, Bytes w a k l := by
  have h' : (a = none ∧ k = 0 ∧ cap = 0 ∧ zs = []) ∨ ∃ x, a = some x ∧ k ≤ cap ∧ cap ≤ maxLen ∧ zs.length = cap ∧ (∀ i, i < zs.length → w.cell? (x.add i) = some (.int .u8 (zs.getD i 0))) ∧ ∀ n ∈ zs, (Lit.int .u8 n).wf = true := by
    rcases h with ⟨h1, h2, h3, h4⟩ | ⟨x, h1, h2, h3⟩
    · exact Or.inl ⟨h1, by omega, h3, h4⟩
    · exact Or.inr ⟨x, h1, by omega, h3⟩
  obtain ⟨l, hB, _⟩ := arg_of7 h' hk2
  exact ⟨l, hB⟩
theorem u32_of_wf {n : Int} (h : (Lit.int .u32 n).wf = true) : 0 ≤ n ∧ n < 4294967296 := by
  simp [Lit.wf, IntKind.min, IntKind.max, IntKind.signed, IntKind.bits] at h
  omega
theorem make_own15 (w : World) (n : Nat) (hn : n ≤ 100000) {base : Nat} (hb : base ≤ w.heap.size) : Own (w.alloc (.cells (madeCells #[.int .u8 0] n) 5)) base (.slice (some ⟨w.heap.size, 0, none⟩) n n) n (noughts n) := by
  have h1 := World.ownsRow_lit (e := 5) (size := 1) w (madeCells #[.int .u8 0] n) n hb (by unfold maxLen; omega) (by rw [size_madeCells, Nat.mul_one])
  rw [toList_madeCells_one] at h1
  refine ⟨?_, by unfold noughts; rw [List.length_replicate]; omega, noughts_bd n⟩
  have e : (noughts n).map (Value.int .u8) = List.replicate n (.int .u8 0) := by unfold noughts; rw [List.map_replicate]
  rw [e]
  exact h1
theorem bytes_other {w : World} {a : Option Addr} {n : Nat} {l : List Int} (h : Bytes w a n l) {X : Nat} {t : TypeId} {cs : Array Value} (hX : Blk w X t cs) (hne : ∀ (i : Nat) (c : Int), cs[i]? ≠ some (.int .u8 c)) (i : Nat) (v : Value) : Bytes (w.setCell ⟨X, i, none⟩ v) a n l := by
  obtain ⟨h1, h2, h3⟩ := h
  refine ⟨h1, h2, ?_⟩
  rcases h3 with h3 | ⟨b, off, rfl, hb, hc⟩
  · exact Or.inl h3
  · refine Or.inr ⟨b, off, rfl, by rw [World.size_setCell]; exact hb, fun j hj => ?_⟩
    have hcj := hc j hj
    refine World.grownBy.cell (grownBy_setCell4 w X i v) hcj (fun e => ?_)
    have e' : b = X := Option.some.inj e
    subst e'
    rw [hX.cell] at hcj
    exact hne _ _ hcj
end Go.Proofs.YtlljcdmblmkblaaGreat
