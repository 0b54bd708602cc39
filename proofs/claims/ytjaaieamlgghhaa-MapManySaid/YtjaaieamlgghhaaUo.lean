/-
  Bitmaps of one-letter names (for MapMany). Conditions: none.
-/
import Derived.Test.YtjaaieamlgghhaaVa
import Derived.Test.YtjaaieamlgghhaaTb
namespace Go.Proofs.Ytjaaieamlgghhaa
open Go.RowKit
set_option linter.unusedVariables false

def bmS : Nat → Nat → List BmM
  | _, 0 => []
  | i, n + 1 => (chS i, true, []) :: bmS (i + 1) n
theorem bmS_len : ∀ (n i : Nat), (bmS i n).length = n
  | 0, _ => rfl
  | n + 1, i => by rw [bmS, List.length_cons, bmS_len n]
theorem bmS_snoc : ∀ (n i : Nat), bmS i n ++ [(chS (i + n), true, [])] = bmS i (n + 1)
  | 0, i => rfl
  | n + 1, i => by
    rw [bmS, List.cons_append, show i + (n + 1) = (i + 1) + n by omega, bmS_snoc n (i + 1)]
    rfl
theorem fndB_new : ∀ i, i < 8 → fndB (chS i) (bmS 0 i) = -1 := by decide +kernel
theorem fndB_last : ∀ i, i < 8 → fndB (chS i) (bmS 0 (i + 1)) = i := by decide +kernel
theorem fndB_more : ∀ i, i < 12 → 8 ≤ i → fndB (chS i) (bmS 0 8) = -1 := by decide +kernel
theorem fndB_gone : ∀ n, n < 8 → ∀ i, i < 8 → fndB (chS i) (bmS (i + 1) n) = -1 := by decide +kernel
theorem bmS_at (i : Nat) : (bmS 0 (i + 1))[i]? = some (chS i, true, []) := by
  rw [← bmS_snoc i 0, List.getElem?_append_right (by rw [bmS_len]; exact Nat.le_refl _), bmS_len, Nat.sub_self, Nat.zero_add]
  rfl
theorem addB_i {i : Nat} (h : i < 8) : addB (bmS 0 i) (chS i) = (bmS 0 (i + 1), 0) := by
  rw [addB_new (chS_ok i (by omega)) (by rw [fndB_new i h]; omega) (by rw [bmS_len]; exact h)]
  have := bmS_snoc i 0
  rw [Nat.zero_add] at this
  rw [this]
theorem addB_twice {i : Nat} (h : i < 8) : addB (bmS 0 (i + 1)) (chS i) = ([], 5) := by
  unfold addB
  rw [if_neg (fun g => g (chS_ok i (by omega))), if_pos (by rw [fndB_last i h]; omega)]
theorem addB_full {i : Nat} (h : i < 12) (h8 : 8 ≤ i) : addB (bmS 0 8) (chS i) = ([], 9) := by
  unfold addB
  rw [if_neg (fun g => g (chS_ok i h)), if_neg (by rw [fndB_more i h h8]; omega), if_pos (by rw [bmS_len]; omega)]
theorem dropB_i {i n : Nat} : dropB (bmS i (n + 1)) (chS i) = (bmS (i + 1) n, 0) := by
  have h : fndB (chS i) (bmS i (n + 1)) = 0 := by
    unfold bmS fndB
    rw [if_pos rfl]
  unfold dropB
  rw [h]
  rfl
theorem dropB_no {i n : Nat} (hi : i < 8) (hn : n < 8) : dropB (bmS (i + 1) n) (chS i) = ([], 4) := by
  unfold dropB
  rw [fndB_gone n hn i hi]
  rfl
def Giv (n : Nat) (B : List BmM) (z : Int) (W : World) (e : Ending) (w' : World) : Prop := ∃ (a : Option Addr) (c : Nat), e = .returned (.tuple #[.slice a n c, .int .i64 z]) ∧ BmsD w' a n c B ∧ Below W.heap.size W w'
def Giz (z : Int) (W : World) (e : Ending) (w' : World) : Prop := ∃ (a : Option Addr) (n c : Nat), e = .returned (.tuple #[.slice a n c, .int .i64 z]) ∧ Below W.heap.size W w'
section
variable {W : World} {a : Option Addr} {c i n : Nat}
theorem many_add (h : BmsD W a i c (bmS 0 i)) (hi : i < 8) : Calls Try.prog 32 #[.slice a i c, .string (chS i)] W (Giv (i + 1) (bmS 0 (i + 1)) 0 W) := by
  have := mapsAdd W a i c _ h (chS i) (chS_size i)
  rw [addB_i hi] at this
  refine this.mono ?_
  rintro e w' ⟨a', n', c', e1, e2, e3⟩
  obtain rfl : i + 1 = n' := by have := e2.d.lens.1; rwa [bmS_len] at this
  exact ⟨a', c', e1, e2.d, e3⟩
theorem many_twice (h : BmsD W a (i + 1) c (bmS 0 (i + 1))) (hi : i < 8) : Calls Try.prog 32 #[.slice a (i + 1) c, .string (chS i)] W (Giz 5 W) := by
  have := mapsAdd W a (i + 1) c _ h (chS i) (chS_size i)
  rw [addB_twice hi] at this
  refine this.mono ?_
  rintro e w' ⟨a', n', c', e1, e2, e3⟩
  exact ⟨a', n', c', e1, e3⟩
theorem many_full (h : BmsD W a 8 c (bmS 0 8)) (hi : i < 12) (h8 : 8 ≤ i) : Calls Try.prog 32 #[.slice a 8 c, .string (chS i)] W (Giz 9 W) := by
  have := mapsAdd W a 8 c _ h (chS i) (chS_size i)
  rw [addB_full hi h8] at this
  refine this.mono ?_
  rintro e w' ⟨a', n', c', e1, e2, e3⟩
  exact ⟨a', n', c', e1, e3⟩
theorem many_drop (h : BmsD W a (n + 1) c (bmS i (n + 1))) : Calls Try.prog 34 #[.slice a (n + 1) c, .string (chS i)] W (Giv n (bmS (i + 1) n) 0 W) := by
  have := mapsDrop W a (n + 1) c _ h (chS i)
  rw [dropB_i] at this
  refine this.mono ?_
  rintro e w' ⟨a', n', c', e1, e2, e3⟩
  obtain rfl : n = n' := by have := e2.d.lens.1; rwa [bmS_len] at this
  exact ⟨a', c', e1, e2.d, e3⟩
theorem many_gone (h : BmsD W a n c (bmS (i + 1) n)) (hi : i < 8) (hn : n < 8) : Calls Try.prog 34 #[.slice a n c, .string (chS i)] W (Giz 4 W) := by
  have := mapsDrop W a n c _ h (chS i)
  rw [dropB_no hi hn] at this
  refine this.mono ?_
  rintro e w' ⟨a', n', c', e1, e2, e3⟩
  exact ⟨a', n', c', e1, e3⟩
theorem many_at (h : BmsD W a (i + 1) c (bmS 0 (i + 1))) : ∃ b off al cl, a = some ⟨b, off, none⟩ ∧ b < W.heap.size ∧ W.cell? ⟨b, off + i * 3, none⟩ = some (.string (chS i)) ∧ W.cell? ⟨b, off + i * 3 + 1, none⟩ = some (.bool true) ∧ W.cell? ⟨b, off + i * 3 + 2, none⟩ = some (.slice al 0 cl) := by
  obtain ⟨b, off, nm', on', al, ll, cl, l', e1, e2, e3, _, x0, x1, x2, hs⟩ := h.at i (by omega)
  have e4 := Option.some.inj ((bmS_at i).symm.trans e2)
  cases e4
  obtain rfl : 0 = ll := hs.1.1
  exact ⟨b, off, al, cl, e1, e3, x0, x1, x2⟩
end
end Go.Proofs.Ytjaaieamlgghhaa
