/-
  Plain mathematics of entries: which may be, their cells (layer 7; a seat whose program puts and gets no fields). Conditions: none.
-/
import Derived.Test.YtipljkegmhclkaaBl
import Derived.Deep.WholeRow
import Derived.Deep.MidRow
import Derived.Laws.Rows
import Derived.Laws.Tables
namespace Go.Proofs.Ytipljkegmhclkaa
open Go.RowKit
set_option linter.unusedVariables false

/-- An int. -/
def I64 (x : Int) : Prop := -9223372036854775808 ≤ x ∧ x ≤ 9223372036854775807
/-- An entry: Kind, Start, Count, Size, Sum. -/
abbrev En := Int × Int × Int × Int × Int
def enV (x : En) : List Value := [.int .i64 x.1, .int .i64 x.2.1, .int .i64 x.2.2.1, .int .i64 x.2.2.2.1, .int .u32 x.2.2.2.2]
def MayE (x : En) (c : Int) : Prop := (0 ≤ c ∧ c ≤ 6) ∧
  (((x.1 = 0 ∨ x.1 = 1) ∧ x.2.1 = 0 ∧ x.2.2.1 = 0 ∧ x.2.2.2.1 = 0 ∧ x.2.2.2.2 = 0) ∨
   (x.1 = 2 ∧ 2 ≤ x.2.1 ∧ x.2.2.1 = 2 ^ c.toNat ∧ x.2.1 ≤ 65536 - x.2.2.1 ∧ x.2.2.2.1 = 0) ∨
   (x.1 = 3 ∧ 2 ≤ x.2.1 ∧ 1 ≤ x.2.2.1 ∧ x.2.2.1 < 2 ^ c.toNat ∧ x.2.1 ≤ 65536 - x.2.2.1 ∧ 1 ≤ x.2.2.2.1 ∧ x.2.2.2.1 ≤ x.2.2.1 * 16 ∧ (x.2.2.1 - 1) * 16 < x.2.2.2.1))
instance (x : En) (c : Int) : Decidable (MayE x c) := by unfold MayE; infer_instance
def EnOk (x : En) : Prop := I64 x.1 ∧ I64 x.2.1 ∧ I64 x.2.2.1 ∧ I64 x.2.2.2.1 ∧ 0 ≤ x.2.2.2.2 ∧ x.2.2.2.2 < 4294967296
def enZ : En := (0, 0, 0, 0, 0)
theorem pow_le6 {c : Int} (h : 0 ≤ c ∧ c ≤ 6) : (1 : Int) ≤ 2 ^ c.toNat ∧ (2 : Int) ^ c.toNat ≤ 64 := by
  have : c.toNat ≤ 6 := by omega
  generalize c.toNat = n at this
  match n, this with
  | 0, _ => decide
  | 1, _ => decide
  | 2, _ => decide
  | 3, _ => decide
  | 4, _ => decide
  | 5, _ => decide
  | 6, _ => decide
theorem MayE.bounds {x : En} {c : Int} (h : MayE x c) : (0 ≤ x.1 ∧ x.1 < 4) ∧ (0 ≤ x.2.1 ∧ x.2.1 < 65536) ∧ (0 ≤ x.2.2.1 ∧ x.2.2.1 ≤ 64) ∧ (0 ≤ x.2.2.2.1 ∧ x.2.2.2.1 ≤ 1024) := by
  obtain ⟨hc, h⟩ := h
  obtain ⟨h1, h2⟩ := pow_le6 hc
  generalize (2 : Int) ^ c.toNat = p at h h1 h2
  omega
theorem enV_len (x : En) : (enV x).length = 5 := rfl
theorem enV_one (x : En) : ∀ u ∈ enV x, u.oneCell' = true := fun u hu => by
  simp only [enV, List.mem_cons, List.not_mem_nil, or_false] at hu
  rcases hu with rfl | rfl | rfl | rfl | rfl <;> rfl
theorem enV_all (x : En) : (enV x).toArray.all (·.oneCell') = true := all_oneCell_toArray fun v hv => enV_one x v hv
theorem entry_size : (Try.prog.info? 72).map (·.size) = some 5 := by kernel_rfl
theorem cells5 {W : World} {X : Nat} {a b c d e : Value} (h : Blk W X 72 #[a, b, c, d, e]) : W.cell? ⟨X, 0, none⟩ = some a ∧ W.cell? ⟨X, 1, none⟩ = some b ∧ W.cell? ⟨X, 2, none⟩ = some c ∧ W.cell? ⟨X, 3, none⟩ = some d ∧ W.cell? ⟨X, 4, none⟩ = some e := by
  rw [h.cell, h.cell, h.cell, h.cell, h.cell]
  exact ⟨rfl, rfl, rfl, rfl, rfl⟩
end Go.Proofs.Ytipljkegmhclkaa
