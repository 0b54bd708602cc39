/-
  What Great answers, of whatever table that came in (layer 8). Conditions: the outer slice's cells are slices.
-/
import Derived.Test.YtdffgnpldapciaaGreatDoorB9
namespace Go.Proofs.YtdffgnpldapciaaGreatDoor
open Go.RowKit
set_option linter.unusedVariables false

/-- The outer slice of whatever table that came in. -/
def OutR (w : World) (a : Option Addr) (len : Nat) (g : Nat → Option Addr × Nat × Nat) : Prop := len ≤ maxLen ∧ (∀ i, i < len → (g i).2.1 ≤ maxLen) ∧ (0 < len → ∃ b off, a = some ⟨b, off, none⟩ ∧ b < w.heap.size ∧ ∀ i, i < len → w.cell? ⟨b, off + i, none⟩ = some (.slice (g i).1 (g i).2.1 (g i).2.2))
theorem OutR.later {w w' : World} {a : Option Addr} {len : Nat} {g : Nat → Option Addr × Nat × Nat} (h : OutR w a len g) (hb : Below w.heap.size w w') : OutR w' a len g := by
  refine ⟨h.1, h.2.1, fun h0 => ?_⟩
  obtain ⟨b, off, h1, h2, h3⟩ := h.2.2 h0
  exact ⟨b, off, h1, Nat.lt_of_lt_of_le h2 hb.size, fun i hi => (hb.cell (p := ⟨b, off + i, none⟩) h2).trans (h3 i hi)⟩
def greatN (g : Nat → Option Addr × Nat × Nat) : Nat → Nat
  | 0 => 0
  | i + 1 => greatN g i + 1 + min (g i).2.1 6000
theorem greatN_mono (g : Nat → Option Addr × Nat × Nat) (i : Nat) : ∀ d, greatN g i ≤ greatN g (i + d)
  | 0 => Nat.le_refl _
  | d + 1 => by
    have := greatN_mono g i d
    have e : greatN g (i + (d + 1)) = greatN g (i + d) + 1 + min (g (i + d)).2.1 6000 := rfl
    omega
theorem greatN_le (g : Nat → Option Addr × Nat × Nat) : ∀ n, n ≤ greatN g n
  | 0 => Nat.le_refl _
  | n + 1 => by
    have := greatN_le g n
    have e : greatN g (n + 1) = greatN g n + 1 + min (g n).2.1 6000 := rfl
    omega
theorem greatN_small {g : Nat → Option Addr × Nat × Nat} {n : Nat} (h : ¬ 6000 < greatN g n) : n ≤ 6000 ∧ ∀ i, i < n → (g i).2.1 ≤ 6000 := by
  have h1 := greatN_le g n
  refine ⟨by omega, fun i hi => ?_⟩
  have h2 := greatN_mono g (i + 1) (n - (i + 1))
  rw [show i + 1 + (n - (i + 1)) = n by omega] at h2
  have e : greatN g (i + 1) = greatN g i + 1 + min (g i).2.1 6000 := rfl
  omega
theorem run_min9 (P : Program) (ts : Array TypeId) (t : TypeId) (x y : Int) (w : World) : (Builtin.min_ ts t #[.int .i64 x, .int .i64 y]).run P w = .ok (.int .i64 (if y < x then y else x)) w := by
  simp [Builtin.min_, Builtin.min2]
end Go.Proofs.YtdffgnpldapciaaGreatDoor
