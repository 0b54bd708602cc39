/-
  Both indices made anew (layer 11). Conditions: none.
-/
import Derived.Test.YtobnmdjpcmegiaaKo
namespace Go.Proofs.Ytobnmdjpcmegiaa
open Go.RowKit
set_option linter.unusedVariables false

theorem duo_with {w0 w : World} {B : Nat} {S : Nat → Prop} {L : List Pr} {v : Value} {W : World} (h : IxP w0 B L S w) (hb : Below w.heap.size w W) (ho : OwnG pvV 66 6 W w.heap.size v L.length L) :
    ∃ S', Duo w0 B W.heap.size L L S' (W.alloc (.cells #[v] 30)) ∧ ∀ k, S' k → S k ∨ w.heap.size ≤ k := by
  have hB : Below w.heap.size w (W.alloc (.cells #[v] 30)) := hb.alloc hb.size _
  refine ⟨fun k => S k ∨ (k = W.heap.size ∨ v.ownBlock = some k), ⟨S, fun k => k = W.heap.size ∨ v.ownBlock = some k, h.later hB, ⟨⟨v, 0, Blk.new W _ _, (ho.rebase (Nat.zero_le _)).alloc _, fun _ => Iff.rfl⟩, h.ok, fun k hk => ?_, (h.later hB).below⟩, fun k hk hk' => ?_, fun _ => Iff.rfl⟩, fun k hk => ?_⟩
  · rcases hk with rfl | hk
    · exact Nat.le_trans h.below.size hb.size
    · exact Nat.le_trans h.below.size (ho.1.lt k hk).1
  · have h1 := h.lt k hk
    rcases hk' with rfl | hk'
    · have := hb.size
      omega
    · have := (ho.1.lt k hk').1
      omega
  · rcases hk with hk | rfl | hk
    · exact Or.inl hk
    · exact Or.inr hb.size
    · exact Or.inr (ho.1.lt k hk).1
theorem duo_new {w0 w : World} {B : Nat} {S : Nat → Prop} (h : IxP w0 B [] S w) : ∃ S', Duo w0 B w.heap.size [] [] S' (w.alloc (.cells #[.slice none 0 0] 30)) := by
  obtain ⟨S', h1, _⟩ := duo_with h (Below.refl _ _) (OwnG.none _ _ _ _ _)
  exact ⟨S', h1⟩
end Go.Proofs.Ytobnmdjpcmegiaa
