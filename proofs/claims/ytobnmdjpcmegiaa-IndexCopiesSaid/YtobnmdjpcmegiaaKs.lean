/-
  What was told, spoilt; two pairs of indices beside one another (layer 11). Conditions: none.
-/
import Derived.Test.YtobnmdjpcmegiaaKp
namespace Go.Proofs.Ytobnmdjpcmegiaa
open Go.RowKit
set_option linter.unusedVariables false

/-- Entries of the call's own, in a block that is none of S's. -/
def Spoil (S : Nat → Prop) (W : World) (a : Option Addr) (m : Nat) : Prop := m = 0 ∨ ∃ b cur, a = some ⟨b, 0, none⟩ ∧ Blk W b 35 cur ∧ m * 5 ≤ cur.size ∧ ¬ S b
theorem Spoil.of {S : Nat → Prop} {W : World} {base m c : Nat} {a : Option Addr} {L : List En} (h : OwnG enV 35 5 W base (.slice a m c) m L) (hS : ∀ k, S k → k < base) : Spoil S W a m := by
  rcases h.1.2 with ⟨e, e'⟩ | ⟨g, cap, cur, e, hb, hg, hn, hm, hs, ht⟩
  · exact Or.inl e'
  · cases e
    refine Or.inr ⟨g, cur, rfl, hg, ?_, fun h => by have := hS g h; omega⟩
    rw [hs]
    exact Nat.mul_le_mul_right 5 hn
theorem Spoil.at {S : Nat → Prop} {W : World} {a : Option Addr} {m : Nat} (h : Spoil S W a m) (k : Nat) (hk : k < m) : ∃ b v, a = some ⟨b, 0, none⟩ ∧ W.cell? ⟨b, k * 5 + 1, none⟩ = some v ∧ W.frozen? ⟨b, k * 5 + 1, none⟩ = false ∧ ¬ S b ∧ ∀ u, Spoil S (W.setCell ⟨b, k * 5 + 1, none⟩ u) (some ⟨b, 0, none⟩) m := by
  rcases h with h | ⟨b, cur, rfl, hB, hs, hS⟩
  · omega
  · have hlt : k * 5 + 1 < cur.size := by omega
    refine ⟨b, cur[k * 5 + 1], rfl, ?_, hB.free _, hS, fun u => Or.inr ⟨b, _, rfl, hB.set _ u, by simpa using hs, hS⟩⟩
    rw [hB.cell, Array.getElem?_eq_getElem hlt]
theorem Duo.set {w0 w : World} {B1 B2 : Nat} {L1 L2 : List Pr} {S : Nat → Prop} (h : Duo w0 B1 B2 L1 L2 S w) {b : Nat} (hS : ¬ S b) (hb : w0.heap.size ≤ b) (i : Nat) (u : Value) : Duo w0 B1 B2 L1 L2 S (w.setCell ⟨b, i, none⟩ u) :=
  h.frame (fun k hk => Below.heap_setCell w ⟨b, i, none⟩ u k (fun e => hS (by rw [show k = b from e] at hk; exact hk))) (h.below.setCell hb u)
theorem Duo.same {w0 w : World} {B1 B2 : Nat} {L1 L2 : List Pr} {S : Nat → Prop} (h : Duo w0 B1 B2 L1 L2 S w) : ∃ S1, IxP w0 B1 L1 S1 w ∧ ∀ w', IxP w0 B1 L1 S1 w' → Away S1 w S1 w' → Duo w0 B1 B2 L1 L2 S w' := by
  obtain ⟨S1, S2, h1, h2, h3, h4⟩ := h.two
  exact ⟨S1, h1, fun w' q2 q3 => ⟨S1, S2, q2, h2.away q3 (fun k hk hk' => h3 k hk' hk) h1.low, h3, h4⟩⟩
theorem own_some {α : Type} {cv : α → List Value} {e : TypeId} {sz : Nat} {w : World} {base n c n' : Nat} {a : Option Addr} {l : List α} (h : OwnG cv e sz w base (.slice a n' c) n l) {b : Addr} (hb : a = some b) : (Value.slice (some b) n' c).ownBlock = some b.block := by
  rcases h.1.2 with ⟨e, e'⟩ | ⟨g, cap, cur, e, _⟩
  · cases e
    cases hb
  · cases e
    cases hb
    rfl
/-- Two pairs. -/
structure Quad (w0 : World) (B1 B2 B3 B4 : Nat) (L L' : List Pr) (S : Nat → Prop) (w : World) : Prop where
  two : Duo w0 B1 B2 L L S w
  more : ∃ T, Duo w0 B3 B4 L' L' T w ∧ ∀ k, S k → ¬ T k
theorem Quad.step {w0 w w' : World} {B1 B2 B3 B4 : Nat} {L L' L2 : List Pr} {S : Nat → Prop} (h : Duo w0 B1 B2 L L S w) {T T' : Nat → Prop} (ht : Duo w0 B3 B4 L' L' T w) (hd : ∀ k, S k → ¬ T k) (h2 : Duo w0 B3 B4 L2 L2 T' w') (ha : Away T w T' w') : Quad w0 B1 B2 B3 B4 L L2 S w' :=
  ⟨h.away ha hd ht.low, T', h2, fun k hk hk' => by
    rcases ha.mine k hk' with h1 | h1
    · exact hd k hk h1
    · have := h.lt k hk
      omega⟩
theorem Quad.first {w0 w W1 W : World} {B1 B2 B3 : Nat} {L : List Pr} {S S' : Nat → Prop} {v : Value} (h : Duo w0 B1 B2 L L S w) (hc : IxP w0 B3 L S' W1) (hS : ∀ k, S' k → w.heap.size ≤ k) (hb1 : Below w.heap.size w W1) (hb : Below W1.heap.size W1 W) (ho : OwnG pvV 66 6 W W1.heap.size v L.length L) :
    Quad w0 B1 B2 B3 W.heap.size L L S (W.alloc (.cells #[v] 30)) := by
  obtain ⟨T, h1, h2⟩ := duo_with hc hb ho
  refine ⟨h.later ((hb1.trans (hb.mono hb1.size)).alloc (Nat.le_trans hb1.size hb.size) _), T, h1, fun k hk hk' => ?_⟩
  have h3 := h.lt k hk
  rcases h2 k hk' with h4 | h4
  · have := hS k h4
    omega
  · have := hb1.size
    omega
end Go.Proofs.Ytobnmdjpcmegiaa
