/-
  Slices of bytes and of bools that came in as arguments (layer 5). Conditions: no more than 20000 bytes, 1000 bools.
-/
import Derived.Test.YtnhaidofblfopaaB5
import Derived.Deep.Grids
namespace Go.Proofs.Ytnhaidofblfopaa
open Go.RowKit Go.ChangeShapes Go.WideShapes Go.Deep
set_option linter.unusedVariables false

/-- A slice of bools that came in: nil, or a row of cells. -/
def IsBools (w : World) (a : Option Addr) (len cap : Nat) (B : Nat → Bool) : Prop :=
  (a = none ∧ len = 0 ∧ cap = 0) ∨ ∃ x, a = some x ∧ len ≤ cap ∧ cap ≤ maxLen ∧ ∀ i, i < cap → w.cell? (x.add i) = some (.bool (B i))
theorem bools_open {H : Type} {enc : TypeId × Value → H} {W : World} {base : Nat} {held : Bool} {a : Option Addr} {len cap : Nat} {d : DataW H} {p : List MemPlace} (h : DataW.Trod enc Try.prog W base (fun _ => true) held 23 (.slice a len cap) d p) :
    ∃ B, IsBools W a len cap B := by
  obtain ⟨fuel, hf⟩ := h
  rcases open_bools Try.underlying23 Try.underlying4 (by kernel_rfl) hf with ⟨hcs, _⟩ | ⟨x, l, c, B, hcs, _, hl, hm, _, hi⟩
  · simp [Value.cells] at hcs
    obtain ⟨rfl, rfl, rfl⟩ := hcs
    exact ⟨fun _ => false, Or.inl ⟨rfl, rfl, rfl⟩⟩
  · simp [Value.cells] at hcs
    obtain ⟨rfl, rfl, rfl⟩ := hcs
    exact ⟨B, Or.inr ⟨_, rfl, hl, hm, hi⟩⟩
theorem bools_arg {w : World} {a : Option Addr} {len cap : Nat} {B : Nat → Bool} (h : IsBools w a len cap B) (hlen : len ≤ 1000) : ∃ l, Picks w a len l ∧ len ≤ cap ∧ (a = none → cap = 0) ∧ (0 < len → ∀ x, a = some x → x.block < w.heap.size) := by
  rcases h with ⟨rfl, rfl, rfl⟩ | ⟨x, rfl, h1, h2, h3⟩
  · exact ⟨[], ⟨rfl, by omega, Or.inl rfl⟩, Nat.le_refl _, fun _ => rfl, fun h => by omega⟩
  · refine ⟨(List.range len).map B, ⟨by simp, hlen, ?_⟩, h1, (fun e => by cases e), fun h0 y e => ?_⟩
    · by_cases h0 : len = 0
      · exact Or.inl h0
      · obtain ⟨b, off, spot⟩ := x
        have hc := h3 0 (by omega)
        have hspot : spot = none := by simpa [Addr.add] using World.cell?_spot hc
        subst hspot
        refine Or.inr ⟨b, off, rfl, block_lt_of_cell hc, fun i hi => ?_⟩
        have := h3 i (by omega)
        rw [add_none] at this
        rw [this, List.getD_eq_getElem?_getD, List.getElem?_map, List.getElem?_range hi]
        rfl
    · cases e
      have hc := h3 0 (by omega)
      have := block_lt_of_cell hc
      simpa [Addr.add] using this
theorem Picks.later {w w' : World} {a : Option Addr} {len : Nat} {l : List Bool} (h : Picks w a len l) (hb : Below w.heap.size w w') : Picks w' a len l := by
  obtain ⟨h1, h2, h3⟩ := h
  refine ⟨h1, h2, ?_⟩
  rcases h3 with h3 | ⟨b, off, e, hlt, hc⟩
  · exact Or.inl h3
  · exact Or.inr ⟨b, off, e, Nat.lt_of_lt_of_le hlt hb.size, fun i hi => (hb.cell (p := ⟨b, off + i, none⟩) hlt).trans (hc i hi)⟩
theorem Picks.grownB {w w' : World} {a : Option Addr} {len : Nat} {l : List Bool} (h : Picks w a len l) (_hx : 0 < len → ∀ x, a = some x → x.block < w.heap.size) (hb : Below w.heap.size w w') : Picks w' a len l := h.later hb
theorem bytes_arg {w : World} {a : Option Addr} {len cap : Nat} {zs : List Int}
    (h : (a = none ∧ len = 0 ∧ cap = 0 ∧ zs = []) ∨ ∃ x, a = some x ∧ len ≤ cap ∧ cap ≤ maxLen ∧ zs.length = cap ∧ (∀ i, i < zs.length → w.cell? (x.add i) = some (.int .u8 (zs.getD i 0))) ∧ ∀ n ∈ zs, (Lit.int .u8 n).wf = true) (hlen : len ≤ 20000) :
    ∃ l, Bytes w a len l ∧ len ≤ cap ∧ (a = none → cap = 0) ∧ (0 < len → ∀ x, a = some x → x.block < w.heap.size) := by
  have hx : 0 < len → ∀ x, a = some x → x.block < w.heap.size := fun h0 x e => by
    rcases h with ⟨rfl, _⟩ | ⟨y, rfl, h1, h2, h3, h4, _⟩
    · cases e
    · cases e
      have := block_lt_of_cell (h4 0 (by omega))
      simpa [Addr.add] using this
  obtain ⟨l, hB⟩ : ∃ l, Bytes w a len l := ⟨_, bytes_of h hlen⟩
  rcases h with ⟨rfl, rfl, rfl, _⟩ | ⟨y, rfl, h1, _⟩
  · exact ⟨l, hB, Nat.le_refl _, fun _ => rfl, hx⟩
  · exact ⟨l, hB, h1, (fun e => by cases e), hx⟩
end Go.Proofs.Ytnhaidofblfopaa
