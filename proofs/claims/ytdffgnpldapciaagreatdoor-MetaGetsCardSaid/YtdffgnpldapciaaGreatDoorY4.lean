/-
  A span, and a list of spans, that came in as arguments. Condition: the list has no more than 100000 of them.
-/
import Derived.Test.YtdffgnpldapciaaGreatDoorS4
import Derived.Deep.SlicePairs
import Derived.Lib.SmallJoins
namespace Go.Proofs.YtdffgnpldapciaaGreatDoor
open Go.RowKit Go.ChangeShapes Go.WideShapes Go.Deep Go.Joins

/-- A slice of spans that came in: nil, or a row of cells. -/
def IsSpans (w : World) (a : Option Addr) (len cap : Nat) (zs : List Sp) : Prop :=
  (a = none ∧ len = 0 ∧ cap = 0 ∧ zs = []) ∨
  ∃ x, a = some x ∧ len ≤ cap ∧ cap ≤ maxLen ∧ zs.length = cap ∧ ∀ i, i < cap → w.cell? (x.add (i * 2)) = some (.int .i64 (spAt zs i).1) ∧ w.cell? (x.add (i * 2 + 1)) = some (.int .i64 (spAt zs i).2) ∧ (Lit.int .i64 (spAt zs i).1).wf = true ∧ (Lit.int .i64 (spAt zs i).2).wf = true
set_option maxRecDepth 100000 in
theorem span_open {H : Type} {enc : TypeId × Value → H} {W : World} {r : Reach} {b0 base : Nat} {spare : Nat → Bool} {held : Bool} {v : Value} {d : DataW H} {p : List MemPlace} (hv : Value.okWide Tryz.prog W r b0 59 v) (h : DataW.Trod enc Tryz.prog W base spare held 59 v d p) :
    ∃ f t, v = .agg #[.int .i64 f, .int .i64 t] ∧ (Lit.int .i64 f).wf = true ∧ (Lit.int .i64 t).wf = true := by
  obtain ⟨v0, v1, y0, y1, n, rfl, _, _, h0, h1⟩ := open_agg2 Tryz.underlying59 (by kernel_rfl) (by kernel_rfl) hv h
  obtain ⟨f, e0, _, w0⟩ := DataW.trod_int Tryz.underlying3 h0
  obtain ⟨t, e1, _, w1⟩ := DataW.trod_int Tryz.underlying3 h1
  obtain rfl : v0 = .int .i64 f := by simpa using e0
  obtain rfl : v1 = .int .i64 t := by simpa using e1
  exact ⟨f, t, rfl, w0, w1⟩
set_option maxRecDepth 100000 in
theorem spans_open {H : Type} {enc : TypeId × Value → H} {W : World} {base : Nat} {held : Bool} {a : Option Addr} {len cap : Nat} {d : DataW H} {p : List MemPlace} (h : DataW.Trod enc Tryz.prog W base (fun _ => true) held 55 (.slice a len cap) d p) :
    ∃ zs, IsSpans W a len cap zs := by
  obtain ⟨fuel, hf⟩ := h
  rcases open_slice_pairs Tryz.underlying55 Tryz.underlying59 (by kernel_rfl) rfl rfl (by kernel_rfl) (by kernel_rfl) hf with ⟨hcs, _⟩ | ⟨x, l, c, m, n, V0, V1, D0, D1, P0, P1, hcs, _, hl, hm, hmm, _, hi⟩
  · simp [Value.cells] at hcs
    obtain ⟨rfl, rfl, rfl⟩ := hcs
    exact ⟨[], Or.inl ⟨rfl, rfl, rfl, rfl⟩⟩
  · simp [Value.cells] at hcs
    obtain ⟨rfl, rfl, rfl⟩ := hcs
    have hmc : m = cap := by simpa using hmm
    subst hmc
    have hs : ∀ i, i < m → ∃ s : Sp, W.cell? (x.add (i * 2)) = some (.int .i64 s.1) ∧ W.cell? (x.add (i * 2 + 1)) = some (.int .i64 s.2) ∧ (Lit.int .i64 s.1).wf = true ∧ (Lit.int .i64 s.2).wf = true := fun i him => by
      obtain ⟨g1, g2, g3, g4⟩ := hi i him
      obtain ⟨f, e0, _, w0⟩ := DataW.trod_int Tryz.underlying3 g3
      obtain ⟨t, e1, _, w1⟩ := DataW.trod_int Tryz.underlying3 g4
      have e0' : V0 i = .int .i64 f := by simpa using e0
      have e1' : V1 i = .int .i64 t := by simpa using e1
      exact ⟨(f, t), by rw [g1, e0'], by rw [g2, e1'], w0, w1⟩
    have hz : ∃ g : Nat → Sp, ∀ i, i < m → W.cell? (x.add (i * 2)) = some (.int .i64 (g i).1) ∧ W.cell? (x.add (i * 2 + 1)) = some (.int .i64 (g i).2) ∧ (Lit.int .i64 (g i).1).wf = true ∧ (Lit.int .i64 (g i).2).wf = true :=
      ⟨fun i => if h : i < m then Classical.choose (hs i h) else (0, 0), fun i him => by
        dsimp only
        rw [dif_pos him]
        exact Classical.choose_spec (hs i him)⟩
    obtain ⟨g, hg⟩ := hz
    refine ⟨(List.range m).map g, Or.inr ⟨x, rfl, hl, hm, by simp, fun i him => ?_⟩⟩
    have e : spAt ((List.range m).map g) i = g i := by
      unfold spAt
      rw [List.getD_eq_getElem?_getD, List.getElem?_map, List.getElem?_range him]
      rfl
    rw [e]
    exact hg i him
/-- What a list that came in reads as. -/
theorem spans_arg {w : World} {a : Option Addr} {len cap : Nat} {zs : List Sp} (h : IsSpans w a len cap zs) (hlen : len ≤ 100000) : ∃ l, Spans w a len l ∧ len ≤ cap ∧ (a = none → cap = 0) ∧ ∀ i, i < len → (Lit.int .i64 (spAt l i).1).wf = true ∧ (Lit.int .i64 (spAt l i).2).wf = true := by
  rcases h with ⟨rfl, rfl, rfl, rfl⟩ | ⟨x, rfl, h1, h2, h3, h4⟩
  · exact ⟨[], Reads.nil _ _ _, Nat.le_refl _, fun _ => rfl, fun i hi => by omega⟩
  · have ht : ∀ i, i < len → spAt (zs.take len) i = spAt zs i := fun i hi => by
      unfold spAt
      rw [List.getD_eq_getElem?_getD, List.getD_eq_getElem?_getD, List.getElem?_take, if_pos hi]
    refine ⟨zs.take len, ⟨by rw [List.length_take]; omega, by omega, ?_⟩, h1, (fun e => by cases e), fun i hi => ?_⟩
    · by_cases h0 : len = 0
      · exact Or.inl h0
      · obtain ⟨b, off, spot⟩ := x
        have hc := (h4 0 (by omega)).1
        have hspot : spot = none := by simpa [Addr.add] using World.cell?_spot hc
        subst hspot
        refine Or.inr ⟨b, off, rfl, block_lt_of_cell hc, fun j u hu => ?_⟩
        have hlt : j < (zs.take len).length * 2 := by
          rcases Nat.lt_or_ge j ((zs.take len).length * 2) with g | g
          · exact g
          · rw [List.getElem?_eq_none (by rw [flat_len sp_rowed.len]; exact g)] at hu
            cases hu
        rw [List.length_take] at hlt
        have hi : j / 2 < len := by omega
        have e := flat_at sp_rowed.len (zs.take len) (j / 2) (j % 2) _ (spAt_some (zs.take len) (j / 2) (by rw [List.length_take]; omega)) (Nat.mod_lt _ (by decide))
        rw [show j / 2 * 2 + j % 2 = j by omega, hu, ht _ hi] at e
        obtain ⟨g1, g2, _, _⟩ := h4 (j / 2) (by omega)
        rw [add_none] at g1 g2
        have : j % 2 = 0 ∨ j % 2 = 1 := by omega
        rcases this with k | k
        · rw [k] at e
          have e' : u = .int .i64 (spAt zs (j / 2)).1 := by simpa [spCells] using e
          rw [e', show off + j = off + j / 2 * 2 by omega]
          exact g1
        · rw [k] at e
          have e' : u = .int .i64 (spAt zs (j / 2)).2 := by simpa [spCells] using e
          rw [e', show off + j = off + (j / 2 * 2 + 1) by omega]
          exact g2
    · rw [ht i hi]
      exact ⟨(h4 i (by omega)).2.2.1, (h4 i (by omega)).2.2.2⟩
end Go.Proofs.YtdffgnpldapciaaGreatDoor
