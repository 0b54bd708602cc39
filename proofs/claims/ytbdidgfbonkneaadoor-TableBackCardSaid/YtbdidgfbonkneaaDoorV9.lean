/-
  Tables and entries that came in as arguments (layer 8). Conditions: none.
-/
import Derived.Test.YtbdidgfbonkneaaDoorR9
import Derived.Deep.Slices
import Derived.Lib.SmallJoins
namespace Go.Proofs.YtbdidgfbonkneaaDoor
open Go.RowKit Go.ChangeShapes Go.WideShapes Go.Deep
set_option linter.unusedVariables false
set_option maxRecDepth 100000

theorem some_at {α : Type} {xs : List α} (i : Nat) (h : i < xs.length) : ∃ y, xs[i]? = some y := ⟨_, List.getElem?_eq_getElem h⟩
section
variable {H : Type} {enc : TypeId × Value → H} {W : World} {base : Nat} {spare : Nat → Bool} {held : Bool}
theorem en_of_trod {fuel : Nat} {cs : List Value} {x : DataW H × List MemPlace} (hlen : cs.length = 5) (hf : DataW.trod enc Tryd.prog W base spare held fuel 47 cs = some x) : ∃ e : En, cs = enV e ∧ EnOk e := by
  obtain ⟨xs, q, _, _, _, hxl, hx⟩ := DataW.trod_struct Tryd.underlying47 hf
  have hl : xs.length = 5 := hxl
  have ci : Tryd.prog.cellsOf 3 = 1 := by kernel_rfl
  have cu : Tryd.prog.cellsOf 45 = 1 := by kernel_rfl
  match cs, hlen with
  | [c0, c1, c2, c3, c4], _ =>
    obtain ⟨y0, g0⟩ := some_at (xs := xs) 0 (by omega)
    obtain ⟨y1, g1⟩ := some_at (xs := xs) 1 (by omega)
    obtain ⟨y2, g2⟩ := some_at (xs := xs) 2 (by omega)
    obtain ⟨y3, g3⟩ := some_at (xs := xs) 3 (by omega)
    obtain ⟨y4, g4⟩ := some_at (xs := xs) 4 (by omega)
    have t0 := (hx 0 _ rfl).trans g0
    have t1 := (hx 1 _ rfl).trans g1
    have t2 := (hx 2 _ rfl).trans g2
    have t3 := (hx 3 _ rfl).trans g3
    have t4 := (hx 4 _ rfl).trans g4
    obtain ⟨k, e0, _, w0⟩ := DataW.trod_int Tryd.underlying3 t0
    obtain ⟨s, e1, _, w1⟩ := DataW.trod_int Tryd.underlying3 t1
    obtain ⟨n, e2, _, w2⟩ := DataW.trod_int Tryd.underlying3 t2
    obtain ⟨z, e3, _, w3⟩ := DataW.trod_int Tryd.underlying3 t3
    obtain ⟨m, e4, _, w4⟩ := DataW.trod_int Tryd.underlying45 t4
    obtain rfl : c0 = .int .i64 k := by simpa [ci] using e0
    obtain rfl : c1 = .int .i64 s := by simpa [ci] using e1
    obtain rfl : c2 = .int .i64 n := by simpa [ci] using e2
    obtain rfl : c3 = .int .i64 z := by simpa [ci] using e3
    obtain rfl : c4 = .int .u32 m := by simpa [cu] using e4
    have b0 := bounds_i64 w0
    have b1 := bounds_i64 w1
    have b2 := bounds_i64 w2
    have b3 := bounds_i64 w3
    have b4 := bounds_u32 w4
    refine ⟨(k, s, n, z, m), rfl, ?_⟩
    unfold EnOk I64
    dsimp only
    omega
set_option maxRecDepth 100000 in
theorem entry_open {r : Reach} {b0 : Nat} {v : Value} {d : DataW H} {p : List MemPlace} (hv : Value.okWide Tryd.prog W r b0 47 v) (h : DataW.Trod enc Tryd.prog W base spare held 47 v d p) :
    ∃ k s n z m, v = .agg #[.int .i64 k, .int .i64 s, .int .i64 n, .int .i64 z, .int .u32 m] ∧ EnOk (k, s, n, z, m) := by
  obtain ⟨cs, rfl, hsz⟩ := okWide_struct Tryd.underlying47 hv
  have h5 : cs.size = 5 := hsz.trans (by kernel_rfl)
  obtain ⟨fuel, hf⟩ := h
  obtain ⟨⟨k, s, n, z, m⟩, he, ho⟩ := en_of_trod (cs := cs.toList) (by simpa using h5) hf
  exact ⟨k, s, n, z, m, by obtain ⟨l⟩ := cs; dsimp only at he; rw [he]; rfl, ho⟩
set_option maxRecDepth 100000 in
/-- A leaf that came in: if it is short it reads. -/
theorem leaf_open {fuel : Nat} {cs : List Value} {x : DataW H × List MemPlace} (hf : DataW.trod enc Tryd.prog W base (fun _ => true) held fuel 51 cs = some x) :
    ∃ (a : Option Addr) (len cap : Nat), cs = [.slice a len cap] ∧ len ≤ maxLen ∧ (len ≤ 6000 → ∃ xs, LfR W (a, len, cap, xs)) := by
  have c5 : Tryd.prog.cellsOf 47 = 5 := by kernel_rfl
  rcases open_slice Tryd.underlying51 hf with ⟨rfl, _⟩ | ⟨a, len, cap, m, n, D, Pl, rfl, hb, hl, hm, hmm, _, hx⟩
  · exact ⟨none, 0, 0, rfl, Nat.zero_le _, fun _ => ⟨[], Reads.nil _ _ _, Nat.le_refl _, fun _ => rfl, by simp⟩⟩
  · have hmc : m = cap := by simpa using hmm
    subst hmc
    refine ⟨some a, len, m, rfl, Nat.le_trans hl hm, fun h6 => ?_⟩
    have each : ∀ i, i < len → ∃ e : En, EnOk e ∧ ∀ j u, (enV e)[j]? = some u → W.cell? (a.add (i * 5 + j)) = some u := fun i hi => by
      obtain ⟨cs', h1, h2⟩ := hx i (by omega)
      rw [c5] at h1
      obtain ⟨_, hlen, hcell⟩ := World.cells?_some h1
      obtain ⟨e, he, ho⟩ := en_of_trod hlen h2
      refine ⟨e, ho, fun j u hu => ?_⟩
      have hj : j < 5 := by
        rcases Nat.lt_or_ge j 5 with h' | h'
        · exact h'
        · rw [List.getElem?_eq_none (by rw [enV_len]; exact h')] at hu
          cases hu
      have := hcell j hj
      rw [add_add] at this
      rw [this, he]
      exact hu
    obtain ⟨g, hg⟩ := choose_lt (α := En) each
    refine ⟨(List.range len).map g, ⟨by simp, (show len ≤ 100000000 by omega), ?_⟩, hl, fun e => (by cases e), fun y hy => ?_⟩
    · by_cases h0 : len = 0
      · exact Or.inl h0
      · obtain ⟨b, off, spot⟩ := a
        have hc := (hg 0 (by omega)).2 0 _ rfl
        have hspot : spot = none := by simpa [Addr.add] using World.cell?_spot hc
        subst hspot
        refine Or.inr ⟨b, off, rfl, block_lt_of_cell hc, fun j u hu => ?_⟩
        have hlt : j < len * 5 := by
          rcases Nat.lt_or_ge j (len * 5) with h' | h'
          · exact h'
          · rw [List.getElem?_eq_none (by rw [flat_len enV_len, List.length_map, List.length_range]; exact h')] at hu
            cases hu
        have hd : j / 5 < len := by omega
        have hat := flat_at enV_len ((List.range len).map g) (j / 5) (j % 5) (g (j / 5)) (by rw [List.getElem?_map, List.getElem?_range hd]; rfl) (Nat.mod_lt _ (by omega))
        rw [show j / 5 * 5 + j % 5 = j by omega, hu] at hat
        have := (hg (j / 5) hd).2 (j % 5) u hat.symm
        rw [add_none, show j / 5 * 5 + j % 5 = j by omega] at this
        exact this
    · obtain ⟨i, hi, rfl⟩ := List.mem_map.1 hy
      exact (hg i (List.mem_range.1 hi)).1
/-- A table that came in: its outer slice, and its leaves where they are short. -/
def TabArg (w : World) (a : Option Addr) (len cap : Nat) : Prop := Caps a len cap ∧ ∃ g : Nat → Option Addr × Nat × Nat, OutR w a len g ∧ ∀ i, i < len → (g i).2.1 ≤ 6000 → ∃ xs, LfR w ((g i).1, (g i).2.1, (g i).2.2, xs)
set_option maxRecDepth 100000 in
theorem tab_open {r : Reach} {b0 : Nat} {v : Value} {d : DataW H} {p : List MemPlace} (hv : Value.okWide Tryd.prog W r b0 24 v) (h : DataW.Trod enc Tryd.prog W base (fun _ => true) held 24 v d p) :
    ∃ a len cap, v = .agg #[.slice a len cap] ∧ TabArg W a len cap := by
  obtain ⟨cs, rfl, hsz⟩ := okWide_struct Tryd.underlying24 hv
  have h1 : cs.size = 1 := hsz.trans (by kernel_rfl)
  obtain ⟨fuel, hf⟩ := h
  obtain ⟨xs, q, _, _, _, hxl, hx⟩ := DataW.trod_struct Tryd.underlying24 hf
  have hl : xs.length = 1 := hxl
  obtain ⟨y0, g0⟩ := some_at (xs := xs) 0 (by omega)
  have t0 := (hx 0 _ rfl).trans g0
  have c1 : Tryd.prog.cellsOf 22 = 1 := by kernel_rfl
  have ce : Tryd.prog.cellsOf 51 = 1 := by kernel_rfl
  obtain ⟨l⟩ := cs
  match l, h1 with
  | [c0], _ =>
    have t1 : DataW.trod enc Tryd.prog W base (fun _ => true) held q 22 [c0] = some y0 := by simpa [c1, Value.cells] using t0
    rcases open_slice1 Tryd.underlying22 ce t1 with ⟨hc, _⟩ | ⟨a, len, cap, m, n, V, D, Pl, hc, hb, hle, hm, hmm, _, hi⟩
    · obtain rfl : c0 = .slice none 0 0 := by simpa using hc
      exact ⟨none, 0, 0, rfl, ⟨fun _ => rfl, Nat.le_refl _⟩, fun _ => (none, 0, 0), ⟨Nat.zero_le _, fun i hi => by omega, fun h => by omega⟩, fun i hi => by omega⟩
    · obtain rfl : c0 = .slice (some a) len cap := by simpa using hc
      have hmc : m = cap := by simpa using hmm
      subst hmc
      have each : ∀ i, i < len → ∃ g : Option Addr × Nat × Nat, W.cell? (a.add i) = some (.slice g.1 g.2.1 g.2.2) ∧ g.2.1 ≤ maxLen ∧ (g.2.1 ≤ 6000 → ∃ xs, LfR W (g.1, g.2.1, g.2.2, xs)) := fun i hil => by
        obtain ⟨k1, k2⟩ := hi i (by omega)
        obtain ⟨al, ll, cl, e1, e2, e3⟩ := leaf_open k2
        obtain e1 : V i = .slice al ll cl := by simpa using e1
        exact ⟨(al, ll, cl), by rw [k1, e1], e2, e3⟩
      obtain ⟨g, hg⟩ := choose_lt (α := Option Addr × Nat × Nat) each
      refine ⟨some a, len, m, rfl, ⟨fun e => (by cases e), hle⟩, g, ⟨Nat.le_trans hle hm, fun i hil => (hg i hil).2.1, fun h0 => ?_⟩, fun i hil => (hg i hil).2.2⟩
      obtain ⟨b, off, spot⟩ := a
      have hc := (hg 0 h0).1
      have hspot : spot = none := by simpa [Addr.add] using World.cell?_spot hc
      subst hspot
      refine ⟨b, off, rfl, block_lt_of_cell hc, fun i hil => ?_⟩
      have := (hg i hil).1
      rwa [add_none] at this
end
/-- A table that came in and is small reads. -/
theorem TabArg.tab {w : World} {a : Option Addr} {len cap : Nat} (h : TabArg w a len cap) {g : Nat → Option Addr × Nat × Nat} (hg : OutR w a len g) (hi : ∀ i, i < len → (g i).2.1 ≤ 6000 → ∃ xs, LfR w ((g i).1, (g i).2.1, (g i).2.2, xs)) (hs : ¬ 6000 < greatN g len) : ∃ T, Tab w a len cap T := by
  obtain ⟨h1, h2⟩ := greatN_small hs
  obtain ⟨xs, hxs⟩ := choose_lt (α := List En) (fun i (hil : i < len) => hi i hil (h2 i hil))
  refine ⟨_, (List.range len).map (fun i => ((g i).1, (g i).2.1, (g i).2.2, xs i)), ⟨⟨by simp, by omega, ?_⟩, fun d hd => ?_⟩, h.1, rfl, h1, fun d hd => ?_⟩
  · by_cases h0 : len = 0
    · exact Or.inl h0
    · obtain ⟨b, off, e, hlt, hc⟩ := hg.2.2 (by omega)
      refine Or.inr ⟨b, off, e, hlt, fun j u hu => ?_⟩
      have hlt : j < len * 1 := by
        rcases Nat.lt_or_ge j (len * 1) with h' | h'
        · exact h'
        · rw [List.getElem?_eq_none (by rw [flat_len lf_rowed.len, List.length_map, List.length_range]; exact h')] at hu
          cases hu
      rw [Nat.mul_one] at hlt
      have hat := flat_at lf_rowed.len ((List.range len).map (fun i => ((g i).1, (g i).2.1, (g i).2.2, xs i))) j 0 _ (by rw [List.getElem?_map, List.getElem?_range hlt]; rfl) (by omega)
      rw [Nat.mul_one, Nat.add_zero, hu] at hat
      obtain rfl : u = .slice (g j).1 (g j).2.1 (g j).2.2 := Option.some.inj hat
      exact hc j hlt
  · obtain ⟨i, hil, rfl⟩ := List.mem_map.1 hd
    exact hxs i (List.mem_range.1 hil)
  · obtain ⟨i, hil, rfl⟩ := List.mem_map.1 hd
    have := h2 i (List.mem_range.1 hil)
    dsimp only
    omega
end Go.Proofs.YtbdidgfbonkneaaDoor
