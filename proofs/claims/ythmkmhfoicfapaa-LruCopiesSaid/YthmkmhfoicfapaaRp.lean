/-
  Slices of acts that came in; 'heavy' (layer 10). Conditions: none.
-/
import Derived.Test.YthmkmhfoicfapaaRo
import Derived.Lib.SmallJoins
import Derived.Deep.Slices
import Derived.Deep.SlicePairs
namespace Go.Proofs.Ythmkmhfoicfapaa
open Go.RowKit Go.ChangeShapes Go.WideShapes Go.Deep
set_option linter.unusedVariables false
set_option maxRecDepth 100000

/-- An act's cells. -/
abbrev AcA := Int × Int × Int × (Option Addr × Nat × Nat) × Bool
def acV (x : AcA) : List Value := [.int .i64 x.1, .int .i64 x.2.1, .int .i64 x.2.2.1, .slice x.2.2.2.1.1 x.2.2.2.1.2.1 x.2.2.2.1.2.2, .bool x.2.2.2.2]
/-- A slice of bytes that came in. -/
def BArg (w : World) (a : Option Addr) (len cap : Nat) : Prop := len ≤ 9223372036854775807 ∧ ∃ zs : List Int, (a = none ∧ len = 0 ∧ cap = 0 ∧ zs = []) ∨ ∃ x, a = some x ∧ len ≤ cap ∧ cap ≤ maxLen ∧ zs.length = cap ∧ (∀ i, i < zs.length → w.cell? (x.add i) = some (.int .u8 (zs.getD i 0))) ∧ ∀ n ∈ zs, (Lit.int .u8 n).wf = true
theorem BArg.nil {w : World} {a : Option Addr} {len cap : Nat} (h : BArg w a len cap) : a = none → cap = 0 := fun e => by
  obtain ⟨_, zs, ⟨_, _, h, _⟩ | ⟨x, h, _⟩⟩ := h
  · exact h
  · rw [h] at e; cases e
theorem BArg.bytes {w : World} {a : Option Addr} {len cap : Nat} (h : BArg w a len cap) (hl : len ≤ 20000) : ∃ l, Bytes w a len l := by
  obtain ⟨_, zs, hz⟩ := h
  exact ⟨_, bytes_of hz hl⟩
/-- Acts that came in. -/
structure ActsIn (w : World) (a : Option Addr) (len : Nat) (g : Nat → AcA) : Prop where
  big : len ≤ 9223372036854775807
  rows : 0 < len → ∃ b off, a = some ⟨b, off, none⟩ ∧ b < w.heap.size ∧ ∀ i, i < len → ∀ j v, (acV (g i))[j]? = some v → w.cell? ⟨b, off + (i * 5 + j), none⟩ = some v
  bytes : ∀ i, i < len → BArg w (g i).2.2.2.1.1 (g i).2.2.2.1.2.1 (g i).2.2.2.1.2.2 ∧ (-9223372036854775808 ≤ (g i).2.1 ∧ (g i).2.1 ≤ 9223372036854775807)
section
variable {H : Type} {enc : TypeId × Value → H} {W : World} {base : Nat} {held : Bool}
theorem some_at {α : Type} {xs : List α} (i : Nat) (h : i < xs.length) : ∃ y, xs[i]? = some y := ⟨_, List.getElem?_eq_getElem h⟩
theorem b_of_trod {fuel : Nat} {c : Value} {x : DataW H × List MemPlace} (hf : DataW.trod enc Try.prog W base (fun _ => true) held fuel 34 [c] = some x) : ∃ a len cap, c = .slice a len cap ∧ BArg W a len cap := by
  rcases open_ints Try.underlying34 Try.underlying5 (by kernel_rfl) hf with ⟨hcs, _⟩ | ⟨x, l, c', zs, hcs, _, hl, hm, hz, _, hcell, hwz⟩
  · obtain rfl : c = .slice none 0 0 := by simpa using hcs
    exact ⟨none, 0, 0, rfl, Nat.zero_le _, [], .inl ⟨rfl, rfl, rfl, rfl⟩⟩
  · obtain rfl : c = .slice (some x) l c' := by simpa using hcs
    exact ⟨some x, l, c', rfl, by unfold maxLen at hm; omega, zs, .inr ⟨_, rfl, hl, hm, by simpa using hz, hcell, hwz⟩⟩
theorem ac_of_trod {fuel : Nat} {cs : List Value} {x : DataW H × List MemPlace} (hlen : cs.length = 5) (hf : DataW.trod enc Try.prog W base (fun _ => true) held fuel 36 cs = some x) : ∃ g : AcA, cs = acV g ∧ BArg W g.2.2.2.1.1 g.2.2.2.1.2.1 g.2.2.2.1.2.2 ∧ (-9223372036854775808 ≤ g.2.1 ∧ g.2.1 ≤ 9223372036854775807) := by
  obtain ⟨xs, q, _, _, _, hxl, hx⟩ := DataW.trod_struct Try.underlying36 hf
  have hl : xs.length = 5 := hxl
  have ci : Try.prog.cellsOf 3 = 1 := by kernel_rfl
  have cb : Try.prog.cellsOf 34 = 1 := by kernel_rfl
  have co : Try.prog.cellsOf 4 = 1 := by kernel_rfl
  match cs, hlen with
  | [c0, c1, c2, c3, c4], _ =>
    obtain ⟨y0, g0⟩ := some_at (xs := xs) 0 (by omega)
    obtain ⟨y1, g1⟩ := some_at (xs := xs) 1 (by omega)
    obtain ⟨y2, g2⟩ := some_at (xs := xs) 2 (by omega)
    obtain ⟨y3, g3⟩ := some_at (xs := xs) 3 (by omega)
    obtain ⟨y4, g4⟩ := some_at (xs := xs) 4 (by omega)
    have t3 := (hx 3 _ rfl).trans g3
    have t4 := (hx 4 _ rfl).trans g4
    obtain ⟨k0, e0, _, w0⟩ := DataW.trod_int Try.underlying3 ((hx 0 _ rfl).trans g0)
    obtain ⟨k1, e1, _, w1⟩ := DataW.trod_int Try.underlying3 ((hx 1 _ rfl).trans g1)
    obtain ⟨k2, e2, _, w2⟩ := DataW.trod_int Try.underlying3 ((hx 2 _ rfl).trans g2)
    have t3' : DataW.trod enc Try.prog W base (fun _ => true) held q 34 [c3] = some y3 := by simpa [cb] using t3
    have t4' : DataW.trod enc Try.prog W base (fun _ => true) held q 4 [c4] = some y4 := by simpa [co] using t4
    obtain ⟨a, len, cap, rfl, hb⟩ := b_of_trod t3'
    obtain ⟨on, e4, _⟩ := DataW.trod_bool Try.underlying4 t4'
    obtain rfl : c0 = .int .i64 k0 := by simpa [ci] using e0
    obtain rfl : c1 = .int .i64 k1 := by simpa [ci] using e1
    obtain rfl : c2 = .int .i64 k2 := by simpa [ci] using e2
    obtain rfl : c4 = .bool on := by simpa using e4
    exact ⟨(k0, k1, k2, (a, len, cap), on), rfl, hb, bounds_i64 w1⟩
theorem acts_of_trod {fuel : Nat} {cs : List Value} {x : DataW H × List MemPlace} (hf : DataW.trod enc Try.prog W base (fun _ => true) held fuel 22 cs = some x) : ∃ a len cap, cs = [.slice a len cap] ∧ ∃ g, ActsIn W a len g := by
  have hc5 : Try.prog.cellsOf 36 = 5 := by kernel_rfl
  rcases open_slice Try.underlying22 hf with ⟨rfl, _⟩ | ⟨a, len, cap, m, n, D, Pl, rfl, hb, hl, hm, hmm, _, hx⟩
  · exact ⟨none, 0, 0, rfl, fun _ => (0, 0, 0, (none, 0, 0), false), Nat.zero_le _, fun h => by omega, fun i hi => by omega⟩
  · have hmc : m = cap := by simpa using hmm
    subst hmc
    have one : ∀ i, i < len → ∃ g : AcA, (BArg W g.2.2.2.1.1 g.2.2.2.1.2.1 g.2.2.2.1.2.2 ∧ (-9223372036854775808 ≤ g.2.1 ∧ g.2.1 ≤ 9223372036854775807)) ∧ ∀ j v, (acV g)[j]? = some v → W.cell? (a.add (i * 5 + j)) = some v := fun i hi => by
      obtain ⟨cs', h1, h2⟩ := hx i (by omega)
      rw [hc5] at h1
      obtain ⟨_, hlen, hcell⟩ := World.cells?_some h1
      obtain ⟨g, he, hp⟩ := ac_of_trod hlen h2
      refine ⟨g, hp, fun j v hv => ?_⟩
      have hj : j < 5 := (List.getElem?_eq_some_iff.1 hv).1
      have := hcell j (by omega)
      rw [he, Go.Deep.add_add, hv] at this
      exact this
    obtain ⟨g, hg⟩ := choose_lt (α := AcA) one
    refine ⟨some a, len, m, rfl, g, by unfold maxLen at hm; omega, fun h0 => ?_, fun i hi => (hg i hi).1⟩
    obtain ⟨b, off, spot⟩ := a
    have hc := (hg 0 h0).2 0 _ rfl
    have hspot : spot = none := by simpa [Addr.add] using World.cell?_spot hc
    subst hspot
    refine ⟨b, off, rfl, block_lt_of_cell hc, fun i hi j v hv => ?_⟩
    have := (hg i hi).2 j v hv
    rwa [add_none] at this
theorem acts_open {a : Option Addr} {len cap : Nat} {d : DataW H} {p : List MemPlace} (h : DataW.Trod enc Try.prog W base (fun _ => true) held 22 (.slice a len cap) d p) : ∃ g, ActsIn W a len g := by
  obtain ⟨fuel, hf⟩ := h
  obtain ⟨a', len', cap', he, hg⟩ := acts_of_trod hf
  simp [Value.cells] at he
  obtain ⟨rfl, rfl, rfl⟩ := he
  exact hg
end
/-- An act's cells, as they are loaded. -/
theorem ActsIn.at {w w' : World} {a : Option Addr} {len : Nat} {g : Nat → AcA} (h : ActsIn w a len g) (hb : Below w.heap.size w w') (i : Nat) (hi : i < len) : ∃ b off, a = some ⟨b, off, none⟩ ∧
    w'.cell? ⟨b, off + i * 5, none⟩ = some (.int .i64 (g i).1) ∧ w'.cell? ⟨b, off + i * 5 + 1, none⟩ = some (.int .i64 (g i).2.1) ∧ w'.cell? ⟨b, off + i * 5 + 2, none⟩ = some (.int .i64 (g i).2.2.1) ∧ w'.cell? ⟨b, off + i * 5 + 3, none⟩ = some (.slice (g i).2.2.2.1.1 (g i).2.2.2.1.2.1 (g i).2.2.2.1.2.2) ∧ w'.cell? ⟨b, off + i * 5 + 4, none⟩ = some (.bool (g i).2.2.2.2) := by
  obtain ⟨b, off, rfl, hlt, hc⟩ := h.rows (by omega)
  have hx : ∀ j v, (acV (g i))[j]? = some v → w'.cell? ⟨b, off + i * 5 + j, none⟩ = some v := fun j v hv => by
    rw [Nat.add_assoc]
    exact (hb.cell (p := ⟨b, off + (i * 5 + j), none⟩) hlt).trans (hc i hi j v hv)
  exact ⟨b, off, rfl, hx 0 _ rfl, hx 1 _ rfl, hx 2 _ rfl, hx 3 _ rfl, hx 4 _ rfl⟩
def HeavyQ (n : Nat) (g : Nat → AcA) (w : World) (e : Ending) (w' : World) : Prop := (e = .returned (.bool true) ∨ (e = .returned (.bool false) ∧ n ≤ 80 ∧ ∀ i, i < n → (g i).2.2.2.1.2.1 ≤ 200)) ∧ w' = w
set_option maxHeartbeats 1600000 in
/-- heavy. -/
theorem heavy_any {w0 w : World} {a : Option Addr} {n : Nat} (c : Nat) {g : Nat → AcA} (h : ActsIn w0 a n g) (hb : Below w0.heap.size w0 w) : Calls Try.prog 10 #[.slice a n c] w (HeavyQ n g w) := by
  have hbig := h.big
  have H := Lib.hid h
  have HB := Lib.hid hb
  clear h hb
  go_enter Try.func10, Try.ntmps10
  go_wp2
  go_loopw [3] (fun i wr => ∃ j : Nat, j ≤ n ∧ j ≤ 80 ∧ i = .int .i64 j ∧ wr = w ∧ Hid (∀ i, i < j → (g i).2.2.2.1.2.1 ≤ 200)) (fun i _ => n - (intOf i).toNat)
  case atStart => exact ⟨0, Nat.zero_le _, by omega, rfl, rfl, fun i hi => by omega⟩
  case round =>
    obtain ⟨j, hj, hj2, rfl, rfl, HA⟩ := hrel
    by_cases hlt : j < n ∧ j < 80
    · obtain ⟨hlt, hlt2⟩ := hlt
      obtain ⟨b, off, rfl, _, _, _, e1, _⟩ := H.out.at HB.out j hlt
      have hbl := (H.out.bytes j hlt).1.1
      obtain ⟨⟨a', l', c'⟩, hG⟩ : ∃ q, Hid ((g j).2.2.2.1 = q) := ⟨_, rfl⟩
      rw [hG.out] at e1 hbl
      dsimp only at e1 hbl
      by_cases h2 : 200 < l'
      · go_wp2
        go_ret
        exact ⟨Or.inl rfl, rfl⟩
      · go_wp2
        go_roundw
        case rel =>
          refine ⟨j + 1, by omega, by omega, by go_num, trivial, fun i hi => ?_⟩
          by_cases hij : i < j
          · exact HA.out i hij
          · obtain rfl : i = j := by omega
            rw [hG.out]
            dsimp only
            omega
        case measure => simp [intOf]; omega
    · by_cases hn : j < n
      · obtain rfl : j = 80 := by omega
        have hn2 : 80 < n := hn
        go_wp2
        go_ret
        exact ⟨Or.inl (by first | (simp; done) | (simp; omega)), rfl⟩
      · obtain rfl : j = n := by omega
        by_cases h3 : j < 80
        · go_wp2
          go_ret
          exact ⟨Or.inr ⟨by first | (simp; done) | (simp; omega), by omega, HA.out⟩, rfl⟩
        · obtain rfl : j = 80 := by omega
          go_wp2
          go_ret
          exact ⟨Or.inr ⟨by simp, by omega, HA.out⟩, rfl⟩
end Go.Proofs.Ythmkmhfoicfapaa
