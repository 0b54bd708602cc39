/-
  A meta that came in as an argument (layer 9). Conditions: none.
-/
import Derived.Test.YtipljkegmhclkaaSa
namespace Go.Proofs.Ytipljkegmhclkaa
open Go.RowKit Go.ChangeShapes Go.WideShapes Go.Deep
set_option linter.unusedVariables false
set_option maxRecDepth 100000

/-- A slice of ints that reads as f. -/
def IntsR (w : World) (a : Option Addr) (len : Nat) (f : Nat → Int) : Prop := len ≤ 9223372036854775807 ∧ (0 < len → ∃ b off, a = some ⟨b, off, none⟩ ∧ b < w.heap.size ∧ ∀ i, i < len → w.cell? ⟨b, off + i, none⟩ = some (.int .i64 (f i)))
theorem IntsR.later {w w' : World} {a : Option Addr} {len : Nat} {f : Nat → Int} (h : IntsR w a len f) (hb : Below w.heap.size w w') : IntsR w' a len f :=
  ⟨h.1, fun h0 => by
    obtain ⟨b, off, h1, h2, h3⟩ := h.2 h0
    exact ⟨b, off, h1, Nat.lt_of_lt_of_le h2 hb.size, fun i hi => (hb.cell (p := ⟨b, off + i, none⟩) h2).trans (h3 i hi)⟩⟩
theorem IntsR.nil (w : World) (a : Option Addr) (f : Nat → Int) : IntsR w a 0 f := ⟨by omega, fun h => absurd h (by omega)⟩
/-- The cells of a shot, of a bitmap. -/
abbrev ShA := ByteArray × Int × Option Addr × Nat × Nat
abbrev MpA := ByteArray × Bool × Option Addr × Nat × Nat
/-- Rows of three cells. -/
def Row3 (w : World) (a : Option Addr) (len : Nat) (c1 c2 c3 : Nat → Value) : Prop := len ≤ 9223372036854775807 ∧ (0 < len → ∃ b off, a = some ⟨b, off, none⟩ ∧ b < w.heap.size ∧ ∀ i, i < len → w.cell? ⟨b, off + i * 3, none⟩ = some (c1 i) ∧ w.cell? ⟨b, off + i * 3 + 1, none⟩ = some (c2 i) ∧ w.cell? ⟨b, off + i * 3 + 2, none⟩ = some (c3 i))
theorem Row3.later {w w' : World} {a : Option Addr} {len : Nat} {c1 c2 c3 : Nat → Value} (h : Row3 w a len c1 c2 c3) (hb : Below w.heap.size w w') : Row3 w' a len c1 c2 c3 :=
  ⟨h.1, fun h0 => by
    obtain ⟨b, off, h1, h2, h3⟩ := h.2 h0
    exact ⟨b, off, h1, Nat.lt_of_lt_of_le h2 hb.size, fun i hi => by
      obtain ⟨x1, x2, x3⟩ := h3 i hi
      exact ⟨(hb.cell (p := ⟨b, off + i * 3, none⟩) h2).trans x1, (hb.cell (p := ⟨b, off + i * 3 + 1, none⟩) h2).trans x2, (hb.cell (p := ⟨b, off + i * 3 + 2, none⟩) h2).trans x3⟩⟩⟩
def ShO (w : World) (a : Option Addr) (len : Nat) (g : Nat → ShA) : Prop := Row3 w a len (fun i => .string (g i).1) (fun i => .int .i64 (g i).2.1) (fun i => .slice (g i).2.2.1 (g i).2.2.2.1 (g i).2.2.2.2) ∧ ∀ i, i < len → I64 (g i).2.1 ∧ (g i).1.size ≤ 9223372036854775807 ∧ TabArg w (g i).2.2.1 (g i).2.2.2.1 (g i).2.2.2.2
def MpO (w : World) (a : Option Addr) (len : Nat) (g : Nat → MpA) : Prop := Row3 w a len (fun i => .string (g i).1) (fun i => .bool (g i).2.1) (fun i => .slice (g i).2.2.1 (g i).2.2.2.1 (g i).2.2.2.2) ∧ ∀ i, i < len → (g i).1.size ≤ 9223372036854775807 ∧ ∃ z, IsSpans w (g i).2.2.1 (g i).2.2.2.1 (g i).2.2.2.2 z
/-- A meta that came in. -/
structure MetaArg (w : World) (c s : Int) (bk : ByteArray) (a0 : Option Addr) (n0 c0 : Nat) (sa : Option Addr) (sn sc : Nat) (ma : Option Addr) (mn mc : Nat) (ca : Option Addr) (cn cc : Nat) : Prop where
  c : I64 c
  s : I64 s
  bk : bk.size ≤ 9223372036854775807
  tab : TabArg w a0 n0 c0
  shots : ∃ g, ShO w sa sn g
  maps : ∃ g, MpO w ma mn g
  counts : ∃ f, IntsR w ca cn f
  sCaps : Caps sa sn sc
  mCaps : Caps ma mn mc
  cCaps : Caps ca cn cc
section
variable {H : Type} {enc : TypeId × Value → H} {W : World} {base : Nat} {held : Bool}
theorem tab_of_trod {fuel : Nat} {cs : List Value} {x : DataW H × List MemPlace} (hlen : cs.length = 1) (hf : DataW.trod enc Try.prog W base (fun _ => true) held fuel 24 cs = some x) : ∃ a len cap, cs = [.slice a len cap] ∧ TabArg W a len cap := by
  obtain ⟨xs, q, _, _, _, hxl, hx⟩ := DataW.trod_struct Try.underlying24 hf
  have hl : xs.length = 1 := hxl
  obtain ⟨y0, g0⟩ := some_at (xs := xs) 0 (by omega)
  have t0 := (hx 0 _ rfl).trans g0
  have c1 : Try.prog.cellsOf 22 = 1 := by kernel_rfl
  have ce : Try.prog.cellsOf 69 = 1 := by kernel_rfl
  match cs, hlen with
  | [c0], _ =>
    have t1 : DataW.trod enc Try.prog W base (fun _ => true) held q 22 [c0] = some y0 := by simpa [c1, Value.cells] using t0
    rcases open_slice1 Try.underlying22 ce t1 with ⟨hc, _⟩ | ⟨a, len, cap, m, n, V, D, Pl, hc, hb, hle, hm, hmm, _, hi⟩
    · obtain rfl : c0 = .slice none 0 0 := by simpa using hc
      exact ⟨none, 0, 0, rfl, ⟨fun _ => rfl, Nat.le_refl _⟩, fun _ => (none, 0, 0), ⟨Nat.zero_le _, fun i hi => by omega, fun h => by omega⟩, fun i hi => by omega⟩
    · obtain rfl : c0 = .slice (some a) len cap := by simpa using hc
      have hmc : m = cap := by simpa using hmm
      subst hmc
      have each : ∀ i, i < len → ∃ g : Option Addr × Nat × Nat, W.cell? (a.add i) = some (.slice g.1 g.2.1 g.2.2) ∧ g.2.1 ≤ maxLen ∧ (g.2.1 ≤ 6000 → ∃ xs, LfR W (g.1, g.2.1, g.2.2, xs)) := fun i hil => by
        obtain ⟨k1, k2⟩ := hi i (by omega)
        obtain ⟨al, ll, cl, e1, e2, e3⟩ := leaf_open k2
        obtain e1 : V i = .slice al ll cl := by simpa using e1
        exact ⟨(al, ll, cl), by rw [k1, e1], e2, e3⟩
      obtain ⟨g, hg⟩ := choose_lt (α := Option Addr × Nat × Nat) each
      refine ⟨some a, len, m, rfl, ⟨fun e => (by cases e), hle⟩, g, ⟨Nat.le_trans hle hm, fun i hil => (hg i hil).2.1, fun h0 => ?_⟩, fun i hil => (hg i hil).2.2⟩
      obtain ⟨b, off, spot⟩ := a
      have hc := (hg 0 h0).1
      have hspot : spot = none := by simpa [Addr.add] using World.cell?_spot hc
      subst hspot
      refine ⟨b, off, rfl, block_lt_of_cell hc, fun i hil => ?_⟩
      have := (hg i hil).1
      rwa [add_none] at this
theorem sh_of_trod {fuel : Nat} {cs : List Value} {x : DataW H × List MemPlace} (hlen : cs.length = 3) (hf : DataW.trod enc Try.prog W base (fun _ => true) held fuel 62 cs = some x) : ∃ g : ShA, cs = [.string g.1, .int .i64 g.2.1, .slice g.2.2.1 g.2.2.2.1 g.2.2.2.2] ∧ I64 g.2.1 ∧ g.1.size ≤ 9223372036854775807 ∧ TabArg W g.2.2.1 g.2.2.2.1 g.2.2.2.2 := by
  obtain ⟨xs, q, _, _, _, hxl, hx⟩ := DataW.trod_struct Try.underlying62 hf
  have hl : xs.length = 3 := hxl
  have cs0 : Try.prog.cellsOf 9 = 1 := by kernel_rfl
  have ci : Try.prog.cellsOf 3 = 1 := by kernel_rfl
  have ct : Try.prog.cellsOf 24 = 1 := by kernel_rfl
  match cs, hlen with
  | [c0, c1, c2], _ =>
    obtain ⟨y0, g0⟩ := some_at (xs := xs) 0 (by omega)
    obtain ⟨y1, g1⟩ := some_at (xs := xs) 1 (by omega)
    obtain ⟨y2, g2⟩ := some_at (xs := xs) 2 (by omega)
    have t0 := (hx 0 _ rfl).trans g0
    have t1 := (hx 1 _ rfl).trans g1
    have t2 := (hx 2 _ rfl).trans g2
    obtain ⟨nm, e0, _, w0⟩ := DataW.trod_string Try.underlying9 t0
    obtain ⟨sz, e1, _, w1⟩ := DataW.trod_int Try.underlying3 t1
    have t2' : DataW.trod enc Try.prog W base (fun _ => true) held q 24 [c2] = some y2 := by simpa [ct] using t2
    obtain ⟨a, len, cap, e2, hT⟩ := tab_of_trod rfl t2'
    obtain rfl : c0 = .string nm := by simpa [cs0] using e0
    obtain rfl : c1 = .int .i64 sz := by simpa [ci] using e1
    obtain rfl : c2 = .slice a len cap := by simpa using e2
    have b1 := bounds_i64 w1
    exact ⟨(nm, sz, a, len, cap), rfl, by unfold I64; dsimp only; omega, by unfold maxLen at w0; dsimp only; omega, hT⟩
theorem mp_of_trod {fuel : Nat} {cs : List Value} {x : DataW H × List MemPlace} (hlen : cs.length = 3) (hf : DataW.trod enc Try.prog W base (fun _ => true) held fuel 43 cs = some x) : ∃ g : MpA, cs = [.string g.1, .bool g.2.1, .slice g.2.2.1 g.2.2.2.1 g.2.2.2.2] ∧ g.1.size ≤ 9223372036854775807 ∧ ∃ z, IsSpans W g.2.2.1 g.2.2.2.1 g.2.2.2.2 z := by
  obtain ⟨xs, q, _, _, _, hxl, hx⟩ := DataW.trod_struct Try.underlying43 hf
  have hl : xs.length = 3 := hxl
  have cs0 : Try.prog.cellsOf 9 = 1 := by kernel_rfl
  have cb : Try.prog.cellsOf 4 = 1 := by kernel_rfl
  have ct : Try.prog.cellsOf 41 = 1 := by kernel_rfl
  match cs, hlen with
  | [c0, c1, c2], _ =>
    obtain ⟨y0, g0⟩ := some_at (xs := xs) 0 (by omega)
    obtain ⟨y1, g1⟩ := some_at (xs := xs) 1 (by omega)
    obtain ⟨y2, g2⟩ := some_at (xs := xs) 2 (by omega)
    have t0 := (hx 0 _ rfl).trans g0
    have t1 := (hx 1 _ rfl).trans g1
    have t2 := (hx 2 _ rfl).trans g2
    obtain ⟨nm, e0, _, w0⟩ := DataW.trod_string Try.underlying9 t0
    obtain ⟨on, e1, _⟩ := DataW.trod_bool Try.underlying4 t1
    have t2' : DataW.trod enc Try.prog W base (fun _ => true) held q 41 [c2] = some y2 := by simpa [ct] using t2
    have hsl : ∃ a len cap, c2 = .slice a len cap := by
      rcases open_slice Try.underlying41 t2' with ⟨hc, _⟩ | ⟨a, len, cap, m, n, D, Pl, hc, _⟩
      · exact ⟨none, 0, 0, by simpa using hc⟩
      · exact ⟨some a, len, cap, by simpa using hc⟩
    obtain ⟨a, len, cap, rfl⟩ := hsl
    obtain ⟨z, hz⟩ := spans_open (enc := enc) (W := W) (base := base) (held := held) (a := a) (len := len) (cap := cap) (d := y2.1) (p := y2.2) ⟨q, t2'⟩
    obtain rfl : c0 = .string nm := by simpa [cs0] using e0
    obtain rfl : c1 = .bool on := by simpa [cb] using e1
    exact ⟨(nm, on, a, len, cap), rfl, by unfold maxLen at w0; dsimp only; omega, z, hz⟩
/-- A slice of structs of three cells. -/
theorem row3_open {α : Type} [Inhabited α] {t e : TypeId} {fuel : Nat} {cs : List Value} {x : DataW H × List MemPlace} (ht : Try.prog.underlying t = some (.slice e)) (hc3 : Try.prog.cellsOf e = 3) (f1 f2 f3 : α → Value) (P : α → Prop)
    (each : ∀ {fuel : Nat} {cs : List Value} {x : DataW H × List MemPlace}, cs.length = 3 → DataW.trod enc Try.prog W base (fun _ => true) held fuel e cs = some x → ∃ g : α, cs = [f1 g, f2 g, f3 g] ∧ P g)
    (hf : DataW.trod enc Try.prog W base (fun _ => true) held fuel t cs = some x) : ∃ a len cap, cs = [.slice a len cap] ∧ Caps a len cap ∧ ∃ g : Nat → α, Row3 W a len (fun i => f1 (g i)) (fun i => f2 (g i)) (fun i => f3 (g i)) ∧ ∀ i, i < len → P (g i) := by
  rcases open_slice ht hf with ⟨rfl, _⟩ | ⟨a, len, cap, m, n, D, Pl, rfl, hb, hl, hm, hmm, _, hx⟩
  · exact ⟨none, 0, 0, rfl, ⟨fun _ => rfl, Nat.le_refl _⟩, fun _ => default, ⟨Nat.zero_le _, fun h => by omega⟩, fun i hi => by omega⟩
  · have hmc : m = cap := by simpa using hmm
    subst hmc
    have one : ∀ i, i < len → ∃ g : α, P g ∧ W.cell? (a.add (i * 3)) = some (f1 g) ∧ W.cell? (a.add (i * 3 + 1)) = some (f2 g) ∧ W.cell? (a.add (i * 3 + 2)) = some (f3 g) := fun i hi => by
      obtain ⟨cs', h1, h2⟩ := hx i (by omega)
      rw [hc3] at h1
      obtain ⟨_, hlen, hcell⟩ := World.cells?_some h1
      obtain ⟨g, he, hp⟩ := each hlen h2
      have k0 := hcell 0 (by omega)
      have k1 := hcell 1 (by omega)
      have k2 := hcell 2 (by omega)
      rw [he, Go.Deep.add_add] at k0 k1 k2
      exact ⟨g, hp, k0, k1, k2⟩
    obtain ⟨g, hg⟩ := choose_lt (α := α) one
    refine ⟨some a, len, m, rfl, ⟨fun e => (by cases e), hl⟩, g, ⟨by unfold maxLen at hm; omega, fun h0 => ?_⟩, fun i hi => (hg i hi).1⟩
    obtain ⟨b, off, spot⟩ := a
    have hc := (hg 0 h0).2.1
    have hspot : spot = none := by simpa [Addr.add] using World.cell?_spot hc
    subst hspot
    refine ⟨b, off, rfl, block_lt_of_cell hc, fun i hi => ?_⟩
    obtain ⟨_, x1, x2, x3⟩ := hg i hi
    rw [add_none] at x1 x2 x3
    exact ⟨x1, x2, x3⟩
set_option maxHeartbeats 1600000 in
theorem meta_open {r : Reach} {b0 : Nat} {v : Value} {d : DataW H} {p : List MemPlace} (hv : Value.okWide Try.prog W r b0 29 v) (h : DataW.Trod enc Try.prog W base (fun _ => true) held 29 v d p) :
    ∃ (c s : Int) (bk : ByteArray) (a0 : Option Addr) (n0 c0 : Nat) (sa : Option Addr) (sn sc : Nat) (ma : Option Addr) (mn mc : Nat) (ca : Option Addr) (cn cc : Nat),
      v = .agg #[.int .i64 c, .int .i64 s, .string bk, .slice a0 n0 c0, .slice sa sn sc, .slice ma mn mc, .slice ca cn cc] ∧ MetaArg W c s bk a0 n0 c0 sa sn sc ma mn mc ca cn cc := by
  obtain ⟨cs, rfl, hsz⟩ := okWide_struct Try.underlying29 hv
  have h7 : cs.size = 7 := hsz.trans (by kernel_rfl)
  obtain ⟨fuel, hf⟩ := h
  obtain ⟨xs, q, _, _, _, hxl, hx⟩ := DataW.trod_struct Try.underlying29 hf
  have hl : xs.length = 7 := hxl
  have k1 : Try.prog.cellsOf 3 = 1 := by kernel_rfl
  have k2 : Try.prog.cellsOf 9 = 1 := by kernel_rfl
  have k3 : Try.prog.cellsOf 24 = 1 := by kernel_rfl
  have k4 : Try.prog.cellsOf 25 = 1 := by kernel_rfl
  have k5 : Try.prog.cellsOf 26 = 1 := by kernel_rfl
  have k6 : Try.prog.cellsOf 27 = 1 := by kernel_rfl
  obtain ⟨l⟩ := cs
  match l, h7 with
  | [c0, c1, c2, c3, c4, c5, c6], _ =>
    obtain ⟨y0, g0⟩ := some_at (xs := xs) 0 (by omega)
    obtain ⟨y1, g1⟩ := some_at (xs := xs) 1 (by omega)
    obtain ⟨y2, g2⟩ := some_at (xs := xs) 2 (by omega)
    obtain ⟨y3, g3⟩ := some_at (xs := xs) 3 (by omega)
    obtain ⟨y4, g4⟩ := some_at (xs := xs) 4 (by omega)
    obtain ⟨y5, g5⟩ := some_at (xs := xs) 5 (by omega)
    obtain ⟨y6, g6⟩ := some_at (xs := xs) 6 (by omega)
    have t0 := (hx 0 _ rfl).trans g0
    have t1 := (hx 1 _ rfl).trans g1
    have t2 := (hx 2 _ rfl).trans g2
    have t3 := (hx 3 _ rfl).trans g3
    have t4 := (hx 4 _ rfl).trans g4
    have t5 := (hx 5 _ rfl).trans g5
    have t6 := (hx 6 _ rfl).trans g6
    obtain ⟨c, e0, _, w0⟩ := DataW.trod_int Try.underlying3 t0
    obtain ⟨s, e1, _, w1⟩ := DataW.trod_int Try.underlying3 t1
    obtain ⟨bk, e2, _, w2⟩ := DataW.trod_string Try.underlying9 t2
    have t3' : DataW.trod enc Try.prog W base (fun _ => true) held q 24 [c3] = some y3 := by simpa [k3, Value.cells] using t3
    have t4' : DataW.trod enc Try.prog W base (fun _ => true) held q 25 [c4] = some y4 := by simpa [k4, Value.cells] using t4
    have t5' : DataW.trod enc Try.prog W base (fun _ => true) held q 26 [c5] = some y5 := by simpa [k5, Value.cells] using t5
    have t6' : DataW.trod enc Try.prog W base (fun _ => true) held q 27 [c6] = some y6 := by simpa [k6, Value.cells] using t6
    obtain ⟨a0, n0, cc0, e3, hT⟩ := tab_of_trod rfl t3'
    obtain ⟨sa, sn, sc, e4, hsc, gs, hs1, hs2⟩ := row3_open (α := ShA) Try.underlying25 (by kernel_rfl) (fun g => .string g.1) (fun g => .int .i64 g.2.1) (fun g => .slice g.2.2.1 g.2.2.2.1 g.2.2.2.2) (fun g => I64 g.2.1 ∧ g.1.size ≤ 9223372036854775807 ∧ TabArg W g.2.2.1 g.2.2.2.1 g.2.2.2.2) sh_of_trod t4'
    obtain ⟨ma, mn, mc, e5, hmc0, gm, hm1, hm2⟩ := row3_open (α := MpA) Try.underlying26 (by kernel_rfl) (fun g => .string g.1) (fun g => .bool g.2.1) (fun g => .slice g.2.2.1 g.2.2.2.1 g.2.2.2.2) (fun g => g.1.size ≤ 9223372036854775807 ∧ ∃ z, IsSpans W g.2.2.1 g.2.2.2.1 g.2.2.2.2 z) mp_of_trod t5'
    have hints : ∃ ca cn cc, c6 = .slice ca cn cc ∧ Caps ca cn cc ∧ ∃ f, IntsR W ca cn f := by
      rcases open_slice1 Try.underlying27 (by kernel_rfl) t6' with ⟨hc, _⟩ | ⟨a, len, cap, m, n, V, D, Pl, hc, hb, hle, hm, hmm, _, hi⟩
      · exact ⟨none, 0, 0, by simpa using hc, ⟨fun _ => rfl, Nat.le_refl _⟩, fun _ => 0, IntsR.nil _ _ _⟩
      · have hmc : m = cap := by simpa using hmm
        subst hmc
        have each : ∀ i, i < len → ∃ z : Int, W.cell? (a.add i) = some (.int .i64 z) := fun i hil => by
          obtain ⟨k1, k2⟩ := hi i (by omega)
          obtain ⟨z, e, _⟩ := DataW.trod_int Try.underlying3 k2
          obtain e : V i = .int .i64 z := by simpa using e
          exact ⟨z, by rw [k1, e]⟩
        obtain ⟨f, hf⟩ := choose_lt (α := Int) each
        refine ⟨some a, len, m, by simpa using hc, ⟨fun e => (by cases e), hle⟩, f, by unfold maxLen at hm; omega, fun h0 => ?_⟩
        obtain ⟨b, off, spot⟩ := a
        have hc := hf 0 h0
        have hspot : spot = none := by simpa [Addr.add] using World.cell?_spot hc
        subst hspot
        refine ⟨b, off, rfl, block_lt_of_cell hc, fun i hil => ?_⟩
        have := hf i hil
        rwa [add_none] at this
    obtain ⟨ca, cn, cc, rfl, hcc, hcn⟩ := hints
    obtain rfl : c0 = .int .i64 c := by simpa [k1, Value.cells] using e0
    obtain rfl : c1 = .int .i64 s := by simpa [k1, Value.cells] using e1
    obtain rfl : c2 = .string bk := by simpa [k2, Value.cells] using e2
    obtain rfl : c3 = .slice a0 n0 cc0 := by simpa using e3
    obtain rfl : c4 = .slice sa sn sc := by simpa using e4
    obtain rfl : c5 = .slice ma mn mc := by simpa using e5
    have b0 := bounds_i64 w0
    have b1 := bounds_i64 w1
    unfold maxLen at w2
    exact ⟨c, s, bk, a0, n0, cc0, sa, sn, sc, ma, mn, mc, ca, cn, cc, rfl, by unfold I64; omega, by unfold I64; omega, by omega, hT, ⟨gs, hs1, hs2⟩, ⟨gm, hm1, hm2⟩, hcn, hsc, hmc0, hcc⟩
end
end Go.Proofs.Ytipljkegmhclkaa
