/-
  What layer 15 needs, part 4: bytes, sums, unpacking, entries, tables, counts, metas, copies, check. Conditions: stated at each.
-/
import Derived.Test.YtlljcdmblmkblaaGreatMc
import Derived.Test.YtlljcdmblmkblaaGreatMb
import Derived.Lib.SliceRun
import Derived.Deep.RegionHeld3
import Derived.Deep.MidRow
import Derived.Test.YtlljcdmblmkblaaGreatMa
import Derived.WalkMore
import Derived.Laws.StructEq
namespace Go.Proofs.YtlljcdmblmkblaaGreat
open Go.RowKit
set_option linter.unusedVariables false

set_option maxRecDepth 20000 in
set_option maxHeartbeats 3200000 in
theorem refRight12 (w : World) (x : Mt) (M : MM) (h : MetaD w x M) (hK6 : x.cn ≤ 65536) : Calls Tryz.prog 19 #[.agg (mtA M x)] w (RightE (RightMt M) w) := by
  have hKl : M.K.length = x.cn := h.K.1.1
  by_cases hcr : 0 ≤ M.c ∧ M.c ≤ 6
  · by_cases h8 : M.S.length ≤ 8 ∧ M.B.length ≤ 8
    · exact refRight_main w x M h hcr h8.1 h8.2 (by omega)
    · have hno : Hid (RightMt M → false = true) := fun hr => absurd ⟨hr.nS, hr.nB⟩ h8
      obtain ⟨P, hP⟩ := named (RightMt M)
      rw [hP.out] at hno ⊢
      have hsl := h.S.lens
      have hml := h.B.lens
      obtain ⟨a0, n0, c0, sa, sn, sc, ma, mn, mc, ca, cn, cc⟩ := x
      obtain ⟨c, s, bk, T, S, B, K⟩ := M
      obtain ⟨hc, hs, hbk, hT, hS, hB, hK⟩ := h
      dsimp only [mtA] at hc hs hbk hcr h8 hsl hml hK6 hKl ⊢
      have HRT := Lib.hid (RtS.first w #[.int .i64 c, .int .i64 s, .string bk, .slice a0 n0 c0, .slice sa sn sc, .slice ma mn mc, .slice ca cn cc])
      have HSZ := Lib.hid (fun (n : Int) (hn : I64 n) (w : World) => szQ n c hn hcr w)
      have HNB := Lib.hid (fun (w : World) => nmQ bk hbk w)
      have dc1 : decide (c < 0) = false := decide_eq_false (by omega)
      have dc2 : decide (6 < c) = false := decide_eq_false (by omega)
      have dc3 : decide ((65536 : Int) < cn) = false := decide_eq_false (by omega)
      have HI := Lib.hid hs
      have hcs : decide ((8 : Int) < sn) = true ∨ (decide ((8 : Int) < sn) = false ∧ decide ((8 : Int) < mn) = true) := by
        rcases Nat.lt_or_ge 8 sn with h | h
        · exact Or.inl (decide_eq_true (by omega))
        · exact Or.inr ⟨decide_eq_false (by omega), decide_eq_true (by omega)⟩
      have hsn := hsl.2
      have hmn := hml.2
      clear hcr hs hbk hc hT hS hB hK h8 hKl hsl hml hP
      rcases hcs with k1 | ⟨k1, k2⟩
      all_goals
        go_enter Tryz.func19, Tryz.ntmps19
        cases he : bk.toList.isEmpty
      all_goals
        go_wp2_with (first
          | (go_at_call 45; refine (HSZ.out _ HI.out _).mono ?_; rintro e w1 ⟨B, rfl, h, hr⟩; have HRT := Lib.hid (HRT.out.later h); obtain ⟨m0, m1, m2, m3, m4, m5, m6⟩ := cells7 HRT.out.box; clear h hr; cases B)
          | (go_at_call 46; refine (HNB.out _).mono ?_; rintro e w2 ⟨B, rfl, h, hr⟩; have HRT := Lib.hid (HRT.out.later h); obtain ⟨m0, m1, m2, m3, m4, m5, m6⟩ := cells7 HRT.out.box; clear h hr; cases B))
      all_goals (go_ret; exact RightE.no rfl HRT.out.below hno.out)
  · have hno : Hid (RightMt M → false = true) := fun hr => absurd hr.c hcr
    obtain ⟨P, hP⟩ := named (RightMt M)
    rw [hP.out] at hno ⊢
    obtain ⟨a0, n0, c0, sa, sn, sc, ma, mn, mc, ca, cn, cc⟩ := x
    obtain ⟨c, s, bk, T, S, B, K⟩ := M
    dsimp only [mtA] at hcr ⊢
    have HB : Hid (Below w.heap.size w (w.alloc (.cells #[.int .i64 c, .int .i64 s, .string bk, .slice a0 n0 c0, .slice sa sn sc, .slice ma mn mc, .slice ca cn cc] 41))) := (Below.refl _ _).alloc (Nat.le_refl _) _
    have hcs : c < 0 ∨ (¬ c < 0 ∧ 6 < c) := by omega
    clear hcr h hKl hK6 hP
    rcases hcs with k1 | ⟨k1, k2⟩
    all_goals
      go_enter Tryz.func19, Tryz.ntmps19
      go_wp2
      go_ret
      exact RightE.no rfl HB.out hno.out
end Go.Proofs.YtlljcdmblmkblaaGreat
namespace Go.Proofs.YtlljcdmblmkblaaGreat
open Go.RowKit Go.ChangeShapes Go.WideShapes Go.Deep
set_option linter.unusedVariables false
set_option maxRecDepth 100000

/-- The cells of a shot, of a bitmap. -/
abbrev ShA := ByteArray × Int × Option Addr × Nat × Nat
abbrev MpA := ByteArray × Bool × Option Addr × Nat × Nat
/-- Rows of three cells. -/
def Row3 (w : World) (a : Option Addr) (len : Nat) (c1 c2 c3 : Nat → Value) : Prop := len ≤ 9223372036854775807 ∧ (0 < len → ∃ b off, a = some ⟨b, off, none⟩ ∧ b < w.heap.size ∧ ∀ i, i < len → w.cell? ⟨b, off + i * 3, none⟩ = some (c1 i) ∧ w.cell? ⟨b, off + i * 3 + 1, none⟩ = some (c2 i) ∧ w.cell? ⟨b, off + i * 3 + 2, none⟩ = some (c3 i))
theorem Row3.later {w w' : World} {a : Option Addr} {len : Nat} {c1 c2 c3 : Nat → Value} (h : Row3 w a len c1 c2 c3) (hb : Below w.heap.size w w') : Row3 w' a len c1 c2 c3 :=
  ⟨h.1, fun h0 => by
    obtain ⟨b, off, h1, h2, h3⟩ := h.2 h0
    exact ⟨b, off, h1, Nat.lt_of_lt_of_le h2 hb.size, fun i hi => by
      obtain ⟨x1, x2, x3⟩ := h3 i hi
      exact ⟨(hb.cell (p := ⟨b, off + i * 3, none⟩) h2).trans x1, (hb.cell (p := ⟨b, off + i * 3 + 1, none⟩) h2).trans x2, (hb.cell (p := ⟨b, off + i * 3 + 2, none⟩) h2).trans x3⟩⟩⟩
def ShO (w : World) (a : Option Addr) (len : Nat) (g : Nat → ShA) : Prop := Row3 w a len (fun i => .string (g i).1) (fun i => .int .i64 (g i).2.1) (fun i => .slice (g i).2.2.1 (g i).2.2.2.1 (g i).2.2.2.2) ∧ ∀ i, i < len → I64 (g i).2.1 ∧ (g i).1.size ≤ 9223372036854775807 ∧ TabArg w (g i).2.2.1 (g i).2.2.2.1 (g i).2.2.2.2
def MpO (w : World) (a : Option Addr) (len : Nat) (g : Nat → MpA) : Prop := Row3 w a len (fun i => .string (g i).1) (fun i => .bool (g i).2.1) (fun i => .slice (g i).2.2.1 (g i).2.2.2.1 (g i).2.2.2.2) ∧ ∀ i, i < len → (g i).1.size ≤ 9223372036854775807 ∧ ∃ z, IsSpans w (g i).2.2.1 (g i).2.2.2.1 (g i).2.2.2.2 z
/-- A meta that came in. -/
structure MetaArg (w : World) (c s : Int) (bk : ByteArray) (a0 : Option Addr) (n0 c0 : Nat) (sa : Option Addr) (sn sc : Nat) (ma : Option Addr) (mn mc : Nat) (ca : Option Addr) (cn cc : Nat) : Prop where
  c : I64 c
  s : I64 s
  bk : bk.size ≤ 9223372036854775807
  tab : TabArg w a0 n0 c0
  shots : ∃ g, ShO w sa sn g
  maps : ∃ g, MpO w ma mn g
  counts : ∃ f, IntsR w ca cn f
  sCaps : Caps sa sn sc
  mCaps : Caps ma mn mc
  cCaps : Caps ca cn cc
section
variable {H : Type} {enc : TypeId × Value → H} {W : World} {base : Nat} {held : Bool}
theorem tab_of_trod {fuel : Nat} {cs : List Value} {x : DataW H × List MemPlace} (hlen : cs.length = 1) (hf : DataW.trod enc Tryz.prog W base (fun _ => true) held fuel 36 cs = some x) : ∃ a len cap, cs = [.slice a len cap] ∧ TabArg W a len cap := by
  obtain ⟨xs, q, _, _, _, hxl, hx⟩ := DataW.trod_struct Tryz.underlying36 hf
  have hl : xs.length = 1 := hxl
  obtain ⟨y0, g0⟩ := some_at (xs := xs) 0 (by omega)
  have t0 := (hx 0 _ rfl).trans g0
  have c1 : Tryz.prog.cellsOf 34 = 1 := by kernel_rfl
  have ce : Tryz.prog.cellsOf 68 = 1 := by kernel_rfl
  match cs, hlen with
  | [c0], _ =>
    have t1 : DataW.trod enc Tryz.prog W base (fun _ => true) held q 34 [c0] = some y0 := by simpa [c1, Value.cells] using t0
    rcases open_slice1 Tryz.underlying34 ce t1 with ⟨hc, _⟩ | ⟨a, len, cap, m, n, V, D, Pl, hc, hb, hle, hm, hmm, _, hi⟩
    · obtain rfl : c0 = .slice none 0 0 := by simpa using hc
      exact ⟨none, 0, 0, rfl, ⟨fun _ => rfl, Nat.le_refl _⟩, fun _ => (none, 0, 0), ⟨Nat.zero_le _, fun i hi => by omega, fun h => by omega⟩, fun i hi => by omega⟩
    · obtain rfl : c0 = .slice (some a) len cap := by simpa using hc
      have hmc : m = cap := by simpa using hmm
      subst hmc
      have each : ∀ i, i < len → ∃ g : Option Addr × Nat × Nat, W.cell? (a.add i) = some (.slice g.1 g.2.1 g.2.2) ∧ g.2.1 ≤ maxLen ∧ (g.2.1 ≤ 6000 → ∃ xs, LfR W (g.1, g.2.1, g.2.2, xs)) := fun i hil => by
        obtain ⟨k1, k2⟩ := hi i (by omega)
        obtain ⟨al, ll, cl, e1, e2, e3⟩ := leaf_open k2
        obtain e1 : V i = .slice al ll cl := by simpa using e1
        exact ⟨(al, ll, cl), by rw [k1, e1], e2, e3⟩
      obtain ⟨g, hg⟩ := choose_lt (α := Option Addr × Nat × Nat) each
      refine ⟨some a, len, m, rfl, ⟨fun e => (by cases e), hle⟩, g, ⟨Nat.le_trans hle hm, fun i hil => (hg i hil).2.1, fun h0 => ?_⟩, fun i hil => (hg i hil).2.2⟩
      obtain ⟨b, off, spot⟩ := a
      have hc := (hg 0 h0).1
      have hspot : spot = none := by simpa [Addr.add] using World.cell?_spot hc
      subst hspot
      refine ⟨b, off, rfl, block_lt_of_cell hc, fun i hil => ?_⟩
      have := (hg i hil).1
      rwa [add_none] at this
theorem sh_of_trod {fuel : Nat} {cs : List Value} {x : DataW H × List MemPlace} (hlen : cs.length = 3) (hf : DataW.trod enc Tryz.prog W base (fun _ => true) held fuel 77 cs = some x) : ∃ g : ShA, cs = [.string g.1, .int .i64 g.2.1, .slice g.2.2.1 g.2.2.2.1 g.2.2.2.2] ∧ I64 g.2.1 ∧ g.1.size ≤ 9223372036854775807 ∧ TabArg W g.2.2.1 g.2.2.2.1 g.2.2.2.2 := by
  obtain ⟨xs, q, _, _, _, hxl, hx⟩ := DataW.trod_struct Tryz.underlying77 hf
  have hl : xs.length = 3 := hxl
  have cs0 : Tryz.prog.cellsOf 9 = 1 := by kernel_rfl
  have ci : Tryz.prog.cellsOf 3 = 1 := by kernel_rfl
  have ct : Tryz.prog.cellsOf 36 = 1 := by kernel_rfl
  match cs, hlen with
  | [c0, c1, c2], _ =>
    obtain ⟨y0, g0⟩ := some_at (xs := xs) 0 (by omega)
    obtain ⟨y1, g1⟩ := some_at (xs := xs) 1 (by omega)
    obtain ⟨y2, g2⟩ := some_at (xs := xs) 2 (by omega)
    have t0 := (hx 0 _ rfl).trans g0
    have t1 := (hx 1 _ rfl).trans g1
    have t2 := (hx 2 _ rfl).trans g2
    obtain ⟨nm, e0, _, w0⟩ := DataW.trod_string Tryz.underlying9 t0
    obtain ⟨sz, e1, _, w1⟩ := DataW.trod_int Tryz.underlying3 t1
    have t2' : DataW.trod enc Tryz.prog W base (fun _ => true) held q 36 [c2] = some y2 := by simpa [ct] using t2
    obtain ⟨a, len, cap, e2, hT⟩ := tab_of_trod rfl t2'
    obtain rfl : c0 = .string nm := by simpa [cs0] using e0
    obtain rfl : c1 = .int .i64 sz := by simpa [ci] using e1
    obtain rfl : c2 = .slice a len cap := by simpa using e2
    have b1 := bounds_i64 w1
    exact ⟨(nm, sz, a, len, cap), rfl, by unfold I64; dsimp only; omega, by unfold maxLen at w0; dsimp only; omega, hT⟩
theorem mp_of_trod {fuel : Nat} {cs : List Value} {x : DataW H × List MemPlace} (hlen : cs.length = 3) (hf : DataW.trod enc Tryz.prog W base (fun _ => true) held fuel 92 cs = some x) : ∃ g : MpA, cs = [.string g.1, .bool g.2.1, .slice g.2.2.1 g.2.2.2.1 g.2.2.2.2] ∧ g.1.size ≤ 9223372036854775807 ∧ ∃ z, IsSpans W g.2.2.1 g.2.2.2.1 g.2.2.2.2 z := by
  obtain ⟨xs, q, _, _, _, hxl, hx⟩ := DataW.trod_struct Tryz.underlying92 hf
  have hl : xs.length = 3 := hxl
  have cs0 : Tryz.prog.cellsOf 9 = 1 := by kernel_rfl
  have cb : Tryz.prog.cellsOf 4 = 1 := by kernel_rfl
  have ct : Tryz.prog.cellsOf 90 = 1 := by kernel_rfl
  match cs, hlen with
  | [c0, c1, c2], _ =>
    obtain ⟨y0, g0⟩ := some_at (xs := xs) 0 (by omega)
    obtain ⟨y1, g1⟩ := some_at (xs := xs) 1 (by omega)
    obtain ⟨y2, g2⟩ := some_at (xs := xs) 2 (by omega)
    have t0 := (hx 0 _ rfl).trans g0
    have t1 := (hx 1 _ rfl).trans g1
    have t2 := (hx 2 _ rfl).trans g2
    obtain ⟨nm, e0, _, w0⟩ := DataW.trod_string Tryz.underlying9 t0
    obtain ⟨on, e1, _⟩ := DataW.trod_bool Tryz.underlying4 t1
    have t2' : DataW.trod enc Tryz.prog W base (fun _ => true) held q 90 [c2] = some y2 := by simpa [ct] using t2
    have hsl : ∃ a len cap, c2 = .slice a len cap := by
      rcases open_slice Tryz.underlying90 t2' with ⟨hc, _⟩ | ⟨a, len, cap, m, n, D, Pl, hc, _⟩
      · exact ⟨none, 0, 0, by simpa using hc⟩
      · exact ⟨some a, len, cap, by simpa using hc⟩
    obtain ⟨a, len, cap, rfl⟩ := hsl
    obtain ⟨z, hz⟩ := spans_open (enc := enc) (W := W) (base := base) (held := held) (a := a) (len := len) (cap := cap) (d := y2.1) (p := y2.2) ⟨q, t2'⟩
    obtain rfl : c0 = .string nm := by simpa [cs0] using e0
    obtain rfl : c1 = .bool on := by simpa [cb] using e1
    exact ⟨(nm, on, a, len, cap), rfl, by unfold maxLen at w0; dsimp only; omega, z, hz⟩
/-- A slice of structs of three cells. -/
theorem row3_open {α : Type} [Inhabited α] {t e : TypeId} {fuel : Nat} {cs : List Value} {x : DataW H × List MemPlace} (ht : Tryz.prog.underlying t = some (.slice e)) (hc3 : Tryz.prog.cellsOf e = 3) (f1 f2 f3 : α → Value) (P : α → Prop)
    (each : ∀ {fuel : Nat} {cs : List Value} {x : DataW H × List MemPlace}, cs.length = 3 → DataW.trod enc Tryz.prog W base (fun _ => true) held fuel e cs = some x → ∃ g : α, cs = [f1 g, f2 g, f3 g] ∧ P g)
    (hf : DataW.trod enc Tryz.prog W base (fun _ => true) held fuel t cs = some x) : ∃ a len cap, cs = [.slice a len cap] ∧ Caps a len cap ∧ ∃ g : Nat → α, Row3 W a len (fun i => f1 (g i)) (fun i => f2 (g i)) (fun i => f3 (g i)) ∧ ∀ i, i < len → P (g i) := by
  rcases open_slice ht hf with ⟨rfl, _⟩ | ⟨a, len, cap, m, n, D, Pl, rfl, hb, hl, hm, hmm, _, hx⟩
  · exact ⟨none, 0, 0, rfl, ⟨fun _ => rfl, Nat.le_refl _⟩, fun _ => default, ⟨Nat.zero_le _, fun h => by omega⟩, fun i hi => by omega⟩
  · have hmc : m = cap := by simpa using hmm
    subst hmc
    have one : ∀ i, i < len → ∃ g : α, P g ∧ W.cell? (a.add (i * 3)) = some (f1 g) ∧ W.cell? (a.add (i * 3 + 1)) = some (f2 g) ∧ W.cell? (a.add (i * 3 + 2)) = some (f3 g) := fun i hi => by
      obtain ⟨cs', h1, h2⟩ := hx i (by omega)
      rw [hc3] at h1
      obtain ⟨_, hlen, hcell⟩ := World.cells?_some h1
      obtain ⟨g, he, hp⟩ := each hlen h2
      have k0 := hcell 0 (by omega)
      have k1 := hcell 1 (by omega)
      have k2 := hcell 2 (by omega)
      rw [he, Go.Deep.add_add] at k0 k1 k2
      exact ⟨g, hp, k0, k1, k2⟩
    obtain ⟨g, hg⟩ := choose_lt (α := α) one
    refine ⟨some a, len, m, rfl, ⟨fun e => (by cases e), hl⟩, g, ⟨by unfold maxLen at hm; omega, fun h0 => ?_⟩, fun i hi => (hg i hi).1⟩
    obtain ⟨b, off, spot⟩ := a
    have hc := (hg 0 h0).2.1
    have hspot : spot = none := by simpa [Addr.add] using World.cell?_spot hc
    subst hspot
    refine ⟨b, off, rfl, block_lt_of_cell hc, fun i hi => ?_⟩
    obtain ⟨_, x1, x2, x3⟩ := hg i hi
    rw [add_none] at x1 x2 x3
    exact ⟨x1, x2, x3⟩
set_option maxHeartbeats 1600000 in
theorem meta_open {r : Reach} {b0 : Nat} {v : Value} {d : DataW H} {p : List MemPlace} (hv : Value.okWide Tryz.prog W r b0 41 v) (h : DataW.Trod enc Tryz.prog W base (fun _ => true) held 41 v d p) :
    ∃ (c s : Int) (bk : ByteArray) (a0 : Option Addr) (n0 c0 : Nat) (sa : Option Addr) (sn sc : Nat) (ma : Option Addr) (mn mc : Nat) (ca : Option Addr) (cn cc : Nat),
      v = .agg #[.int .i64 c, .int .i64 s, .string bk, .slice a0 n0 c0, .slice sa sn sc, .slice ma mn mc, .slice ca cn cc] ∧ MetaArg W c s bk a0 n0 c0 sa sn sc ma mn mc ca cn cc := by
  obtain ⟨cs, rfl, hsz⟩ := okWide_struct Tryz.underlying41 hv
  have h7 : cs.size = 7 := hsz.trans (by kernel_rfl)
  obtain ⟨fuel, hf⟩ := h
  obtain ⟨xs, q, _, _, _, hxl, hx⟩ := DataW.trod_struct Tryz.underlying41 hf
  have hl : xs.length = 7 := hxl
  have k1 : Tryz.prog.cellsOf 3 = 1 := by kernel_rfl
  have k2 : Tryz.prog.cellsOf 9 = 1 := by kernel_rfl
  have k3 : Tryz.prog.cellsOf 36 = 1 := by kernel_rfl
  have k4 : Tryz.prog.cellsOf 37 = 1 := by kernel_rfl
  have k5 : Tryz.prog.cellsOf 38 = 1 := by kernel_rfl
  have k6 : Tryz.prog.cellsOf 39 = 1 := by kernel_rfl
  obtain ⟨l⟩ := cs
  match l, h7 with
  | [c0, c1, c2, c3, c4, c5, c6], _ =>
    obtain ⟨y0, g0⟩ := some_at (xs := xs) 0 (by omega)
    obtain ⟨y1, g1⟩ := some_at (xs := xs) 1 (by omega)
    obtain ⟨y2, g2⟩ := some_at (xs := xs) 2 (by omega)
    obtain ⟨y3, g3⟩ := some_at (xs := xs) 3 (by omega)
    obtain ⟨y4, g4⟩ := some_at (xs := xs) 4 (by omega)
    obtain ⟨y5, g5⟩ := some_at (xs := xs) 5 (by omega)
    obtain ⟨y6, g6⟩ := some_at (xs := xs) 6 (by omega)
    have t0 := (hx 0 _ rfl).trans g0
    have t1 := (hx 1 _ rfl).trans g1
    have t2 := (hx 2 _ rfl).trans g2
    have t3 := (hx 3 _ rfl).trans g3
    have t4 := (hx 4 _ rfl).trans g4
    have t5 := (hx 5 _ rfl).trans g5
    have t6 := (hx 6 _ rfl).trans g6
    obtain ⟨c, e0, _, w0⟩ := DataW.trod_int Tryz.underlying3 t0
    obtain ⟨s, e1, _, w1⟩ := DataW.trod_int Tryz.underlying3 t1
    obtain ⟨bk, e2, _, w2⟩ := DataW.trod_string Tryz.underlying9 t2
    have t3' : DataW.trod enc Tryz.prog W base (fun _ => true) held q 36 [c3] = some y3 := by simpa [k3, Value.cells] using t3
    have t4' : DataW.trod enc Tryz.prog W base (fun _ => true) held q 37 [c4] = some y4 := by simpa [k4, Value.cells] using t4
    have t5' : DataW.trod enc Tryz.prog W base (fun _ => true) held q 38 [c5] = some y5 := by simpa [k5, Value.cells] using t5
    have t6' : DataW.trod enc Tryz.prog W base (fun _ => true) held q 39 [c6] = some y6 := by simpa [k6, Value.cells] using t6
    obtain ⟨a0, n0, cc0, e3, hT⟩ := tab_of_trod rfl t3'
    obtain ⟨sa, sn, sc, e4, hsc, gs, hs1, hs2⟩ := row3_open (α := ShA) Tryz.underlying37 (by kernel_rfl) (fun g => .string g.1) (fun g => .int .i64 g.2.1) (fun g => .slice g.2.2.1 g.2.2.2.1 g.2.2.2.2) (fun g => I64 g.2.1 ∧ g.1.size ≤ 9223372036854775807 ∧ TabArg W g.2.2.1 g.2.2.2.1 g.2.2.2.2) sh_of_trod t4'
    obtain ⟨ma, mn, mc, e5, hmc0, gm, hm1, hm2⟩ := row3_open (α := MpA) Tryz.underlying38 (by kernel_rfl) (fun g => .string g.1) (fun g => .bool g.2.1) (fun g => .slice g.2.2.1 g.2.2.2.1 g.2.2.2.2) (fun g => g.1.size ≤ 9223372036854775807 ∧ ∃ z, IsSpans W g.2.2.1 g.2.2.2.1 g.2.2.2.2 z) mp_of_trod t5'
    have hints : ∃ ca cn cc, c6 = .slice ca cn cc ∧ Caps ca cn cc ∧ ∃ f, IntsR W ca cn f := by
      rcases open_slice1 Tryz.underlying39 (by kernel_rfl) t6' with ⟨hc, _⟩ | ⟨a, len, cap, m, n, V, D, Pl, hc, hb, hle, hm, hmm, _, hi⟩
      · exact ⟨none, 0, 0, by simpa using hc, ⟨fun _ => rfl, Nat.le_refl _⟩, fun _ => 0, IntsR.nil _ _ _⟩
      · have hmc : m = cap := by simpa using hmm
        subst hmc
        have each : ∀ i, i < len → ∃ z : Int, W.cell? (a.add i) = some (.int .i64 z) := fun i hil => by
          obtain ⟨k1, k2⟩ := hi i (by omega)
          obtain ⟨z, e, _⟩ := DataW.trod_int Tryz.underlying3 k2
          obtain e : V i = .int .i64 z := by simpa using e
          exact ⟨z, by rw [k1, e]⟩
        obtain ⟨f, hf⟩ := choose_lt (α := Int) each
        refine ⟨some a, len, m, by simpa using hc, ⟨fun e => (by cases e), hle⟩, f, by unfold maxLen at hm; omega, fun h0 => ?_⟩
        obtain ⟨b, off, spot⟩ := a
        have hc := hf 0 h0
        have hspot : spot = none := by simpa [Addr.add] using World.cell?_spot hc
        subst hspot
        refine ⟨b, off, rfl, block_lt_of_cell hc, fun i hil => ?_⟩
        have := hf i hil
        rwa [add_none] at this
    obtain ⟨ca, cn, cc, rfl, hcc, hcn⟩ := hints
    obtain rfl : c0 = .int .i64 c := by simpa [k1, Value.cells] using e0
    obtain rfl : c1 = .int .i64 s := by simpa [k1, Value.cells] using e1
    obtain rfl : c2 = .string bk := by simpa [k2, Value.cells] using e2
    obtain rfl : c3 = .slice a0 n0 cc0 := by simpa using e3
    obtain rfl : c4 = .slice sa sn sc := by simpa using e4
    obtain rfl : c5 = .slice ma mn mc := by simpa using e5
    have b0 := bounds_i64 w0
    have b1 := bounds_i64 w1
    unfold maxLen at w2
    exact ⟨c, s, bk, a0, n0, cc0, sa, sn, sc, ma, mn, mc, ca, cn, cc, rfl, by unfold I64; omega, by unfold I64; omega, by omega, hT, ⟨gs, hs1, hs2⟩, ⟨gm, hm1, hm2⟩, hcn, hsc, hmc0, hcc⟩
end
end Go.Proofs.YtlljcdmblmkblaaGreat
namespace Go.Proofs.YtlljcdmblmkblaaGreat
open Go.RowKit
set_option linter.unusedVariables false

/-- What is small. -/
structure Small9 (bk : ByteArray) (n0 : Nat) (gT : Nat → Option Addr × Nat × Nat) (sn : Nat) (gs : Nat → ShA) (hh : Nat → Nat → Option Addr × Nat × Nat) (mn : Nat) (gm : Nat → MpA) (cn : Nat) : Prop where
  t : ¬ 6000 < greatN gT n0
  hsn : sn ≤ 20
  hmn : mn ≤ 20
  hcn : cn ≤ 20000
  s : ∀ i, i < sn → ¬ 6000 < greatN (hh i) (gs i).2.2.2.1
  m : ∀ i, i < mn → (gm i).2.2.2.1 ≤ 500
def GreatQ (S : Prop) (w : World) (e : Ending) (w' : World) : Prop := ∃ G : Bool, e = .returned (.bool G) ∧ Below w.heap.size w w' ∧ (G = false → S)
theorem GreatQ.yes {S : Prop} {w w' : World} {e : Ending} (h : e = .returned (.bool true)) (hb : Below w.heap.size w w') : GreatQ S w e w' := ⟨true, h, hb, fun h => by cases h⟩
theorem GreatQ.no {S : Prop} {w w' : World} {e : Ending} (h : e = .returned (.bool false)) (hb : Below w.heap.size w w') (hs : S) : GreatQ S w e w' := ⟨false, h, hb, fun _ => hs⟩
theorem great_is {w : World} {a : Option Addr} {len cap : Nat} {g : Nat → Option Addr × Nat × Nat} (h : OutR w a len g) {R : Bool} (hR : decide (6000 < greatN g len) = R) : Calls Tryz.prog 62 #[.agg #[.slice a len cap]] w fun e w' => e = .returned (.bool R) ∧ Below w.heap.size w w' := by
  subst hR
  exact great_any w a len cap g h
set_option maxRecDepth 20000 in
set_option maxHeartbeats 3200000 in
theorem greatM_any (w : World) (c s : Int) (bk : ByteArray) (a0 : Option Addr) (n0 c0 : Nat) (sa : Option Addr) (sn sc : Nat) (ma : Option Addr) (mn mc : Nat) (ca : Option Addr) (cn cc : Nat) (gT : Nat → Option Addr × Nat × Nat) (gs : Nat → ShA) (hh : Nat → Nat → Option Addr × Nat × Nat) (gm : Nat → MpA)
    (hT : OutR w a0 n0 gT) (hS : Row3 w sa sn (fun i => .string (gs i).1) (fun i => .int .i64 (gs i).2.1) (fun i => .slice (gs i).2.2.1 (gs i).2.2.2.1 (gs i).2.2.2.2)) (hSh : ∀ i, i < sn → OutR w (gs i).2.2.1 (gs i).2.2.2.1 (hh i))
    (hM : Row3 w ma mn (fun i => .string (gm i).1) (fun i => .bool (gm i).2.1) (fun i => .slice (gm i).2.2.1 (gm i).2.2.2.1 (gm i).2.2.2.2)) (hbk : bk.size ≤ 9223372036854775807) (hcn : cn ≤ 9223372036854775807) (hnm : ∀ i, i < sn → (gs i).1.size ≤ 9223372036854775807) (hnm2 : ∀ i, i < mn → (gm i).1.size ≤ 9223372036854775807) (hml : ∀ i, i < mn → (gm i).2.2.2.1 ≤ 9223372036854775807) :
    Calls Tryz.prog 35 #[.agg #[.int .i64 c, .int .i64 s, .string bk, .slice a0 n0 c0, .slice sa sn sc, .slice ma mn mc, .slice ca cn cc]] w (GreatQ (Small9 bk n0 gT sn gs hh mn gm cn) w) := by
  have hsl := hS.1
  have hml' := hM.1
  have hb0 : Below w.heap.size w (w.alloc (.cells (mtC c s bk a0 n0 c0 sa sn sc (.slice ma mn mc) (.slice ca cn cc)) 41)) := (Below.refl _ _).alloc (Nat.le_refl _) _
  have HS := Lib.hid hS
  have HSH := Lib.hid hSh
  have HMM := Lib.hid hM
  have HNM := Lib.hid hnm
  have HNM2 := Lib.hid hnm2
  have HML := Lib.hid hml
  have HM : Hid (Blk (w.alloc (.cells (mtC c s bk a0 n0 c0 sa sn sc (.slice ma mn mc) (.slice ca cn cc)) 41)) w.heap.size 41 (mtC c s bk a0 n0 c0 sa sn sc (.slice ma mn mc) (.slice ca cn cc))) := Blk.new _ _ _
  have HB := Lib.hid hb0
  obtain ⟨G, hG⟩ := named (decide (6000 < greatN gT n0))
  have HG := Lib.hid (great_is (cap := c0) (hT.later hb0) hG.out)
  have HLATER : Hid (∀ w1, Below (w.alloc (.cells (mtC c s bk a0 n0 c0 sa sn sc (.slice ma mn mc) (.slice ca cn cc)) 41)).heap.size (w.alloc (.cells (mtC c s bk a0 n0 c0 sa sn sc (.slice ma mn mc) (.slice ca cn cc)) 41)) w1 → Blk w1 w.heap.size 41 (mtC c s bk a0 n0 c0 sa sn sc (.slice ma mn mc) (.slice ca cn cc)) ∧ Below w.heap.size w w1) := fun w1 h => ⟨HM.out.later h, HB.out.trans (h.mono HB.out.size)⟩
  have HGT : Hid (G = false → ¬ 6000 < greatN gT n0) := fun h => by
    have := hG.out
    rw [h, decide_eq_false_iff_not] at this
    exact this
  clear hT hS hSh hM hnm hnm2 hml hb0 hG
  go_enter Tryz.func35, Tryz.ntmps35
  cases G with
  | true =>
    go_wp2_with (go_at_call 62; refine HG.out.mono ?_; rintro e w1 ⟨rfl, h⟩; obtain ⟨k1, k2⟩ := HLATER.out _ h; have K2 := Lib.hid k2; clear h k1 k2)
    go_ret
    exact GreatQ.yes rfl K2.out
  | false =>
    have hcs : 20 < sn ∨ (sn ≤ 20 ∧ 20 < mn) ∨ (sn ≤ 20 ∧ mn ≤ 20 ∧ 20000 < cn) ∨ (sn ≤ 20 ∧ mn ≤ 20 ∧ cn ≤ 20000 ∧ 1000 < bk.size) ∨ (sn ≤ 20 ∧ mn ≤ 20 ∧ cn ≤ 20000 ∧ bk.size ≤ 1000) := by omega
    rcases hcs with h1 | ⟨h1, h2⟩ | ⟨h1, h2, h3⟩ | ⟨h1, h2, h3, h4⟩ | ⟨h1, h2, h3, h4⟩
    case inr.inr.inr.inr =>
      go_wp2_with (go_at_call 62; refine HG.out.mono ?_; rintro e w1 ⟨rfl, h⟩; obtain ⟨k1, k2⟩ := HLATER.out _ h; obtain ⟨m0, m1, m2, m3, m4, m5, m6⟩ := mt_cells k1; have K1 := Lib.hid k1; have K2 := Lib.hid k2; clear h k1 k2)
      go_loopw [3] (fun i wr => ∃ j : Nat, j ≤ sn ∧ i = .int .i64 j ∧ Hid (∀ k, k < j → ¬ 6000 < greatN (hh k) (gs k).2.2.2.1) ∧ Hid (Blk wr w.heap.size 41 (mtC c s bk a0 n0 c0 sa sn sc (.slice ma mn mc) (.slice ca cn cc))) ∧ Hid (Below w.heap.size w wr)) (fun i _ => sn - (intOf i).toNat)
      case atStart => exact ⟨0, Nat.zero_le _, rfl, fun k hk => by omega, K1.out, K2.out⟩
      case round =>
        obtain ⟨j, hj, rfl, HGj, HMj, HBj⟩ := hrel
        obtain ⟨m0, m1, m2, m3, m4, m5, m6⟩ := mt_cells HMj.out
        have hml2 := HMj.out.lt
        by_cases hlt : j < sn
        · obtain ⟨b, off, rfl, hb, hc⟩ := (HS.out.later HBj.out).2 (by omega)
          obtain ⟨x1, x2, x3⟩ := hc j hlt
          dsimp only at x1 x2 x3
          have hOut := (HSH.out j hlt).later HBj.out
          have hnmj := HNM.out j hlt
          have HGS : Hid (¬ 6000 < greatN (hh j) (gs j).2.2.2.1 → ∀ k, k < j + 1 → ¬ 6000 < greatN (hh k) (gs k).2.2.2.1) := fun h k hk => by
            by_cases e : k = j
            · rw [e]; exact h
            · exact HGj.out k (by omega)
          obtain ⟨⟨nm, sz, al, ll, cl⟩, hg⟩ := named (gs j)
          rw [hg.out] at x1 x2 x3 hOut hnmj HGS
          dsimp only at x1 x2 x3 hOut hnmj HGS
          obtain ⟨Gj, hGj⟩ := named (decide (6000 < greatN (hh j) ll))
          have HC := Lib.hid (great_is (cap := cl) hOut hGj.out)
          have HLJ : Hid (∀ w1, Below wr.heap.size wr w1 → Blk w1 w.heap.size 41 (mtC c s bk a0 n0 c0 (some ⟨b, off, none⟩) sn sc (.slice ma mn mc) (.slice ca cn cc)) ∧ Below w.heap.size w w1 ∧ w1.cell? ⟨b, off + j * 3, none⟩ = some (.string nm)) := fun w1 h => ⟨HMj.out.later h, HBj.out.trans (h.mono HBj.out.size), (h.cell (p := ⟨b, off + j * 3, none⟩) hb).trans x1⟩
          clear hc hOut
          cases Gj with
          | true =>
            go_wp2_with (go_at_call 62; refine HC.out.mono ?_; rintro e w1 ⟨rfl, h⟩; obtain ⟨k1, k2, k3⟩ := HLJ.out _ h; have K2 := Lib.hid k2; clear h k1 k2)
            go_ret
            exact GreatQ.yes rfl K2.out
          | false =>
            have hno : ¬ 6000 < greatN (hh j) ll := by
              have := hGj.out
              rwa [decide_eq_false_iff_not] at this
            have HG2 := Lib.hid (HGS.out hno)
            clear hno
            by_cases hn : 1000 < nm.size
            · go_wp2_with (go_at_call 62; refine HC.out.mono ?_; rintro e w1 ⟨rfl, h⟩; obtain ⟨k1, k2, k3⟩ := HLJ.out _ h; obtain ⟨q0, q1, q2, q3, q4, q5, q6⟩ := mt_cells k1; have K2 := Lib.hid k2; clear h k1 k2)
              go_ret
              exact GreatQ.yes rfl K2.out
            · go_wp2_with (go_at_call 62; refine HC.out.mono ?_; rintro e w1 ⟨rfl, h⟩; obtain ⟨k1, k2, k3⟩ := HLJ.out _ h; obtain ⟨q0, q1, q2, q3, q4, q5, q6⟩ := mt_cells k1; have K1 := Lib.hid k1; have K2 := Lib.hid k2; clear h k1 k2)
              go_roundw
              case rel => exact ⟨j + 1, by omega, by go_num, HG2.out, K1.out, K2.out⟩
              case measure => simp [intOf]; omega
        · obtain rfl : j = sn := by omega
          have hjj : ¬ j < j := by omega
          go_wp2
          go_loopw [4] (fun i wr => ∃ p : Nat, p ≤ mn ∧ i = .int .i64 p ∧ Hid (∀ k, k < p → (gm k).2.2.2.1 ≤ 500) ∧ Hid (Blk wr w.heap.size 41 (mtC c s bk a0 n0 c0 sa j sc (.slice ma mn mc) (.slice ca cn cc))) ∧ Hid (Below w.heap.size w wr)) (fun i _ => mn - (intOf i).toNat)
          case atStart => exact ⟨0, Nat.zero_le _, rfl, fun k hk => by omega, HMj.out, HBj.out⟩
          case round =>
            obtain ⟨p, hp, rfl, HGp, HMp, HBp⟩ := hrel
            obtain ⟨m0, m1, m2, m3, m4, m5, m6⟩ := mt_cells HMp.out
            have hml3 := HMp.out.lt
            by_cases hlt : p < mn
            · obtain ⟨b, off, rfl, hb, hc⟩ := (HMM.out.later HBp.out).2 (by omega)
              obtain ⟨x1, x2, x3⟩ := hc p hlt
              dsimp only at x1 x2 x3
              have hnmj := HNM2.out p hlt
              have hmlj := HML.out p hlt
              have HGS : Hid ((gm p).2.2.2.1 ≤ 500 → ∀ k, k < p + 1 → (gm k).2.2.2.1 ≤ 500) := fun h k hk => by
                by_cases e : k = p
                · rw [e]; exact h
                · exact HGp.out k (by omega)
              obtain ⟨⟨nm, on, al, ll, cl⟩, hg⟩ := named (gm p)
              rw [hg.out] at x1 x2 x3 hnmj hmlj HGS
              dsimp only at x1 x2 x3 hnmj hmlj HGS
              clear hc
              by_cases hl5 : 500 < ll
              · go_wp2
                go_ret
                exact GreatQ.yes rfl HBp.out
              · have HG2 := Lib.hid (HGS.out (by omega))
                by_cases hn : 1000 < nm.size
                · go_wp2
                  go_ret
                  exact GreatQ.yes rfl HBp.out
                · go_wp2
                  go_roundw
                  case rel => exact ⟨p + 1, by omega, by go_num, HG2.out, HMp.out, HBp.out⟩
                  case measure => simp [intOf]; omega
            · obtain rfl : p = mn := by omega
              go_wp2
              go_ret
              exact GreatQ.no rfl HBp.out ⟨HGT.out (by first | rfl | trivial), h1, h2, h3, HGj.out, HGp.out⟩
    all_goals
      go_wp2_with (go_at_call 62; refine HG.out.mono ?_; rintro e w1 ⟨rfl, h⟩; obtain ⟨k1, k2⟩ := HLATER.out _ h; obtain ⟨m0, m1, m2, m3, m4, m5, m6⟩ := mt_cells k1; have K2 := Lib.hid k2; clear h k1 k2)
      go_ret
      exact GreatQ.yes rfl K2.out
end Go.Proofs.YtlljcdmblmkblaaGreat
namespace Go.Proofs.YtlljcdmblmkblaaGreat
open Go.RowKit
set_option linter.unusedVariables false

theorem row3_mk {α : Type} {cv : α → List Value} {P : Program} {t e : TypeId} {bytes : Nat} (R : Rowed P t e 3 bytes cv) (w : World) (a : Option Addr) (len : Nat) (f : Nat → α) (c1 c2 c3 : Nat → Value) (hcv : ∀ i, cv (f i) = [c1 i, c2 i, c3 i]) (hlen : len ≤ 1000) (h : Row3 w a len c1 c2 c3) : Reads cv w a len ((List.range len).map f) := by
  refine ⟨by simp, by omega, ?_⟩
  by_cases h0 : len = 0
  · exact Or.inl h0
  · obtain ⟨b, off, e, hb, hc⟩ := h.2 (by omega)
    refine Or.inr ⟨b, off, e, hb, fun j u hu => ?_⟩
    have hlt : j < len * 3 := by
      rcases Nat.lt_or_ge j (len * 3) with h' | h'
      · exact h'
      · rw [List.getElem?_eq_none (by rw [flat_len R.len, List.length_map, List.length_range]; exact h')] at hu
        cases hu
    have hd : j / 3 < len := by omega
    have hat := flat_at R.len ((List.range len).map f) (j / 3) (j % 3) _ (by rw [List.getElem?_map, List.getElem?_range hd]; rfl) (Nat.mod_lt _ (by omega))
    rw [show j / 3 * 3 + j % 3 = j by omega, hu, hcv] at hat
    obtain ⟨x1, x2, x3⟩ := hc (j / 3) hd
    have hj : j = j / 3 * 3 + j % 3 := by omega
    obtain hr | hr | hr : j % 3 = 0 ∨ j % 3 = 1 ∨ j % 3 = 2 := by omega
    · rw [hr] at hat
      rw [show off + j = off + j / 3 * 3 by omega, x1]
      exact hat.symm
    · rw [hr] at hat
      rw [show off + j = off + j / 3 * 3 + 1 by omega, x2]
      exact hat.symm
    · rw [hr] at hat
      rw [show off + j = off + j / 3 * 3 + 2 by omega, x3]
      exact hat.symm
theorem flat_iv (l : List Int) : l.flatMap ivV = l.map (Value.int .i64) := by
  induction l with
  | nil => rfl
  | cons a r ih => rw [List.flatMap_cons, ih]; rfl
theorem ints_mk {w : World} {a : Option Addr} {len : Nat} {f : Nat → Int} (h : IntsR w a len f) (hlen : len ≤ 1000000) : Reads ivV w a len ((List.range len).map f) := by
  refine ⟨by simp, by omega, ?_⟩
  by_cases h0 : len = 0
  · exact Or.inl h0
  · obtain ⟨b, off, e, hb, hc⟩ := h.2 (by omega)
    refine Or.inr ⟨b, off, e, hb, fun j u hu => ?_⟩
    rw [flat_iv, List.getElem?_map, List.getElem?_map] at hu
    rcases Nat.lt_or_ge j len with h' | h'
    · rw [List.getElem?_range h'] at hu
      cases hu
      exact hc j h'
    · rw [List.getElem?_eq_none (by rw [List.length_range]; exact h')] at hu
      cases hu
theorem GreatQ.mono {S S' : Prop} {w : World} (hs : S → S') {e : Ending} {w' : World} (h : GreatQ S w e w') : GreatQ S' w e w' := by
  obtain ⟨G, h1, h2, h3⟩ := h
  exact ⟨G, h1, h2, fun h => hs (h3 h)⟩
theorem fit_take {z : List Sp} {n : Nat} (h : ∀ i, i < n → (Lit.int .i64 (spAt z i).1).wf = true ∧ (Lit.int .i64 (spAt z i).2).wf = true) (hn : n ≤ z.length) : SpFit (z.take n) := fun x hx => by
  obtain ⟨i, hi⟩ := List.getElem?_of_mem hx
  have hlt : i < n := by
    have := (List.getElem?_eq_some_iff.1 hi).1
    rw [List.length_take] at this
    omega
  rw [List.getElem?_take_of_lt hlt] at hi
  obtain ⟨k1, k2⟩ := h i hlt
  have e : spAt z i = x := by unfold spAt; rw [List.getD_eq_getElem?_getD, hi]; rfl
  rw [e] at k1 k2
  have b1 := bounds_i64 k1
  have b2 := bounds_i64 k2
  unfold I64
  omega
set_option maxHeartbeats 1600000 in
theorem great_md {w : World} {c s : Int} {bk : ByteArray} {a0 : Option Addr} {n0 c0 : Nat} {sa : Option Addr} {sn sc : Nat} {ma : Option Addr} {mn mc : Nat} {ca : Option Addr} {cn cc : Nat} (h : MetaArg w c s bk a0 n0 c0 sa sn sc ma mn mc ca cn cc) :
    Calls Tryz.prog 35 #[.agg #[.int .i64 c, .int .i64 s, .string bk, .slice a0 n0 c0, .slice sa sn sc, .slice ma mn mc, .slice ca cn cc]] w (GreatQ (∃ M, M.c = c ∧ M.s = s ∧ M.bk = bk ∧ sn ≤ 20 ∧ mn ≤ 20 ∧ cn ≤ 20000 ∧ (∀ b ∈ M.B, b.2.2.length ≤ 500) ∧ MetaD w ⟨a0, n0, c0, sa, sn, sc, ma, mn, mc, ca, cn, cc⟩ M) w) := by
  have hTab := h.tab
  obtain ⟨hcaps, gT, oT, lT⟩ := h.tab
  obtain ⟨gs, hs1, hs2⟩ := h.shots
  obtain ⟨gm, hm1, hm2⟩ := h.maps
  obtain ⟨f, hf⟩ := h.counts
  obtain ⟨hh, hhh⟩ := Go.Deep.choose_lt (α := Nat → Option Addr × Nat × Nat) (fun i (hi : i < sn) => (hs2 i hi).2.2.2)
  have hml : ∀ i, i < mn → (gm i).2.2.2.1 ≤ 9223372036854775807 := fun i hi => by
    obtain ⟨_, z, hz⟩ := hm2 i hi
    rcases hz with ⟨_, h0, _⟩ | ⟨x, _, h1, h2, _⟩
    · omega
    · unfold maxLen at h2
      omega
  refine (greatM_any w c s bk a0 n0 c0 sa sn sc ma mn mc ca cn cc gT gs hh gm oT hs1 (fun i hi => (hhh i hi).1) hm1 h.bk hf.1 (fun i hi => (hs2 i hi).2.1) (fun i hi => (hm2 i hi).1) hml).mono fun e w' hq => hq.mono fun hsm => ?_
  obtain ⟨T, hT⟩ := hTab.tab oT lT hsm.t
  obtain ⟨TT, hTT⟩ := Go.Deep.choose_lt (α := Tb) (fun i (hi : i < sn) => (hs2 i hi).2.2.tab (hhh i hi).1 (hhh i hi).2 (hsm.s i hi))
  have hspan : ∀ i, i < mn → ∃ l : List Sp, SpD w (gm i).2.2.1 (gm i).2.2.2.1 (gm i).2.2.2.2 l ∧ l.length ≤ 500 := fun i hi => by
    obtain ⟨h1, z, hz⟩ := hm2 i hi
    have h5 := hsm.m i hi
    obtain ⟨l, hl, hcap, hn, hfit⟩ := spans_arg hz (by omega)
    exact ⟨l, ⟨hl, ⟨hn, hcap⟩, by omega, by have := fit_take (z := l) (n := l.length) (fun i hi => hfit i (by rw [← hl.1]; exact hi)) (Nat.le_refl _); rwa [List.take_length] at this⟩, by rw [hl.1]; exact h5⟩
  obtain ⟨LL, hLL⟩ := Go.Deep.choose_lt (α := List Sp) hspan
  have hsn := hsm.hsn
  have hmn := hsm.hmn
  have hcn := hsm.hcn
  refine ⟨⟨c, s, bk, T, ((List.range sn).map fun i => ((gs i).1, (gs i).2.1, (gs i).2.2.1, (gs i).2.2.2.1, (gs i).2.2.2.2, TT i)).map shM, ((List.range mn).map fun i => ((gm i).1, (gm i).2.1, (gm i).2.2.1, (gm i).2.2.2.1, (gm i).2.2.2.2, LL i)).map bmM, (List.range cn).map f⟩, rfl, rfl, rfl, hsn, hmn, hcn, fun b hb => ?_, h.c, h.s, h.bk, hT, ⟨_, ⟨row3_mk sh_rowed w sa sn _ _ _ _ (fun i => rfl) (by omega) hs1, fun d hd => ?_⟩, rfl, h.sCaps, by show sn ≤ 1000; omega, fun d hd => ?_⟩, ⟨_, ⟨row3_mk bm_rowed w ma mn _ _ _ _ (fun i => rfl) (by omega) hm1, fun d hd => ?_⟩, rfl, h.mCaps, by show mn ≤ 1000; omega, fun d hd => ?_⟩, ints_mk hf (show cn ≤ 1000000 by omega), h.cCaps, by show cn ≤ 1000000; omega⟩
  · obtain ⟨x, hx, rfl⟩ := List.mem_map.1 hb
    obtain ⟨i, hi, rfl⟩ := List.mem_map.1 hx
    exact (hLL i (List.mem_range.1 hi)).2
  · obtain ⟨i, hi, rfl⟩ := List.mem_map.1 hd
    exact hTT i (List.mem_range.1 hi)
  · obtain ⟨x, hx, rfl⟩ := List.mem_map.1 hd
    obtain ⟨i, hi, rfl⟩ := List.mem_map.1 hx
    have := hs2 i (List.mem_range.1 hi)
    exact ⟨this.1, this.2.1⟩
  · obtain ⟨i, hi, rfl⟩ := List.mem_map.1 hd
    exact (hLL i (List.mem_range.1 hi)).1
  · obtain ⟨x, hx, rfl⟩ := List.mem_map.1 hd
    obtain ⟨i, hi, rfl⟩ := List.mem_map.1 hx
    exact (hm2 i (List.mem_range.1 hi)).1
theorem IsSpans.later {w w' : World} {a : Option Addr} {len cap : Nat} {z : List Sp} (h : IsSpans w a len cap z) (hb : Below w.heap.size w w') : IsSpans w' a len cap z := by
  rcases h with h | ⟨x, h1, h2, h3, h4, h5⟩
  · exact Or.inl h
  · refine Or.inr ⟨x, h1, h2, h3, h4, fun i hi => ?_⟩
    obtain ⟨k1, k2, k3⟩ := h5 i hi
    exact ⟨(hb.cell (block_lt_of_cell k1)).trans k1, (hb.cell (block_lt_of_cell k2)).trans k2, k3⟩
theorem TabArg.later {w w' : World} {a : Option Addr} {len cap : Nat} (h : TabArg w a len cap) (hb : Below w.heap.size w w') : TabArg w' a len cap := by
  obtain ⟨h1, g, h2, h3⟩ := h
  exact ⟨h1, g, h2.later hb, fun i hi h6 => by
    obtain ⟨xs, hx⟩ := h3 i hi h6
    exact ⟨xs, hx.later hb⟩⟩
theorem MetaArg.later {w w' : World} {c s : Int} {bk : ByteArray} {a0 : Option Addr} {n0 c0 : Nat} {sa : Option Addr} {sn sc : Nat} {ma : Option Addr} {mn mc : Nat} {ca : Option Addr} {cn cc : Nat} (h : MetaArg w c s bk a0 n0 c0 sa sn sc ma mn mc ca cn cc) (hb : Below w.heap.size w w') : MetaArg w' c s bk a0 n0 c0 sa sn sc ma mn mc ca cn cc :=
  ⟨h.c, h.s, h.bk, h.tab.later hb, by
    obtain ⟨g, h1, h2⟩ := h.shots
    exact ⟨g, h1.later hb, fun i hi => ⟨(h2 i hi).1, (h2 i hi).2.1, (h2 i hi).2.2.later hb⟩⟩, by
    obtain ⟨g, h1, h2⟩ := h.maps
    exact ⟨g, h1.later hb, fun i hi => ⟨(h2 i hi).1, by obtain ⟨z, hz⟩ := (h2 i hi).2; exact ⟨z, hz.later hb⟩⟩⟩, by
    obtain ⟨f, hf⟩ := h.counts
    exact ⟨f, hf.later hb⟩, h.sCaps, h.mCaps, h.cCaps⟩
end Go.Proofs.YtlljcdmblmkblaaGreat
namespace Go.Proofs.YtlljcdmblmkblaaGreat
open Go.RowKit
set_option linter.unusedVariables false

set_option maxHeartbeats 1600000 in
theorem cloneE9 (w : World) (d : LfD) (h : LfR w d) (hlen : d.2.1 ≤ 1000000) : Calls Tryz.prog 112 #[.slice d.1 d.2.1 d.2.2.1] w fun e w' => ∃ d' : LfD, e = .returned (.slice d'.1 d'.2.1 d'.2.2.1) ∧ d'.2.2.2 = d.2.2.2 ∧ LfO w' w.heap.size d' ∧ Below w.heap.size w w' := by
  have q0 : ∀ (w : World) (a : Option Addr) (n c n' c' : Nat), (binOp .eql 68 (.slice a n c) (.slice none n' c')).run Tryz.prog w = .ok (.bool a.isNone) w := fun w a n c n' c' => Lib.run_eql_slice_nil w _ _ a n c n' c' Tryz.underlying68
  obtain ⟨a, len, cap, xs⟩ := d
  obtain ⟨h1, h2, h3, h4⟩ := h
  dsimp only at h1 h2 h3 h4 hlen ⊢
  cases a with
  | none =>
    obtain rfl := h3 rfl
    obtain rfl : len = 0 := by omega
    obtain rfl : xs = [] := List.eq_nil_of_length_eq_zero h1.1
    go_enter Tryz.func112, Tryz.ntmps112
    go_wp2
    go_ret
    first | exact ⟨(none, 0, 0, []), rfl, rfl, LfO.none _ _, Below.refl _ _⟩ | exact ⟨none, 0, 0, [], rfl, rfl, LfO.none _ _, Below.refl _ _⟩ | exact ⟨none, 0, 0, rfl, LfO.none _ _, Below.refl _ _⟩
  | some x =>
    have HX := Lib.hid h1
    have H4 := Lib.hid h4
    obtain ⟨xb, xo, xs'⟩ := x
    clear h1 h4
    go_enter Tryz.func112, Tryz.ntmps112
    go_wp2_with (at_builtin; refine append_g_copy en_rowed rfl _ _ rfl w.heap.size rfl _ len cap xs rfl (fun e => by cases e) HX.out (by omega) (Nat.le_refl _) ?_; intro a1 c1 w1 hO hg; have HO := Lib.hid hO; have HG := Lib.hid hg; clear hO hg)
    go_ret
    exact ⟨(a1, len, c1, xs), rfl, rfl, ⟨HO.out, H4.out⟩, HG.out⟩
set_option maxHeartbeats 1600000 in
theorem cloneL9 (w : World) (a : Option Addr) (len cap : Nat) (ds : List LfD) (h1 : Reads cvD w a len ds) (h2 : len ≤ cap) (h3 : a = none → cap = 0) (hlen : len ≤ 1000000) : Calls Tryz.prog 111 #[.slice a len cap] w fun e w' => ∃ a' c', e = .returned (.slice a' len c') ∧ OwnG cvD 68 1 w' w.heap.size (.slice a' len c') len ds ∧ Below w.heap.size w w' := by
  have q0 : ∀ (w : World) (a : Option Addr) (n c n' c' : Nat), (binOp .eql 34 (.slice a n c) (.slice none n' c')).run Tryz.prog w = .ok (.bool a.isNone) w := fun w a n c n' c' => Lib.run_eql_slice_nil w _ _ a n c n' c' Tryz.underlying34
  cases a with
  | none =>
    obtain rfl := h3 rfl
    obtain rfl : len = 0 := by omega
    obtain rfl : ds = [] := List.eq_nil_of_length_eq_zero h1.1
    go_enter Tryz.func111, Tryz.ntmps111
    go_wp2
    go_ret
    exact ⟨none, 0, rfl, OwnG.none _ _ _ _ _, Below.refl _ _⟩
  | some x =>
    have HX := Lib.hid h1
    obtain ⟨xb, xo, xs'⟩ := x
    clear h1
    go_enter Tryz.func111, Tryz.ntmps111
    go_wp2_with (at_builtin; refine append_g_copy lf_rowed rfl _ _ rfl w.heap.size rfl _ len cap ds rfl (fun e => by cases e) HX.out (by omega) (Nat.le_refl _) ?_; intro a1 c1 w1 hO hg; have HO := Lib.hid hO; have HG := Lib.hid hg; clear hO hg)
    go_ret
    exact ⟨a1, c1, rfl, HO.out, HG.out⟩
set_option maxHeartbeats 1600000 in
theorem cloneSh (w : World) (a : Option Addr) (len cap : Nat) (ds : List Sh) (h1 : Reads shV w a len ds) (hc : Caps a len cap) (hlen : len ≤ 1000000) : Calls Tryz.prog 88 #[.slice a len cap] w fun e w' => ∃ a' c', e = .returned (.slice a' len c') ∧ OwnG shV 77 3 w' w.heap.size (.slice a' len c') len ds ∧ Below w.heap.size w w' := by
  have q0 : ∀ (w : World) (a : Option Addr) (n c n' c' : Nat), (binOp .eql 37 (.slice a n c) (.slice none n' c')).run Tryz.prog w = .ok (.bool a.isNone) w := fun w a n c n' c' => Lib.run_eql_slice_nil w _ _ a n c n' c' Tryz.underlying37
  obtain ⟨h3, h2⟩ := hc
  cases a with
  | none =>
    obtain rfl := h3 rfl
    obtain rfl : len = 0 := by omega
    obtain rfl : ds = [] := List.eq_nil_of_length_eq_zero h1.1
    go_enter Tryz.func88, Tryz.ntmps88
    go_wp2
    go_ret
    exact ⟨none, 0, rfl, OwnG.none _ _ _ _ _, Below.refl _ _⟩
  | some x =>
    have HX := Lib.hid h1
    obtain ⟨xb, xo, xs'⟩ := x
    clear h1
    go_enter Tryz.func88, Tryz.ntmps88
    go_wp2_with (at_builtin; refine append_g_copy sh_rowed rfl _ _ rfl w.heap.size rfl _ len cap ds rfl (fun e => by cases e) HX.out (by omega) (Nat.le_refl _) ?_; intro a1 c1 w1 hO hg; have HO := Lib.hid hO; have HG := Lib.hid hg; clear hO hg)
    go_ret
    exact ⟨a1, c1, rfl, HO.out, HG.out⟩
set_option maxHeartbeats 1600000 in
theorem cloneBm (w : World) (a : Option Addr) (len cap : Nat) (ds : List Bm) (h1 : Reads bmV w a len ds) (hc : Caps a len cap) (hlen : len ≤ 1000000) : Calls Tryz.prog 113 #[.slice a len cap] w fun e w' => ∃ a' c', e = .returned (.slice a' len c') ∧ OwnG bmV 92 3 w' w.heap.size (.slice a' len c') len ds ∧ Below w.heap.size w w' := by
  have q0 : ∀ (w : World) (a : Option Addr) (n c n' c' : Nat), (binOp .eql 38 (.slice a n c) (.slice none n' c')).run Tryz.prog w = .ok (.bool a.isNone) w := fun w a n c n' c' => Lib.run_eql_slice_nil w _ _ a n c n' c' Tryz.underlying38
  obtain ⟨h3, h2⟩ := hc
  cases a with
  | none =>
    obtain rfl := h3 rfl
    obtain rfl : len = 0 := by omega
    obtain rfl : ds = [] := List.eq_nil_of_length_eq_zero h1.1
    go_enter Tryz.func113, Tryz.ntmps113
    go_wp2
    go_ret
    exact ⟨none, 0, rfl, OwnG.none _ _ _ _ _, Below.refl _ _⟩
  | some x =>
    have HX := Lib.hid h1
    obtain ⟨xb, xo, xs'⟩ := x
    clear h1
    go_enter Tryz.func113, Tryz.ntmps113
    go_wp2_with (at_builtin; refine append_g_copy bm_rowed rfl _ _ rfl w.heap.size rfl _ len cap ds rfl (fun e => by cases e) HX.out (by omega) (Nat.le_refl _) ?_; intro a1 c1 w1 hO hg; have HO := Lib.hid hO; have HG := Lib.hid hg; clear hO hg)
    go_ret
    exact ⟨a1, c1, rfl, HO.out, HG.out⟩
set_option maxHeartbeats 1600000 in
theorem cloneSp (w : World) (a : Option Addr) (len cap : Nat) (ds : List Sp) (h1 : Reads spCells w a len ds) (hc : Caps a len cap) (hlen : len ≤ 1000000) : Calls Tryz.prog 114 #[.slice a len cap] w fun e w' => ∃ a' c', e = .returned (.slice a' len c') ∧ OwnG spCells 96 2 w' w.heap.size (.slice a' len c') len ds ∧ Below w.heap.size w w' := by
  have q0 : ∀ (w : World) (a : Option Addr) (n c n' c' : Nat), (binOp .eql 90 (.slice a n c) (.slice none n' c')).run Tryz.prog w = .ok (.bool a.isNone) w := fun w a n c n' c' => Lib.run_eql_slice_nil w _ _ a n c n' c' Tryz.underlying90
  obtain ⟨h3, h2⟩ := hc
  cases a with
  | none =>
    obtain rfl := h3 rfl
    obtain rfl : len = 0 := by omega
    obtain rfl : ds = [] := List.eq_nil_of_length_eq_zero h1.1
    go_enter Tryz.func114, Tryz.ntmps114
    go_wp2
    go_ret
    exact ⟨none, 0, rfl, OwnG.none _ _ _ _ _, Below.refl _ _⟩
  | some x =>
    have HX := Lib.hid h1
    obtain ⟨xb, xo, xs'⟩ := x
    clear h1
    go_enter Tryz.func114, Tryz.ntmps114
    go_wp2_with (at_builtin; refine append_g_copy sp_rowed rfl _ _ rfl w.heap.size rfl _ len cap ds rfl (fun e => by cases e) HX.out (by omega) (Nat.le_refl _) ?_; intro a1 c1 w1 hO hg; have HO := Lib.hid hO; have HG := Lib.hid hg; clear hO hg)
    go_ret
    exact ⟨a1, c1, rfl, HO.out, HG.out⟩
set_option maxHeartbeats 1600000 in
theorem cloneIv (w : World) (a : Option Addr) (len cap : Nat) (ds : List Int) (h1 : Reads ivV w a len ds) (hc : Caps a len cap) (hlen : len ≤ 1000000) : Calls Tryz.prog 91 #[.slice a len cap] w fun e w' => ∃ a' c', e = .returned (.slice a' len c') ∧ OwnG ivV 3 1 w' w.heap.size (.slice a' len c') len ds ∧ Below w.heap.size w w' := by
  have q0 : ∀ (w : World) (a : Option Addr) (n c n' c' : Nat), (binOp .eql 39 (.slice a n c) (.slice none n' c')).run Tryz.prog w = .ok (.bool a.isNone) w := fun w a n c n' c' => Lib.run_eql_slice_nil w _ _ a n c n' c' Tryz.underlying39
  obtain ⟨h3, h2⟩ := hc
  cases a with
  | none =>
    obtain rfl := h3 rfl
    obtain rfl : len = 0 := by omega
    obtain rfl : ds = [] := List.eq_nil_of_length_eq_zero h1.1
    go_enter Tryz.func91, Tryz.ntmps91
    go_wp2
    go_ret
    exact ⟨none, 0, rfl, OwnG.none _ _ _ _ _, Below.refl _ _⟩
  | some x =>
    have HX := Lib.hid h1
    obtain ⟨xb, xo, xs'⟩ := x
    clear h1
    go_enter Tryz.func91, Tryz.ntmps91
    go_wp2_with (at_builtin; refine append_g_copy iv_rowed rfl _ _ rfl w.heap.size rfl _ len cap ds rfl (fun e => by cases e) HX.out (by omega) (Nat.le_refl _) ?_; intro a1 c1 w1 hO hg; have HO := Lib.hid hO; have HG := Lib.hid hg; clear hO hg)
    go_ret
    exact ⟨a1, c1, rfl, HO.out, HG.out⟩
/-- A boxed table and a boxed result; all else below the base as it was. -/
def BoxB (X base : Nat) (s r : Value) (w0 W : World) : Prop := Blk W X 36 #[s] ∧ Blk W (X + 1) 36 #[r] ∧ Below base w0 W ∧ base ≤ X
section
variable {X base : Nat} {s r : Value} {w0 W W' : World}
theorem BoxB.first (w : World) (base : Nat) (hb : base ≤ w.heap.size) (s r : Value) : BoxB w.heap.size base s r w ((w.alloc (.cells #[s] 36)).alloc (.cells #[r] 36)) := ⟨(Blk.new w _ _).alloc _, blk_next9 _ _ _ _ _, ((Below.refl _ _).alloc hb _).alloc (by simp; omega) _, hb⟩
theorem BoxB.later (h : BoxB X base s r w0 W) (hb : Below W.heap.size W W') : BoxB X base s r w0 W' := ⟨h.1.later hb, h.2.1.later hb, h.2.2.1.trans (hb.mono (by have := h.1.lt; have := h.2.2.2; omega)), h.2.2.2⟩
theorem BoxB.alloc (h : BoxB X base s r w0 W) (o : Obj) : BoxB X base s r w0 (W.alloc o) := h.later ((Below.refl _ _).alloc (Nat.le_refl _) _)
theorem BoxB.row (h : BoxB X base s r w0 W) {g : Nat} (hg : base ≤ g) (h1 : g ≠ X) (h2 : g ≠ X + 1) (hr : W.grownBy W' (some g)) : BoxB X base s r w0 W' :=
  ⟨h.1.kept hr (fun e => by simp at e; omega), h.2.1.kept hr (fun e => by simp at e; omega), h.2.2.1.grown hr (by have := h.1.lt; have := h.2.2.2; omega) (fun k hk => by cases hk; exact hg), h.2.2.2⟩
theorem BoxB.res (h : BoxB X base s r w0 W) (v : Value) : BoxB X base s v w0 (W.setCell ⟨X + 1, 0, none⟩ v) :=
  ⟨h.1.other (by omega) _, h.2.1.set 0 v, h.2.2.1.setCell (by show base ≤ X + 1; have := h.2.2.2; omega) _, h.2.2.2⟩
theorem BoxB.below (h : BoxB X base s r w0 W) : Below base w0 W := h.2.2.1
end
theorem mid_set {α : Type} (es ds : List α) (j : Nat) (d' : α) (he : es.length = j) (hj : j < ds.length) : (es ++ ds.drop j).set j d' = (es ++ [d']) ++ ds.drop (j + 1) := by
  rw [List.set_append_right _ _ (by omega), he, Nat.sub_self, List.drop_eq_getElem_cons hj, List.set_cons_zero, List.append_assoc]
  rfl
set_option maxRecDepth 100000 in
set_option maxHeartbeats 3200000 in
theorem copy9 (w : World) (a : Option Addr) (len cap : Nat) (ds : List LfD) (h : TabR w a len ds) (hc : Caps a len cap) (hlen : len ≤ 6000) (hll : ∀ d ∈ ds, d.2.1 ≤ 1000000) :
    Calls Tryz.prog 87 #[.agg #[.slice a len cap]] w fun e w' => ∃ (a' : Option Addr) (c' : Nat) (es : List LfD), e = .returned (.agg #[.slice a' len c']) ∧ tbOf es = tbOf ds ∧ TabQ w' w.heap.size a' len c' es es ∧ Below w.heap.size w w' := by
  have HB0 := Lib.hid (BoxB.first w _ (Nat.le_refl _) (.slice a len cap) (.slice none 0 0))
  have HT := Lib.hid h
  have HLL := Lib.hid hll
  have hdl := h.len
  obtain ⟨X, hX⟩ := named w.heap.size
  have hXX := hX.out
  rw [hX.out] at HB0 ⊢
  have HCL : Hid (∀ W, Below X w W → _) := fun W hb => cloneL9 W a len cap ds (h.1.later (hX.out.symm ▸ hb)) hc.2 hc.1 (by omega)
  clear h hll hc
  go_enter Tryz.func87, Tryz.ntmps87
  go_wp2_with (go_at_call 111; refine (HCL.out _ HB0.out.below).mono ?_; rintro e w1 ⟨a1, c1, rfl, g1, g2⟩; have HB1 := Lib.hid (HB0.out.later g2); have HO := Lib.hid g1; have HG := Lib.hid g2; clear g1 g2 HCL)
  go_loopw [11] (fun i wr => ∃ (j : Nat) (es : List LfD), j ≤ len ∧ i = .int .i64 j ∧ es.length = j ∧ Hid (tbOf es = (tbOf ds).take j) ∧ Hid (BoxB X X (.slice a len cap) (.slice none 0 0) w wr) ∧ Hid (TabQ wr (X + 2) a1 len c1 (es ++ ds.drop j) es)) (fun i _ => len - (intOf i).toNat)
  case atStart =>
    refine ⟨0, [], Nat.zero_le _, rfl, rfl, rfl, HB1.out, ?_, by simp, fun i j d d' hi => by simp at hi⟩
    have := HO.out
    rw [World.size_alloc, World.size_alloc, hX.out] at this
    exact this
  case round =>
    obtain ⟨j, es, hj, rfl, hes, HE, HB, HQ⟩ := hrel
    by_cases hlt : j < len
    · obtain ⟨g, d, rfl, hg1, hg2, hd, hcell, hfz⟩ := HQ.out.at j hlt
      have hd2 : ds[j]? = some d := by
        rw [List.getElem?_append_right (by omega), hes, Nat.sub_self, List.getElem?_drop, Nat.add_zero] at hd
        exact hd
      have hL : LfR wr d := (HT.out.later (hX.out.symm ▸ HB.out.below)).2 d (List.mem_of_getElem? hd2)
      have HC := Lib.hid (cloneE9 wr d hL (HLL.out d (List.mem_of_getElem? hd2)))
      have HD2 := Lib.hid hd2
      obtain ⟨al, ll, cl, xs⟩ := d
      clear hd hd2 hL
      go_wp2_with (go_at_call 112; refine HC.out.mono ?_; rintro e w2 ⟨d', rfl, g1, g2, g3⟩; have hb2 := HB.out.later g3; have hq2 := HQ.out.later g3; have h5 := (hq2.addEs d' (g2.mono (by have := hb2.2.1.lt; have := HB.out.2.1.lt; omega)) (fun x hx b hb hb' => by have := HQ.out.lt x hx b hb; have := (g2.lt hb').1; omega)).setOut g j rfl d'; rw [mid_set es ds j d' hes (by rw [hdl]; exact hlt)] at h5; have HB2 := Lib.hid (hb2.row (by omega) (by omega) (by omega) h5.2); have HQ2 := Lib.hid h5.1; have HE2 : Hid (tbOf (es ++ [d']) = (tbOf ds).take (j + 1)) := Lib.hid (by rw [tb_take_succ HD2.out, ← HE.out, ← g1]; unfold tbOf; rw [List.map_append]; rfl); obtain ⟨x1, x2⟩ := cell_kept9 g3 hg2 hcell hfz; clear hb2 hq2 h5 g1 g2 g3 HC)
      go_roundw
      case rel => exact ⟨j + 1, es ++ [d'], by omega, by go_num, by rw [List.length_append, hes]; rfl, HE2, HB2, HQ2⟩
      case measure => simp [intOf]; omega
    · have hjl : j = len := by omega
      subst hjl
      have hq : TabQ (wr.setCell ⟨X + 1, 0, none⟩ (.slice a1 j c1)) (X + 2) a1 j c1 es es := by
        have := HQ.out.low (X := X + 1) (by omega) (grownBy_setCell4 wr (X + 1) 0 (.slice a1 j c1))
        rwa [List.drop_eq_nil_of_le (Nat.le_of_eq hdl), List.append_nil] at this
      have HQ2 := Lib.hid hq
      have HB2 := Lib.hid (HB.out.res (.slice a1 j c1))
      have r1 := one_cell9 HB.out.2.1
      have r2 := HB.out.2.1.free 0
      have HE2 : Hid (tbOf es = tbOf ds) := Lib.hid (by
        rw [HE.out, List.take_of_length_le]
        unfold tbOf
        rw [List.length_map]
        exact Nat.le_of_eq hdl)
      clear hq
      go_wp2
      refine bodyPost_ret (v := .agg #[.slice a1 j c1]) (results_cell_row rfl _ _ (X + 1) 36 #[.slice a1 j c1] (0, 0) _ rfl HB2.out.2.1 Tryz.underlying36 rfl tbl_size) rfl ⟨a1, c1, es, rfl, HE2.out, HQ2.out.mono (by omega), HB2.out.below⟩
theorem pcopyT {a : Option Addr} {len cap : Nat} {T : Tb} (w : World) (h : Tab w a len cap T) : Calls Tryz.prog 87 #[.agg #[.slice a len cap]] w fun e w' => ∃ (a' : Option Addr) (c' : Nat), e = .returned (.agg #[.slice a' len c']) ∧ TabN w' w.heap.size a' len c' T ∧ Below w.heap.size w w' := by
  have hl := h.lens
  obtain ⟨ds, h1, h2, rfl, h3, h4⟩ := h
  refine (copy9 w a len cap ds h1 h2 h3 h4).mono ?_
  rintro e w' ⟨a', c', es, rfl, g1, g2, g3⟩
  exact ⟨a', c', rfl, g2.tabN g1 h3 hl.2.2.1 (Nat.le_refl _), g3⟩
end Go.Proofs.YtlljcdmblmkblaaGreat
namespace Go.Proofs.YtlljcdmblmkblaaGreat
open Go.RowKit
set_option linter.unusedVariables false

/-- Stores of a whole struct into its box. -/
theorem grownTwo {W W1 W2 : World} {r : Option Nat} (h : W.grownBy W1 r) (k : W1.grownBy W2 r) : W.grownBy W2 r :=
  ⟨k.os.trans h.os, k.tape.trans h.tape, k.output.trans h.output, Nat.le_trans h.size k.size, fun b hb hne => (k.block b (Nat.lt_of_lt_of_le hb h.size) hne).trans (h.block b hb hne)⟩
theorem grown3 (W : World) (Y : Nat) (v0 v1 v2 : Value) : W.grownBy (((W.setCell ⟨Y, 0, none⟩ v0).setCell ⟨Y, 1, none⟩ v1).setCell ⟨Y, 2, none⟩ v2) (some Y) :=
  grownTwo (grownTwo (grownBy_setCell4 W Y 0 v0) (grownBy_setCell4 _ Y 1 v1)) (grownBy_setCell4 _ Y 2 v2)
theorem Blk.set3 {W : World} {Y : Nat} {t : TypeId} {a b c : Value} (h : Blk W Y t #[a, b, c]) (v0 v1 v2 : Value) : Blk (((W.setCell ⟨Y, 0, none⟩ v0).setCell ⟨Y, 1, none⟩ v1).setCell ⟨Y, 2, none⟩ v2) Y t #[v0, v1, v2] := ((h.set 0 v0).set 1 v1).set 2 v2
theorem grown7 (W : World) (Y : Nat) (v0 v1 v2 v3 v4 v5 v6 : Value) : W.grownBy (((((((W.setCell ⟨Y, 0, none⟩ v0).setCell ⟨Y, 1, none⟩ v1).setCell ⟨Y, 2, none⟩ v2).setCell ⟨Y, 3, none⟩ v3).setCell ⟨Y, 4, none⟩ v4).setCell ⟨Y, 5, none⟩ v5).setCell ⟨Y, 6, none⟩ v6) (some Y) :=
  grownTwo (grownTwo (grownTwo (grownTwo (grown3 W Y v0 v1 v2) (grownBy_setCell4 _ Y 3 v3)) (grownBy_setCell4 _ Y 4 v4)) (grownBy_setCell4 _ Y 5 v5)) (grownBy_setCell4 _ Y 6 v6)
theorem Blk.set7 {W : World} {Y : Nat} {t : TypeId} {a0 a1 a2 a3 a4 a5 a6 : Value} (h : Blk W Y t #[a0, a1, a2, a3, a4, a5, a6]) (v0 v1 v2 v3 v4 v5 v6 : Value) :
    Blk (((((((W.setCell ⟨Y, 0, none⟩ v0).setCell ⟨Y, 1, none⟩ v1).setCell ⟨Y, 2, none⟩ v2).setCell ⟨Y, 3, none⟩ v3).setCell ⟨Y, 4, none⟩ v4).setCell ⟨Y, 5, none⟩ v5).setCell ⟨Y, 6, none⟩ v6) Y t #[v0, v1, v2, v3, v4, v5, v6] := by
  have h0 : Blk _ Y t #[v0, a1, a2, a3, a4, a5, a6] := h.set 0 v0
  have h1 : Blk _ Y t #[v0, v1, a2, a3, a4, a5, a6] := h0.set 1 v1
  have h2 : Blk _ Y t #[v0, v1, v2, a3, a4, a5, a6] := h1.set 2 v2
  have h3 : Blk _ Y t #[v0, v1, v2, v3, a4, a5, a6] := h2.set 3 v3
  have h4 : Blk _ Y t #[v0, v1, v2, v3, v4, a5, a6] := h3.set 4 v4
  have h5 : Blk _ Y t #[v0, v1, v2, v3, v4, v5, a6] := h4.set 5 v5
  have h6 : Blk _ Y t #[v0, v1, v2, v3, v4, v5, v6] := h5.set 6 v6
  exact h6
theorem belowRow {B : Nat} {a w w' : World} (h : Below B a w) {Y : Nat} (hg : w.grownBy w' (some Y)) (hB : B ≤ Y) (hs : B ≤ w.heap.size) : Below B a w' := h.grown hg hs fun k hk => by cases hk; exact hB
theorem Blk.apart {W W' : World} {B Y : Nat} {t : TypeId} {cs : Array Value} (h : Blk W B t cs) (hg : W.grownBy W' (some Y)) (hne : B ≠ Y) : Blk W' B t cs := h.kept hg (fun e => hne (Option.some.inj e))
theorem blk_next {w : World} {t t' : TypeId} {cs cs' : Array Value} : Blk ((w.alloc (.cells cs t)).alloc (.cells cs' t')) (w.heap.size + 1) t' cs' := by
  have := Blk.new (w.alloc (.cells cs t)) t' cs'
  rwa [World.size_alloc] at this
theorem pcopyShot (w : World) (nm : ByteArray) (sz : Int) (al : Option Addr) (ll cl : Nat) (T : Tb) (h : Tab w al ll cl T) : Calls Tryz.prog 89 #[.agg #[.string nm, .int .i64 sz, .slice al ll cl]] w fun e w' => ∃ (a' : Option Addr) (c' : Nat), e = .returned (.agg #[.string nm, .int .i64 sz, .slice a' ll c']) ∧ TabN w' w.heap.size a' ll c' T ∧ Below w.heap.size w w' := by
  have HT := Lib.hid (fun W (hb : Below w.heap.size w W) => pcopyT W (h.later hb))
  have HX : Hid (Blk ((w.alloc (.cells #[.string nm, .int .i64 sz, .slice al ll cl] 77)).alloc (.cells #[.string ByteArray.empty, .int .i64 0, .slice none 0 0] 77)) w.heap.size 77 #[.string nm, .int .i64 sz, .slice al ll cl]) := (Blk.new w _ _).alloc _
  have HY : Hid (Blk ((w.alloc (.cells #[.string nm, .int .i64 sz, .slice al ll cl] 77)).alloc (.cells #[.string ByteArray.empty, .int .i64 0, .slice none 0 0] 77)) (w.heap.size + 1) 77 #[.string ByteArray.empty, .int .i64 0, .slice none 0 0]) := by
    have := Blk.new (w.alloc (.cells #[.string nm, .int .i64 sz, .slice al ll cl] 77)) 77 #[.string ByteArray.empty, .int .i64 0, .slice none 0 0]
    rwa [World.size_alloc] at this
  have HB : Hid (Below w.heap.size w ((w.alloc (.cells #[.string nm, .int .i64 sz, .slice al ll cl] 77)).alloc (.cells #[.string ByteArray.empty, .int .i64 0, .slice none 0 0] 77))) := ((Below.refl _ _).alloc (Nat.le_refl _) _).alloc (by simp) _
  clear h
  go_enter Tryz.func89, Tryz.ntmps89
  go_wp2_with (go_at_call 87; refine (HT.out _ HB.out).mono ?_; rintro e w1 ⟨a1, c1, rfl, ht, hb⟩; have HX1 := Lib.hid (HX.out.later hb); have HY1 := Lib.hid (HY.out.later hb); have HB1 := Lib.hid (HB.out.trans (hb.mono HB.out.size)); have HT1 := Lib.hid ht; obtain ⟨x0, x1, x2⟩ := cells3 HX1.out; obtain ⟨f0, f1, f2⟩ := free3 HX1.out; obtain ⟨y0, y1, y2⟩ := cells3 HY1.out; obtain ⟨g0, g1, g2⟩ := free3 HY1.out; clear hb ht)
  have hl1 := HX1.out.lt
  have k1 := grownBy_setCell4 w1 w.heap.size 2 (.slice a1 ll c1)
  have k2 := grown3 (w1.setCell ⟨w.heap.size, 2, none⟩ (.slice a1 ll c1)) (w.heap.size + 1) (.string nm) (.int .i64 sz) (.slice a1 ll c1)
  have t1 := (HT1.out.mono (base' := w.heap.size) HB.out.size).typed HX1.out (by decide) (by decide) k1
  have t2 := t1.typed (HY1.out.apart k1 (by omega)) (by decide) (by decide) k2
  have b1 := belowRow HB1.out k1 (Nat.le_refl _) (by omega)
  have b2 := belowRow b1 k2 (by omega) (by rw [World.size_setCell]; omega)
  have r2 := (HY1.out.apart k1 (by omega)).set3 (.string nm) (.int .i64 sz) (.slice a1 ll c1)
  exact bodyPost_ret (v := .agg #[.string nm, .int .i64 sz, .slice a1 ll c1]) (results_cell_row rfl _ _ (w.heap.size + 1) 77 #[.string nm, .int .i64 sz, .slice a1 ll c1] (0, 0) _ rfl r2 Tryz.underlying77 rfl shot_size) rfl ⟨a1, c1, rfl, t2, b2⟩
end Go.Proofs.YtlljcdmblmkblaaGreat
namespace Go.Proofs.YtlljcdmblmkblaaGreat
open Go.RowKit
set_option linter.unusedVariables false

theorem flat_setK {α : Type} {cv : α → List Value} {sz : Nat} (hc : ∀ x, (cv x).length = sz) (d' : α) (k : Nat) (hk : k < sz) (v : Value) : ∀ (ds : List α) (i : Nat) (d : α), ds[i]? = some d → cv d' = (cv d).set k v → (ds.set i d').flatMap cv = (ds.flatMap cv).set (i * sz + k) v
  | [], i, d, h, _ => by simp at h
  | x :: r, 0, d, h, e => by
    simp at h
    subst h
    rw [List.set_cons_zero, List.flatMap_cons, List.flatMap_cons, e, Nat.zero_mul, Nat.zero_add, List.set_append_left _ _ (by rw [hc]; exact hk)]
  | x :: r, i + 1, d, h, e => by
    rw [List.getElem?_cons_succ] at h
    rw [List.set_cons_succ, List.flatMap_cons, List.flatMap_cons, flat_setK hc d' k hk v r i d h e, List.set_append_right _ _ (by rw [hc, Nat.succ_mul]; omega), hc]
    congr 2
    rw [Nat.succ_mul]
    omega
/-- A field of an element of a row of one's own turns. -/
theorem own_setK {α : Type} {cv : α → List Value} {P : Program} {t e : TypeId} {sz bytes : Nat} (R : Rowed P t e sz bytes cv) {w : World} {base n c g : Nat} {ds : List α} (h : OwnG cv e sz w base (.slice (some ⟨g, 0, none⟩) n c) n ds) (i k : Nat) (d d' : α) (hd : ds[i]? = some d) (v : Value) (hk : k < sz) (hcv : cv d' = (cv d).set k v) :
    OwnG cv e sz (w.setCell ⟨g, i * sz + k, none⟩ v) base (.slice (some ⟨g, 0, none⟩) n c) n (ds.set i d') ∧ w.grownBy (w.setCell ⟨g, i * sz + k, none⟩ v) (some g) := by
  obtain ⟨h1, h2⟩ := h.1.stored (i * sz + k) v
  refine ⟨⟨?_, by rw [List.length_set]; exact h.2.1, h.2.2⟩, h2⟩
  rw [flat_setK R.len d' k hk v ds i d hd hcv]
  exact h1
/-- An element of a row of one's own, of three cells. -/
theorem own3_at {α : Type} {cv : α → List Value} {P : Program} {t e : TypeId} {bytes : Nat} (R : Rowed P t e 3 bytes cv) {w : World} {base n c : Nat} {a : Option Addr} {ds : List α} (h : OwnG cv e 3 w base (.slice a n c) n ds) (i : Nat) (hi : i < n) :
    ∃ g d, a = some ⟨g, 0, none⟩ ∧ base ≤ g ∧ g < w.heap.size ∧ ds[i]? = some d ∧ (w.cell? ⟨g, i * 3, none⟩ = (cv d)[0]? ∧ w.cell? ⟨g, i * 3 + 1, none⟩ = (cv d)[1]? ∧ w.cell? ⟨g, i * 3 + 2, none⟩ = (cv d)[2]?) ∧ (∀ k, w.frozen? ⟨g, k, none⟩ = false) ∧ ∃ cs, Blk w g e cs := by
  obtain ⟨b, off, d, e1, hd, hlt, x0, x1, x2⟩ := row3_at R (h.reads R).1 i hi
  obtain ⟨h1, h2, h3⟩ := h
  rcases h1.2 with ⟨e', e0⟩ | ⟨g, cap', cur, e', hb, hg, r⟩
  · omega
  · cases e'
    cases e1
    simp only [Nat.zero_add] at x0 x1 x2
    exact ⟨_, d, rfl, hb, lt_of_block hg, hd, ⟨x0, x1, x2⟩, fun k => h1.frozenAt k, cur, hg⟩
theorem take_map_succ {α β : Type} {f : α → β} {ds : List α} {j : Nat} {d : α} (h : ds[j]? = some d) : (ds.map f).take (j + 1) = (ds.map f).take j ++ [f d] := by
  rw [List.take_add_one, List.getElem?_map, h]
  rfl
theorem mid_at {α : Type} {es ds : List α} {j : Nat} (he : es.length = j) {d : α} (h : (es ++ ds.drop j)[j]? = some d) : ds[j]? = some d := by
  rw [List.getElem?_append_right (by omega), he, Nat.sub_self, List.getElem?_drop, Nat.add_zero] at h
  exact h
/-- Between two bitmaps. -/
structure BmL (w : World) (base : Nat) (a : Option Addr) (len c j : Nat) (ds es : List Bm) (W : World) : Prop where
  row : OwnG bmV 92 3 W base (.slice a len c) len (es ++ ds.drop j)
  sps : ∀ d ∈ es, SpN W base d.2.2.1 d.2.2.2.1 d.2.2.2.2.1 (bmL d)
  len : es.length = j
  is : es.map bmM = (ds.map bmM).take j
  dat : Below base w W
  low : base ≤ W.heap.size
set_option maxRecDepth 100000 in
set_option maxHeartbeats 1600000 in
theorem pcopyBms (w : World) (a : Option Addr) (len cap : Nat) (B : List BmM) (h : BmsD w a len cap B) : Calls Tryz.prog 90 #[.slice a len cap] w fun e w' => ∃ (a' : Option Addr) (c' : Nat), e = .returned (.slice a' len c') ∧ BmsN w' w.heap.size a' len c' B ∧ Below w.heap.size w w' := by
  obtain ⟨ds, ⟨h1, h2⟩, rfl, h3, h4, h5⟩ := h
  have hdl := h1.1
  have HCL := Lib.hid (cloneBm w a len cap ds h1 h3 (by omega))
  have H2 := Lib.hid h2
  have H5 := Lib.hid h5
  clear h1 h2 h3 h5
  go_enter Tryz.func90, Tryz.ntmps90
  go_wp2_with (go_at_call 113; refine HCL.out.mono ?_; rintro e w1 ⟨a1, c1, rfl, g1, g2⟩; have HO := Lib.hid g1; have HG := Lib.hid g2; clear g1 g2 HCL)
  go_loopw [10] (fun i wr => ∃ (j : Nat) (es : List Bm), j ≤ len ∧ i = .int .i64 j ∧ Hid (BmL w w.heap.size a1 len c1 j ds es wr)) (fun i _ => len - (intOf i).toNat)
  case atStart => exact ⟨0, [], Nat.zero_le _, rfl, by simpa using HO.out, by simp, rfl, rfl, HG.out, HG.out.size⟩
  case round =>
    obtain ⟨j, es, hj, rfl, HL⟩ := hrel
    by_cases hlt : j < len
    · obtain ⟨g, ⟨nm, on, al, ll, cl, l⟩, rfl, hg1, hg2, hd, ⟨x0, x1, x2⟩, hfz, cs, hblk⟩ := own3_at bm_rowed HL.out.row j hlt
      have hd2 := mid_at HL.out.len hd
      have hx0 : wr.cell? ⟨g, j * 3, none⟩ = some (.string nm) := x0
      have hx1 : wr.cell? ⟨g, j * 3 + 1, none⟩ = some (.bool on) := x1
      have hx2 : wr.cell? ⟨g, j * 3 + 2, none⟩ = some (.slice al ll cl) := x2
      have hs0 : SpD w al ll cl l := H2.out _ (List.mem_of_getElem? hd2)
      have HS := Lib.hid hs0
      have HD2 := Lib.hid hd2
      have HD := Lib.hid hd
      have HFZ := Lib.hid hfz
      have HW : Hid (Below w.heap.size w (wr.alloc (.cells #[.string nm, .bool on, .slice al ll cl] 92))) := HL.out.dat.alloc HL.out.low _
      have HLA : Hid (Blk (wr.alloc (.cells #[.string nm, .bool on, .slice al ll cl] 92)) wr.heap.size 92 #[.string nm, .bool on, .slice al ll cl]) := Blk.new _ _ _
      have hb2 : (wr.alloc (.cells #[.string nm, .bool on, .slice al ll cl] 92)).cell? ⟨wr.heap.size, 2, none⟩ = some (.slice al ll cl) := HLA.out.cell 2
      have HSC := Lib.hid (cloneSp (wr.alloc (.cells #[.string nm, .bool on, .slice al ll cl] 92)) al ll cl l (HS.out.later HW.out).1 HS.out.2.1 (by have := HS.out.2.2.1; omega))
      clear x0 x1 x2 hd hd2 hs0 hfz hblk
      go_wp2_with (go_at_call 114; refine HSC.out.mono ?_; rintro e w2 ⟨a2, c2, rfl, g1, g2⟩; have HO2 := Lib.hid g1; have HG2 := Lib.hid (((Below.refl _ wr).alloc (Nat.le_refl _) _).trans (g2.mono (by simp))); have y2 : w2.cell? ⟨g, j * 3 + 2, none⟩ = some (.slice al ll cl) := (HG2.out.cell (p := ⟨g, j * 3 + 2, none⟩) hg2).trans hx2; have fz2 : w2.frozen? ⟨g, j * 3 + 2, none⟩ = false := (HG2.out.frozen (p := ⟨g, j * 3 + 2, none⟩) hg2).trans (HFZ.out _); clear g1 g2 HSC)
      have hrow2 := HL.out.row.laterB HG2.out
      obtain ⟨q1, q2⟩ := own_setK bm_rowed hrow2 j 2 _ (nm, on, a2, ll, c2, l) HD.out (.slice a2 ll c2) (by omega) rfl
      have hset : (es ++ ds.drop j).set j (nm, on, a2, ll, c2, l) = (es ++ [(nm, on, a2, ll, c2, l)]) ++ ds.drop (j + 1) := mid_set _ _ _ _ HL.out.len (by omega)
      rw [hset] at q1
      have hoff : Off w2 (some g) 96 := OwnG.off (e := 96) hrow2 (by decide)
      have HL3 : Hid (BmL w w.heap.size (some ⟨g, 0, none⟩) len c1 (j + 1) ds (es ++ [(nm, on, a2, ll, c2, l)]) (w2.setCell ⟨g, j * 3 + 2, none⟩ (.slice a2 ll c2))) := by
        refine ⟨q1, fun d hd => ?_, by rw [List.length_append, HL.out.len]; rfl, ?_, belowRow (HL.out.dat.trans (HG2.out.mono HL.out.low)) q2 hg1 (Nat.le_trans HL.out.low HG2.out.size), by rw [World.size_setCell]; exact Nat.le_trans HL.out.low HG2.out.size⟩
        · rcases List.mem_append.1 hd with hd | hd
          · exact ((HL.out.sps d hd).off (Off.none _ _) (grown_of_below HG2.out)).off hoff q2
          · obtain rfl : d = (nm, on, a2, ll, c2, l) := by simpa using hd
            have hn : SpN w2 w.heap.size a2 ll c2 l := ⟨HO2.out.monoB (by rw [World.size_alloc]; have := HL.out.low; omega), HS.out.2.2⟩
            exact hn.off hoff q2
        · rw [List.map_append, HL.out.is, take_map_succ HD2.out]
          rfl
      clear hrow2 q1 q2 hset hoff
      go_roundw
      case rel => exact ⟨j + 1, _, by omega, by go_num, HL3.out⟩
      case measure => simp [intOf]; omega
    · obtain rfl : j = len := by omega
      go_wp2
      go_ret
      have hr := HL.out.row
      rw [List.drop_eq_nil_of_le (Nat.le_of_eq hdl), List.append_nil] at hr
      refine ⟨a1, c1, rfl, ⟨es, hr, HL.out.sps, ?_, h4, H5.out⟩, HL.out.dat⟩
      rw [HL.out.is, List.take_of_length_le]
      rw [List.length_map]
      exact Nat.le_of_eq hdl
end Go.Proofs.YtlljcdmblmkblaaGreat
namespace Go.Proofs.YtlljcdmblmkblaaGreat
open Go.RowKit
set_option linter.unusedVariables false

/-- Two boxes of metas, all else below them as it was. -/
structure Cp (w0 : World) (X : Nat) (cs rs : Array Value) (W : World) : Prop where
  m : Blk W X 41 cs
  r : Blk W (X + 1) 41 rs
  dat : Below X w0 W
section
variable {w0 W W' : World} {X : Nat} {cs rs : Array Value}
theorem Cp.size (h : Cp w0 X cs rs W) : X + 2 ≤ W.heap.size := h.r.lt
theorem Cp.later (h : Cp w0 X cs rs W) (hb : Below W.heap.size W W') : Cp w0 X cs rs W' := ⟨h.m.later hb, h.r.later hb, h.dat.trans (hb.mono (by have := h.size; omega))⟩
theorem Cp.set (h : Cp w0 X cs rs W) (i : Nat) (v : Value) : Cp w0 X (cs.setIfInBounds i v) rs (W.setCell ⟨X, i, none⟩ v) := ⟨h.m.set i v, h.r.other (by omega) _, h.dat.setCell (Nat.le_refl _) v⟩
theorem Cp.res (h : Cp w0 X cs rs W) (hg : W.grownBy W' (some (X + 1))) {rs' : Array Value} (hr : Blk W' (X + 1) 41 rs') : Cp w0 X cs rs' W' :=
  ⟨h.m.apart hg (by omega), hr, belowRow h.dat hg (by omega) (by have := h.size; omega)⟩
theorem Cp.row {α : Type} {cv : α → List Value} {e : TypeId} {sz base n : Nat} {v : Value} {l : List α} (h : Cp w0 X cs rs W) (hv : OwnG cv e sz W base v n l) (he : 41 ≠ e) (hb : X ≤ base) (hg : W.grownBy W' v.ownBlock) : Cp w0 X cs rs W' :=
  ⟨h.m.kept hg (h.m.not_row he hv), h.r.kept hg (h.r.not_row he hv), h.dat.grown hg (by have := h.size; omega) fun k hk => Nat.le_trans hb (hv.1.lt k hk).1⟩
theorem Cp.first (w : World) (cs rs : Array Value) : Cp w w.heap.size cs rs ((w.alloc (.cells cs 41)).alloc (.cells rs 41)) := ⟨(Blk.new w _ _).alloc _, blk_next, ((Below.refl _ _).alloc (Nat.le_refl _) _).alloc (by simp) _⟩
end
/-- ... a table and shots of one's own. -/
structure CpS (w0 : World) (X H : Nat) (cs rs : Array Value) (a1 : Option Addr) (n0 c1 : Nat) (T : Tb) (sa2 : Option Addr) (sn sc2 : Nat) (ds : List Sh) (j : Nat) (es : List Sh) (W : World) : Prop where
  cp : Cp w0 X cs rs W
  T : TabF W X (Iv X H) a1 n0 c1 T
  row : OwnG shV 77 3 W X (.slice sa2 sn sc2) sn (es ++ ds.drop j)
  tabs : ∀ d ∈ es, TabF W X (From H) d.2.2.1 d.2.2.2.1 d.2.2.2.2.1 (shT d)
  len : es.length = j
  is : es.map shM = (ds.map shM).take j
  hH : H ≤ W.heap.size
theorem CpS.later {w0 W W' : World} {X H : Nat} {cs rs : Array Value} {a1 : Option Addr} {n0 c1 : Nat} {T : Tb} {sa2 : Option Addr} {sn sc2 : Nat} {ds : List Sh} {j : Nat} {es : List Sh} (h : CpS w0 X H cs rs a1 n0 c1 T sa2 sn sc2 ds j es W) (hb : Below W.heap.size W W') : CpS w0 X H cs rs a1 n0 c1 T sa2 sn sc2 ds j es W' :=
  ⟨h.cp.later hb, h.T.later hb, h.row.laterB hb, fun d hd => (h.tabs d hd).later hb, h.len, h.is, Nat.le_trans h.hH hb.size⟩
theorem set_self {α : Type} {l : List α} {j : Nat} {d : α} (h : l[j]? = some d) : l.set j d = l := by
  obtain ⟨hj, rfl⟩ := List.getElem?_eq_some_iff.1 h
  exact List.set_getElem_self hj
theorem s5 {A B C D E : Prop} (h : A ∧ B ∧ C ∧ D ∧ E) : E := h.2.2.2.2
/-- A copy of a meta. -/
def CopyP (w : World) (M : MM) (e : Ending) (w' : World) : Prop := ∃ (x : Mt) (H : Nat), e = .returned (.agg (mtA M x)) ∧ MetaN w' w.heap.size (Iv w.heap.size H) (From H) x M ∧ Below w.heap.size w w'
set_option maxRecDepth 100000 in
set_option maxHeartbeats 3200000 in
theorem pcopyM (w : World) (x : Mt) (M : MM) (h : MetaD w x M) : Calls Tryz.prog 69 #[.agg (mtA M x)] w (CopyP w M) := by
  obtain ⟨a0, n0, c0, sa, sn, sc, ma, mn, mc, ca, cn, cc⟩ := x
  obtain ⟨c, s, bk, T, S, B, K⟩ := M
  obtain ⟨hc, hs, hbk, hT, hS, hB, hK⟩ := h
  dsimp only [mtA] at hc hs hbk hT hS hB hK ⊢
  obtain ⟨ds, hSR, rfl, hSC, hS1, hSo⟩ := hS
  have hdl := hSR.1.1
  have HTC := Lib.hid (fun W (hb : Below w.heap.size w W) => pcopyT W (hT.later hb))
  have HSC := Lib.hid (fun W (hb : Below w.heap.size w W) => cloneSh W sa sn sc ds (hSR.1.later hb) hSC (by omega))
  have HTS := Lib.hid (fun W (hb : Below w.heap.size w W) d (hd : d ∈ ds) => (hSR.2 d hd).later hb)
  have HBC := Lib.hid (fun W (hb : Below w.heap.size w W) => pcopyBms W ma mn mc B (hB.later hb))
  have HKC := Lib.hid (fun W (hb : Below w.heap.size w W) => cloneIv W ca cn cc K (hK.1.later hb) hK.2.1 hK.2.2)
  have HK2 := Lib.hid hK.2.2
  have HO1 := Lib.hid hSo
  have HC0 := Lib.hid (Cp.first w #[.int .i64 c, .int .i64 s, .string bk, .slice a0 n0 c0, .slice sa sn sc, .slice ma mn mc, .slice ca cn cc] #[.int .i64 0, .int .i64 0, .string ByteArray.empty, .slice none 0 0, .slice none 0 0, .slice none 0 0, .slice none 0 0])
  have HI := Lib.hid (And.intro hc (And.intro hs hbk))
  clear hT hSR hSC hB hK hSo hc hs hbk
  go_enter Tryz.func69, Tryz.ntmps69
  go_wp2_with (first
    | (go_at_call 87; refine (HTC.out _ HC0.out.dat).mono ?_; rintro e w1 ⟨a1, c1, rfl, ht, hb⟩; have HC1 := Lib.hid (HC0.out.later hb); have HT1 := Lib.hid ht; have HH1 := Lib.hid hb.size; have HC2 := Lib.hid (HC1.out.set 3 (.slice a1 n0 c1)); obtain ⟨x0, x1, x2, x3, x4, x5, x6⟩ := cells7 HC1.out.m; obtain ⟨f0, f1, f2, f3, f4, f5, f6⟩ := free7 HC1.out.m; clear hb ht)
    | (go_at_call 88; refine (HSC.out _ HC2.out.dat).mono ?_; rintro e w2 ⟨sa2, sc2, rfl, g1, g2⟩; have HC3 := Lib.hid (HC2.out.later g2); have HR3 := Lib.hid g1; have HG3 := Lib.hid g2; have HC4 := Lib.hid (HC3.out.set 4 (.slice sa2 sn sc2)); obtain ⟨y0, y1, y2, y3, y4, y5, y6⟩ := cells7 HC3.out.m; obtain ⟨z0, z1, z2, z3, z4, z5, z6⟩ := free7 HC3.out.m; clear g1 g2 x0 x1 x2 x3 x4 x5 x6 f0 f1 f2 f3 f4 f5 f6))
  have HS4 : Hid (CpS w w.heap.size w1.heap.size #[.int .i64 c, .int .i64 s, .string bk, .slice a1 n0 c1, .slice sa2 sn sc2, .slice ma mn mc, .slice ca cn cc] #[.int .i64 0, .int .i64 0, .string ByteArray.empty, .slice none 0 0, .slice none 0 0, .slice none 0 0, .slice none 0 0] a1 n0 c1 T sa2 sn sc2 ds 0 [] (w2.setCell ⟨w.heap.size, 4, none⟩ (.slice sa2 sn sc2))) := by
    have k1 := grownBy_setCell4 w1 w.heap.size 3 (.slice a1 n0 c1)
    have k2 := grownBy_setCell4 w2 w.heap.size 4 (.slice sa2 sn sc2)
    have hX1 := HC1.out.size
    have hH : w.heap.size + 2 ≤ w1.heap.size := hX1
    have t1 : TabF w1 w.heap.size (Iv w.heap.size w1.heap.size) a1 n0 c1 T := HT1.out.f.mono HC0.out.dat.size (fun k _ hk => ⟨by have := HC0.out.size; have h := hk.1; omega, hk.2⟩)
    have t2 := (HC1.out.m.off (e := 68) (by decide)).tabF (HC1.out.m.off (e := 24) (by decide)) t1 k1
    have t3 := t2.later HG3.out
    have t4 := (HC3.out.m.off (e := 68) (by decide)).tabF (HC3.out.m.off (e := 24) (by decide)) t3 k2
    have r3 := HR3.out.monoB (base' := w.heap.size) (by rw [World.size_setCell]; omega)
    have r4 := (HC3.out.m.off (e := 77) (by decide)).row r3 k2
    exact ⟨HC4.out, t4, by simpa using r4, by simp, rfl, rfl, by rw [World.size_setCell]; have := HG3.out.size; rw [World.size_setCell] at this; omega⟩
  clear HC1 HC2 HC3 HC4 HT1 HR3 HG3 HC0
  go_loopw [16] (fun i wr => ∃ (j : Nat) (es : List Sh), j ≤ sn ∧ i = .int .i64 j ∧ Hid (CpS w w.heap.size w1.heap.size #[.int .i64 c, .int .i64 s, .string bk, .slice a1 n0 c1, .slice sa2 sn sc2, .slice ma mn mc, .slice ca cn cc] #[.int .i64 0, .int .i64 0, .string ByteArray.empty, .slice none 0 0, .slice none 0 0, .slice none 0 0, .slice none 0 0] a1 n0 c1 T sa2 sn sc2 ds j es wr)) (fun i _ => sn - (intOf i).toNat)
  case atStart => exact ⟨0, [], Nat.zero_le _, rfl, HS4.out⟩
  case round =>
    clear HS4 y0 y1 y2 y3 y4 y5 y6 z0 z1 z2 z3 z4 z5 z6
    obtain ⟨j, es, hj, rfl, HL⟩ := hrel
    obtain ⟨x0, x1, x2, x3, x4, x5, x6⟩ := cells7 HL.out.cp.m
    by_cases hlt : j < sn
    · obtain ⟨g, ⟨nm, sz, al, ll, cl, T'⟩, rfl, hg1, hg2, hd, ⟨q0, q1, q2⟩, hfz, cs, hblk⟩ := own3_at sh_rowed HL.out.row j hlt
      have hd2 := mid_at HL.out.len hd
      have hx0 : wr.cell? ⟨g, j * 3, none⟩ = some (.string nm) := q0
      have hx1 : wr.cell? ⟨g, j * 3 + 1, none⟩ = some (.int .i64 sz) := q1
      have hx2 : wr.cell? ⟨g, j * 3 + 2, none⟩ = some (.slice al ll cl) := q2
      have HD2 := Lib.hid hd2
      have HD := Lib.hid hd
      have HFZ := Lib.hid hfz
      obtain ⟨W1, hW1⟩ := named (wr.alloc (.cells #[.string nm, .int .i64 sz, .slice al ll cl] 77))
      obtain ⟨LB, hLB⟩ := named wr.heap.size
      have HWB : Hid (Below wr.heap.size wr W1) := by rw [← hW1.out]; exact (Below.refl _ wr).alloc (Nat.le_refl _) _
      have HLA : Hid (Blk W1 LB 77 #[.string nm, .int .i64 sz, .slice al ll cl]) := by rw [← hW1.out, ← hLB.out]; exact Blk.new _ _ _
      have HL1 := Lib.hid (HL.out.later HWB.out)
      have HSH : Hid (∀ W, Below W1.heap.size W1 W → Calls Tryz.prog 89 #[.agg #[.string nm, .int .i64 sz, .slice al ll cl]] W fun e w' => ∃ (a' : Option Addr) (c' : Nat), e = .returned (.agg #[.string nm, .int .i64 sz, .slice a' ll c']) ∧ TabN w' W1.heap.size a' ll c' T' ∧ Below W1.heap.size W1 w') := fun W hb =>
        (pcopyShot W nm sz al ll cl T' ((HTS.out _ HL1.out.cp.dat _ (List.mem_of_getElem? hd2)).later hb)).mono fun e w' ⟨a', c', e1, e2, e3⟩ => ⟨a', c', e1, e2.mono hb.size, hb.trans (e3.mono hb.size)⟩
      have HKP : Hid (∀ W, Below W1.heap.size W1 W → W.cell? ⟨w.heap.size, 4, none⟩ = some (.slice (some ⟨g, 0, none⟩) sn sc2) ∧ W.cell? ⟨LB, 0, none⟩ = some (.string nm) ∧ W.cell? ⟨LB, 1, none⟩ = some (.int .i64 sz) ∧ W.cell? ⟨LB, 2, none⟩ = some (.slice al ll cl)) := fun W hb =>
        ⟨((HL1.out.later hb).cp.m).cell 4, (HLA.out.later hb).cell 0, (HLA.out.later hb).cell 1, (HLA.out.later hb).cell 2⟩
      have hgX : w.heap.size ≠ g := fun e => by
        subst e
        have := (show wr.heap[w.heap.size]? = _ from hblk).symm.trans HL.out.cp.m
        simp at this
      have hgL : LB ≠ g := fun e => by have := hLB.out; omega
      have HKF : Hid (∀ W v0 v1 v2, Below W1.heap.size W1 W → (((W.setCell ⟨g, j * 3, none⟩ v0).setCell ⟨g, j * 3 + 1, none⟩ v1).setCell ⟨g, j * 3 + 2, none⟩ v2).cell? ⟨w.heap.size, 4, none⟩ = some (.slice (some ⟨g, 0, none⟩) sn sc2) ∧ (((W.setCell ⟨g, j * 3, none⟩ v0).setCell ⟨g, j * 3 + 1, none⟩ v1).setCell ⟨g, j * 3 + 2, none⟩ v2).cell? ⟨LB, 0, none⟩ = some (.string nm) ∧ (((W.setCell ⟨g, j * 3, none⟩ v0).setCell ⟨g, j * 3 + 1, none⟩ v1).setCell ⟨g, j * 3 + 2, none⟩ v2).cell? ⟨LB, 1, none⟩ = some (.int .i64 sz) ∧ (((W.setCell ⟨g, j * 3, none⟩ v0).setCell ⟨g, j * 3 + 1, none⟩ v1).setCell ⟨g, j * 3 + 2, none⟩ v2).cell? ⟨LB, 2, none⟩ = some (.slice al ll cl)) := fun W v0 v1 v2 hb => by
        have a1 := ((((HL1.out.later hb).cp.m).other hgX v0 (i := j * 3)).other hgX v1 (i := j * 3 + 1)).other hgX v2 (i := j * 3 + 2)
        have a2 := (((HLA.out.later hb).other hgL v0 (i := j * 3)).other hgL v1 (i := j * 3 + 1)).other hgL v2 (i := j * 3 + 2)
        exact ⟨a1.cell 4, a2.cell 0, a2.cell 1, a2.cell 2⟩
      have HR1 := Lib.hid (Below.refl W1.heap.size W1)
      have HP : Hid (∀ W, Below W1.heap.size W1 W → (W.cell? ⟨g, j * 3, none⟩ = some (.string nm) ∧ W.cell? ⟨g, j * 3 + 1, none⟩ = some (.int .i64 sz) ∧ W.cell? ⟨g, j * 3 + 2, none⟩ = some (.slice al ll cl)) ∧ (W.frozen? ⟨g, j * 3, none⟩ = false ∧ W.frozen? ⟨g, j * 3 + 1, none⟩ = false ∧ W.frozen? ⟨g, j * 3 + 2, none⟩ = false)) := fun W hb => by
        have h2 := HWB.out.trans (hb.mono HWB.out.size)
        exact ⟨⟨(h2.cell (p := ⟨g, j * 3, none⟩) hg2).trans hx0, (h2.cell (p := ⟨g, j * 3 + 1, none⟩) hg2).trans hx1, (h2.cell (p := ⟨g, j * 3 + 2, none⟩) hg2).trans hx2⟩, (h2.frozen (p := ⟨g, j * 3, none⟩) hg2).trans (HFZ.out _), (h2.frozen (p := ⟨g, j * 3 + 1, none⟩) hg2).trans (HFZ.out _), (h2.frozen (p := ⟨g, j * 3 + 2, none⟩) hg2).trans (HFZ.out _)⟩
      have hlb := hLB.out
      clear q0 q1 q2 hd hd2 hfz hLB hblk
      go_wp2
      rw [hW1.out]
      clear hlb hx0 hx1 hx2
      clear hgX hgL
      go_region_held3 (fun W => W.cell? ⟨w.heap.size, 4, none⟩ = some (.slice (some ⟨g, 0, none⟩) sn sc2) ∧ W.cell? ⟨LB, 0, none⟩ = some (.string nm) ∧ W.cell? ⟨LB, 1, none⟩ = some (.int .i64 sz) ∧ W.cell? ⟨LB, 2, none⟩ = some (.slice al ll cl)) (first | assumption | exact HKP.out _ HR1.out | exact HKP.out _ HR1.out.drew | exact HKP.out _ HB4.out | exact HKF.out _ _ _ _ HB4.out) (first | (go_at_call 89; (first | refine (HSH.out _ HR1.out).mono ?_ | refine (HSH.out _ HR1.out.drew).mono ?_); rintro e w4 ⟨a4, c4, rfl, g1, g2⟩; have HT4 := Lib.hid g1; have HB4 := Lib.hid g2; obtain ⟨⟨p0, p1, p2⟩, z0, z1, z2⟩ := HP.out _ g2; clear g1 g2))
      have HW4 : Hid (Below wr.heap.size wr w4) := HWB.out.trans (HB4.out.mono HWB.out.size)
      have HL5 : Hid (CpS w w.heap.size w1.heap.size #[.int .i64 c, .int .i64 s, .string bk, .slice a1 n0 c1, .slice (some ⟨g, 0, none⟩) sn sc2, .slice ma mn mc, .slice ca cn cc] #[.int .i64 0, .int .i64 0, .string ByteArray.empty, .slice none 0 0, .slice none 0 0, .slice none 0 0, .slice none 0 0] a1 n0 c1 T (some ⟨g, 0, none⟩) sn sc2 ds (j + 1) (es ++ [(nm, sz, a4, ll, c4, T')]) (((w4.setCell ⟨g, j * 3, none⟩ (.string nm)).setCell ⟨g, j * 3 + 1, none⟩ (.int .i64 sz)).setCell ⟨g, j * 3 + 2, none⟩ (.slice a4 ll c4))) := by
        have h4 := HL.out.later HW4.out
        obtain ⟨r0, k0⟩ := own_setK sh_rowed h4.row j 0 _ (nm, sz, al, ll, cl, T') HD.out (.string nm) (by omega) rfl
        rw [set_self HD.out] at r0
        obtain ⟨r1, k1⟩ := own_setK sh_rowed r0 j 1 _ (nm, sz, al, ll, cl, T') HD.out (.int .i64 sz) (by omega) rfl
        rw [set_self HD.out] at r1
        obtain ⟨r2, k2⟩ := own_setK sh_rowed r1 j 2 _ (nm, sz, a4, ll, c4, T') HD.out (.slice a4 ll c4) (by omega) rfl
        have hset : (es ++ ds.drop j).set j (nm, sz, a4, ll, c4, T') = (es ++ [(nm, sz, a4, ll, c4, T')]) ++ ds.drop (j + 1) := mid_set _ _ _ _ HL.out.len (by omega)
        rw [hset] at r2
        have kk := grownTwo (grownTwo k0 k1) k2
        have o1 : Off w4 (some g) 68 := OwnG.off (e := 68) h4.row (by decide)
        have o2 : Off w4 (some g) 24 := OwnG.off (e := 24) h4.row (by decide)
        have hw1 : w.heap.size ≤ W1.heap.size := by have := HL1.out.cp.size; omega
        refine ⟨h4.cp.row h4.row (by decide) (Nat.le_refl _) kk, o1.tabF o2 h4.T kk, r2, fun d hd => ?_, by rw [List.length_append, HL.out.len]; rfl, ?_, by rw [World.size_setCell, World.size_setCell, World.size_setCell]; exact h4.hH⟩
        · rcases List.mem_append.1 hd with hd | hd
          · exact o1.tabF o2 (h4.tabs d hd) kk
          · obtain rfl : d = (nm, sz, a4, ll, c4, T') := by simpa using hd
            exact o1.tabF o2 (HT4.out.f.mono hw1 (fun k hk _ => Nat.le_trans HL1.out.hH hk)) kk
        · rw [List.map_append, HL.out.is, take_map_succ HD2.out]
          rfl
      clear p0 p1 p2 z0 z1 z2
      go_wp2
      go_roundw
      case rel => exact ⟨j + 1, _, by omega, by go_num, HL5.out⟩
      case measure => simp [intOf]; omega
    · obtain rfl : j = sn := by omega
      have HR0 : Hid (OwnG shV 77 3 wr w.heap.size (.slice sa2 j sc2) j es) := by
        have hr := HL.out.row
        rw [List.drop_eq_nil_of_le (Nat.le_of_eq hdl), List.append_nil] at hr
        exact hr
      have HE : Hid (es.map shM = ds.map shM) := by
        have := HL.out.is
        rw [List.take_of_length_le (by rw [List.length_map]; exact Nat.le_of_eq hdl)] at this
        exact this
      obtain ⟨f0, f1, f2, f3, f4, f5, f6⟩ := free7 HL.out.cp.m
      have HB0 := Lib.hid (HBC.out wr HL.out.cp.dat)
      have HC := Lib.hid HL.out.cp
      have HTT := Lib.hid HL.out.T
      have HTA := Lib.hid HL.out.tabs
      have hH := HL.out.hH
      clear HTC HSC HTS HBC HL
      go_wp2_with (first
        | (go_at_call 90; refine HB0.out.mono ?_; rintro e w5 ⟨ma2, mc2, rfl, g1, g2⟩; have HC5 := Lib.hid (HC.out.later g2); have HBN := Lib.hid g1; have HG5 := Lib.hid g2; have HC6 := Lib.hid (HC5.out.set 5 (.slice ma2 mn mc2)); obtain ⟨y0, y1, y2, y3, y4, y5, y6⟩ := cells7 HC5.out.m; obtain ⟨z0, z1, z2, z3, z4, z5, z6⟩ := free7 HC5.out.m; clear g1 g2 x0 x1 x2 x3 x4 x5 x6 f0 f1 f2 f3 f4 f5 f6)
        | (go_at_call 91; refine (HKC.out _ HC6.out.dat).mono ?_; rintro e w6 ⟨ca2, cc2, rfl, g1, g2⟩; have HC7 := Lib.hid (HC6.out.later g2); have HKN := Lib.hid g1; have HG7 := Lib.hid g2; have HC8 := Lib.hid (HC7.out.set 6 (.slice ca2 cn cc2)); obtain ⟨x0, x1, x2, x3, x4, x5, x6⟩ := cells7 HC7.out.m; obtain ⟨f0, f1, f2, f3, f4, f5, f6⟩ := free7 HC7.out.m; obtain ⟨p0, p1, p2, p3, p4, p5, p6⟩ := cells7 HC7.out.r; obtain ⟨q0, q1, q2, q3, q4, q5, q6⟩ := free7 HC7.out.r; clear g1 g2 y0 y1 y2 y3 y4 y5 y6 z0 z1 z2 z3 z4 z5 z6))
      have kr := grown7 (w6.setCell ⟨w.heap.size, 6, none⟩ (.slice ca2 cn cc2)) (w.heap.size + 1) (.int .i64 c) (.int .i64 s) (.string bk) (.slice a1 n0 c1) (.slice sa2 j sc2) (.slice ma2 mn mc2) (.slice ca2 cn cc2)
      have r9 := HC8.out.r.set7 (.int .i64 c) (.int .i64 s) (.string bk) (.slice a1 n0 c1) (.slice sa2 j sc2) (.slice ma2 mn mc2) (.slice ca2 cn cc2)
      have HC9 := HC8.out.res kr r9
      have k5 := grownBy_setCell4 w5 w.heap.size 5 (.slice ma2 mn mc2)
      have k6 := grownBy_setCell4 w6 w.heap.size 6 (.slice ca2 cn cc2)
      have o5 := HC5.out.m.off6
      have o7 := HC7.out.m.off6
      have o8 := HC8.out.r.off6
      have hl5 := HC5.out.size
      have s5' : w.heap.size ≤ (w5.setCell ⟨w.heap.size, 5, none⟩ (.slice ma2 mn mc2)).heap.size := by rw [World.size_setCell]; omega
      have sN : ShsN wr w.heap.size (From w1.heap.size) sa2 j sc2 (ds.map shM) := ⟨es, HR0.out, HTA.out, HE.out, hS1, HO1.out⟩
      have bN : BmsN w5 w.heap.size ma2 mn mc2 B := HBN.out.mono (by have := HC.out.size; omega)
      have iN : IntsN w6 w.heap.size ca2 cn cc2 K := ⟨HKN.out.monoB s5', HK2.out⟩
      have t9 := o8.o1.tabF o8.o2 (o7.o1.tabF o7.o2 ((o5.o1.tabF o5.o2 (HTT.out.later HG5.out) k5).later HG7.out) k6) kr
      have n5 := grown_of_below HG5.out
      have n7 := grown_of_below HG7.out
      have s9 := ((((sN.off (Off.none _ _) (Off.none _ _) (Off.none _ _) n5).off o5.o3 o5.o1 o5.o2 k5).off (Off.none _ _) (Off.none _ _) (Off.none _ _) n7).off o7.o3 o7.o1 o7.o2 k6).off o8.o3 o8.o1 o8.o2 kr
      have b9 := (((bN.off o5.o4 o5.o5 k5).off (Off.none _ _) (Off.none _ _) n7).off o7.o4 o7.o5 k6).off o8.o4 o8.o5 kr
      have i9 := (iN.off o7.o6 k6).off o8.o6 kr
      exact bodyPost_ret (v := .agg #[.int .i64 c, .int .i64 s, .string bk, .slice a1 n0 c1, .slice sa2 j sc2, .slice ma2 mn mc2, .slice ca2 cn cc2]) (results_cell_row rfl _ _ (w.heap.size + 1) 41 #[.int .i64 c, .int .i64 s, .string bk, .slice a1 n0 c1, .slice sa2 j sc2, .slice ma2 mn mc2, .slice ca2 cn cc2] (0, 0) _ rfl r9 Tryz.underlying41 rfl meta_size) rfl ⟨⟨a1, n0, c1, sa2, j, sc2, ma2, mn, mc2, ca2, cn, cc2⟩, w1.heap.size, rfl, ⟨HI.out.1, HI.out.2.1, HI.out.2.2, t9, s9, b9, i9⟩, HC9.dat⟩
end Go.Proofs.YtlljcdmblmkblaaGreat
namespace Go.Proofs.YtlljcdmblmkblaaGreat
open Go.RowKit
set_option linter.unusedVariables false

theorem mWithin (n lo hi : Int) {R : Bool} (hR : decide (lo ≤ n ∧ n ≤ hi) = R) (w : World) : Calls Tryz.prog 63 #[.int .i64 n, .int .i64 lo, .int .i64 hi] w fun e w' => e = .returned (.bool R) ∧ w' = w := by
  by_cases h1 : lo ≤ n
  · by_cases h2 : n ≤ hi
    · obtain rfl : true = R := by rw [← hR]; exact (decide_eq_true ⟨h1, h2⟩).symm
      have d1 : decide (lo ≤ n) = true := decide_eq_true h1
      have d2 : decide (n ≤ hi) = true := decide_eq_true h2
      clear hR
      go_enter Tryz.func63, Tryz.ntmps63
      go_wp2
      go_ret
      exact ⟨rfl, rfl⟩
    · obtain rfl : false = R := by rw [← hR]; exact (decide_eq_false (fun h => h2 h.2)).symm
      have d1 : decide (lo ≤ n) = true := decide_eq_true h1
      have d2 : decide (n ≤ hi) = false := decide_eq_false h2
      clear hR
      go_enter Tryz.func63, Tryz.ntmps63
      go_wp2
      go_ret
      exact ⟨rfl, rfl⟩
  · obtain rfl : false = R := by rw [← hR]; exact (decide_eq_false (fun h => h1 h.1)).symm
    have d1 : decide (lo ≤ n) = false := decide_eq_false h1
    clear hR
    go_enter Tryz.func63, Tryz.ntmps63
    go_wp2
    go_ret
    exact ⟨rfl, rfl⟩
/-- What a size and a table are together. -/
def contOk (n : Int) (T : Tb) (c : Int) : Prop := sizedM n c ∧ rightT T (n / 2 ^ c.toNat) c
theorem sized_mod {n c : Int} (h1 : 0 ≤ n ∧ n ≤ 4096) : (n / 2 ^ c.toNat * 2 ^ c.toNat = n) ↔ n.tmod (2 ^ c.toNat) = 0 := by
  have h3 : (0 : Int) < 2 ^ c.toNat := Int.pow_pos (by omega)
  rw [Int.tmod_eq_emod_of_nonneg h1.1]
  have := Int.mul_ediv_add_emod n (2 ^ c.toNat)
  rw [Int.mul_comm] at this
  omega
theorem right9_T (a : Option Addr) (len cap : Nat) (T : Tb) (N C P : Nat) (w : World) (h : Tab w a len cap T) (hP : (2 : Int) ^ C = P) {R : Bool} (hR : R = true ↔ rightT T ((N : Int) / 2 ^ C) C) : Calls Tryz.prog 83 #[.agg #[.slice a len cap], (.int .i64 ((N : Int) / P)), .int .i64 C] w fun e w' => e = .returned (.bool R) ∧ Below w.heap.size w w' := by
  obtain ⟨ds, h1, h2, rfl, h3, _⟩ := h
  refine right9_is w a len cap ds _ _ h1 h3 R ?_
  rw [hP] at hR
  cases R with
  | true => exact decide_eq_true (hR.1 rfl)
  | false => exact decide_eq_false fun hh => absurd (hR.2 hh) Bool.false_ne_true
theorem wrapP (P : Nat) (h : P ≤ 64) : IntKind.i64.wrap (P : Int) = P := by
  rw [IntKind.wrap_i64]
  omega
theorem Box1.below {X : Nat} {s : Value} {w0 W : World} (h : Box1 X s w0 W) : Below X w0 W := h.2
set_option maxRecDepth 100000 in
set_option maxHeartbeats 1600000 in
theorem mContents (n c : Int) (a : Option Addr) (len cap : Nat) (T : Tb) (hn : I64 n) (hc : 0 ≤ c ∧ c ≤ 6) (w : World) (h : Tab w a len cap T) {R : Bool} (hR : R = true ↔ contOk n T c) : Calls Tryz.prog 64 #[.int .i64 n, .agg #[.slice a len cap], .int .i64 c] w fun e w' => e = .returned (.bool R) ∧ Below w.heap.size w w' := by
  obtain ⟨C, rfl⟩ : ∃ C : Nat, c = C := ⟨c.toNat, by omega⟩
  have hC : C ≤ 6 := by omega
  have hF : ¬ contOk n T C → false = R := fun hno => by
    cases R with
    | false => rfl
    | true => exact absurd (hR.1 rfl) hno
  have HB1 := Lib.hid (Box1.first w (.slice a len cap))
  by_cases h1 : 0 ≤ n ∧ n ≤ 4096
  · have HW1 := Lib.hid (mWithin n 0 4096 (decide_eq_true h1))
    obtain ⟨N, rfl⟩ : ∃ N : Nat, n = N := ⟨n.toNat, by omega⟩
    have hN : N ≤ 4096 := by omega
    obtain ⟨P, hP, hPP⟩ : ∃ P : Nat, (2 : Int) ^ C = P ∧ 1 ≤ P ∧ P ≤ 64 := by
      have : C = 0 ∨ C = 1 ∨ C = 2 ∨ C = 3 ∨ C = 4 ∨ C = 5 ∨ C = 6 := by omega
      rcases this with rfl | rfl | rfl | rfl | rfl | rfl | rfl
      · exact ⟨1, by decide, by decide, by decide⟩
      · exact ⟨2, by decide, by decide, by decide⟩
      · exact ⟨4, by decide, by decide, by decide⟩
      · exact ⟨8, by decide, by decide, by decide⟩
      · exact ⟨16, by decide, by decide, by decide⟩
      · exact ⟨32, by decide, by decide, by decide⟩
      · exact ⟨64, by decide, by decide, by decide⟩
    have hmod := sized_mod (c := C) h1
    have hsz : sizedM N C ↔ (N : Int) / 2 ^ C * 2 ^ C = N := ⟨fun h => h.2.2, fun h => ⟨h1.1, h1.2, h⟩⟩
    rw [Int.toNat_natCast] at hmod
    rw [hmod, hP] at hsz
    have hm2 : (N : Int).tmod P = ((N % P : Nat) : Int) := by rw [Int.tmod_eq_emod_of_nonneg (by omega)]; omega
    have hPn : ¬ P = 0 := by omega
    have hPw : IntKind.i64.wrap (P : Int) = P := wrapP P hPP.2
    by_cases h2 : N % P = 0
    · have HR := Lib.hid (fun (W : World) (hb : Below w.heap.size w W) => right9_T a len cap T N C P W (h.later hb) hP (R := R) (by
        rw [hR]
        unfold contOk
        rw [Int.toNat_natCast]
        exact ⟨fun h => h.2, fun h' => ⟨hsz.2 (by rw [hm2, h2]; rfl), h'⟩⟩))
      clear hR hF h
      go_enter Tryz.func64, Tryz.ntmps64
      go_wp2_with fail
      refine wp_region_held_drew (S := fun W => W.cell? ⟨w.heap.size, 0, none⟩ = some (.slice a len cap)) (by kernel_rfl) (by first | assumption | exact HB1.out.cell | exact HB1.out.drew.cell | exact (HB2.out).cell) (fun hHeld => ?_)
      refine wpAnyH_take (i := 0) (oi := _) (v := ?vc0) rfl (by kernel_rfl) (by kernel_rfl) (by kernel_rfl) (fun _ _ _ h => h) (Or.inl ⟨by rfl, ?hyc0⟩) (by assumption) ?restc0
      case hyc0 => (intro wz hSw; (try dsimp only at hSw); go_simp; try with_reducible rfl)
      (try simp only [List.getElem_toArray, List.getElem_cons_zero, Act.put, List.setIfInBounds_toArray, List.set_cons_zero, List.set_cons_succ])
      refine wpAnyH_ready (rs := [1]) (by kernel_rfl) (by simp) ?_
      refine AllReadyH.cons (o := _) rfl (fun K hK => ?_) AllReadyH.nil
      rw [if_pos (by rfl)]
      go_simp
      (with_reducible refine (HW1.out _).mono ?_); rintro e w1 ⟨rfl, hw⟩; obtain rfl := hw.symm
      dsimp only
      refine hK.out _ _ (by first | assumption | exact HB1.out.cell | exact HB1.out.drew.cell | exact (HB2.out).cell) (fun hHeld => ?_)
      clear hK K
      (try simp only [List.getElem_toArray, List.getElem_cons_zero, List.getElem_cons_succ, Act.put, List.setIfInBounds_toArray, List.set_cons_zero, List.set_cons_succ])
      refine wpAnyH_take (i := 2) (oi := _) (v := ?vc2) rfl (by kernel_rfl) (by kernel_rfl) (by kernel_rfl) (fun _ _ _ h => h) (Or.inl ⟨by rfl, ?hyc2⟩) (by assumption) ?restc2
      case hyc2 => (intro wz hSw; (try dsimp only at hSw); go_simp; try with_reducible rfl)
      (try simp only [List.getElem_toArray, List.getElem_cons_zero, List.getElem_cons_succ, Act.put, List.setIfInBounds_toArray, List.set_cons_zero, List.set_cons_succ])
      refine wpAnyH_take (i := 3) (oi := _) (v := ?vc3) rfl (by kernel_rfl) (by kernel_rfl) (by kernel_rfl) (fun _ _ _ h => h) (Or.inl ⟨by rfl, ?hyc3⟩) (by assumption) ?restc3
      case hyc3 => (intro wz hSw; (try dsimp only at hSw); go_simp; try with_reducible rfl)
      (try simp only [List.getElem_toArray, List.getElem_cons_zero, List.getElem_cons_succ, Act.put, List.setIfInBounds_toArray, List.set_cons_zero, List.set_cons_succ])
      refine wpAnyH_take (i := 4) (oi := _) (v := ?vc4) rfl (by kernel_rfl) (by kernel_rfl) (by kernel_rfl) (fun _ _ _ h => h) (Or.inl ⟨by rfl, ?hyc4⟩) (by assumption) ?restc4
      case hyc4 => (intro wz hSw; (try dsimp only at hSw); go_simp; try with_reducible rfl)
      (try simp only [List.getElem_toArray, List.getElem_cons_zero, List.getElem_cons_succ, Act.put, List.setIfInBounds_toArray, List.set_cons_zero, List.set_cons_succ])
      refine wpAnyH_take (i := 5) (oi := _) (v := ?vc5) rfl (by kernel_rfl) (by kernel_rfl) (by kernel_rfl) (fun _ _ _ h => h) (Or.inl ⟨by rfl, ?hyc5⟩) (by assumption) ?restc5
      case hyc5 => (intro wz hSw; (try dsimp only at hSw); go_simp; try with_reducible rfl)
      (try simp only [List.getElem_toArray, List.getElem_cons_zero, List.getElem_cons_succ, Act.put, List.setIfInBounds_toArray, List.set_cons_zero, List.set_cons_succ])
      refine wpAnyH_take (i := 6) (oi := _) (v := ?vc6) rfl (by kernel_rfl) (by kernel_rfl) (by kernel_rfl) (fun _ _ _ h => h) (Or.inl ⟨by rfl, ?hyc6⟩) (by assumption) ?restc6
      case hyc6 => (intro wz hSw; (try dsimp only at hSw); go_simp; try with_reducible rfl)
      (try simp only [List.getElem_toArray, List.getElem_cons_zero, List.getElem_cons_succ, Act.put, List.setIfInBounds_toArray, List.set_cons_zero, List.set_cons_succ])
      refine wpAnyH_take (i := 7) (oi := _) (v := ?vc7) rfl (by kernel_rfl) (by kernel_rfl) (by kernel_rfl) (fun _ _ _ h => h) (Or.inl ⟨by rfl, ?hyc7⟩) (by assumption) ?restc7
      case hyc7 => (intro wz hSw; (try dsimp only at hSw); go_simp; try with_reducible rfl)
      (try simp only [List.getElem_toArray, List.getElem_cons_zero, List.getElem_cons_succ, Act.put, List.setIfInBounds_toArray, List.set_cons_zero, List.set_cons_succ])
      refine wpAnyH_take (i := 8) (oi := _) (v := ?vc8) rfl (by kernel_rfl) (by kernel_rfl) (by kernel_rfl) (fun _ _ _ h => h) (Or.inl ⟨by rfl, ?hyc8⟩) (by assumption) ?restc8
      case hyc8 => (intro wz hSw; (try dsimp only at hSw); go_simp; try with_reducible rfl)
      (try simp only [List.getElem_toArray, List.getElem_cons_zero, List.getElem_cons_succ, Act.put, List.setIfInBounds_toArray, List.set_cons_zero, List.set_cons_succ])
      refine wpAnyH_take (i := 9) (oi := _) (v := ?vc9) rfl (by kernel_rfl) (by kernel_rfl) (by kernel_rfl) (fun _ _ _ h => h) (Or.inl ⟨by rfl, ?hyc9⟩) (by assumption) ?restc9
      case hyc9 => (intro wz hSw; (try dsimp only at hSw); go_simp; try with_reducible rfl)
      (try simp only [List.getElem_toArray, List.getElem_cons_zero, List.getElem_cons_succ, Act.put, List.setIfInBounds_toArray, List.set_cons_zero, List.set_cons_succ])
      refine wpAnyH_take (i := 10) (oi := _) (v := ?vc10) rfl (by kernel_rfl) (by kernel_rfl) (by kernel_rfl) (fun _ _ _ h => h) (Or.inl ⟨by rfl, ?hyc10⟩) (by assumption) ?restc10
      case hyc10 => (intro wz hSw; (try dsimp only at hSw); go_simp; try with_reducible rfl)
      (try simp only [List.getElem_toArray, List.getElem_cons_zero, List.getElem_cons_succ, Act.put, List.setIfInBounds_toArray, List.set_cons_zero, List.set_cons_succ])
      refine wpAnyH_take (i := 11) (oi := _) (v := ?vc11) rfl (by kernel_rfl) (by kernel_rfl) (by kernel_rfl) (fun _ _ _ h => h) (Or.inl ⟨by rfl, ?hyc11⟩) (by assumption) ?restc11
      case hyc11 => (intro wz hSw; (try dsimp only at hSw); go_simp; try with_reducible rfl)
      (try simp only [List.getElem_toArray, List.getElem_cons_zero, List.getElem_cons_succ, Act.put, List.setIfInBounds_toArray, List.set_cons_zero, List.set_cons_succ])
      refine wpAnyH_take (i := 12) (oi := _) (v := ?vc12) rfl (by kernel_rfl) (by kernel_rfl) (by kernel_rfl) (fun _ _ _ h => h) (Or.inl ⟨by rfl, ?hyc12⟩) (by assumption) ?restc12
      case hyc12 => (intro wz hSw; (try dsimp only at hSw); go_simp; try with_reducible rfl)
      (try simp only [List.getElem_toArray, List.getElem_cons_zero, List.getElem_cons_succ, Act.put, List.setIfInBounds_toArray, List.set_cons_zero, List.set_cons_succ])
      refine wpAnyH_take (i := 13) (oi := _) (v := ?vc13) rfl (by kernel_rfl) (by kernel_rfl) (by kernel_rfl) (fun _ _ _ h => h) (Or.inl ⟨by rfl, ?hyc13⟩) (by assumption) ?restc13
      case hyc13 => (intro wz hSw; (try dsimp only at hSw); go_simp; try with_reducible rfl)
      (try simp only [List.getElem_toArray, List.getElem_cons_zero, List.getElem_cons_succ, Act.put, List.setIfInBounds_toArray, List.set_cons_zero, List.set_cons_succ])
      refine wpAnyH_take (i := 14) (oi := _) (v := ?vc14) rfl (by kernel_rfl) (by kernel_rfl) (by kernel_rfl) (fun _ _ _ h => h) (Or.inl ⟨by rfl, ?hyc14⟩) (by assumption) ?restc14
      case hyc14 => (intro wz hSw; (try dsimp only at hSw); go_simp; try with_reducible rfl)
      (try simp only [List.getElem_toArray, List.getElem_cons_zero, List.getElem_cons_succ, Act.put, List.setIfInBounds_toArray, List.set_cons_zero, List.set_cons_succ])
      refine wpAnyH_ready (rs := [15]) (by kernel_rfl) (by simp) ?_
      refine AllReadyH.cons (o := _) rfl (fun K hK => ?_) AllReadyH.nil
      rw [if_pos (by rfl)]
      go_simp
      (with_reducible refine (HR.out _ HB1.out.drew.below).mono ?_); rintro e w2 ⟨rfl, hb⟩; have HB2 := Lib.hid (HB1.out.drew.later hb)
      dsimp only
      refine hK.out _ _ (by first | assumption | exact HB1.out.cell | exact HB1.out.drew.cell | exact (HB2.out).cell) (fun hHeld => ?_)
      clear hK K
      (try simp only [List.getElem_toArray, List.getElem_cons_zero, List.getElem_cons_succ, Act.put, List.setIfInBounds_toArray, List.set_cons_zero, List.set_cons_succ])
      refine wpAnyH_take (i := 16) (oi := _) (v := ?vc16) rfl (by kernel_rfl) (by kernel_rfl) (by kernel_rfl) (fun _ _ _ h => h) (Or.inl ⟨by rfl, ?hyc16⟩) (by assumption) ?restc16
      case hyc16 => (intro wz hSw; (try dsimp only at hSw); go_simp; try with_reducible rfl)
      (try simp only [List.getElem_toArray, List.getElem_cons_zero, List.getElem_cons_succ, Act.put, List.setIfInBounds_toArray, List.set_cons_zero, List.set_cons_succ])
      refine wpAnyH_take (i := 17) (oi := _) (v := ?vc17) rfl (by kernel_rfl) (by kernel_rfl) (by kernel_rfl) (fun _ _ _ h => h) (Or.inl ⟨by rfl, ?hyc17⟩) (by assumption) ?restc17
      case hyc17 => (intro wz hSw; (try dsimp only at hSw); go_simp; try with_reducible rfl)
      (try simp only [List.getElem_toArray, List.getElem_cons_zero, List.getElem_cons_succ, Act.put, List.setIfInBounds_toArray, List.set_cons_zero, List.set_cons_succ])
      refine wpAnyH_done (by kernel_rfl) ?_ _
      go_wp2
      go_ret
      exact ⟨rfl, HB2.out.below⟩
    · have hm3 : ((N : Int) % P == 0) = false := by simp; omega
      obtain rfl : false = R := hF fun h' => h2 (by have := hsz.1 h'.1; rw [hm2] at this; omega)
      clear hR hF h
      go_enter Tryz.func64, Tryz.ntmps64
      go_wp2_with fail
      refine wp_region_held_drew (S := fun W => W.cell? ⟨w.heap.size, 0, none⟩ = some (.slice a len cap)) (by kernel_rfl) (by first | assumption | exact HB1.out.cell | exact HB1.out.drew.cell | exact (HB2.out).cell) (fun hHeld => ?_)
      refine wpAnyH_take (i := 0) (oi := _) (v := ?vb0) rfl (by kernel_rfl) (by kernel_rfl) (by kernel_rfl) (fun _ _ _ h => h) (Or.inl ⟨by rfl, ?hyb0⟩) (by assumption) ?restb0
      case hyb0 => (intro wz hSw; (try dsimp only at hSw); go_simp; try with_reducible rfl)
      (try simp only [List.getElem_toArray, List.getElem_cons_zero, Act.put, List.setIfInBounds_toArray, List.set_cons_zero, List.set_cons_succ])
      refine wpAnyH_ready (rs := [1]) (by kernel_rfl) (by simp) ?_
      refine AllReadyH.cons (o := _) rfl (fun K hK => ?_) AllReadyH.nil
      rw [if_pos (by rfl)]
      go_simp
      (with_reducible refine (HW1.out _).mono ?_); rintro e w1 ⟨rfl, hw⟩; obtain rfl := hw.symm
      dsimp only
      refine hK.out _ _ (by first | assumption | exact HB1.out.cell | exact HB1.out.drew.cell | exact (HB2.out).cell) (fun hHeld => ?_)
      clear hK K
      (try simp only [List.getElem_toArray, List.getElem_cons_zero, List.getElem_cons_succ, Act.put, List.setIfInBounds_toArray, List.set_cons_zero, List.set_cons_succ])
      refine wpAnyH_take (i := 2) (oi := _) (v := ?vb2) rfl (by kernel_rfl) (by kernel_rfl) (by kernel_rfl) (fun _ _ _ h => h) (Or.inl ⟨by rfl, ?hyb2⟩) (by assumption) ?restb2
      case hyb2 => (intro wz hSw; (try dsimp only at hSw); go_simp; try with_reducible rfl)
      (try simp only [List.getElem_toArray, List.getElem_cons_zero, List.getElem_cons_succ, Act.put, List.setIfInBounds_toArray, List.set_cons_zero, List.set_cons_succ])
      refine wpAnyH_take (i := 3) (oi := _) (v := ?vb3) rfl (by kernel_rfl) (by kernel_rfl) (by kernel_rfl) (fun _ _ _ h => h) (Or.inl ⟨by rfl, ?hyb3⟩) (by assumption) ?restb3
      case hyb3 => (intro wz hSw; (try dsimp only at hSw); go_simp; try with_reducible rfl)
      (try simp only [List.getElem_toArray, List.getElem_cons_zero, List.getElem_cons_succ, Act.put, List.setIfInBounds_toArray, List.set_cons_zero, List.set_cons_succ])
      refine wpAnyH_take (i := 4) (oi := _) (v := ?vb4) rfl (by kernel_rfl) (by kernel_rfl) (by kernel_rfl) (fun _ _ _ h => h) (Or.inl ⟨by rfl, ?hyb4⟩) (by assumption) ?restb4
      case hyb4 => (intro wz hSw; (try dsimp only at hSw); go_simp; try with_reducible rfl)
      (try simp only [List.getElem_toArray, List.getElem_cons_zero, List.getElem_cons_succ, Act.put, List.setIfInBounds_toArray, List.set_cons_zero, List.set_cons_succ])
      refine wpAnyH_take (i := 5) (oi := _) (v := ?vb5) rfl (by kernel_rfl) (by kernel_rfl) (by kernel_rfl) (fun _ _ _ h => h) (Or.inl ⟨by rfl, ?hyb5⟩) (by assumption) ?restb5
      case hyb5 => (intro wz hSw; (try dsimp only at hSw); go_simp; try with_reducible rfl)
      (try simp only [List.getElem_toArray, List.getElem_cons_zero, List.getElem_cons_succ, Act.put, List.setIfInBounds_toArray, List.set_cons_zero, List.set_cons_succ])
      refine wpAnyH_take (i := 6) (oi := _) (v := ?vb6) rfl (by kernel_rfl) (by kernel_rfl) (by kernel_rfl) (fun _ _ _ h => h) (Or.inl ⟨by rfl, ?hyb6⟩) (by assumption) ?restb6
      case hyb6 => (intro wz hSw; (try dsimp only at hSw); go_simp; try with_reducible rfl)
      (try simp only [List.getElem_toArray, List.getElem_cons_zero, List.getElem_cons_succ, Act.put, List.setIfInBounds_toArray, List.set_cons_zero, List.set_cons_succ])
      refine wpAnyH_take (i := 7) (oi := _) (v := ?vb7) rfl (by kernel_rfl) (by kernel_rfl) (by kernel_rfl) (fun _ _ _ h => h) (Or.inl ⟨by rfl, ?hyb7⟩) (by assumption) ?restb7
      case hyb7 => (intro wz hSw; (try dsimp only at hSw); go_simp; try with_reducible rfl)
      (try simp only [List.getElem_toArray, List.getElem_cons_zero, List.getElem_cons_succ, Act.put, List.setIfInBounds_toArray, List.set_cons_zero, List.set_cons_succ])
      refine wpAnyH_take (i := 8) (oi := _) (v := ?vb8) rfl (by kernel_rfl) (by kernel_rfl) (by kernel_rfl) (fun _ _ _ h => h) (Or.inl ⟨by rfl, ?hyb8⟩) (by assumption) ?restb8
      case hyb8 => (intro wz hSw; (try dsimp only at hSw); go_simp; try with_reducible rfl)
      (try simp only [List.getElem_toArray, List.getElem_cons_zero, List.getElem_cons_succ, Act.put, List.setIfInBounds_toArray, List.set_cons_zero, List.set_cons_succ])
      refine wpAnyH_take (i := 9) (oi := _) (v := ?vb9) rfl (by kernel_rfl) (by kernel_rfl) (by kernel_rfl) (fun _ _ _ h => h) (Or.inl ⟨by rfl, ?hyb9⟩) (by assumption) ?restb9
      case hyb9 => (intro wz hSw; (try dsimp only at hSw); go_simp; try with_reducible rfl)
      (try simp only [List.getElem_toArray, List.getElem_cons_zero, List.getElem_cons_succ, Act.put, List.setIfInBounds_toArray, List.set_cons_zero, List.set_cons_succ])
      refine wpAnyH_take (i := 10) (oi := _) (v := undef) rfl (by kernel_rfl) (by kernel_rfl) (by kernel_rfl) (fun _ _ _ h => h) (Or.inr ⟨by rfl, rfl⟩) (by assumption) ?_
      (try simp only [List.getElem_toArray, List.getElem_cons_zero, List.getElem_cons_succ, Act.put, List.setIfInBounds_toArray, List.set_cons_zero, List.set_cons_succ])
      refine wpAnyH_take (i := 11) (oi := _) (v := undef) rfl (by kernel_rfl) (by kernel_rfl) (by kernel_rfl) (fun _ _ _ h => h) (Or.inr ⟨by rfl, rfl⟩) (by assumption) ?_
      (try simp only [List.getElem_toArray, List.getElem_cons_zero, List.getElem_cons_succ, Act.put, List.setIfInBounds_toArray, List.set_cons_zero, List.set_cons_succ])
      refine wpAnyH_take (i := 12) (oi := _) (v := undef) rfl (by kernel_rfl) (by kernel_rfl) (by kernel_rfl) (fun _ _ _ h => h) (Or.inr ⟨by rfl, rfl⟩) (by assumption) ?_
      (try simp only [List.getElem_toArray, List.getElem_cons_zero, List.getElem_cons_succ, Act.put, List.setIfInBounds_toArray, List.set_cons_zero, List.set_cons_succ])
      refine wpAnyH_take (i := 13) (oi := _) (v := undef) rfl (by kernel_rfl) (by kernel_rfl) (by kernel_rfl) (fun _ _ _ h => h) (Or.inr ⟨by rfl, rfl⟩) (by assumption) ?_
      (try simp only [List.getElem_toArray, List.getElem_cons_zero, List.getElem_cons_succ, Act.put, List.setIfInBounds_toArray, List.set_cons_zero, List.set_cons_succ])
      refine wpAnyH_take (i := 14) (oi := _) (v := undef) rfl (by kernel_rfl) (by kernel_rfl) (by kernel_rfl) (fun _ _ _ h => h) (Or.inr ⟨by rfl, rfl⟩) (by assumption) ?_
      (try simp only [List.getElem_toArray, List.getElem_cons_zero, List.getElem_cons_succ, Act.put, List.setIfInBounds_toArray, List.set_cons_zero, List.set_cons_succ])
      refine wpAnyH_take (i := 15) (oi := _) (v := undef) rfl (by kernel_rfl) (by kernel_rfl) (by kernel_rfl) (fun _ _ _ h => h) (Or.inr ⟨by rfl, rfl⟩) (by assumption) ?_
      (try simp only [List.getElem_toArray, List.getElem_cons_zero, List.getElem_cons_succ, Act.put, List.setIfInBounds_toArray, List.set_cons_zero, List.set_cons_succ])
      refine wpAnyH_take (i := 16) (oi := _) (v := ?vb16) rfl (by kernel_rfl) (by kernel_rfl) (by kernel_rfl) (fun _ _ _ h => h) (Or.inl ⟨by rfl, ?hyb16⟩) (by assumption) ?restb16
      case hyb16 => (intro wz hSw; (try dsimp only at hSw); go_simp; try with_reducible rfl)
      (try simp only [List.getElem_toArray, List.getElem_cons_zero, List.getElem_cons_succ, Act.put, List.setIfInBounds_toArray, List.set_cons_zero, List.set_cons_succ])
      refine wpAnyH_take (i := 17) (oi := _) (v := ?vb17) rfl (by kernel_rfl) (by kernel_rfl) (by kernel_rfl) (fun _ _ _ h => h) (Or.inl ⟨by rfl, ?hyb17⟩) (by assumption) ?restb17
      case hyb17 => (intro wz hSw; (try dsimp only at hSw); go_simp; try with_reducible rfl)
      (try simp only [List.getElem_toArray, List.getElem_cons_zero, List.getElem_cons_succ, Act.put, List.setIfInBounds_toArray, List.set_cons_zero, List.set_cons_succ])
      refine wpAnyH_done (by kernel_rfl) ?_ _
      go_wp2
      go_ret
      exact ⟨rfl, HB1.out.drew.below⟩
  · obtain rfl : false = R := hF fun h' => h1 ⟨h'.1.1, h'.1.2.1⟩
    have HW1 := Lib.hid (mWithin n 0 4096 (decide_eq_false h1))
    clear hR hF h
    go_enter Tryz.func64, Tryz.ntmps64
    go_wp2_with fail
    refine wp_region_held_drew (S := fun W => W.cell? ⟨w.heap.size, 0, none⟩ = some (.slice a len cap)) (by kernel_rfl) (by first | assumption | exact HB1.out.cell | exact HB1.out.drew.cell | exact (HB2.out).cell) (fun hHeld => ?_)
    refine wpAnyH_take (i := 0) (oi := _) (v := ?va0) rfl (by kernel_rfl) (by kernel_rfl) (by kernel_rfl) (fun _ _ _ h => h) (Or.inl ⟨by rfl, ?hya0⟩) (by assumption) ?resta0
    case hya0 => (intro wz hSw; (try dsimp only at hSw); go_simp; try with_reducible rfl)
    (try simp only [List.getElem_toArray, List.getElem_cons_zero, Act.put, List.setIfInBounds_toArray, List.set_cons_zero, List.set_cons_succ])
    refine wpAnyH_ready (rs := [1]) (by kernel_rfl) (by simp) ?_
    refine AllReadyH.cons (o := _) rfl (fun K hK => ?_) AllReadyH.nil
    rw [if_pos (by rfl)]
    go_simp
    (with_reducible refine (HW1.out _).mono ?_); rintro e w1 ⟨rfl, hw⟩; obtain rfl := hw.symm
    dsimp only
    refine hK.out _ _ (by first | assumption | exact HB1.out.cell | exact HB1.out.drew.cell | exact (HB2.out).cell) (fun hHeld => ?_)
    clear hK K
    (try simp only [List.getElem_toArray, List.getElem_cons_zero, List.getElem_cons_succ, Act.put, List.setIfInBounds_toArray, List.set_cons_zero, List.set_cons_succ])
    refine wpAnyH_take (i := 2) (oi := _) (v := ?va2) rfl (by kernel_rfl) (by kernel_rfl) (by kernel_rfl) (fun _ _ _ h => h) (Or.inl ⟨by rfl, ?hya2⟩) (by assumption) ?resta2
    case hya2 => (intro wz hSw; (try dsimp only at hSw); go_simp; try with_reducible rfl)
    (try simp only [List.getElem_toArray, List.getElem_cons_zero, List.getElem_cons_succ, Act.put, List.setIfInBounds_toArray, List.set_cons_zero, List.set_cons_succ])
    refine wpAnyH_take (i := 3) (oi := _) (v := undef) rfl (by kernel_rfl) (by kernel_rfl) (by kernel_rfl) (fun _ _ _ h => h) (Or.inr ⟨by rfl, rfl⟩) (by assumption) ?_
    (try simp only [List.getElem_toArray, List.getElem_cons_zero, List.getElem_cons_succ, Act.put, List.setIfInBounds_toArray, List.set_cons_zero, List.set_cons_succ])
    refine wpAnyH_take (i := 4) (oi := _) (v := undef) rfl (by kernel_rfl) (by kernel_rfl) (by kernel_rfl) (fun _ _ _ h => h) (Or.inr ⟨by rfl, rfl⟩) (by assumption) ?_
    (try simp only [List.getElem_toArray, List.getElem_cons_zero, List.getElem_cons_succ, Act.put, List.setIfInBounds_toArray, List.set_cons_zero, List.set_cons_succ])
    refine wpAnyH_take (i := 5) (oi := _) (v := undef) rfl (by kernel_rfl) (by kernel_rfl) (by kernel_rfl) (fun _ _ _ h => h) (Or.inr ⟨by rfl, rfl⟩) (by assumption) ?_
    (try simp only [List.getElem_toArray, List.getElem_cons_zero, List.getElem_cons_succ, Act.put, List.setIfInBounds_toArray, List.set_cons_zero, List.set_cons_succ])
    refine wpAnyH_take (i := 6) (oi := _) (v := undef) rfl (by kernel_rfl) (by kernel_rfl) (by kernel_rfl) (fun _ _ _ h => h) (Or.inr ⟨by rfl, rfl⟩) (by assumption) ?_
    (try simp only [List.getElem_toArray, List.getElem_cons_zero, List.getElem_cons_succ, Act.put, List.setIfInBounds_toArray, List.set_cons_zero, List.set_cons_succ])
    refine wpAnyH_take (i := 7) (oi := _) (v := undef) rfl (by kernel_rfl) (by kernel_rfl) (by kernel_rfl) (fun _ _ _ h => h) (Or.inr ⟨by rfl, rfl⟩) (by assumption) ?_
    (try simp only [List.getElem_toArray, List.getElem_cons_zero, List.getElem_cons_succ, Act.put, List.setIfInBounds_toArray, List.set_cons_zero, List.set_cons_succ])
    refine wpAnyH_take (i := 8) (oi := _) (v := ?va8) rfl (by kernel_rfl) (by kernel_rfl) (by kernel_rfl) (fun _ _ _ h => h) (Or.inl ⟨by rfl, ?hya8⟩) (by assumption) ?resta8
    case hya8 => (intro wz hSw; (try dsimp only at hSw); go_simp; try with_reducible rfl)
    (try simp only [List.getElem_toArray, List.getElem_cons_zero, List.getElem_cons_succ, Act.put, List.setIfInBounds_toArray, List.set_cons_zero, List.set_cons_succ])
    refine wpAnyH_take (i := 9) (oi := _) (v := ?va9) rfl (by kernel_rfl) (by kernel_rfl) (by kernel_rfl) (fun _ _ _ h => h) (Or.inl ⟨by rfl, ?hya9⟩) (by assumption) ?resta9
    case hya9 => (intro wz hSw; (try dsimp only at hSw); go_simp; try with_reducible rfl)
    (try simp only [List.getElem_toArray, List.getElem_cons_zero, List.getElem_cons_succ, Act.put, List.setIfInBounds_toArray, List.set_cons_zero, List.set_cons_succ])
    refine wpAnyH_take (i := 10) (oi := _) (v := undef) rfl (by kernel_rfl) (by kernel_rfl) (by kernel_rfl) (fun _ _ _ h => h) (Or.inr ⟨by rfl, rfl⟩) (by assumption) ?_
    (try simp only [List.getElem_toArray, List.getElem_cons_zero, List.getElem_cons_succ, Act.put, List.setIfInBounds_toArray, List.set_cons_zero, List.set_cons_succ])
    refine wpAnyH_take (i := 11) (oi := _) (v := undef) rfl (by kernel_rfl) (by kernel_rfl) (by kernel_rfl) (fun _ _ _ h => h) (Or.inr ⟨by rfl, rfl⟩) (by assumption) ?_
    (try simp only [List.getElem_toArray, List.getElem_cons_zero, List.getElem_cons_succ, Act.put, List.setIfInBounds_toArray, List.set_cons_zero, List.set_cons_succ])
    refine wpAnyH_take (i := 12) (oi := _) (v := undef) rfl (by kernel_rfl) (by kernel_rfl) (by kernel_rfl) (fun _ _ _ h => h) (Or.inr ⟨by rfl, rfl⟩) (by assumption) ?_
    (try simp only [List.getElem_toArray, List.getElem_cons_zero, List.getElem_cons_succ, Act.put, List.setIfInBounds_toArray, List.set_cons_zero, List.set_cons_succ])
    refine wpAnyH_take (i := 13) (oi := _) (v := undef) rfl (by kernel_rfl) (by kernel_rfl) (by kernel_rfl) (fun _ _ _ h => h) (Or.inr ⟨by rfl, rfl⟩) (by assumption) ?_
    (try simp only [List.getElem_toArray, List.getElem_cons_zero, List.getElem_cons_succ, Act.put, List.setIfInBounds_toArray, List.set_cons_zero, List.set_cons_succ])
    refine wpAnyH_take (i := 14) (oi := _) (v := undef) rfl (by kernel_rfl) (by kernel_rfl) (by kernel_rfl) (fun _ _ _ h => h) (Or.inr ⟨by rfl, rfl⟩) (by assumption) ?_
    (try simp only [List.getElem_toArray, List.getElem_cons_zero, List.getElem_cons_succ, Act.put, List.setIfInBounds_toArray, List.set_cons_zero, List.set_cons_succ])
    refine wpAnyH_take (i := 15) (oi := _) (v := undef) rfl (by kernel_rfl) (by kernel_rfl) (by kernel_rfl) (fun _ _ _ h => h) (Or.inr ⟨by rfl, rfl⟩) (by assumption) ?_
    (try simp only [List.getElem_toArray, List.getElem_cons_zero, List.getElem_cons_succ, Act.put, List.setIfInBounds_toArray, List.set_cons_zero, List.set_cons_succ])
    refine wpAnyH_take (i := 16) (oi := _) (v := ?va16) rfl (by kernel_rfl) (by kernel_rfl) (by kernel_rfl) (fun _ _ _ h => h) (Or.inl ⟨by rfl, ?hya16⟩) (by assumption) ?resta16
    case hya16 => (intro wz hSw; (try dsimp only at hSw); go_simp; try with_reducible rfl)
    (try simp only [List.getElem_toArray, List.getElem_cons_zero, List.getElem_cons_succ, Act.put, List.setIfInBounds_toArray, List.set_cons_zero, List.set_cons_succ])
    refine wpAnyH_take (i := 17) (oi := _) (v := ?va17) rfl (by kernel_rfl) (by kernel_rfl) (by kernel_rfl) (fun _ _ _ h => h) (Or.inl ⟨by rfl, ?hya17⟩) (by assumption) ?resta17
    case hya17 => (intro wz hSw; (try dsimp only at hSw); go_simp; try with_reducible rfl)
    (try simp only [List.getElem_toArray, List.getElem_cons_zero, List.getElem_cons_succ, Act.put, List.setIfInBounds_toArray, List.set_cons_zero, List.set_cons_succ])
    refine wpAnyH_done (by kernel_rfl) ?_ _
    go_wp2
    go_ret
    exact ⟨rfl, HB1.out.drew.below⟩
end Go.Proofs.YtlljcdmblmkblaaGreat
namespace Go.Proofs.YtlljcdmblmkblaaGreat
open Go.RowKit
set_option linter.unusedVariables false

def tsV (s : ByteArray) : List Value := [.string s]
theorem ts_rowed : Rowed Tryz.prog 140 9 1 16 tsV where
  under := Tryz.underlying140
  info := by
    have h : (Tryz.prog.info? 9).map (fun i => (i.zero.map (fun z => z.cells.size), i.size, i.bytes)) = some (some 1, 1, 16) := by kernel_rfl
    obtain ⟨i, hi, he⟩ := Option.map_eq_some_iff.1 h
    simp only [Prod.mk.injEq] at he
    obtain ⟨z, hz, hzs⟩ := Option.map_eq_some_iff.1 he.1
    exact ⟨i, z, hi, hz, he.2.1, he.2.2, hzs⟩
  pos := by decide
  small := by decide
  len := fun _ => rfl
  one := fun d u hu => by
    simp only [tsV, List.mem_cons, List.not_mem_nil, or_false] at hu
    subst hu
    rfl
theorem ts_cell {w : World} {a : Option Addr} {n : Nat} {L : List ByteArray} (h : Reads tsV w a n L) (i : Nat) (hi : i < n) : ∃ b off s, a = some ⟨b, off, none⟩ ∧ b < w.heap.size ∧ w.cell? ⟨b, off + i, none⟩ = some (.string s) ∧ L[i]? = some s := by
  obtain ⟨b, off, rfl⟩ := h.lies (by omega)
  have hl := h.1
  have hx : L[i]? = some L[i] := List.getElem?_eq_getElem (by omega)
  have := h.cellAt ts_rowed i 0 _ _ hx rfl
  rw [Nat.mul_one, Nat.add_zero] at this
  exact ⟨b, off, _, rfl, block_lt_of_cell this, this, hx⟩
set_option maxHeartbeats 1600000 in
theorem index_ts {w : World} {a : Option Addr} {n : Nat} (c : Nat) {L : List ByteArray} (h : Reads tsV w a n L) (hn : n ≤ 1000) (y : ByteArray) :
    Calls Tryz.prog 125 #[.slice a n c, .string y] w fun e w' => (∃ i : Int, e = .returned (.int .i64 i) ∧ (0 ≤ i ↔ y ∈ L)) ∧ Below w.heap.size w w' := by
  have hL : L.length = n := h.1
  have HO := Lib.hid h
  clear h
  go_enter Tryz.func125, Tryz.ntmps125
  go_wp2
  go_loopw [8] (fun i wr => ∃ j : Nat, j ≤ n ∧ i = .int .i64 j ∧ Hid (Below w.heap.size w wr) ∧ Hid (∀ x ∈ L.take j, y ≠ x)) (fun i _ => n - (intOf i).toNat)
  case atStart => exact ⟨0, Nat.zero_le _, rfl, Below.refl _ _, fun x hx => by simp at hx⟩
  case round =>
    obtain ⟨j, hj, rfl, HB, HA⟩ := hrel
    by_cases hlt : j < n
    · obtain ⟨b, off, r, rfl, hbl, cj, hr⟩ := ts_cell (HO.out.later HB.out) j hlt
      have HRR := Lib.hid hr
      clear hr
      by_cases hq : y = r
      · have hse := str_yes hq
        have HP := Lib.hid hq
        clear hq
        go_wp2
        go_ret
        exact ⟨⟨j, rfl, fun _ => HP.out ▸ List.mem_of_getElem? HRR.out, fun _ => Int.natCast_nonneg _⟩, HB.out⟩
      · have hse := str_no hq
        have HP := Lib.hid hq
        clear hq
        go_wp2
        go_roundw
        case rel =>
          refine ⟨j + 1, by omega, by go_num, HB.out, fun x hx => ?_⟩
          rw [List.take_add_one, HRR.out] at hx
          rcases List.mem_append.1 hx with hx | hx
          · exact HA.out x hx
          · simp at hx
            rw [hx]
            exact HP.out
        case measure => simp [intOf]; omega
    · obtain rfl : j = n := by omega
      go_wp2
      go_ret
      refine ⟨⟨-1, rfl, fun h => by omega, fun hx => ?_⟩, HB.out⟩
      have := HA.out y (by rw [List.take_of_length_le (by omega)]; exact hx)
      exact absurd rfl this
theorem contains_ts {w : World} {a : Option Addr} {n : Nat} (c : Nat) {L : List ByteArray} (h : Reads tsV w a n L) (hn : n ≤ 1000) (y : ByteArray) {R : Bool} (hR : R = true ↔ y ∈ L) :
    Calls Tryz.prog 109 #[.slice a n c, .string y] w fun e w' => e = .returned (.bool R) ∧ Below w.heap.size w w' := by
  have HI := Lib.hid (index_ts c h hn y)
  clear h
  go_enter Tryz.func109, Tryz.ntmps109
  go_wp2_with (go_at_call 125; refine HI.out.mono ?_; rintro e w' ⟨⟨i, rfl, hi⟩, hb⟩; have HQ := Lib.hid hi; have HB := Lib.hid hb; clear hi hb)
  go_ret
  refine ⟨?_, HB.out⟩
  have : decide (0 ≤ i) = R := by
    rw [Bool.eq_iff_iff, hR]
    simpa using HQ.out
  simp [this]
theorem string_size : (Tryz.prog.info? 9).map (·.size) = some 1 := by kernel_rfl
theorem slice_ts {b o n c k : Nat} (h1 : k ≤ c) (w' : World) : (Instr.slice 140 (.slice (some ⟨b, o, none⟩) n c) none (some (.int .i64 k)) none).run Tryz.prog w' = .ok (.slice (some ⟨b, o, none⟩) k c) w' := by
  obtain ⟨i0, hi0, _⟩ := Option.map_eq_some_iff.1 string_size
  simp [Instr.slice, Instr.sliceBounds, Instr.sliceBound, asIntOf, run_underlying Tryz.underlying140, sizeOf, typeInfo, hi0, h1, Addr.add, go_sem]
theorem Reads.frontTs {w : World} {b off n : Nat} {L : List ByteArray} (h : Reads tsV w (some ⟨b, off, none⟩) n L) (k : Nat) (hk : k ≤ n) : Reads tsV w (some ⟨b, off, none⟩) k (L.take k) := by
  obtain ⟨h1, h2, h3⟩ := h
  refine ⟨by rw [List.length_take]; omega, by omega, ?_⟩
  by_cases hz : k = 0
  · exact Or.inl hz
  · obtain ⟨b', off', e, hlt, hc⟩ := h3.resolve_left (by omega)
    cases e
    refine Or.inr ⟨b, off, rfl, hlt, fun j u hu => hc j u ?_⟩
    have e1 : ∀ M : List ByteArray, M.flatMap tsV = M.map Value.string := fun M => by
      induction M with
      | nil => rfl
      | cons x r ih => rw [List.flatMap_cons, ih]; rfl
    rw [e1] at hu ⊢
    rw [List.map_take, List.getElem?_take] at hu
    by_cases hjk : j < k
    · rwa [if_pos hjk] at hu
    · rw [if_neg hjk] at hu
      cases hu
/-- Names, each unlike those ahead of it. -/
def namesOk (L : List ByteArray) : Prop := ∀ i s, L[i]? = some s → nameOk s ∧ s ∉ L.take i
def namesTo (L : List ByteArray) (j : Nat) : Prop := ∀ i, i < j → ∀ s, L[i]? = some s → nameOk s ∧ s ∉ L.take i
set_option maxRecDepth 100000 in
set_option maxHeartbeats 1600000 in
theorem mNames {w : World} {a : Option Addr} {n c : Nat} {L : List ByteArray} (h : Reads tsV w a n L) (hn : n ≤ 1000) (hcap : n ≤ c) (hnil : a = none → c = 0) (hsz : ∀ s ∈ L, s.size ≤ 9223372036854775807) {R : Bool} (hR : R = true ↔ namesOk L) :
    Calls Tryz.prog 85 #[.slice a n c] w fun e w' => e = .returned (.bool R) ∧ Below w.heap.size w w' := by
  have hL : L.length = n := h.1
  have HO := Lib.hid h
  have HSZ := Lib.hid hsz
  have HRR := Lib.hid hR
  have HNO : Hid (∀ i s, L[i]? = some s → ¬ (nameOk s ∧ s ∉ L.take i) → false = R) := fun i s hs hno => by
    cases R with
    | false => rfl
    | true => exact absurd (hR.1 rfl i s hs) hno
  clear h hsz hR
  go_enter Tryz.func85, Tryz.ntmps85
  go_wp2
  go_loopw [7] (fun i wr => ∃ j : Nat, j ≤ n ∧ i = .int .i64 j ∧ Hid (Below w.heap.size w wr) ∧ Hid (namesTo L j)) (fun i _ => n - (intOf i).toNat)
  case atStart => exact ⟨0, Nat.zero_le _, rfl, Below.refl _ _, fun i hi => by omega⟩
  case round =>
    obtain ⟨j, hj, rfl, HB, HA⟩ := hrel
    by_cases hlt : j < n
    · obtain ⟨b, off, s, rfl, hbl, cj, hs⟩ := ts_cell (HO.out.later HB.out) j hlt
      have HS := Lib.hid hs
      have hsl : ∀ w', (Instr.slice 140 (.slice (some ⟨b, off, none⟩) n c) none (some (.int .i64 j)) none).run Tryz.prog w' = .ok (.slice (some ⟨b, off, none⟩) j c) w' := fun w' => slice_ts (by omega) w'
      have HF := Lib.hid ((HO.out.later HB.out).frontTs j hj)
      have hsz := HSZ.out s (List.mem_of_getElem? hs)
      by_cases h1 : nameOk s
      · have HN1 := Lib.hid (fun w => shotsName s hsz (decide_eq_true h1) w)
        by_cases h2 : s ∈ L.take j
        · obtain rfl := HNO.out j s hs (fun h => h.2 h2)
          have HC := Lib.hid (contains_ts c HF.out (by omega) s (R := true) ⟨fun _ => h2, fun _ => rfl⟩)
          clear hs h1 h2
          go_wp2_with (first
            | (go_at_call 65; (with_reducible refine (HN1.out _).mono ?_); rintro e w2 ⟨rfl, hw⟩; obtain rfl := hw.symm)
            | (go_at_call 109; (with_reducible refine HC.out.mono ?_); rintro e w3 ⟨rfl, hb⟩; have HB3 := Lib.hid (HB.out.trans (hb.mono HB.out.size)); clear hb))
          go_ret
          exact ⟨rfl, HB3.out⟩
        · have HC := Lib.hid (contains_ts c HF.out (by omega) s (R := false) ⟨fun e => Bool.noConfusion e, fun h => absurd h h2⟩)
          have HA2 : Hid (namesTo L (j + 1)) := fun i hi s' hs' => by
            by_cases e : i = j
            · subst e
              have := hs.symm.trans hs'
              cases this
              exact ⟨h1, h2⟩
            · exact HA.out i (by omega) s' hs'
          clear hs h1 h2
          go_wp2_with (first
            | (go_at_call 65; (with_reducible refine (HN1.out _).mono ?_); rintro e w2 ⟨rfl, hw⟩; obtain rfl := hw.symm)
            | (go_at_call 109; (with_reducible refine HC.out.mono ?_); rintro e w3 ⟨rfl, hb⟩; have HB3 := Lib.hid (HB.out.trans (hb.mono HB.out.size)); clear hb))
          go_roundw
          case rel => exact ⟨j + 1, by omega, by go_num, HB3.out, HA2.out⟩
          case measure => simp [intOf]; omega
      · obtain rfl := HNO.out j s hs (fun h => h1 h.1)
        have HN1 := Lib.hid (fun w => shotsName s hsz (decide_eq_false h1) w)
        clear hs h1
        go_wp2_with (first
          | (go_at_call 65; (with_reducible refine (HN1.out _).mono ?_); rintro e w2 ⟨rfl, hw⟩; obtain rfl := hw.symm))
        go_ret
        exact ⟨rfl, HB.out⟩
    · obtain rfl : j = n := by omega
      have hr : true = R := (HRR.out.2 fun i s hs => HA.out i (by have := (List.getElem?_eq_some_iff.1 hs).1; omega) s hs).symm
      subst hr
      go_wp2
      go_ret
      exact ⟨rfl, HB.out⟩
end Go.Proofs.YtlljcdmblmkblaaGreat
namespace Go.Proofs.YtlljcdmblmkblaaGreat
open Go.RowKit
set_option linter.unusedVariables false

def setOk (l : List Sp) : Prop := Rt (-1) l ∧ (0 < l.length → (spAt l (l.length - 1)).2 ≤ 4096)
set_option maxRecDepth 100000 in
set_option maxHeartbeats 1600000 in
theorem mSet {w : World} {a : Option Addr} {n c : Nat} {l : List Sp} (h : SpD w a n c l) {R : Bool} (hR : R = true ↔ setOk l) : Calls Tryz.prog 86 #[.slice a n c] w fun e w' => e = .returned (.bool R) ∧ Below w.heap.size w w' := by
  have hl : l.length = n := h.1.1
  have hn := h.2.2.1
  have HL := Lib.hid h.1
  by_cases h1 : Rt (-1) l
  · have HP := Lib.hid (fun (W : World) (hb : Below w.heap.size w W) => spanRight_is a n c l W (h.1.later hb) (by omega) true (decide_eq_true h1))
    have HR0 := Lib.hid (Below.refl w.heap.size w)
    by_cases h0 : n = 0
    · subst h0
      have hr : true = R := (hR.2 ⟨h1, fun h => by omega⟩).symm
      subst hr
      clear h hR h1
      go_enter Tryz.func86, Tryz.ntmps86
      go_wp2_with (first
        | (go_at_call 110; (with_reducible refine (HP.out _ HR0.out).mono ?_); rintro e w2 ⟨rfl, hb⟩; have HB := Lib.hid hb; clear hb))
      go_ret
      exact ⟨rfl, HB.out⟩
    · obtain ⟨b, off, rfl⟩ := h.1.lies (by omega)
      obtain ⟨_, hc⟩ := span_cells h.1 (n - 1) (by omega)
      have hlt : b < w.heap.size := block_lt_of_cell hc
      have hcell : Hid (∀ W, Below w.heap.size w W → W.cell? ⟨b, off + (n - 1) * 2 + 1, none⟩ = some (.int .i64 (spAt l (n - 1)).2)) := fun W hb => (hb.cell (p := ⟨b, off + (n - 1) * 2 + 1, none⟩) hlt).trans hc
      have hw1 : wrap64 ((n : Int) - 1) = ((n - 1 : Nat) : Int) := by unfold wrap64; omega
      have hpn : n - 1 < n := by omega
      obtain ⟨t, ht⟩ := named (spAt l (n - 1)).2
      rw [ht.out] at hcell
      have hr : decide (t ≤ 4096) = R := by
        rw [Bool.eq_iff_iff, hR, decide_eq_true_iff]
        unfold setOk
        rw [hl, ht.out]
        exact ⟨fun h => ⟨h1, fun _ => h⟩, fun h => h.2 (by omega)⟩
      have hn0 : ((n : Int) == 0) = false := by simp [h0]
      clear h hR h1 hc
      go_enter Tryz.func86, Tryz.ntmps86
      go_wp2_with (first
        | (go_at_call 110; (with_reducible refine (HP.out _ HR0.out).mono ?_); rintro e w2 ⟨rfl, hb⟩; have HB := Lib.hid hb; have k0 := hcell.out _ hb; clear hb))
      go_ret
      exact ⟨by first | rfl | exact ret_bool hr, HB.out⟩
  · have HP := Lib.hid (fun (W : World) (hb : Below w.heap.size w W) => spanRight_is a n c l W (h.1.later hb) (by omega) false (decide_eq_false h1))
    have HR0 := Lib.hid (Below.refl w.heap.size w)
    have hr : false = R := by
      cases R with
      | false => rfl
      | true => exact absurd (hR.1 rfl).1 h1
    subst hr
    clear h hR h1
    go_enter Tryz.func86, Tryz.ntmps86
    go_wp2_with (first
      | (go_at_call 110; (with_reducible refine (HP.out _ HR0.out).mono ?_); rintro e w2 ⟨rfl, hb⟩; have HB := Lib.hid hb; clear hb))
    go_ret
    exact ⟨rfl, HB.out⟩
def cntsOk (K : List Int) : Prop := K.length ≤ 65536 ∧ ∀ k ∈ K, 0 ≤ k ∧ k ≤ 65535
set_option maxHeartbeats 1600000 in
theorem mCounts {w : World} {a : Option Addr} {n c : Nat} {K : List Int} (h : IntsD w a n c K) {R : Bool} (hR : R = true ↔ cntsOk K) : Calls Tryz.prog 68 #[.slice a n c] w fun e w' => e = .returned (.bool R) ∧ Below w.heap.size w w' := by
  have hl : K.length = n := h.1.1
  have hn := h.2.2
  have HR0 := Lib.hid (Below.refl w.heap.size w)
  by_cases h6 : 65536 < n
  · have hr : false = R := by
      cases R with
      | false => rfl
      | true => have := (hR.1 rfl).1; omega
    subst hr
    clear h hR
    go_enter Tryz.func68, Tryz.ntmps68
    go_wp2
    go_ret
    exact ⟨rfl, HR0.out⟩
  · have HD := Lib.hid h.1
    have HNO : Hid (∀ k ∈ K, ¬ (0 ≤ k ∧ k ≤ 65535) → false = R) := fun k hk hno => by
      cases R with
      | false => rfl
      | true => exact absurd ((hR.1 rfl).2 k hk) hno
    have HYES : Hid ((∀ k ∈ K, 0 ≤ k ∧ k ≤ 65535) → true = R) := fun hy => (hR.2 ⟨by omega, hy⟩).symm
    clear h hR
    go_enter Tryz.func68, Tryz.ntmps68
    go_wp2
    go_loopw [10] (fun i wr => ∃ j : Nat, j ≤ n ∧ i = .int .i64 j ∧ Hid (Below w.heap.size w wr) ∧ Hid (∀ i, i < j → ∀ k, K[i]? = some k → 0 ≤ k ∧ k ≤ 65535)) (fun i _ => n - (intOf i).toNat)
    case atStart => exact ⟨0, Nat.zero_le _, rfl, Below.refl _ _, fun i hi => by omega⟩
    case round =>
      obtain ⟨j, hj, rfl, HB, HA⟩ := hrel
      by_cases hlt : j < n
      · obtain ⟨b, off, e1, cj, hk⟩ := iv_cell (HD.out.later HB.out) j hlt
        subst e1
        obtain ⟨k, hkk⟩ := named (ivAt K j)
        rw [hkk.out] at cj hk
        have HK := Lib.hid hk
        by_cases hok : 0 ≤ k ∧ k ≤ 65535
        · have HW := Lib.hid (mWithin k 0 65535 (decide_eq_true hok))
          have HA2 : Hid (∀ i, i < j + 1 → ∀ k, K[i]? = some k → 0 ≤ k ∧ k ≤ 65535) := fun i hi k' hk' => by
            by_cases e : i = j
            · subst e
              have := hk.symm.trans hk'
              cases this
              exact hok
            · exact HA.out i (by omega) k' hk'
          clear hk hok
          go_wp2_with (first
            | (go_at_call 63; (with_reducible refine (HW.out _).mono ?_); rintro e w2 ⟨rfl, hw⟩; obtain rfl := hw.symm))
          go_roundw
          case rel => exact ⟨j + 1, by omega, by go_num, HB.out, HA2.out⟩
          case measure => simp [intOf]; omega
        · have HW := Lib.hid (mWithin k 0 65535 (decide_eq_false hok))
          obtain rfl := HNO.out k (List.mem_of_getElem? hk) hok
          clear hk hok
          go_wp2_with (first
            | (go_at_call 63; (with_reducible refine (HW.out _).mono ?_); rintro e w2 ⟨rfl, hw⟩; obtain rfl := hw.symm))
          go_ret
          exact ⟨rfl, HB.out⟩
      · obtain rfl : j = n := by omega
        obtain rfl := HYES.out fun k hk => by
          obtain ⟨i, hi⟩ := List.getElem?_of_mem hk
          exact HA.out i (by have := (List.getElem?_eq_some_iff.1 hi).1; omega) k hi
        go_wp2
        go_ret
        exact ⟨rfl, HB.out⟩
end Go.Proofs.YtlljcdmblmkblaaGreat
namespace Go.Proofs.YtlljcdmblmkblaaGreat
open Go.RowKit
set_option linter.unusedVariables false

def mapsOk (B : List BmM) : Prop := B.length ≤ 8 ∧ (∀ (i : Nat) (b : BmM), B[i]? = some b → setOk b.2.2) ∧ namesOk (B.map (·.1))
set_option maxRecDepth 100000 in
set_option maxHeartbeats 1600000 in
theorem mMaps {w : World} {a : Option Addr} {n c : Nat} {B : List BmM} (h : BmsD w a n c B) {R : Bool} (hR : R = true ↔ mapsOk B) : Calls Tryz.prog 67 #[.slice a n c] w fun e w' => e = .returned (.bool R) ∧ Below w.heap.size w w' := by
  obtain ⟨hl, hn⟩ := h.lens
  have HR0 := Lib.hid (Below.refl w.heap.size w)
  skip
  by_cases h6 : 8 < n
  · have hr : false = R := by
      cases R with
      | false => rfl
      | true => have := (hR.1 rfl).1; omega
    subst hr
    clear h hR
    go_enter Tryz.func67, Tryz.ntmps67
    go_wp2
    go_ret
    exact ⟨rfl, HR0.out⟩
  · have HD := Lib.hid h
    have HNO : Hid (∀ (i : Nat) (b : BmM), B[i]? = some b → ¬ setOk b.2.2 → false = R) := fun i b hb hno => by
      cases R with
      | false => rfl
      | true => exact absurd ((hR.1 rfl).2.1 i b hb) hno
    have HYES : Hid ((∀ (i : Nat) (b : BmM), B[i]? = some b → setOk b.2.2) → (R = true ↔ namesOk (B.map (·.1)))) := fun hy => hR.trans ⟨fun h => h.2.2, fun h => ⟨by omega, hy, h⟩⟩
    have HSZ : Hid (∀ s ∈ B.map (·.1), s.size ≤ 9223372036854775807) := fun s hs => by
      obtain ⟨x, hx, rfl⟩ := List.mem_map.1 hs
      obtain ⟨i, hi⟩ := List.getElem?_of_mem hx
      obtain ⟨_, _, nm, on, _, _, _, l, _, hBj, _, hnm, _⟩ := h.at i (by have := (List.getElem?_eq_some_iff.1 hi).1; omega)
      have := hi.symm.trans hBj
      cases this
      exact hnm
    clear h hR 
    go_enter Tryz.func67, Tryz.ntmps67
    go_wp2
    go_loopw [3, 11] (fun l i wr => ∃ (j : Nat) (a' : Option Addr) (c' : Nat), j ≤ n ∧ l = .slice a' j c' ∧ i = .int .i64 j ∧ Hid (Below w.heap.size w wr) ∧ Hid (OwnG tsV 9 1 wr w.heap.size (.slice a' j c') j ((B.map (·.1)).take j)) ∧ Hid (∀ i, i < j → ∀ (b : BmM), B[i]? = some b → setOk b.2.2)) (fun _ i _ => n - (intOf i).toNat)
    case atStart => exact ⟨0, none, 0, Nat.zero_le _, rfl, rfl, Below.refl _ _, OwnG.none _ _ _ _ _, fun i hi => by omega⟩
    case round =>
      obtain ⟨j, a', c', hj, rfl, rfl, HB, HO, HA⟩ := hrel
      by_cases hlt : j < n
      · obtain ⟨b, off, nm, on, al, ll, cl, l, rfl, hBj, hbl, hnm, x0, x1, x2, hs⟩ := (HD.out.later HB.out).at j hlt
        have HBJ := Lib.hid hBj
        have HK1 : Hid (Blk (wr.alloc (.cells #[.string nm, .bool on, .slice al ll cl] 92)) wr.heap.size 92 #[.string nm, .bool on, .slice al ll cl]) := Blk.new _ _ _
        have HB1 := Lib.hid (HB.out.alloc HB.out.size (.cells #[.string nm, .bool on, .slice al ll cl] 92))
        have HO1 := Lib.hid (HO.out.alloc (.cells #[.string nm, .bool on, .slice al ll cl] 92))
        by_cases hok : setOk l
        · have HC := Lib.hid (mSet (hs.later ((Below.refl _ _).alloc (Nat.le_refl _) (.cells #[.string nm, .bool on, .slice al ll cl] 92))) (R := true) (⟨fun _ => hok, fun _ => rfl⟩))
          have HA2 : Hid (∀ i, i < j + 1 → ∀ (b : BmM), B[i]? = some b → setOk b.2.2) := fun i hi b' hb' => by
            by_cases e : i = j
            · subst e
              have := hBj.symm.trans hb'
              cases this
              exact hok
            · exact HA.out i (by omega) b' hb'
          have HT : Hid ((B.map (·.1)).take (j + 1) = (B.map (·.1)).take j ++ [nm]) := by
            rw [Hid, List.take_add_one, List.getElem?_map, hBj]
            rfl
          have hj10 : j + 1 ≤ 10000000 := by omega
          clear hs hBj hok
          go_wp2_with (first
            | (go_at_call 86; (with_reducible refine HC.out.mono ?_); rintro e w2 ⟨rfl, hb⟩; have HB2 := Lib.hid (HB1.out.trans (hb.mono HB1.out.size)); have HO2 := Lib.hid (HO1.out.laterB hb); have HK2 := Lib.hid (HK1.out.later hb); obtain ⟨k0, k1, k2⟩ := cells3 HK2.out; clear hb)
            | (at_builtin; refine append_lg ts_rowed rfl (.tmp 19) (.tmp 22) rfl w.heap.size _ j _ rfl (HO2.out.alloc _) (some ⟨w2.heap.size, 0, none⟩) 1 1 [nm] rfl (fun e => by cases e) (one_reads _ nm _ _ rfl) hj10 (Nat.le_trans HB2.out.size (by simp)) ?_; intro a5 c5 w5 g1 g2 g3; have HO5 := Lib.hid g1; have HB5 := Lib.hid ((HO2.out.alloc (.cells #[.string nm] 9)).below (HB2.out.alloc HB2.out.size (.cells #[.string nm] 9)) g2 (Nat.le_trans HB2.out.size (by simp)) (Nat.le_refl _)); clear g1 g2 g3))
          go_roundw
          case rel => exact ⟨j + 1, a5, c5, by omega, rfl, by go_num, HB5.out, by rw [HT.out]; exact HO5.out, HA2.out⟩
          case measure => simp [intOf]; omega
        · have HC := Lib.hid (mSet (hs.later ((Below.refl _ _).alloc (Nat.le_refl _) (.cells #[.string nm, .bool on, .slice al ll cl] 92))) (R := false) (⟨fun e => Bool.noConfusion e, fun h => absurd h hok⟩))
          obtain rfl := HNO.out j _ hBj hok
          clear hs hBj hok
          go_wp2_with (first
            | (go_at_call 86; (with_reducible refine HC.out.mono ?_); rintro e w2 ⟨rfl, hb⟩; have HB2 := Lib.hid (HB1.out.trans (hb.mono HB1.out.size)); clear hb))
          go_ret
          exact ⟨rfl, HB2.out⟩
      · obtain rfl : j = n := by omega
        have hRN := HYES.out fun i b hb => HA.out i (by have := (List.getElem?_eq_some_iff.1 hb).1; omega) b hb
        have hO := HO.out
        rw [List.take_of_length_le (by rw [List.length_map]; omega)] at hO
        obtain ⟨q1, q2, q3⟩ := hO.reads ts_rowed
        have HC := Lib.hid (mNames q1 hn q3 q2 HSZ.out hRN)
        clear hRN hO q1 q2 q3
        go_wp2_with (first
          | (go_at_call 85; (with_reducible refine HC.out.mono ?_); rintro e w2 ⟨rfl, hb⟩; have HB2 := Lib.hid (HB.out.trans (hb.mono HB.out.size)); clear hb))
        go_ret
        exact ⟨rfl, HB2.out⟩
def shotsOk (C : Int) (B : List ShM) : Prop := B.length ≤ 8 ∧ (∀ (i : Nat) (b : ShM), B[i]? = some b → contOk b.2.1 b.2.2 C) ∧ namesOk (B.map (·.1))
set_option maxRecDepth 100000 in
set_option maxHeartbeats 1600000 in
theorem mShots {w : World} {a : Option Addr} {n c : Nat} {C : Int} {B : List ShM} (hc : 0 ≤ C ∧ C ≤ 6) (h : ShsD w a n c B) {R : Bool} (hR : R = true ↔ shotsOk C B) : Calls Tryz.prog 66 #[.slice a n c, .int .i64 C] w fun e w' => e = .returned (.bool R) ∧ Below w.heap.size w w' := by
  obtain ⟨hl, hn⟩ := h.lens
  have HR0 := Lib.hid (Below.refl w.heap.size w)
  have HCC := Lib.hid hc
  by_cases h6 : 8 < n
  · have hr : false = R := by
      cases R with
      | false => rfl
      | true => have := (hR.1 rfl).1; omega
    subst hr
    clear h hR
    go_enter Tryz.func66, Tryz.ntmps66
    go_wp2
    go_ret
    exact ⟨rfl, HR0.out⟩
  · have HD := Lib.hid h
    have HNO : Hid (∀ (i : Nat) (b : ShM), B[i]? = some b → ¬ contOk b.2.1 b.2.2 C → false = R) := fun i b hb hno => by
      cases R with
      | false => rfl
      | true => exact absurd ((hR.1 rfl).2.1 i b hb) hno
    have HYES : Hid ((∀ (i : Nat) (b : ShM), B[i]? = some b → contOk b.2.1 b.2.2 C) → (R = true ↔ namesOk (B.map (·.1)))) := fun hy => hR.trans ⟨fun h => h.2.2, fun h => ⟨by omega, hy, h⟩⟩
    have HSZ : Hid (∀ s ∈ B.map (·.1), s.size ≤ 9223372036854775807) := fun s hs => by
      obtain ⟨x, hx, rfl⟩ := List.mem_map.1 hs
      obtain ⟨i, hi⟩ := List.getElem?_of_mem hx
      obtain ⟨_, _, nm, sz, _, _, _, T, _, hBj, _, ⟨_, hnm⟩, _⟩ := h.at i (by have := (List.getElem?_eq_some_iff.1 hi).1; omega)
      have := hi.symm.trans hBj
      cases this
      exact hnm
    clear h hR hc
    go_enter Tryz.func66, Tryz.ntmps66
    go_wp2
    go_loopw [5, 13] (fun l i wr => ∃ (j : Nat) (a' : Option Addr) (c' : Nat), j ≤ n ∧ l = .slice a' j c' ∧ i = .int .i64 j ∧ Hid (Below w.heap.size w wr) ∧ Hid (OwnG tsV 9 1 wr w.heap.size (.slice a' j c') j ((B.map (·.1)).take j)) ∧ Hid (∀ i, i < j → ∀ (b : ShM), B[i]? = some b → contOk b.2.1 b.2.2 C)) (fun _ i _ => n - (intOf i).toNat)
    case atStart => exact ⟨0, none, 0, Nat.zero_le _, rfl, rfl, Below.refl _ _, OwnG.none _ _ _ _ _, fun i hi => by omega⟩
    case round =>
      obtain ⟨j, a', c', hj, rfl, rfl, HB, HO, HA⟩ := hrel
      by_cases hlt : j < n
      · obtain ⟨b, off, nm, sz, al, ll, cl, T, rfl, hBj, hbl, ⟨hsz, hnm⟩, x0, x1, x2, hs⟩ := (HD.out.later HB.out).at j hlt
        have HBJ := Lib.hid hBj
        have HK1 : Hid (Blk (wr.alloc (.cells #[.string nm, .int .i64 sz, .slice al ll cl] 77)) wr.heap.size 77 #[.string nm, .int .i64 sz, .slice al ll cl]) := Blk.new _ _ _
        have HB1 := Lib.hid (HB.out.alloc HB.out.size (.cells #[.string nm, .int .i64 sz, .slice al ll cl] 77))
        have HO1 := Lib.hid (HO.out.alloc (.cells #[.string nm, .int .i64 sz, .slice al ll cl] 77))
        by_cases hok : contOk sz T C
        · have HC := Lib.hid (mContents sz C al ll cl T hsz HCC.out _ (hs.later ((Below.refl _ _).alloc (Nat.le_refl _) (.cells #[.string nm, .int .i64 sz, .slice al ll cl] 77))) (R := true) (⟨fun _ => hok, fun _ => rfl⟩))
          have HA2 : Hid (∀ i, i < j + 1 → ∀ (b : ShM), B[i]? = some b → contOk b.2.1 b.2.2 C) := fun i hi b' hb' => by
            by_cases e : i = j
            · subst e
              have := hBj.symm.trans hb'
              cases this
              exact hok
            · exact HA.out i (by omega) b' hb'
          have HT : Hid ((B.map (·.1)).take (j + 1) = (B.map (·.1)).take j ++ [nm]) := by
            rw [Hid, List.take_add_one, List.getElem?_map, hBj]
            rfl
          have hj10 : j + 1 ≤ 10000000 := by omega
          clear hs hBj hok
          go_wp2_with (first
            | (go_at_call 64; (with_reducible refine HC.out.mono ?_); rintro e w2 ⟨rfl, hb⟩; have HB2 := Lib.hid (HB1.out.trans (hb.mono HB1.out.size)); have HO2 := Lib.hid (HO1.out.laterB hb); have HK2 := Lib.hid (HK1.out.later hb); obtain ⟨k0, k1, k2⟩ := cells3 HK2.out; clear hb)
            | (at_builtin; refine append_lg ts_rowed rfl (.tmp 24) (.tmp 27) rfl w.heap.size _ j _ rfl (HO2.out.alloc _) (some ⟨w2.heap.size, 0, none⟩) 1 1 [nm] rfl (fun e => by cases e) (one_reads _ nm _ _ rfl) hj10 (Nat.le_trans HB2.out.size (by simp)) ?_; intro a5 c5 w5 g1 g2 g3; have HO5 := Lib.hid g1; have HB5 := Lib.hid ((HO2.out.alloc (.cells #[.string nm] 9)).below (HB2.out.alloc HB2.out.size (.cells #[.string nm] 9)) g2 (Nat.le_trans HB2.out.size (by simp)) (Nat.le_refl _)); clear g1 g2 g3))
          go_roundw
          case rel => exact ⟨j + 1, a5, c5, by omega, rfl, by go_num, HB5.out, by rw [HT.out]; exact HO5.out, HA2.out⟩
          case measure => simp [intOf]; omega
        · have HC := Lib.hid (mContents sz C al ll cl T hsz HCC.out _ (hs.later ((Below.refl _ _).alloc (Nat.le_refl _) (.cells #[.string nm, .int .i64 sz, .slice al ll cl] 77))) (R := false) (⟨fun e => Bool.noConfusion e, fun h => absurd h hok⟩))
          obtain rfl := HNO.out j _ hBj hok
          clear hs hBj hok
          go_wp2_with (first
            | (go_at_call 64; (with_reducible refine HC.out.mono ?_); rintro e w2 ⟨rfl, hb⟩; have HB2 := Lib.hid (HB1.out.trans (hb.mono HB1.out.size)); clear hb))
          go_ret
          exact ⟨rfl, HB2.out⟩
      · obtain rfl : j = n := by omega
        have hRN := HYES.out fun i b hb => HA.out i (by have := (List.getElem?_eq_some_iff.1 hb).1; omega) b hb
        have hO := HO.out
        rw [List.take_of_length_le (by rw [List.length_map]; omega)] at hO
        obtain ⟨q1, q2, q3⟩ := hO.reads ts_rowed
        have HC := Lib.hid (mNames q1 hn q3 q2 HSZ.out hRN)
        clear hRN hO q1 q2 q3
        go_wp2_with (first
          | (go_at_call 85; (with_reducible refine HC.out.mono ?_); rintro e w2 ⟨rfl, hb⟩; have HB2 := Lib.hid (HB.out.trans (hb.mono HB.out.size)); clear hb))
        go_ret
        exact ⟨rfl, HB2.out⟩
end Go.Proofs.YtlljcdmblmkblaaGreat
namespace Go.Proofs.YtlljcdmblmkblaaGreat
open Go.RowKit
set_option linter.unusedVariables false

theorem not_ahead {α : Type} (S : List (ByteArray × α)) (i : Nat) (s : ByteArray) : s ∉ (S.map (·.1)).take i ↔ ∀ k, k < i → ∀ e, S[k]? = some e → e.1 ≠ s := by
  constructor
  · intro h k hk e he hes
    refine h (List.mem_of_getElem? (i := k) ?_)
    rw [List.getElem?_take_of_lt hk, List.getElem?_map, he]
    exact congrArg some hes
  · intro h hm
    obtain ⟨k, hk⟩ := List.getElem?_of_mem hm
    rw [List.getElem?_take] at hk
    by_cases hki : k < i
    · rw [if_pos hki, List.getElem?_map] at hk
      obtain ⟨e, he, hes⟩ := Option.map_eq_some_iff.1 hk
      exact h k hki e he hes
    · rw [if_neg hki] at hk
      cases hk
theorem namesS (S : List ShM) : namesOk (S.map (·.1)) ↔ ∀ (i : Nat) (d : ShM), S[i]? = some d → nameOk d.1 ∧ fndS d.1 S = i := by
  constructor
  · intro h i d hd
    obtain ⟨h1, h2⟩ := h i d.1 (by rw [List.getElem?_map, hd]; rfl)
    exact ⟨h1, fndS_at hd rfl ((not_ahead S i d.1).1 h2)⟩
  · intro h i s hs
    rw [List.getElem?_map] at hs
    obtain ⟨d, hd, rfl⟩ := Option.map_eq_some_iff.1 hs
    obtain ⟨h1, h2⟩ := h i d hd
    refine ⟨h1, (not_ahead S i d.1).2 ?_⟩
    rcases fndS_cases d.1 S with ⟨e, _⟩ | ⟨j, d', e, _, _, _, hn⟩
    · omega
    · have : j = i := by omega
      subst this
      exact hn
theorem namesB (S : List BmM) : namesOk (S.map (·.1)) ↔ ∀ (i : Nat) (d : BmM), S[i]? = some d → nameOk d.1 ∧ fndB d.1 S = i := by
  constructor
  · intro h i d hd
    obtain ⟨h1, h2⟩ := h i d.1 (by rw [List.getElem?_map, hd]; rfl)
    exact ⟨h1, fndB_at hd rfl ((not_ahead S i d.1).1 h2)⟩
  · intro h i s hs
    rw [List.getElem?_map] at hs
    obtain ⟨d, hd, rfl⟩ := Option.map_eq_some_iff.1 hs
    obtain ⟨h1, h2⟩ := h i d hd
    refine ⟨h1, (not_ahead S i d.1).2 ?_⟩
    rcases fndB_cases d.1 S with ⟨e, _⟩ | ⟨j, d', e, _, _, _, hn⟩
    · omega
    · have : j = i := by omega
      subst this
      exact hn
theorem right_iff (M : MM) : RightMt M ↔ (0 ≤ M.c ∧ M.c ≤ 6) ∧ contOk M.s M.T M.c ∧ (M.bk.toList.isEmpty = true ∨ nameOk M.bk) ∧ shotsOk M.c M.S ∧ mapsOk M.B ∧ cntsOk M.K := by
  constructor
  · intro h
    refine ⟨h.c, ⟨h.s, h.T⟩, ?_, ⟨h.nS, fun i d hd => ⟨(h.S i d hd).2.2.1, (h.S i d hd).2.2.2⟩, (namesS _).2 fun i d hd => ⟨(h.S i d hd).1, (h.S i d hd).2.1⟩⟩, ⟨h.nB, fun i b hb => (h.B i b hb).2.2, (namesB _).2 fun i b hb => ⟨(h.B i b hb).1, (h.B i b hb).2.1⟩⟩, ⟨h.nK, h.K⟩⟩
    rcases Nat.eq_zero_or_pos M.bk.size with e | e
    · exact Or.inl (empty_size.2 e)
    · exact Or.inr (h.bk e)
  · rintro ⟨h1, ⟨h2, h3⟩, h4, ⟨h5, h6, h7⟩, ⟨h8, h9, h10⟩, h11, h12⟩
    refine ⟨h1, h2, fun h0 => ?_, h5, h8, h11, h3, fun i d hd => ⟨((namesS _).1 h7 i d hd).1, ((namesS _).1 h7 i d hd).2, (h6 i d hd).1, (h6 i d hd).2⟩, fun i b hb => ⟨((namesB _).1 h10 i b hb).1, ((namesB _).1 h10 i b hb).2, (h9 i b hb).1, (h9 i b hb).2⟩, h12⟩
    rcases h4 with e | e
    · have := empty_size.1 e
      omega
    · exact e
theorem bqP {fn : FuncId} {args : Array Value} {w : World} {P : Prop} (h : ∀ R : Bool, (R = true ↔ P) → Calls Tryz.prog fn args w fun e w' => e = .returned (.bool R) ∧ Below w.heap.size w w') : Calls Tryz.prog fn args w (BQ P w) := by
  by_cases hp : P
  · exact (h true ⟨fun _ => hp, fun _ => rfl⟩).mono fun e w' h => ⟨true, h.1, h.2, ⟨fun _ => hp, fun _ => rfl⟩⟩
  · exact (h false ⟨fun e => Bool.noConfusion e, fun e => absurd e hp⟩).mono fun e w' h => ⟨false, h.1, h.2, ⟨fun e => Bool.noConfusion e, fun e => absurd e hp⟩⟩
set_option maxRecDepth 20000 in
set_option maxHeartbeats 4000000 in
theorem mRight (w : World) (x : Mt) (M : MM) (h : MetaD w x M) : Calls Tryz.prog 38 #[.agg (mtA M x)] w (RightE (RightMt M) w) := by
  have hri := right_iff M
  obtain ⟨P, hP⟩ := named (RightMt M)
  rw [hP.out] at hri ⊢
  clear hP
  obtain ⟨a0, n0, c0, sa, sn, sc, ma, mn, mc, ca, cn, cc⟩ := x
  obtain ⟨c, s, bk, T, S, B, K⟩ := M
  obtain ⟨hc, hs, hbk, hT, hS, hB, hK⟩ := h
  dsimp only [mtA] at hri hc hs hbk hT hS hB hK ⊢
  have HP := Lib.hid hri
  have HRT := Lib.hid (RtS.first w #[.int .i64 c, .int .i64 s, .string bk, .slice a0 n0 c0, .slice sa sn sc, .slice ma mn mc, .slice ca cn cc])
  have HW := Lib.hid (fun w => bqP (P := 0 ≤ c ∧ c ≤ 6) fun R hR => (mWithin c 0 6 (R := R) (by rw [Bool.eq_iff_iff, decide_eq_true_iff]; exact hR.symm) w).mono fun e w' h => ⟨h.1, h.2 ▸ Below.refl _ _⟩)
  have HCo := Lib.hid (fun (hc6 : 0 ≤ c ∧ c ≤ 6) W (hb : Below w.heap.size w W) => bqP (P := contOk s T c) fun R hR => mContents s c a0 n0 c0 T hs hc6 W (hT.later hb) hR)
  have HNa := Lib.hid (fun w => bqP (P := nameOk bk) fun R hR => (shotsName bk hbk (R := R) (by rw [Bool.eq_iff_iff, decide_eq_true_iff]; exact hR.symm) w).mono fun e w' h => ⟨h.1, h.2 ▸ Below.refl _ _⟩)
  have HSh := Lib.hid (fun (hc6 : 0 ≤ c ∧ c ≤ 6) W (hb : Below w.heap.size w W) => bqP (P := shotsOk c S) fun R hR => mShots hc6 (hS.later hb) hR)
  have HMa := Lib.hid (fun W (hb : Below w.heap.size w W) => bqP (P := mapsOk B) fun R hR => mMaps (hB.later hb) hR)
  have HCn := Lib.hid (fun W (hb : Below w.heap.size w W) => bqP (P := cntsOk K) fun R hR => mCounts (hK.later hb) hR)
  clear hri hc hs hbk hT hS hB hK
  go_enter Tryz.func38, Tryz.ntmps38
  cases he : bk.toList.isEmpty
  all_goals
    go_wp2_with (first
      | (go_at_call 63; (with_reducible refine (HW.out _).mono ?_); rintro e w1 ⟨G1, rfl, h, hr⟩; have H1 := Lib.hid hr; have HRT := Lib.hid (HRT.out.later h); obtain ⟨m0, m1, m2, m3, m4, m5, m6⟩ := cells7 HRT.out.box; clear h hr; cases G1)
      | (go_at_call 64; (with_reducible refine (HCo.out (H1.out.1 (by first | rfl | trivial)) _ HRT.out.below).mono ?_); rintro e w2 ⟨G2, rfl, h, hr⟩; have H2 := Lib.hid hr; have HRT := Lib.hid (HRT.out.later h); obtain ⟨m0, m1, m2, m3, m4, m5, m6⟩ := cells7 HRT.out.box; clear h hr; cases G2)
      | (go_at_call 65; (with_reducible refine (HNa.out _).mono ?_); rintro e w3 ⟨G3, rfl, h, hr⟩; have H3 := Lib.hid hr; have HRT := Lib.hid (HRT.out.later h); obtain ⟨m0, m1, m2, m3, m4, m5, m6⟩ := cells7 HRT.out.box; clear h hr; cases G3)
      | (go_at_call 66; (with_reducible refine (HSh.out (H1.out.1 (by first | rfl | trivial)) _ HRT.out.below).mono ?_); rintro e w4 ⟨G4, rfl, h, hr⟩; have H4 := Lib.hid hr; have HRT := Lib.hid (HRT.out.later h); obtain ⟨m0, m1, m2, m3, m4, m5, m6⟩ := cells7 HRT.out.box; clear h hr; cases G4)
      | (go_at_call 67; (with_reducible refine (HMa.out _ HRT.out.below).mono ?_); rintro e w5 ⟨G5, rfl, h, hr⟩; have H5 := Lib.hid hr; have HRT := Lib.hid (HRT.out.later h); obtain ⟨m0, m1, m2, m3, m4, m5, m6⟩ := cells7 HRT.out.box; clear h hr; cases G5)
      | (go_at_call 68; (with_reducible refine (HCn.out _ HRT.out.below).mono ?_); rintro e w6 ⟨G6, rfl, h, hr⟩; have H6 := Lib.hid hr; have HRT := Lib.hid (HRT.out.later h); clear h hr; cases G6))
  all_goals first
    | (go_ret; exact RightE.no rfl HRT.out.below fun hp => H1.out.2 (HP.out.1 hp).1)
    | (go_ret; exact RightE.no rfl HRT.out.below fun hp => H2.out.2 (HP.out.1 hp).2.1)
    | (go_ret; exact RightE.no rfl HRT.out.below fun hp => H3.out.2 ((HP.out.1 hp).2.2.1.resolve_left (by rw [he]; exact Bool.false_ne_true)))
    | (go_ret; exact RightE.no rfl HRT.out.below fun hp => H4.out.2 (HP.out.1 hp).2.2.2.1)
    | (go_ret; exact RightE.no rfl HRT.out.below fun hp => H5.out.2 (HP.out.1 hp).2.2.2.2.1)
    | (go_ret; exact RightE.no rfl HRT.out.below fun hp => H6.out.2 (HP.out.1 hp).2.2.2.2.2)
    | (go_ret; exact RightE.yes rfl HRT.out.below (HP.out.2 ⟨H1.out.1 (by first | rfl | trivial), H2.out.1 (by first | rfl | trivial), (by first | exact Or.inl he | exact Or.inr (H3.out.1 (by first | rfl | trivial))), H4.out.1 (by first | rfl | trivial), H5.out.1 (by first | rfl | trivial), H6.out.1 (by first | rfl | trivial)⟩))
end Go.Proofs.YtlljcdmblmkblaaGreat
namespace Go.Proofs.YtlljcdmblmkblaaGreat
open Go.RowKit
set_option linter.unusedVariables false

set_option maxHeartbeats 1600000 in
theorem refAt8_any (w : World) (a : Option Addr) (len cap : Nat) (ds : List LfD) (i : Int) (h : TabR w a len ds) (hi64 : I64 i) : Calls Tryz.prog 26 #[.agg #[.slice a len cap], .int .i64 i] w fun e w' => e = .returned (.agg (enV (atT (tbOf ds) i)).toArray) ∧ Below w.heap.size w w' := by
  have HG : Hid (∀ cs ds, Below w.heap.size w ((w.alloc (.cells cs 36)).alloc (.cells ds 24))) := fun cs ds => ((Below.refl _ _).alloc (Nat.le_refl _) _).alloc (by simp) _
  by_cases hi : i < 0
  · have e0 : atT (tbOf ds) i = enZ := by unfold atT; rw [if_pos hi]
    rw [e0]
    clear h
    go_enter Tryz.func26, Tryz.ntmps26
    go_wp2
    refine bodyPost_ret (v := .agg (enV enZ).toArray) (results_cell_row rfl _ _ (w.heap.size + 1) 24 (enV enZ).toArray (0, 0) _ rfl ?_ Tryz.underlying24 rfl entry_size) rfl ⟨rfl, HG.out _ _⟩
    exact blk_next9 _ _ _ _ _
  · obtain ⟨I, rfl⟩ : ∃ I : Nat, i = I := ⟨i.toNat, by omega⟩
    have hI := hi64.2
    rw [atT_nat]
    unfold atN
    obtain ⟨J, hJ⟩ := named (I / 8)
    obtain ⟨R, hR⟩ := named (I % 8)
    have hq : wrap64 ((I : Int) / 8) = (J : Int) := by rw [← hJ.out]; unfold wrap64; omega
    have hr : (I : Int) % 8 = (R : Int) := by rw [← hR.out]; omega
    rw [hJ.out, hR.out]
    clear hJ hR hI hi64
    have h2 : TabR ((w.alloc (.cells #[.slice a len cap] 36)).alloc (.cells #[.int .i64 0, .int .i64 0, .int .i64 0, .int .i64 0, .int .u32 0] 24)) a len ds := h.later (HG.out _ _)
    by_cases hlt : J < len
    · have n1 : ¬ len ≤ J := by omega
      obtain ⟨b, off, al, ll, cl, xs, rfl, hc, hL, hx, _⟩ := h2.at J hlt
      rw [hx]
      by_cases hk : R < ll
      · obtain ⟨b', off', e1, _, c0, c1, c2, c3, c4⟩ := hL.at R hk
        dsimp only at e1 c0 c1 c2 c3 c4
        subst e1
        have n2 : ¬ ll ≤ R := by omega
        clear h h2 hL hx
        go_enter Tryz.func26, Tryz.ntmps26
        go_wp2
        refine bodyPost_ret (v := .agg (enV (lfAt xs R)).toArray) (results_cell_row rfl _ _ (w.heap.size + 1) 24 (enV (lfAt xs R)).toArray (0, 0) _ rfl ?_ Tryz.underlying24 rfl entry_size) rfl ⟨rfl, HG.out _ _⟩
        exact blk_next9 _ _ _ _ _
      · rw [lfAt_out (by have := hL.len; dsimp only at this; omega)]
        have n2 : ll ≤ R := by omega
        clear h h2 hL hx
        go_enter Tryz.func26, Tryz.ntmps26
        go_wp2
        refine bodyPost_ret (v := .agg (enV enZ).toArray) (results_cell_row rfl _ _ (w.heap.size + 1) 24 (enV enZ).toArray (0, 0) _ rfl ?_ Tryz.underlying24 rfl entry_size) rfl ⟨rfl, HG.out _ _⟩
        exact blk_next9 _ _ _ _ _
    · rw [tbAt_out (by rw [h.tlen]; omega), lfAt_nil]
      clear h h2
      have n1 : len ≤ J := by omega
      go_enter Tryz.func26, Tryz.ntmps26
      go_wp2
      refine bodyPost_ret (v := .agg (enV enZ).toArray) (results_cell_row rfl _ _ (w.heap.size + 1) 24 (enV enZ).toArray (0, 0) _ rfl ?_ Tryz.underlying24 rfl entry_size) rfl ⟨rfl, HG.out _ _⟩
      exact blk_next9 _ _ _ _ _
end Go.Proofs.YtlljcdmblmkblaaGreat
namespace Go.Proofs.YtlljcdmblmkblaaGreat
open Go.RowKit
set_option linter.unusedVariables false

/-- How many sectors of so many bytes count. -/
def wholeN (n : Nat) : Nat := min (n / 16) 65536
theorem sectorsOf15 (w : World) (a : Option Addr) (n c : Nat) (hn : n ≤ 1000000000) {K : Nat} (hK : wholeN n = K) : Calls Tryz.prog 29 #[.slice a n c] w fun e w' => e = .returned (.int .i64 K) ∧ w' = w := by
  have hmin : ∀ w' : World, (Builtin.min_ #[3, 3] 3 #[.int .i64 ((n : Int) / 16), .int .i64 65536]).run Tryz.prog w' = .ok (.int .i64 K) w' := fun w' => by
    have : (K : Int) = if (65536 : Int) < (n : Int) / 16 then 65536 else (n : Int) / 16 := by
      unfold wholeN at hK
      split <;> omega
    rw [this]
    simp [Builtin.min_, Builtin.min2]
  clear hK
  go_enter Tryz.func29, Tryz.ntmps29
  go_wp2
  go_ret
  exact ⟨rfl, rfl⟩
theorem hasSec15 (w : World) (k s n z m : Int) {R : Bool} (hR : decide (k = 2 ∨ k = 3) = R) : Calls Tryz.prog 28 #[.agg #[.int .i64 k, .int .i64 s, .int .i64 n, .int .i64 z, .int .u32 m]] w fun e w' => e = .returned (.bool R) ∧ Below w.heap.size w w' := by
  subst hR
  by_cases h2 : k = 2
  · subst h2
    go_enter Tryz.func28, Tryz.ntmps28
    go_wp2
    go_ret
    exact ⟨rfl, (Below.refl _ _).alloc (Nat.le_refl _) _⟩
  · by_cases h3 : k = 3
    · subst h3
      go_enter Tryz.func28, Tryz.ntmps28
      go_wp2
      go_ret
      exact ⟨rfl, (Below.refl _ _).alloc (Nat.le_refl _) _⟩
    · have e2 : (k == 2) = false := by simp [h2]
      have e3 : (k == 3) = false := by simp [h3]
      have e : decide (k = 2 ∨ k = 3) = false := decide_eq_false (fun h => h.elim h2 h3)
      rw [e]
      clear e
      go_enter Tryz.func28, Tryz.ntmps28
      go_wp2
      go_ret
      exact ⟨rfl, (Below.refl _ _).alloc (Nat.le_refl _) _⟩
set_option maxRecDepth 100000 in
/-- slices.Clone of bytes. -/
theorem bclone15 (w : World) (a : Option Addr) (n c : Nat) (l : List Int) (hB : Bytes w a n l) (hnil : a = none → c = 0) (hn : n ≤ 10000000) :
    Calls Tryz.prog 58 #[.slice a n c] w fun e w' => ∃ a' c', e = .returned (.slice a' n c') ∧ Own w' w.heap.size (.slice a' n c') n l ∧ Below w.heap.size w w' := by
  have HB := Lib.hid hB
  have q22 : ∀ (w : World) (a : Option Addr) (n c n' c' : Nat), (binOp .eql 25 (.slice a n c) (.slice none n' c')).run Tryz.prog w = .ok (.bool a.isNone) w := fun w a n c n' c' => Lib.run_eql_slice_nil w _ _ a n c n' c' Tryz.underlying25
  obtain ⟨N, hN⟩ := named w.heap.size
  rw [hN.out]
  cases a with
  | none =>
    obtain rfl := hnil rfl
    have h0 : n = 0 := by
      rcases hB.2.2 with h | ⟨b, off, e, _⟩
      · exact h
      · cases e
    subst h0
    obtain rfl : l = [] := List.eq_nil_of_length_eq_zero hB.1
    clear hB
    go_enter Tryz.func58, Tryz.ntmps58
    go_wp2
    go_ret
    exact ⟨none, 0, rfl, ⟨⟨by simp, Or.inl ⟨rfl, rfl⟩⟩, by unfold Small; simp⟩, Below.refl _ _⟩
  | some ad =>
    clear hB
    go_enter Tryz.func58, Tryz.ntmps58
    go_wp2_with (at_builtin; refine append_bytes rfl (.tmp 5) (.tmp 6) rfl N (.slice (some ⟨N, 0, none⟩) 0 0) 0 [] (by rw [← hN.out]; rfl) (by rw [← hN.out]; exact Own.made w w.heap.size (Nat.le_refl _)) (some ad) n c l rfl hnil (HB.out.later ((Below.refl _ w).alloc (Nat.le_refl _) _)) (by omega) (by rw [World.size_alloc]; have := hN.out; omega) ?_; intro a' c' w' h1 h2)
    go_wp2
    go_ret
    rw [Nat.zero_add, List.nil_append] at h1
    exact ⟨a', c', rfl, h1, hN.out ▸ (((Below.refl w.heap.size w).alloc (Nat.le_refl _) _).grown h2 (by rw [World.size_alloc]; omega) fun k e => by have := hN.out; have : N = k := (by simpa [Value.ownBlock] using e); omega)⟩
/-- What the sectors of an entry hold. -/
def storedE (x : En) (l : List Int) : List Int := (l.drop (x.2.1.toNat * 16)).take (x.2.2.1.toNat * 16)
def contE (x : En) (l : List Int) (n : Int) : List Int := if x.1 = 2 then storedE x l else (unpackOf ((storedE x l).take x.2.2.2.1.toNat) n).1
/-- The bytes of an entry's cluster, or why there are none (15.1). -/
def bytesE (x : En) (l : List Int) (c : Int) : List Int × Int :=
  if ¬ MayE x c then ([], 1)
  else if ¬ (x.1 = 2 ∨ x.1 = 3) then (noughts (16 * 2 ^ c.toNat), 0)
  else if (wholeN l.length : Int) < x.2.1 + x.2.2.1 then ([], 6)
  else if (contE x l (16 * 2 ^ c.toNat : Nat)).length ≠ 16 * 2 ^ c.toNat ∨ (moreOf 0 (contE x l (16 * 2 ^ c.toNat : Nat)) : Int) ≠ x.2.2.2.2 then ([], 13)
  else (contE x l (16 * 2 ^ c.toNat : Nat), 0)
end Go.Proofs.YtlljcdmblmkblaaGreat
namespace Go.Proofs.YtlljcdmblmkblaaGreat
open Go.RowKit
set_option linter.unusedVariables false

/-- 's[i:k]' of a slice of bytes, its room too. -/
theorem slice_mid15 {w : World} {a : Option Addr} {len cap : Nat} {l : List Int} (h : Bytes w a len l) (hcap : len ≤ cap) (hnil : a = none → cap = 0) (i k : Nat) (hi : i ≤ k) (hk : k ≤ len) :
    ∃ (a' : Option Addr) (c' : Nat), (∀ w' : World, (Instr.slice 25 (.slice a len cap) (some (.int .i64 i)) (some (.int .i64 k)) none).run Tryz.prog w' = .ok (.slice a' (k - i) c') w') ∧ Bytes w a' (k - i) ((l.drop i).take (k - i)) ∧ (a' = none → c' = 0) ∧ k - i ≤ c' := by
  obtain ⟨i0, hi0, _, hz1, _⟩ := info_parts info5
  obtain ⟨h1, h2, h3⟩ := h
  have hsm : Small ((l.drop i).take (k - i)) := ⟨by rw [List.length_take, List.length_drop]; have := h2.1; omega, fun c hc => h2.2 c (List.mem_of_mem_drop (List.mem_of_mem_take hc))⟩
  have hln : ((l.drop i).take (k - i)).length = k - i := by rw [List.length_take, List.length_drop]; omega
  have b1 : k ≤ cap := by omega
  refine ⟨if cap = i then a else a.map (·.add (i * 1)), cap - i, fun w' => ?_, ⟨hln, hsm, ?_⟩, ?_, by omega⟩
  · simp [Instr.slice, Instr.sliceBounds, Instr.sliceBound, asIntOf, run_underlying Tryz.underlying25, sizeOf, typeInfo, hi0, hz1, b1, hi, go_sem]
  · by_cases hz : k - i = 0
    · exact Or.inl hz
    · obtain ⟨b, off, rfl, hlt, hc⟩ := h3.resolve_left (by omega)
      refine Or.inr ⟨b, off + i, ?_, hlt, fun j hj => ?_⟩
      · rw [if_neg (by omega)]
        simp [Addr.add]
      · rw [hln] at hj
        have := hc (i + j) (by omega)
        rw [Nat.add_assoc, this, List.getD_eq_getElem?_getD, List.getD_eq_getElem?_getD, List.getElem?_take, if_pos (by omega), List.getElem?_drop]
  · intro e
    by_cases hz : cap = i
    · omega
    · rw [if_neg hz] at e
      have : a = none := by cases a <;> simp_all
      have := hnil this
      omega
theorem below_dnC (w : World) : ∀ n : Nat, Below w.heap.size w (w.drewN n)
  | 0 => Below.refl _ _
  | n + 1 => (below_dnC w n).drew
/-- Bytes handed back alone. -/
def RetB (L : List Int) (w0 : World) (e : Ending) (w : World) : Prop := ∃ (a : Option Addr) (c : Nat), e = .returned (.slice a L.length c) ∧ Bytes w a L.length L ∧ ((a = none → c = 0) ∧ L.length ≤ c) ∧ Below w0.heap.size w0 w
theorem RetB.sized {L : List Int} {w0 w : World} {e : Ending} (h : RetB L w0 e w) {n : Nat} (hn : L.length = n) : ∃ (a : Option Addr) (c : Nat), e = .returned (.slice a n c) ∧ Bytes w a n L ∧ ((a = none → c = 0) ∧ n ≤ c) ∧ Below w0.heap.size w0 w := by
  subst hn
  exact h
set_option maxRecDepth 100000 in
set_option maxHeartbeats 1600000 in
theorem contentsOf15 (w : World) (a : Option Addr) (n c : Nat) (l : List Int) (hB : Bytes w a n l) (hc : n ≤ c) (hnil : a = none → c = 0) {k z m S : Int} {p q : Nat} (hk : k = 2 ∨ k = 3) (hq : q ≤ 64) (hfit : (p + q) * 16 ≤ n) (hp : p + q ≤ 65536) (hz : k = 3 → 0 ≤ z ∧ z ≤ q * 16) :
    Calls Tryz.prog 30 #[.agg #[.int .i64 k, .int .i64 p, .int .i64 q, .int .i64 z, .int .u32 m], .slice a n c, .int .i64 S] w (RetB (contE (k, p, q, z, m) l S) w) := by
  obtain ⟨K1, hK1⟩ := named (p * 16)
  obtain ⟨K2, hK2⟩ := named ((p + q) * 16)
  have hw1 : (p : Int) * 16 = (K1 : Int) := by rw [← hK1.out]; omega
  have hw2 : ((p : Int) + (q : Int)) * 16 = (K2 : Int) := by rw [← hK2.out]; omega
  have h12 : K1 ≤ K2 := by rw [← hK1.out, ← hK2.out]; omega
  have h2n : K2 ≤ n := by rw [← hK2.out]; exact hfit
  obtain ⟨a2, c2, hsl, hB2, hn2, hc2⟩ := slice_mid15 hB hc hnil K1 K2 h12 h2n
  have hLE : K2 - K1 = q * 16 := by rw [← hK1.out, ← hK2.out]; omega
  have hst : (l.drop K1).take (K2 - K1) = storedE (k, (p : Int), (q : Int), z, m) l := by
    rw [hLE, ← hK1.out]
    rfl
  rw [hst] at hB2
  obtain ⟨L, hL⟩ := named (K2 - K1)
  rw [hL.out] at hsl hB2 hc2 hLE
  have hL1 : L ≤ 1024 := by omega
  have hzL : k = 3 → 0 ≤ z ∧ z ≤ L := fun e => by have := hz e; omega
  clear hLE hz
  have HB2 := Lib.hid hB2
  have HB0 := Lib.hid ((Below.refl w.heap.size w).alloc (Nat.le_refl _) (.cells #[.int .i64 k, .int .i64 p, .int .i64 q, .int .i64 z, .int .u32 m] 24))
  rcases hk with rfl | rfl
  · have HC := Lib.hid (fun W (hb : Below w.heap.size w W) => bclone15 W a2 L c2 _ (hB2.later hb) hn2 (by omega))
    have hE : contE (2, (p : Int), (q : Int), z, m) l S = storedE (2, (p : Int), (q : Int), z, m) l := by unfold contE; rw [if_pos rfl]
    rw [hE]
    clear hB hB2 hn2 hst hE
    go_enter Tryz.func30, Tryz.ntmps30
    go_wp2_with (first
      | (go_at_call 58; (with_reducible refine (HC.out _ HB0.out).mono ?_); rintro e w1 ⟨a3, c3, rfl, hO, hb⟩; have HO := Lib.hid hO; have HB1 := Lib.hid (HB0.out.trans (hb.mono HB0.out.size)); clear hO hb))
    go_ret
    have hlen : (storedE (2, (p : Int), (q : Int), z, m) l).length = L := HB2.out.1
    exact ⟨a3, c3, by rw [hlen]; rfl, by rw [hlen]; exact HO.out.bytes.1, by rw [hlen]; exact ⟨HO.out.bytes.2, HO.out.capOk⟩, HB1.out⟩
  · obtain ⟨Z, rfl⟩ : ∃ Z : Nat, z = Z := ⟨z.toNat, by have := hzL rfl; omega⟩
    have hZL : Z ≤ L := by have := hzL rfl; omega
    obtain ⟨a4, hfr, hB4, hn4⟩ := slice_front hB2 hc2 hn2 Z hZL
    have hE : contE (3, (p : Int), (q : Int), (Z : Int), m) l S = (unpackOf ((storedE (3, (p : Int), (q : Int), (Z : Int), m) l).take Z) S).1 := by unfold contE; rw [if_neg (by show ¬ (3 : Int) = 2; decide)]; rfl
    have HC := Lib.hid (fun W (hb : Below w.heap.size w W) => lzUnpack_any a4 Z c2 S _ W (hB4.later hb) (Nat.le_trans hZL hc2) hn4 (by omega))
    rw [hE]
    obtain ⟨U, hU⟩ := named (unpackOf ((storedE (3, (p : Int), (q : Int), (Z : Int), m) l).take Z) S)
    rw [hU.out] at HC ⊢
    obtain ⟨UN, hUN⟩ := named U.1.length
    have HUN := Lib.hid hUN.out
    clear hB hB2 hn2 hst hE hB4 hn4 hU hzL
    go_enter Tryz.func30, Tryz.ntmps30
    go_wp2_with (first
      | (go_at_call 59; (with_reducible refine (HC.out _ HB0.out).mono ?_); rintro e w1 hp; obtain ⟨a3, c3, rfl, hO, hcp, hb⟩ := hp.sized HUN.out; have HO := Lib.hid hO; have HCP := Lib.hid hcp; have HB1 := Lib.hid (HB0.out.trans (hb.mono HB0.out.size)); clear hp hO hcp hb))
    go_ret
    exact ⟨a3, c3, by rw [HUN.out]; rfl, by rw [HUN.out]; exact HO.out, by rw [HUN.out]; exact HCP.out, HB1.out⟩
set_option maxRecDepth 100000 in
set_option maxHeartbeats 3200000 in
theorem checkBytes (w : World) (a : Option Addr) (n c : Nat) (l : List Int) (hB : Bytes w a n l) (hc : n ≤ c) (hnil : a = none → c = 0) (hn : n ≤ 1000000000) {k s q z m cl : Int} (ho : EnOk (k, s, q, z, m)) :
    Calls Tryz.prog 11 #[.agg #[.int .i64 k, .int .i64 s, .int .i64 q, .int .i64 z, .int .u32 m], .slice a n c, .int .i64 cl] w (PutPost w (bytesE (k, s, q, z, m) l cl).1 (bytesE (k, s, q, z, m) l cl).2) := by
  have HM := Lib.hid (fun W => entryMay_any k s q z m cl ho W)
  have HB0 := Lib.hid ((Below.refl w.heap.size w).alloc (Nat.le_refl _) (.cells #[.int .i64 k, .int .i64 s, .int .i64 q, .int .i64 z, .int .u32 m] 24))
  have HE0 := Lib.hid (Blk.new w 24 #[.int .i64 k, .int .i64 s, .int .i64 q, .int .i64 z, .int .u32 m])
  by_cases hm : MayE (k, s, q, z, m) cl
  · rw [decide_eq_true hm] at HM
    obtain ⟨⟨hc0, hc6⟩, hm3⟩ := id hm
    obtain ⟨C, rfl⟩ : ∃ C : Nat, cl = C := ⟨cl.toNat, by omega⟩
    obtain ⟨N, hN⟩ := named (16 * 2 ^ C)
    have hpw : 1 ≤ 2 ^ C ∧ 2 ^ C ≤ 64 := ⟨Nat.one_le_two_pow, by
      have : (2 : Nat) ^ 6 = 64 := by decide
      rw [← this]
      exact Nat.pow_le_pow_right (by decide) (by omega)⟩
    have hN1 : N ≤ 1024 := by rw [← hN.out]; omega
    have hS : wrap64 (16 * 2 ^ C) = (N : Int) := by
      have e : (16 : Int) * 2 ^ C = (N : Int) := by rw [← hN.out, Int.natCast_mul, Int.natCast_pow]; rfl
      rw [e]
      unfold wrap64
      omega
    by_cases h23 : k = 2 ∨ k = 3
    · have HH := Lib.hid (fun W => hasSec15 W k s q z m (decide_eq_true h23))
      obtain ⟨K, hK⟩ := named (wholeN n)
      have HS := Lib.hid (fun W => sectorsOf15 W a n c hn hK.out)
      have hs2 : 2 ≤ s ∧ 1 ≤ q ∧ q ≤ 64 ∧ s ≤ 65536 - q ∧ (k = 3 → 0 ≤ z ∧ z ≤ q * 16) := by
        rw [Int.toNat_natCast] at hm3
        have hp2 : (2 : Int) ^ C = ((2 ^ C : Nat) : Int) := by rw [Int.natCast_pow]; rfl
        rw [hp2] at hm3
        dsimp only at hm3
        rcases hm3 with h | h | h <;> omega
      obtain ⟨P, rfl⟩ : ∃ P : Nat, s = P := ⟨s.toNat, by omega⟩
      obtain ⟨Q, rfl⟩ : ∃ Q : Nat, q = Q := ⟨q.toNat, by omega⟩
      have hll := hB.1
      have hKw : K ≤ 65536 ∧ K * 16 ≤ n := by rw [← hK.out]; unfold wholeN; omega
      have hPw : IntKind.i64.wrap ((P : Int) + (Q : Int)) = (P : Int) + (Q : Int) := IntWalk.i64_in _ (by omega)
      by_cases hr : (K : Int) < (P : Int) + (Q : Int)
      · have hbe : bytesE (k, P, Q, z, m) l C = ([], 6) := by
          unfold bytesE
          rw [if_neg (fun h => h hm), if_neg (fun h => h h23), if_pos (by rw [hll, hK.out]; exact hr)]
        rw [hbe]
        clear hB ho hbe hm3 hm h23 hs2 hll
        go_enter Tryz.func11, Tryz.ntmps11
        go_wp2_with (first
          | (go_at_call 27; (with_reducible refine (HM.out _).mono ?_); rintro e w1 ⟨rfl, hb⟩; have HB1 := Lib.hid (HB0.out.trans (hb.mono HB0.out.size)); have HE1 := Lib.hid (HE0.out.later hb); obtain ⟨e0, e1, e2, e3, e4⟩ := cells5 HE1.out; clear hb)
          | (go_at_call 28; (with_reducible refine (HH.out _).mono ?_); rintro e w2 ⟨rfl, hb⟩; have HB2 := Lib.hid (HB1.out.trans (hb.mono HB1.out.size)); have HE2 := Lib.hid (HE1.out.later hb); clear e0 e1 e2 e3 e4; obtain ⟨e0, e1, e2, e3, e4⟩ := cells5 HE2.out; clear hb))
        have HR0 := Lib.hid (Below.refl w2.heap.size w2)
        have HRD := Lib.hid (Below.refl w2.heap.size w2).drew
        have HKS : Hid (∀ W, Below w2.heap.size w2 W → W.cell? ⟨w.heap.size, 1, none⟩ = some (.int .i64 P) ∧ W.cell? ⟨w.heap.size, 2, none⟩ = some (.int .i64 Q)) := fun W hb => by
          obtain ⟨d0, d1, d2, d3, d4⟩ := cells5 (HE2.out.later hb)
          exact ⟨d1, d2⟩
        go_region_held3 (fun W => W.cell? ⟨w.heap.size, 1, none⟩ = some (.int .i64 P) ∧ W.cell? ⟨w.heap.size, 2, none⟩ = some (.int .i64 Q)) (first | with_reducible exact HKS.out _ HR0.out | with_reducible exact HKS.out _ HRD.out) (first | (go_at_call 29; (with_reducible refine (HS.out _).mono ?_); rintro e w3 ⟨rfl, hw⟩; obtain rfl := hw.symm))
        have HB3 := Lib.hid (HB2.out.trans (HRD.out.mono HB2.out.size))
        have HE3 := Lib.hid (HE2.out.later HRD.out)
        clear e0 e1 e2 e3 e4
        obtain ⟨e0, e1, e2, e3, e4⟩ := cells5 HE3.out
        go_wp2
        go_ret2
        exact ⟨none, 0, rfl, none_bytes _, ⟨fun _ => rfl, Nat.le_refl _⟩, HB3.out⟩
      · have HC := Lib.hid (fun W (hb : Below w.heap.size w W) => contentsOf15 W a n c l (hB.later hb) hc hnil (k := k) (z := z) (m := m) (S := (N : Int)) (p := P) (q := Q) h23 (by omega) (by omega) (by omega) hs2.2.2.2.2)
        have hbe : bytesE (k, P, Q, z, m) l C = if (contE (k, P, Q, z, m) l (N : Int)).length ≠ N ∨ (moreOf 0 (contE (k, P, Q, z, m) l (N : Int)) : Int) ≠ m then ([], 13) else (contE (k, P, Q, z, m) l (N : Int), 0) := by
          unfold bytesE
          rw [if_neg (fun h => h hm), if_neg (fun h => h h23), if_neg (by rw [hll, hK.out]; exact hr), Int.toNat_natCast, hN.out]
        rw [hbe]
        obtain ⟨U, hU⟩ := named (contE (k, P, Q, z, m) l (N : Int))
        rw [hU.out] at HC ⊢
        obtain ⟨UN, hUN⟩ := named U.length
        have HUN := Lib.hid hUN.out
        clear hB ho hbe hm3 hm h23 hs2 hll hU
        have HSU := Lib.hid (fun (W : World) (a2 : Option Addr) (c2 : Nat) (h : Bytes W a2 UN U) => sum_any a2 UN c2 U W h)
        obtain ⟨V, hV⟩ := named (moreOf 0 U)
        rw [hV.out] at HSU ⊢
        by_cases hl : UN = N
        · rw [hl] at HSU
          by_cases hm2 : (V : Int) = m
          · rw [if_neg (by rw [HUN.out]; exact fun h => h.elim (fun h => h hl) (fun h => h hm2))]
            have hne1 : ((N : Int) != (N : Int)) = false := by simp
            have hne2 : ((V : Int) != m) = false := by rw [hm2]; simp
            subst hl
            clear hm2
            go_enter Tryz.func11, Tryz.ntmps11
            go_wp2_with (first
              | (go_at_call 27; (with_reducible refine (HM.out _).mono ?_); rintro e w1 ⟨rfl, hb⟩; have HB1 := Lib.hid (HB0.out.trans (hb.mono HB0.out.size)); have HE1 := Lib.hid (HE0.out.later hb); obtain ⟨e0, e1, e2, e3, e4⟩ := cells5 HE1.out; clear hb)
              | (go_at_call 28; (with_reducible refine (HH.out _).mono ?_); rintro e w2 ⟨rfl, hb⟩; have HB2 := Lib.hid (HB1.out.trans (hb.mono HB1.out.size)); have HE2 := Lib.hid (HE1.out.later hb); clear e0 e1 e2 e3 e4; obtain ⟨e0, e1, e2, e3, e4⟩ := cells5 HE2.out; clear hb))
            have HR0 := Lib.hid (Below.refl w2.heap.size w2)
            have HRD := Lib.hid (Below.refl w2.heap.size w2).drew
            have HKS : Hid (∀ W, Below w2.heap.size w2 W → W.cell? ⟨w.heap.size, 1, none⟩ = some (.int .i64 P) ∧ W.cell? ⟨w.heap.size, 2, none⟩ = some (.int .i64 Q)) := fun W hb => by
              obtain ⟨d0, d1, d2, d3, d4⟩ := cells5 (HE2.out.later hb)
              exact ⟨d1, d2⟩
            go_region_held3 (fun W => W.cell? ⟨w.heap.size, 1, none⟩ = some (.int .i64 P) ∧ W.cell? ⟨w.heap.size, 2, none⟩ = some (.int .i64 Q)) (first | with_reducible exact HKS.out _ HR0.out | with_reducible exact HKS.out _ HRD.out) (first | (go_at_call 29; (with_reducible refine (HS.out _).mono ?_); rintro e w3 ⟨rfl, hw⟩; obtain rfl := hw.symm))
            have HB3 := Lib.hid (HB2.out.trans (HRD.out.mono HB2.out.size))
            have HE3 := Lib.hid (HE2.out.later HRD.out)
            clear e0 e1 e2 e3 e4
            obtain ⟨e0, e1, e2, e3, e4⟩ := cells5 HE3.out
            go_wp2_with (first
              | (go_at_call 30; (with_reducible refine (HC.out _ HB3.out).mono ?_); rintro e w4 hp; obtain ⟨a4, c4, rfl, hO, hcp, hb⟩ := hp.sized HUN.out; have HO := Lib.hid hO; have HCP := Lib.hid hcp; have HB4 := Lib.hid (HB3.out.trans (hb.mono HB3.out.size)); have HE4 := Lib.hid (HE3.out.later hb); clear e0 e1 e2 e3 e4; obtain ⟨e0, e1, e2, e3, e4⟩ := cells5 HE4.out; clear hp hO hcp hb))
            have HR4 := Lib.hid (Below.refl w4.heap.size w4)
            have HR4D := Lib.hid (Below.refl w4.heap.size w4).drew
            have HKT : Hid (∀ W, Below w4.heap.size w4 W → W.cell? ⟨w.heap.size, 4, none⟩ = some (.int .u32 m)) := fun W hb => (cells5 (HE4.out.later hb)).2.2.2.2
            go_region_held3 (fun W => W.cell? ⟨w.heap.size, 4, none⟩ = some (.int .u32 m)) (first | with_reducible exact HKT.out _ HR4.out | with_reducible exact HKT.out _ HR4D.out | with_reducible exact HKT.out _ HP5.out) (first | (go_at_call 31; (with_reducible refine (HSU.out _ _ _ (HO.out.later HR4D.out)).mono ?_); rintro e w5 ⟨rfl, hb⟩; have HP5 := Lib.hid (HR4D.out.trans (hb.mono HR4D.out.size)); clear hb))
            go_wp2
            go_ret2
            exact ⟨a4, c4, by rw [HUN.out]; rfl, by rw [HUN.out]; exact HO.out.later HP5.out, by rw [HUN.out]; exact HCP.out, HB4.out.trans (HP5.out.mono HB4.out.size)⟩
          · rw [if_pos (Or.inr hm2)]
            have hne2 : ((V : Int) != m) = true := by simp [hm2]
            subst hl
            clear hm2
            go_enter Tryz.func11, Tryz.ntmps11
            go_wp2_with (first
              | (go_at_call 27; (with_reducible refine (HM.out _).mono ?_); rintro e w1 ⟨rfl, hb⟩; have HB1 := Lib.hid (HB0.out.trans (hb.mono HB0.out.size)); have HE1 := Lib.hid (HE0.out.later hb); obtain ⟨e0, e1, e2, e3, e4⟩ := cells5 HE1.out; clear hb)
              | (go_at_call 28; (with_reducible refine (HH.out _).mono ?_); rintro e w2 ⟨rfl, hb⟩; have HB2 := Lib.hid (HB1.out.trans (hb.mono HB1.out.size)); have HE2 := Lib.hid (HE1.out.later hb); clear e0 e1 e2 e3 e4; obtain ⟨e0, e1, e2, e3, e4⟩ := cells5 HE2.out; clear hb))
            have HR0 := Lib.hid (Below.refl w2.heap.size w2)
            have HRD := Lib.hid (Below.refl w2.heap.size w2).drew
            have HKS : Hid (∀ W, Below w2.heap.size w2 W → W.cell? ⟨w.heap.size, 1, none⟩ = some (.int .i64 P) ∧ W.cell? ⟨w.heap.size, 2, none⟩ = some (.int .i64 Q)) := fun W hb => by
              obtain ⟨d0, d1, d2, d3, d4⟩ := cells5 (HE2.out.later hb)
              exact ⟨d1, d2⟩
            go_region_held3 (fun W => W.cell? ⟨w.heap.size, 1, none⟩ = some (.int .i64 P) ∧ W.cell? ⟨w.heap.size, 2, none⟩ = some (.int .i64 Q)) (first | with_reducible exact HKS.out _ HR0.out | with_reducible exact HKS.out _ HRD.out) (first | (go_at_call 29; (with_reducible refine (HS.out _).mono ?_); rintro e w3 ⟨rfl, hw⟩; obtain rfl := hw.symm))
            have HB3 := Lib.hid (HB2.out.trans (HRD.out.mono HB2.out.size))
            have HE3 := Lib.hid (HE2.out.later HRD.out)
            clear e0 e1 e2 e3 e4
            obtain ⟨e0, e1, e2, e3, e4⟩ := cells5 HE3.out
            go_wp2_with (first
              | (go_at_call 30; (with_reducible refine (HC.out _ HB3.out).mono ?_); rintro e w4 hp; obtain ⟨a4, c4, rfl, hO, hcp, hb⟩ := hp.sized HUN.out; have HO := Lib.hid hO; have HCP := Lib.hid hcp; have HB4 := Lib.hid (HB3.out.trans (hb.mono HB3.out.size)); have HE4 := Lib.hid (HE3.out.later hb); clear e0 e1 e2 e3 e4; obtain ⟨e0, e1, e2, e3, e4⟩ := cells5 HE4.out; clear hp hO hcp hb))
            have HR4 := Lib.hid (Below.refl w4.heap.size w4)
            have HR4D := Lib.hid (Below.refl w4.heap.size w4).drew
            have HKT : Hid (∀ W, Below w4.heap.size w4 W → W.cell? ⟨w.heap.size, 4, none⟩ = some (.int .u32 m)) := fun W hb => (cells5 (HE4.out.later hb)).2.2.2.2
            go_region_held3 (fun W => W.cell? ⟨w.heap.size, 4, none⟩ = some (.int .u32 m)) (first | with_reducible exact HKT.out _ HR4.out | with_reducible exact HKT.out _ HR4D.out | with_reducible exact HKT.out _ HP5.out) (first | (go_at_call 31; (with_reducible refine (HSU.out _ _ _ (HO.out.later HR4D.out)).mono ?_); rintro e w5 ⟨rfl, hb⟩; have HP5 := Lib.hid (HR4D.out.trans (hb.mono HR4D.out.size)); clear hb))
            go_wp2
            go_ret2
            exact ⟨none, 0, rfl, none_bytes _, ⟨fun _ => rfl, Nat.le_refl _⟩, HB4.out.trans (HP5.out.mono HB4.out.size)⟩
        · rw [if_pos (Or.inl (by rw [HUN.out]; exact hl))]
          have hne1 : ((UN : Int) != (N : Int)) = true := by simp; omega
          go_enter Tryz.func11, Tryz.ntmps11
          go_wp2_with (first
            | (go_at_call 27; (with_reducible refine (HM.out _).mono ?_); rintro e w1 ⟨rfl, hb⟩; have HB1 := Lib.hid (HB0.out.trans (hb.mono HB0.out.size)); have HE1 := Lib.hid (HE0.out.later hb); obtain ⟨e0, e1, e2, e3, e4⟩ := cells5 HE1.out; clear hb)
            | (go_at_call 28; (with_reducible refine (HH.out _).mono ?_); rintro e w2 ⟨rfl, hb⟩; have HB2 := Lib.hid (HB1.out.trans (hb.mono HB1.out.size)); have HE2 := Lib.hid (HE1.out.later hb); clear e0 e1 e2 e3 e4; obtain ⟨e0, e1, e2, e3, e4⟩ := cells5 HE2.out; clear hb))
          have HR0 := Lib.hid (Below.refl w2.heap.size w2)
          have HRD := Lib.hid (Below.refl w2.heap.size w2).drew
          have HKS : Hid (∀ W, Below w2.heap.size w2 W → W.cell? ⟨w.heap.size, 1, none⟩ = some (.int .i64 P) ∧ W.cell? ⟨w.heap.size, 2, none⟩ = some (.int .i64 Q)) := fun W hb => by
            obtain ⟨d0, d1, d2, d3, d4⟩ := cells5 (HE2.out.later hb)
            exact ⟨d1, d2⟩
          go_region_held3 (fun W => W.cell? ⟨w.heap.size, 1, none⟩ = some (.int .i64 P) ∧ W.cell? ⟨w.heap.size, 2, none⟩ = some (.int .i64 Q)) (first | with_reducible exact HKS.out _ HR0.out | with_reducible exact HKS.out _ HRD.out) (first | (go_at_call 29; (with_reducible refine (HS.out _).mono ?_); rintro e w3 ⟨rfl, hw⟩; obtain rfl := hw.symm))
          have HB3 := Lib.hid (HB2.out.trans (HRD.out.mono HB2.out.size))
          have HE3 := Lib.hid (HE2.out.later HRD.out)
          clear e0 e1 e2 e3 e4
          obtain ⟨e0, e1, e2, e3, e4⟩ := cells5 HE3.out
          go_wp2_with (first
            | (go_at_call 30; (with_reducible refine (HC.out _ HB3.out).mono ?_); rintro e w4 hp; obtain ⟨a4, c4, rfl, hO, hcp, hb⟩ := hp.sized HUN.out; have HO := Lib.hid hO; have HCP := Lib.hid hcp; have HB4 := Lib.hid (HB3.out.trans (hb.mono HB3.out.size)); have HE4 := Lib.hid (HE3.out.later hb); clear e0 e1 e2 e3 e4; obtain ⟨e0, e1, e2, e3, e4⟩ := cells5 HE4.out; clear hp hO hcp hb))
          go_quiet (fail)
          go_wp2
          go_ret2
          exact ⟨none, 0, rfl, none_bytes _, ⟨fun _ => rfl, Nat.le_refl _⟩, HB4.out.trans ((below_dnC _ _).mono HB4.out.size)⟩
    · have hbe : bytesE (k, s, q, z, m) l C = (noughts N, 0) := by
        unfold bytesE
        rw [if_neg (fun h => h hm), if_pos h23, Int.toNat_natCast, hN.out]
      rw [hbe]
      have HH := Lib.hid (fun W => hasSec15 W k s q z m (decide_eq_false h23))
      clear hB ho hbe hm3 hm h23
      go_enter Tryz.func11, Tryz.ntmps11
      go_wp2_with (first
        | (go_at_call 27; (with_reducible refine (HM.out _).mono ?_); rintro e w1 ⟨rfl, hb⟩; have HB1 := Lib.hid (HB0.out.trans (hb.mono HB0.out.size)); have HE1 := Lib.hid (HE0.out.later hb); obtain ⟨e0, e1, e2, e3, e4⟩ := cells5 HE1.out; clear hb)
        | (go_at_call 28; (with_reducible refine (HH.out _).mono ?_); rintro e w2 ⟨rfl, hb⟩; have HB2 := Lib.hid (HB1.out.trans (hb.mono HB1.out.size)); clear hb)
        | (at_make; refine make_bytes rfl (.tmp 19) (.tmp 19) rfl w.heap.size N (by first | rfl | (rw [hS]; rfl)) (by first | rfl | (rw [hS]; rfl)) (by omega) HB2.out.size ?_; intro w3 h1 h2; have HO := Lib.hid h1; have HB3 := Lib.hid (HB2.out.trans (h2.mono HB2.out.size)); clear h1 h2))
      go_ret2
      exact PutPost.own 0 HO.out HB3.out
  · have hbe : bytesE (k, s, q, z, m) l cl = ([], 1) := by unfold bytesE; rw [if_pos hm]
    rw [hbe]
    rw [decide_eq_false hm] at HM
    clear hB ho hbe hm
    go_enter Tryz.func11, Tryz.ntmps11
    go_wp2_with (first
      | (go_at_call 27; (with_reducible refine (HM.out _).mono ?_); rintro e w1 ⟨rfl, hb⟩; have HB1 := Lib.hid (HB0.out.trans (hb.mono HB0.out.size)); clear hb))
    go_ret2
    exact ⟨none, 0, rfl, none_bytes _, ⟨fun _ => rfl, Nat.le_refl _⟩, HB1.out⟩
end Go.Proofs.YtlljcdmblmkblaaGreat
namespace Go.Proofs.YtlljcdmblmkblaaGreat
open Go.RowKit
set_option linter.unusedVariables false

/-- A fault: kind, place, shot. -/
abbrev Flt := Int × Int × Int
def flV (d : Flt) : List Value := [.int .i64 d.1, .int .i64 d.2.1, .int .i64 d.2.2]
theorem fl_rowed : Rowed Tryz.prog 50 53 3 24 flV where
  under := Tryz.underlying50
  info := by
    have h : (Tryz.prog.info? 53).map (fun i => (i.zero.map (fun z => z.cells.size), i.size, i.bytes)) = some (some 3, 3, 24) := by kernel_rfl
    obtain ⟨i, hi, he⟩ := Option.map_eq_some_iff.1 h
    simp only [Prod.mk.injEq] at he
    obtain ⟨z, hz, hzs⟩ := Option.map_eq_some_iff.1 he.1
    exact ⟨i, z, hi, hz, he.2.1, he.2.2, hzs⟩
  pos := by decide
  small := by decide
  len := fun _ => rfl
  one := fun d u hu => by
    simp only [flV, List.mem_cons, List.not_mem_nil, or_false] at hu
    rcases hu with rfl | rfl | rfl <;> rfl
def valF (f : Nat → Int) (n i : Nat) : Int := if i < n then f i else 0
def cfAt (x y : Int) (i : Nat) : List Flt := if x < y then [(2, (i : Int), 0)] else if y < x then [(3, (i : Int), 0)] else []
def cfL (f : Nat → Int) (n : Nat) (g : Nat → Int) (m : Nat) : Nat → List Flt
  | 0 => []
  | k + 1 => cfL f n g m k ++ cfAt (valF f n k) (valF g m k) k
theorem countAt15 (w : World) (a : Option Addr) (n c : Nat) (f : Nat → Int) (h : IntsR w a n f) (i : Nat) {v : Int} (hv : valF f n i = v) : Calls Tryz.prog 76 #[.slice a n c, .int .i64 i] w fun e w' => e = .returned (.int .i64 v) ∧ w' = w := by
  subst hv
  unfold valF
  by_cases hi : i < n
  · rw [if_pos hi]
    obtain ⟨b, off, rfl, hb, hc⟩ := h.2 (by omega)
    have hci := hc i hi
    have h1 : ¬ (n : Int) ≤ (i : Int) := by omega
    have h0 : (0 : Int) ≤ (i : Int) := by omega
    have h2 : (i : Int) < (n : Int) := by omega
    clear h hc
    obtain ⟨x, hx⟩ := named (f i)
    rw [hx.out] at hci ⊢
    go_enter Tryz.func76, Tryz.ntmps76
    go_wp2
    go_ret
    exact ⟨rfl, rfl⟩
  · rw [if_neg hi]
    have h1 : (n : Int) ≤ (i : Int) := by omega
    clear h
    go_enter Tryz.func76, Tryz.ntmps76
    go_wp2
    go_ret
    exact ⟨rfl, rfl⟩
def cmp15 (m n : Int) : Int := if m < n then -1 else if n < m then 1 else 0
theorem compare15 (m n : Int) (w : World) : Calls Tryz.prog 75 #[.int .i64 m, .int .i64 n] w fun e w' => e = .returned (.int .i64 (cmp15 m n)) ∧ w' = w := by
  unfold cmp15
  have hnan : ∀ (x : Int) (w : World), Calls Tryz.prog 96 #[.int .i64 x] w fun e w' => e = .returned (.bool false) ∧ w' = w := fun x w => by
    go_enter Tryz.func96, Tryz.ntmps96
    go_wp2
    go_ret
    exact ⟨rfl, rfl⟩
  have HN := Lib.hid hnan
  clear hnan
  rcases Int.lt_trichotomy m n with h | h | h
  · rw [if_pos h]
    go_enter Tryz.func75, Tryz.ntmps75
    go_wp2_with (go_at_call 96; (with_reducible refine (HN.out _ _).mono ?_); rintro e w' ⟨rfl, hw⟩; obtain rfl := hw.symm)
    go_ret
    exact ⟨rfl, rfl⟩
  · subst h
    rw [if_neg (by omega), if_neg (by omega)]
    go_enter Tryz.func75, Tryz.ntmps75
    go_wp2_with (go_at_call 96; (with_reducible refine (HN.out _ _).mono ?_); rintro e w' ⟨rfl, hw⟩; obtain rfl := hw.symm)
    go_ret
    exact ⟨rfl, rfl⟩
  · rw [if_neg (by omega), if_pos h]
    have h2 : ¬ m < n := by omega
    go_enter Tryz.func75, Tryz.ntmps75
    go_wp2_with (go_at_call 96; (with_reducible refine (HN.out _ _).mono ?_); rintro e w' ⟨rfl, hw⟩; obtain rfl := hw.symm)
    go_ret
    exact ⟨rfl, rfl⟩
set_option maxRecDepth 100000 in
set_option maxHeartbeats 1600000 in
theorem countFaults15 (w : World) (a b : Option Addr) (n m ca cb : Nat) (f g : Nat → Int) (hf : IntsR w a n f) (hg : IntsR w b m g) (hn : n ≤ 100000) (hm : m ≤ 100000) :
    Calls Tryz.prog 51 #[.slice a n ca, .slice b m cb] w fun e w' => ∃ (o : Option Addr) (N c : Nat), e = .returned (.slice o N c) ∧ OwnG flV 53 3 w' w.heap.size (.slice o N c) N (cfL f n g m (max n m)) ∧ Below w.heap.size w w' := by
  obtain ⟨K, hK⟩ := named (max n m)
  have hmax : ∀ w' : World, (Builtin.max_ #[3, 3] 3 #[.int .i64 n, .int .i64 m]).run Tryz.prog w' = .ok (.int .i64 K) w' := fun w' => by
    have : (K : Int) = if (n : Int) < (m : Int) then (m : Int) else (n : Int) := by
      have := hK.out
      split <;> omega
    rw [this]
    simp [Builtin.max_, Builtin.max2]
  have hK1 : K ≤ 100000 := by rw [← hK.out]; omega
  rw [hK.out]
  have HF := Lib.hid (fun W (hb : Below w.heap.size w W) (i : Nat) (v : Int) (hv : valF f n i = v) => countAt15 W a n ca f (hf.later hb) i hv)
  have HG := Lib.hid (fun W (hb : Below w.heap.size w W) (i : Nat) (v : Int) (hv : valF g m i = v) => countAt15 W b m cb g (hg.later hb) i hv)
  have HCM := Lib.hid (fun (x y : Int) W => compare15 x y W)
  obtain ⟨Q, hQ⟩ := named w.heap.size
  clear hf hg hn hm hK
  go_enter Tryz.func51, Tryz.ntmps51
  go_wp2
  go_loopw [5, 12] (fun o i wr => ∃ (j N cc : Nat) (oa : Option Addr), j ≤ K ∧ N ≤ j ∧ o = .slice oa N cc ∧ i = .int .i64 j ∧ Hid (OwnG flV 53 3 wr Q (.slice oa N cc) N (cfL f n g m j)) ∧ Hid (Below Q w wr)) (fun _ i _ => K - (intOf i).toNat)
  case atStart => exact ⟨0, 0, 0, none, Nat.zero_le _, Nat.le_refl _, rfl, rfl, OwnG.none _ _ _ _ _, (by rw [← hQ.out]; exact Below.refl _ _)⟩
  case round =>
    obtain ⟨j, N, cc, oa, hj, hNj, rfl, rfl, HO, HB⟩ := hrel
    by_cases hlt : j < K
    · have hi : (j : Int) < (K : Int) := by omega
      obtain ⟨x, hx⟩ := named (valF f n j)
      obtain ⟨y, hy⟩ := named (valF g m j)
      have hbw : Below w.heap.size w wr := by rw [hQ.out]; exact HB.out
      have HF1 := Lib.hid (HF.out wr hbw j x hx.out)
      have HG1 := Lib.hid (HG.out wr hbw j y hy.out)
      have hQw : Q ≤ wr.heap.size := by have h1 := hbw.size; have h2 := hQ.out; omega
      have HST : Hid (cfL f n g m (j + 1) = cfL f n g m j ++ cfAt x y j) := by
        show cfL f n g m j ++ cfAt (valF f n j) (valF g m j) j = _
        rw [hx.out, hy.out]
      obtain ⟨z, hz⟩ := named (cmp15 x y)
      have HCM1 := Lib.hid (HCM.out x y wr)
      rw [hz.out] at HCM1
      clear hbw
      have htri : (x < y ∧ z = -1) ∨ (y < x ∧ z = 1) ∨ ((¬ x < y ∧ ¬ y < x) ∧ z = 0) := by
        have := hz.out
        unfold cmp15 at this
        split at this
        · omega
        · split at this <;> omega
      rcases htri with ⟨h, rfl⟩ | ⟨h, rfl⟩ | ⟨h, rfl⟩
      · have HA : Hid (cfAt x y j = [(2, (j : Int), 0)]) := by unfold cfAt; rw [Hid, if_pos h]
        clear h
        have HOd := Lib.hid (HO.out.alloc (.cells #[.int .i64 2, .int .i64 j, .int .i64 0] 53))
        have HBd := Lib.hid (HB.out.alloc hQw (.cells #[.int .i64 2, .int .i64 j, .int .i64 0] 53))
        go_wp2_with (first
          | (go_at_call 76; first | ((with_reducible refine HF1.out.mono ?_); rintro e w1 ⟨rfl, hw⟩; obtain rfl := hw.symm) | ((with_reducible refine HG1.out.mono ?_); rintro e w1 ⟨rfl, hw⟩; obtain rfl := hw.symm))
          | (go_at_call 75; (with_reducible refine HCM1.out.mono ?_); rintro e w1 ⟨rfl, hw⟩; obtain rfl := hw.symm)
          | (at_builtin; refine append_lg fl_rowed rfl _ _ rfl Q _ N (cfL f n g m j) rfl HOd.out (some ⟨wr.heap.size, 0, none⟩) 1 1 [(2, (j : Int), 0)] rfl (fun e => by cases e) (one_reads wr (2, (j : Int), 0) #[.int .i64 2, .int .i64 j, .int .i64 0] 53 rfl) (by omega) (by rw [World.size_alloc]; omega) ?_; intro pa c9 w2 g1 g2 g3; have HO2 := Lib.hid g1; have HB2 := Lib.hid (HBd.out.grown g2 (by rw [World.size_alloc]; omega) (fun k hk => (HOd.out.1.lt k hk).1)); clear g1 g2 g3))
        go_roundw
        case rel => exact ⟨j + 1, N + 1, c9, pa, by omega, by omega, rfl, by go_num, by rw [HST.out, HA.out]; exact HO2.out, HB2.out⟩
        case measure => simp [intOf]; omega
      · have HA : Hid (cfAt x y j = [(3, (j : Int), 0)]) := by unfold cfAt; rw [Hid, if_neg (by omega), if_pos h]
        clear h
        have HOd := Lib.hid (HO.out.alloc (.cells #[.int .i64 3, .int .i64 j, .int .i64 0] 53))
        have HBd := Lib.hid (HB.out.alloc hQw (.cells #[.int .i64 3, .int .i64 j, .int .i64 0] 53))
        go_wp2_with (first
          | (go_at_call 76; first | ((with_reducible refine HF1.out.mono ?_); rintro e w1 ⟨rfl, hw⟩; obtain rfl := hw.symm) | ((with_reducible refine HG1.out.mono ?_); rintro e w1 ⟨rfl, hw⟩; obtain rfl := hw.symm))
          | (go_at_call 75; (with_reducible refine HCM1.out.mono ?_); rintro e w1 ⟨rfl, hw⟩; obtain rfl := hw.symm)
          | (at_builtin; refine append_lg fl_rowed rfl _ _ rfl Q _ N (cfL f n g m j) rfl HOd.out (some ⟨wr.heap.size, 0, none⟩) 1 1 [(3, (j : Int), 0)] rfl (fun e => by cases e) (one_reads wr (3, (j : Int), 0) #[.int .i64 3, .int .i64 j, .int .i64 0] 53 rfl) (by omega) (by rw [World.size_alloc]; omega) ?_; intro pa c9 w2 g1 g2 g3; have HO2 := Lib.hid g1; have HB2 := Lib.hid (HBd.out.grown g2 (by rw [World.size_alloc]; omega) (fun k hk => (HOd.out.1.lt k hk).1)); clear g1 g2 g3))
        go_roundw
        case rel => exact ⟨j + 1, N + 1, c9, pa, by omega, by omega, rfl, by go_num, by rw [HST.out, HA.out]; exact HO2.out, HB2.out⟩
        case measure => simp [intOf]; omega
      · have HA : Hid (cfAt x y j = []) := by unfold cfAt; rw [Hid, if_neg h.1, if_neg h.2]
        clear h
        go_wp2_with (first
          | (go_at_call 76; first | ((with_reducible refine HF1.out.mono ?_); rintro e w1 ⟨rfl, hw⟩; obtain rfl := hw.symm) | ((with_reducible refine HG1.out.mono ?_); rintro e w1 ⟨rfl, hw⟩; obtain rfl := hw.symm))
          | (go_at_call 75; (with_reducible refine HCM1.out.mono ?_); rintro e w1 ⟨rfl, hw⟩; obtain rfl := hw.symm))
        go_roundw
        case rel => exact ⟨j + 1, N, cc, oa, by omega, by omega, rfl, by go_num, by rw [HST.out, HA.out, List.append_nil]; exact HO.out, HB.out⟩
        case measure => simp [intOf]; omega
    · obtain rfl : K = j := by omega
      go_wp2
      go_ret
      exact ⟨oa, N, cc, rfl, by rw [hQ.out]; exact HO.out, by rw [hQ.out]; exact HB.out⟩
end Go.Proofs.YtlljcdmblmkblaaGreat
namespace Go.Proofs.YtlljcdmblmkblaaGreat
open Go.RowKit
set_option linter.unusedVariables false

theorem unp_none (b : List Int) (most : Nat) : ∀ (f p : Nat) (out : List Int), (unp b most f p out).2 ≠ 0 → (unp b most f p out).1 = []
  | 0, _, _, h => absurd rfl h
  | f + 1, p, out, h => by
    unfold unp at h ⊢
    split
    · rename_i hp
      rw [if_pos hp] at h
      exact absurd rfl h
    · rename_i hp
      rw [if_neg hp] at h
      revert h
      split
      · intro _; rfl
      · split
        · intro _; rfl
        · unfold unpBack
          split
          · intro h; exact absurd rfl h
          · split
            · intro _; rfl
            · split
              · intro _; rfl
              · split
                · intro _; rfl
                · split
                  · intro _; rfl
                  · exact fun h => unp_none b most f _ _ h
theorem unpack_none {b : List Int} {m : Int} (h : (unpackOf b m).2 ≠ 0) : (unpackOf b m).1 = [] := by
  unfold unpackOf at h ⊢
  split
  · rfl
  · rename_i h1
    rw [if_neg h1] at h
    split
    · rfl
    · rename_i h2
      rw [if_neg h2] at h
      exact unp_none _ _ _ _ _ h
theorem storedE_take {x : En} {l : List Int} {k : Nat} (h : (x.2.1.toNat + x.2.2.1.toNat) * 16 ≤ k) : storedE x (l.take k) = storedE x l := by
  unfold storedE
  rw [List.drop_take, List.take_take]
  congr 1
  omega
theorem stored_len {x : En} {l : List Int} (h : (x.2.1.toNat + x.2.2.1.toNat) * 16 ≤ l.length) : (storedE x l).length = x.2.2.1.toNat * 16 := by
  unfold storedE
  rw [List.length_take, List.length_drop]
  omega
theorem whole15 (w : World) (a : Option Addr) (n c : Nat) (l : List Int) (hB : Bytes w a n l) (hc : n ≤ c) (hnil : a = none → c = 0) (hn : n ≤ 1000000000) {K : Nat} (hK : wholeN n = K) : Calls Tryz.prog 33 #[.slice a n c] w fun e w' => (∃ a', e = .returned (.slice a' (K * 16) c) ∧ Bytes w a' (K * 16) (l.take (K * 16)) ∧ (a' = none → c = 0)) ∧ w' = w := by
  have hKn : K * 16 ≤ n := by rw [← hK]; unfold wholeN; omega
  obtain ⟨a2, hsl, hB2, hn2⟩ := slice_front hB hc hnil (K * 16) hKn
  obtain ⟨L, hL⟩ := named (K * 16)
  rw [hL.out] at hsl hB2 ⊢
  have hmin : ∀ w' : World, (Builtin.min_ #[3, 3] 3 #[.int .i64 ((n : Int) / 16), .int .i64 65536]).run Tryz.prog w' = .ok (.int .i64 K) w' := fun w' => by
    have : (K : Int) = if (65536 : Int) < (n : Int) / 16 then 65536 else (n : Int) / 16 := by
      unfold wholeN at hK
      split <;> omega
    rw [this]
    simp [Builtin.min_, Builtin.min2]
  have hw : (K : Int) * 16 = (L : Int) := by rw [← hL.out]; omega
  have hK6 : K ≤ 65536 := by rw [← hK]; unfold wholeN; omega
  have HB2 := Lib.hid hB2
  clear hK hB hB2 hL hnil
  go_enter Tryz.func33, Tryz.ntmps33
  go_wp2
  go_ret
  exact ⟨⟨a2, rfl, HB2.out, hn2⟩, rfl⟩
set_option maxRecDepth 100000 in
set_option maxHeartbeats 3200000 in
theorem refBytes15 (w : World) (a : Option Addr) (n c : Nat) (l : List Int) (hB : Bytes w a n l) (hc : n ≤ c) (hnil : a = none → c = 0) (hn : n ≤ 1000000000) {k s q z m cl : Int} (ho : EnOk (k, s, q, z, m)) :
    Calls Tryz.prog 12 #[.agg #[.int .i64 k, .int .i64 s, .int .i64 q, .int .i64 z, .int .u32 m], .slice a n c, .int .i64 cl] w (PutPost w (bytesE (k, s, q, z, m) l cl).1 (bytesE (k, s, q, z, m) l cl).2) := by
  have HM := Lib.hid (fun W => refMay_any k s q z m cl ho W)
  have HB0 := Lib.hid ((Below.refl w.heap.size w).alloc (Nat.le_refl _) (.cells #[.int .i64 k, .int .i64 s, .int .i64 q, .int .i64 z, .int .u32 m] 24))
  have HE0 := Lib.hid (Blk.new w 24 #[.int .i64 k, .int .i64 s, .int .i64 q, .int .i64 z, .int .u32 m])
  by_cases hm : MayE (k, s, q, z, m) cl
  · rw [decide_eq_true hm] at HM
    obtain ⟨⟨hc0, hc6⟩, hm3⟩ := id hm
    obtain ⟨C, rfl⟩ : ∃ C : Nat, cl = C := ⟨cl.toNat, by omega⟩
    obtain ⟨N, hN⟩ := named (16 * 2 ^ C)
    have hpw : 1 ≤ 2 ^ C ∧ 2 ^ C ≤ 64 := ⟨Nat.one_le_two_pow, by
      have : (2 : Nat) ^ 6 = 64 := by decide
      rw [← this]
      exact Nat.pow_le_pow_right (by decide) (by omega)⟩
    have hN1 : N ≤ 1024 := by rw [← hN.out]; omega
    have hS : wrap64 (16 * 2 ^ C) = (N : Int) := by
      have e : (16 : Int) * 2 ^ C = (N : Int) := by rw [← hN.out, Int.natCast_mul, Int.natCast_pow]; rfl
      rw [e]
      unfold wrap64
      omega
    have hwc : (IntKind.u64.wrap (C : Int)).toNat = C := by rw [IntKind.wrap_u64]; omega
    by_cases h23 : k = 2 ∨ k = 3
    · obtain ⟨K, hK⟩ := named (wholeN n)
      have hs2 : 2 ≤ s ∧ 1 ≤ q ∧ q ≤ 64 ∧ s ≤ 65536 - q ∧ (k = 3 → 0 ≤ z ∧ z ≤ q * 16) ∧ (k = 2 → q = (2 ^ C : Nat)) := by
        rw [Int.toNat_natCast] at hm3
        have hp2 : (2 : Int) ^ C = ((2 ^ C : Nat) : Int) := by rw [Int.natCast_pow]; rfl
        rw [hp2] at hm3
        dsimp only at hm3
        rcases hm3 with h | h | h <;> omega
      obtain ⟨P, rfl⟩ : ∃ P : Nat, s = P := ⟨s.toNat, by omega⟩
      obtain ⟨Q, rfl⟩ : ∃ Q : Nat, q = Q := ⟨q.toNat, by omega⟩
      have hll := hB.1
      have hKw : K ≤ 65536 ∧ K * 16 ≤ n := by rw [← hK.out]; unfold wholeN; omega
      obtain ⟨L, hL⟩ := named (K * 16)
      have hLK : (L : Int) / 16 = (K : Int) := by rw [← hL.out]; omega
      have hL6 : L ≤ 1048576 := by rw [← hL.out]; omega
      have HW := Lib.hid (fun W (hb : Below w.heap.size w W) => whole15 W a n c l (hB.later hb) hc hnil hn hK.out)
      rw [hL.out] at HW
      have hPw : IntKind.i64.wrap ((P : Int) + (Q : Int)) = (P : Int) + (Q : Int) := IntWalk.i64_in _ (by omega)
      by_cases hr : (K : Int) < (P : Int) + (Q : Int)
      · have hbe : bytesE (k, P, Q, z, m) l C = ([], 6) := by
          unfold bytesE
          rw [if_neg (fun h => h hm), if_neg (fun h => h h23), if_pos (by rw [hll, hK.out]; exact hr)]
        rw [hbe]
        clear hB ho hbe hm3 hm hs2 hll hKw
        rcases h23 with rfl | rfl
        all_goals
          go_enter Tryz.func12, Tryz.ntmps12
          go_wp2_with (first
            | (go_at_call 32; (with_reducible refine (HM.out _).mono ?_); rintro e w1 ⟨rfl, hb⟩; have HB1 := Lib.hid (HB0.out.trans (hb.mono HB0.out.size)); have HE1 := Lib.hid (HE0.out.later hb); obtain ⟨e0, e1, e2, e3, e4⟩ := cells5 HE1.out; clear hb)
            | (go_at_call 33; (with_reducible refine (HW.out _ HB1.out).mono ?_); rintro e w2 ⟨⟨a2, rfl, hB2, hn2⟩, hw⟩; obtain rfl := hw.symm; have HB2 := Lib.hid hB2; have HN2 := Lib.hid hn2; clear hB2 hn2))
          go_ret2
          exact ⟨none, 0, rfl, none_bytes _, ⟨fun _ => rfl, Nat.le_refl _⟩, HB1.out⟩
      · have hbe : bytesE (k, P, Q, z, m) l C = if (contE (k, P, Q, z, m) l (N : Int)).length ≠ N ∨ (moreOf 0 (contE (k, P, Q, z, m) l (N : Int)) : Int) ≠ m then ([], 13) else (contE (k, P, Q, z, m) l (N : Int), 0) := by
          unfold bytesE
          rw [if_neg (fun h => h hm), if_neg (fun h => h h23), if_neg (by rw [hll, hK.out]; exact hr), Int.toNat_natCast, hN.out]
        rw [hbe]
        obtain ⟨K1, hK1⟩ := named (P * 16)
        obtain ⟨K2, hK2⟩ := named ((P + Q) * 16)
        have hw1 : (P : Int) * 16 = (K1 : Int) := by rw [← hK1.out]; omega
        have hw2 : ((P : Int) + (Q : Int)) * 16 = (K2 : Int) := by rw [← hK2.out]; omega
        have h12 : K1 ≤ K2 := by rw [← hK1.out, ← hK2.out]; omega
        have h2n : K2 ≤ L := by rw [← hK2.out, ← hL.out]; omega
        have hLE : K2 - K1 = Q * 16 := by rw [← hK1.out, ← hK2.out]; omega
        have hst : ((l.take L).drop K1).take (K2 - K1) = storedE (k, (P : Int), (Q : Int), z, m) l := by
          rw [← storedE_take (x := (k, (P : Int), (Q : Int), z, m)) (l := l) (k := L) (by show ((P : Int).toNat + (Q : Int).toNat) * 16 ≤ L; rw [← hL.out]; omega), hLE, ← hK1.out]
          rfl
        have HMID := Lib.hid (fun (W : World) (a2 : Option Addr) (h1 : Bytes W a2 L (l.take L)) (h2 : a2 = none → c = 0) => slice_mid15 h1 (Nat.le_trans (by have := hKw.2; rw [hL.out] at this; exact this) hc) h2 K1 K2 h12 h2n)
        rw [hst] at HMID
        obtain ⟨J, hJ⟩ := named (K2 - K1)
        rw [hJ.out] at HMID hLE
        have hJ1 : J ≤ 1024 := by omega
        rcases h23 with rfl | rfl
        · have hJN : J = N := by
            have h1 := hs2.2.2.2.2.2 rfl
            have h2 : Q = 2 ^ C := by omega
            rw [hLE, h2, ← hN.out]
            omega
          subst hJN
          have hE : contE (2, (P : Int), (Q : Int), z, m) l (J : Int) = storedE (2, (P : Int), (Q : Int), z, m) l := by unfold contE; rw [if_pos rfl]
          have hUJ : (storedE (2, (P : Int), (Q : Int), z, m) l).length = J := by
            rw [stored_len (by show ((P : Int).toNat + (Q : Int).toNat) * 16 ≤ l.length; rw [hll]; omega)]
            show (Q : Int).toNat * 16 = J
            omega
          rw [hE]
          obtain ⟨U, hU⟩ := named (storedE (2, (P : Int), (Q : Int), z, m) l)
          rw [hU.out] at HMID hUJ ⊢
          have HUJ := Lib.hid hUJ
          have HSU := Lib.hid (fun (W : World) (a2 : Option Addr) (c2 : Nat) (h : Bytes W a2 J U) => refSum_any a2 J c2 U W h)
          obtain ⟨V, hV⟩ := named (moreOf 0 U)
          rw [hV.out] at HSU ⊢
          have hne1 : ((J : Int) != (J : Int)) = false := by simp
          clear hB ho hbe hm3 hm hs2 hll hE hUJ hst hLE hKw hK hU hV
          by_cases hm2 : (V : Int) = m
          · rw [if_neg (by rw [HUJ.out]; exact fun h => h.elim (fun h => h rfl) (fun h => h hm2))]
            have hne2 : ((V : Int) != m) = false := by rw [hm2]; simp
            clear hm2
            go_enter Tryz.func12, Tryz.ntmps12
            go_wp2_with (first
              | (go_at_call 32; (with_reducible refine (HM.out _).mono ?_); rintro e w1 ⟨rfl, hb⟩; have HB1 := Lib.hid (HB0.out.trans (hb.mono HB0.out.size)); have HE1 := Lib.hid (HE0.out.later hb); obtain ⟨e0, e1, e2, e3, e4⟩ := cells5 HE1.out; clear hb)
              | (go_at_call 33; (with_reducible refine (HW.out _ HB1.out).mono ?_); rintro e w2 ⟨⟨a2, rfl, hB2, hn2⟩, hw⟩; obtain rfl := hw.symm; obtain ⟨a3, c3, hsl, hB3, hn3, hc3⟩ := HMID.out _ a2 hB2 hn2; have HB3 := Lib.hid hB3; have HN3 := Lib.hid hn3; have HC3 := Lib.hid hc3; clear hB2 hn2 hB3 hn3 hc3))
            have HR4 := Lib.hid (Below.refl w1.heap.size w1)
            have HR4D := Lib.hid (Below.refl w1.heap.size w1).drew
            have HKT : Hid (∀ W, Below w1.heap.size w1 W → W.cell? ⟨w.heap.size, 4, none⟩ = some (.int .u32 m)) := fun W hb => (cells5 (HE1.out.later hb)).2.2.2.2
            go_region_held3 (fun W => W.cell? ⟨w.heap.size, 4, none⟩ = some (.int .u32 m)) (first | with_reducible exact HKT.out _ HR4.out | with_reducible exact HKT.out _ HR4D.out) (first | (go_at_call 23; (with_reducible refine (HSU.out _ _ _ (HB3.out.later HR4D.out)).mono ?_); rintro e w5 ⟨rfl, rfl⟩))
            have HB4 := Lib.hid (HB1.out.trans (HR4D.out.mono HB1.out.size))
            have hJ8 : 0 + J ≤ 100000000 := Nat.le_trans (Nat.le_of_eq (Nat.zero_add J)) (Nat.le_trans hJ1 (by decide))
            have HAD := Lib.hid (((Below.refl w1.heap.size w1).alloc (Nat.le_refl _) (.cells #[] 5)).drew)
            have HB5 := Lib.hid (HB1.out.trans (HAD.out.mono HB1.out.size))
            have HB6 := Lib.hid (HB3.out.later HAD.out)
            go_wp2_with (at_builtin; refine append_bytes rfl _ _ rfl w.heap.size (.slice (some ⟨w1.heap.size, 0, none⟩) 0 0) 0 [] rfl (Own.made w1 w.heap.size HB1.out.size).drew a3 J c3 U rfl HN3.out HB6.out hJ8 HB5.out.size ?_; intro a8 c8 w8 g1 g2; rw [Nat.zero_add, List.nil_append] at g1; have HO8 := Lib.hid g1; have HB8 := Lib.hid (HB5.out.grown g2 HB5.out.size (fun k hk => by have h1 := HB1.out.size; have h2 : w1.heap.size = k := (by simpa [Value.ownBlock] using hk); rw [← h2]; exact h1)); clear g1 g2)
            go_ret2
            exact PutPost.own 0 HO8.out HB8.out
          · rw [if_pos (Or.inr hm2)]
            have hne2 : ((V : Int) != m) = true := by simp [hm2]
            clear hm2
            go_enter Tryz.func12, Tryz.ntmps12
            go_wp2_with (first
              | (go_at_call 32; (with_reducible refine (HM.out _).mono ?_); rintro e w1 ⟨rfl, hb⟩; have HB1 := Lib.hid (HB0.out.trans (hb.mono HB0.out.size)); have HE1 := Lib.hid (HE0.out.later hb); obtain ⟨e0, e1, e2, e3, e4⟩ := cells5 HE1.out; clear hb)
              | (go_at_call 33; (with_reducible refine (HW.out _ HB1.out).mono ?_); rintro e w2 ⟨⟨a2, rfl, hB2, hn2⟩, hw⟩; obtain rfl := hw.symm; obtain ⟨a3, c3, hsl, hB3, hn3, hc3⟩ := HMID.out _ a2 hB2 hn2; have HB3 := Lib.hid hB3; have HN3 := Lib.hid hn3; have HC3 := Lib.hid hc3; clear hB2 hn2 hB3 hn3 hc3))
            have HR4 := Lib.hid (Below.refl w1.heap.size w1)
            have HR4D := Lib.hid (Below.refl w1.heap.size w1).drew
            have HKT : Hid (∀ W, Below w1.heap.size w1 W → W.cell? ⟨w.heap.size, 4, none⟩ = some (.int .u32 m)) := fun W hb => (cells5 (HE1.out.later hb)).2.2.2.2
            go_region_held3 (fun W => W.cell? ⟨w.heap.size, 4, none⟩ = some (.int .u32 m)) (first | with_reducible exact HKT.out _ HR4.out | with_reducible exact HKT.out _ HR4D.out) (first | (go_at_call 23; (with_reducible refine (HSU.out _ _ _ (HB3.out.later HR4D.out)).mono ?_); rintro e w5 ⟨rfl, rfl⟩))
            have HB4 := Lib.hid (HB1.out.trans (HR4D.out.mono HB1.out.size))
            go_wp2
            go_ret2
            exact ⟨none, 0, rfl, none_bytes _, ⟨fun _ => rfl, Nat.le_refl _⟩, HB4.out⟩
        · obtain ⟨Z, rfl⟩ : ∃ Z : Nat, z = Z := ⟨z.toNat, by have := hs2.2.2.2.2.1 rfl; omega⟩
          have hZJ : Z ≤ J := by have := hs2.2.2.2.2.1 rfl; omega
          have hE : contE (3, (P : Int), (Q : Int), (Z : Int), m) l (N : Int) = (unpackOf ((storedE (3, (P : Int), (Q : Int), (Z : Int), m) l).take Z) N).1 := by unfold contE; rw [if_neg (by show ¬ (3 : Int) = 2; decide)]; rfl
          rw [hE]
          have HUP := Lib.hid (fun (W : World) (a2 : Option Addr) (c2 : Nat) (h : Bytes W a2 Z ((storedE (3, (P : Int), (Q : Int), (Z : Int), m) l).take Z)) => refUnpack_any a2 Z c2 (N : Int) _ W h (by omega))
          have HNO := Lib.hid (fun h => unpack_none (b := (storedE (3, (P : Int), (Q : Int), (Z : Int), m) l).take Z) (m := (N : Int)) h)
          obtain ⟨U0, hU0⟩ := named ((storedE (3, (P : Int), (Q : Int), (Z : Int), m) l))
          rw [hU0.out] at HMID HUP HNO ⊢
          obtain ⟨U, hU⟩ := named (unpackOf (U0.take Z) N)
          rw [hU.out] at HUP HNO ⊢
          obtain ⟨UL, UE⟩ := U
          dsimp only at HUP HNO ⊢
          obtain ⟨UN, hUN⟩ := named UL.length
          have HUN := Lib.hid hUN.out
          have hN16 : N ≠ 0 := by rw [← hN.out]; omega
          have hJ8 : 0 + N ≤ 100000000 := by omega
          clear hB ho hbe hm3 hm hs2 hll hE hst hLE hKw hK hU0 hU hUN hpw
          by_cases hue : UE = 0
          · have HSU := Lib.hid (fun (W : World) (a2 : Option Addr) (c2 : Nat) (h : Bytes W a2 UN UL) => refSum_any a2 UN c2 UL W h)
            obtain ⟨V, hV⟩ := named (moreOf 0 UL)
            rw [hV.out] at HSU ⊢
            clear HNO hV
            subst hue
            by_cases hl : UN = N
            · subst hl
              have hne1 : ((UN : Int) != (UN : Int)) = false := by simp
              by_cases hm2 : (V : Int) = m
              · rw [if_neg (by rw [HUN.out]; exact fun h => h.elim (fun h => h rfl) (fun h => h hm2))]
                have hne2 : ((V : Int) != m) = false := by rw [hm2]; simp
                clear hm2
                go_enter Tryz.func12, Tryz.ntmps12
                go_wp2_with (first
                  | (go_at_call 32; (with_reducible refine (HM.out _).mono ?_); rintro e w1 ⟨rfl, hb⟩; have HB1 := Lib.hid (HB0.out.trans (hb.mono HB0.out.size)); have HE1 := Lib.hid (HE0.out.later hb); obtain ⟨e0, e1, e2, e3, e4⟩ := cells5 HE1.out; clear hb)
                  | (go_at_call 33; (with_reducible refine (HW.out _ HB1.out).mono ?_); rintro e w2 ⟨⟨a2, rfl, hB2, hn2⟩, hw⟩; obtain rfl := hw.symm; obtain ⟨a3, c3, hsl, hB3, hn3, hc3⟩ := HMID.out _ a2 hB2 hn2; obtain ⟨a4, hfr, hB4, hn4⟩ := slice_front hB3 hc3 hn3 Z hZJ; have HB3 := Lib.hid hB4; clear hB2 hn2 hB3 hn3 hc3 hB4 hn4)
                  | (go_at_call 34; (with_reducible refine (HUP.out _ _ _ HB3.out).mono ?_); rintro e w3 hp; obtain ⟨a5, c5, rfl, hO, hcp, hb⟩ := hp.sized HUN.out; have HO5 := Lib.hid hO; have HCP := Lib.hid hcp; have HBU := Lib.hid (HB1.out.trans (hb.mono HB1.out.size)); have HE3 := Lib.hid (HE1.out.later hb); clear e0 e1 e2 e3 e4; obtain ⟨e0, e1, e2, e3, e4⟩ := cells5 HE3.out; clear hp hO hcp hb))
                have HR4 := Lib.hid (Below.refl w3.heap.size w3)
                have HR4D := Lib.hid (Below.refl w3.heap.size w3).drew
                have HKT : Hid (∀ W, Below w3.heap.size w3 W → W.cell? ⟨w.heap.size, 4, none⟩ = some (.int .u32 m)) := fun W hb => (cells5 (HE3.out.later hb)).2.2.2.2
                go_region_held3 (fun W => W.cell? ⟨w.heap.size, 4, none⟩ = some (.int .u32 m)) (first | with_reducible exact HKT.out _ HR4.out | with_reducible exact HKT.out _ HR4D.out) (first | (go_at_call 23; (with_reducible refine (HSU.out _ _ _ (HO5.out.later HR4D.out)).mono ?_); rintro e w5 ⟨rfl, rfl⟩))
                have HB4 := Lib.hid (HBU.out.trans (HR4D.out.mono HBU.out.size))
                have HAD := Lib.hid (((Below.refl w3.heap.size w3).alloc (Nat.le_refl _) (.cells #[] 5)).drew)
                have HB5 := Lib.hid (HBU.out.trans (HAD.out.mono HBU.out.size))
                have HB6 := Lib.hid (HO5.out.later HAD.out)
                go_wp2_with (at_builtin; refine append_bytes rfl _ _ rfl w.heap.size (.slice (some ⟨w3.heap.size, 0, none⟩) 0 0) 0 [] rfl (Own.made w3 w.heap.size HBU.out.size).drew a5 UN c5 UL rfl HCP.out.1 HB6.out hJ8 HB5.out.size ?_; intro a8 c8 w8 g1 g2; rw [Nat.zero_add, List.nil_append] at g1; have HO8 := Lib.hid g1; have HB8 := Lib.hid (HB5.out.grown g2 HB5.out.size (fun k hk => by have h1 := HBU.out.size; have h2 : w3.heap.size = k := (by simpa [Value.ownBlock] using hk); rw [← h2]; exact h1)); clear g1 g2)
                go_ret2
                exact PutPost.own 0 HO8.out HB8.out
              · rw [if_pos (Or.inr hm2)]
                have hne2 : ((V : Int) != m) = true := by simp [hm2]
                clear hm2
                go_enter Tryz.func12, Tryz.ntmps12
                go_wp2_with (first
                  | (go_at_call 32; (with_reducible refine (HM.out _).mono ?_); rintro e w1 ⟨rfl, hb⟩; have HB1 := Lib.hid (HB0.out.trans (hb.mono HB0.out.size)); have HE1 := Lib.hid (HE0.out.later hb); obtain ⟨e0, e1, e2, e3, e4⟩ := cells5 HE1.out; clear hb)
                  | (go_at_call 33; (with_reducible refine (HW.out _ HB1.out).mono ?_); rintro e w2 ⟨⟨a2, rfl, hB2, hn2⟩, hw⟩; obtain rfl := hw.symm; obtain ⟨a3, c3, hsl, hB3, hn3, hc3⟩ := HMID.out _ a2 hB2 hn2; obtain ⟨a4, hfr, hB4, hn4⟩ := slice_front hB3 hc3 hn3 Z hZJ; have HB3 := Lib.hid hB4; clear hB2 hn2 hB3 hn3 hc3 hB4 hn4)
                  | (go_at_call 34; (with_reducible refine (HUP.out _ _ _ HB3.out).mono ?_); rintro e w3 hp; obtain ⟨a5, c5, rfl, hO, hcp, hb⟩ := hp.sized HUN.out; have HO5 := Lib.hid hO; have HCP := Lib.hid hcp; have HBU := Lib.hid (HB1.out.trans (hb.mono HB1.out.size)); have HE3 := Lib.hid (HE1.out.later hb); clear e0 e1 e2 e3 e4; obtain ⟨e0, e1, e2, e3, e4⟩ := cells5 HE3.out; clear hp hO hcp hb))
                have HR4 := Lib.hid (Below.refl w3.heap.size w3)
                have HR4D := Lib.hid (Below.refl w3.heap.size w3).drew
                have HKT : Hid (∀ W, Below w3.heap.size w3 W → W.cell? ⟨w.heap.size, 4, none⟩ = some (.int .u32 m)) := fun W hb => (cells5 (HE3.out.later hb)).2.2.2.2
                go_region_held3 (fun W => W.cell? ⟨w.heap.size, 4, none⟩ = some (.int .u32 m)) (first | with_reducible exact HKT.out _ HR4.out | with_reducible exact HKT.out _ HR4D.out) (first | (go_at_call 23; (with_reducible refine (HSU.out _ _ _ (HO5.out.later HR4D.out)).mono ?_); rintro e w5 ⟨rfl, rfl⟩))
                have HB4 := Lib.hid (HBU.out.trans (HR4D.out.mono HBU.out.size))
                go_wp2
                go_ret2
                exact ⟨none, 0, rfl, none_bytes _, ⟨fun _ => rfl, Nat.le_refl _⟩, HB4.out⟩
            · rw [if_pos (Or.inl (by rw [HUN.out]; exact hl))]
              have hne1 : ((UN : Int) != (N : Int)) = true := by simp; omega
              go_enter Tryz.func12, Tryz.ntmps12
              go_wp2_with (first
                | (go_at_call 32; (with_reducible refine (HM.out _).mono ?_); rintro e w1 ⟨rfl, hb⟩; have HB1 := Lib.hid (HB0.out.trans (hb.mono HB0.out.size)); have HE1 := Lib.hid (HE0.out.later hb); obtain ⟨e0, e1, e2, e3, e4⟩ := cells5 HE1.out; clear hb)
                | (go_at_call 33; (with_reducible refine (HW.out _ HB1.out).mono ?_); rintro e w2 ⟨⟨a2, rfl, hB2, hn2⟩, hw⟩; obtain rfl := hw.symm; obtain ⟨a3, c3, hsl, hB3, hn3, hc3⟩ := HMID.out _ a2 hB2 hn2; obtain ⟨a4, hfr, hB4, hn4⟩ := slice_front hB3 hc3 hn3 Z hZJ; have HB3 := Lib.hid hB4; clear hB2 hn2 hB3 hn3 hc3 hB4 hn4)
                | (go_at_call 34; (with_reducible refine (HUP.out _ _ _ HB3.out).mono ?_); rintro e w3 hp; obtain ⟨a5, c5, rfl, hO, hcp, hb⟩ := hp.sized HUN.out; have HO5 := Lib.hid hO; have HCP := Lib.hid hcp; have HBU := Lib.hid (HB1.out.trans (hb.mono HB1.out.size)); have HE3 := Lib.hid (HE1.out.later hb); clear e0 e1 e2 e3 e4; obtain ⟨e0, e1, e2, e3, e4⟩ := cells5 HE3.out; clear hp hO hcp hb))
              go_quiet (fail)
              go_wp2
              go_ret2
              exact ⟨none, 0, rfl, none_bytes _, ⟨fun _ => rfl, Nat.le_refl _⟩, HBU.out.trans ((below_dnC _ _).mono HBU.out.size)⟩
          · have hu0 : UL = [] := HNO.out hue
            rw [if_pos (Or.inl (by rw [hu0]; exact fun h => hN16 h.symm))]
            have hue2 : (UE != 0) = true := by simp [hue]
            clear HNO
            go_enter Tryz.func12, Tryz.ntmps12
            go_wp2_with (first
              | (go_at_call 32; (with_reducible refine (HM.out _).mono ?_); rintro e w1 ⟨rfl, hb⟩; have HB1 := Lib.hid (HB0.out.trans (hb.mono HB0.out.size)); have HE1 := Lib.hid (HE0.out.later hb); obtain ⟨e0, e1, e2, e3, e4⟩ := cells5 HE1.out; clear hb)
              | (go_at_call 33; (with_reducible refine (HW.out _ HB1.out).mono ?_); rintro e w2 ⟨⟨a2, rfl, hB2, hn2⟩, hw⟩; obtain rfl := hw.symm; obtain ⟨a3, c3, hsl, hB3, hn3, hc3⟩ := HMID.out _ a2 hB2 hn2; obtain ⟨a4, hfr, hB4, hn4⟩ := slice_front hB3 hc3 hn3 Z hZJ; have HB3 := Lib.hid hB4; clear hB2 hn2 hB3 hn3 hc3 hB4 hn4)
              | (go_at_call 34; (with_reducible refine (HUP.out _ _ _ HB3.out).mono ?_); rintro e w3 hp; obtain ⟨a5, c5, rfl, hO, hcp, hb⟩ := hp.sized HUN.out; have HO5 := Lib.hid hO; have HCP := Lib.hid hcp; have HBU := Lib.hid (HB1.out.trans (hb.mono HB1.out.size)); have HE3 := Lib.hid (HE1.out.later hb); clear e0 e1 e2 e3 e4; obtain ⟨e0, e1, e2, e3, e4⟩ := cells5 HE3.out; clear hp hO hcp hb))
            go_ret2
            exact ⟨none, 0, rfl, none_bytes _, ⟨fun _ => rfl, Nat.le_refl _⟩, HBU.out⟩
    · have hbe : bytesE (k, s, q, z, m) l C = (noughts N, 0) := by
        unfold bytesE
        rw [if_neg (fun h => h hm), if_pos h23, Int.toNat_natCast, hN.out]
      rw [hbe]
      have hk01 : k = 0 ∨ k = 1 := by
        dsimp only at hm3
        rcases hm3 with h | h | h <;> omega
      clear hB ho hbe hm3 hm h23
      rcases hk01 with rfl | rfl
      all_goals
        go_enter Tryz.func12, Tryz.ntmps12
        go_wp2_with (first
          | (go_at_call 32; (with_reducible refine (HM.out _).mono ?_); rintro e w1 ⟨rfl, hb⟩; have HB1 := Lib.hid (HB0.out.trans (hb.mono HB0.out.size)); have HE1 := Lib.hid (HE0.out.later hb); obtain ⟨e0, e1, e2, e3, e4⟩ := cells5 HE1.out; clear hb)
          | (at_make; refine make_bytes rfl _ _ rfl w.heap.size N (by first | rfl | (rw [hS]; rfl)) (by first | rfl | (rw [hS]; rfl)) (by omega) HB1.out.size ?_; intro w3 h1 h2; have HO := Lib.hid h1; have HB3 := Lib.hid (HB1.out.trans (h2.mono HB1.out.size)); clear h1 h2))
        go_ret2
        exact PutPost.own 0 HO.out HB3.out
  · have hbe : bytesE (k, s, q, z, m) l cl = ([], 1) := by unfold bytesE; rw [if_pos hm]
    rw [hbe]
    rw [decide_eq_false hm] at HM
    clear hB ho hbe hm
    go_enter Tryz.func12, Tryz.ntmps12
    go_wp2_with (first
      | (go_at_call 32; (with_reducible refine (HM.out _).mono ?_); rintro e w1 ⟨rfl, hb⟩; have HB1 := Lib.hid (HB0.out.trans (hb.mono HB0.out.size)); clear hb))
    go_ret2
    exact ⟨none, 0, rfl, none_bytes _, ⟨fun _ => rfl, Nat.le_refl _⟩, HB1.out⟩
end Go.Proofs.YtlljcdmblmkblaaGreat
namespace Go.Proofs.YtlljcdmblmkblaaGreat
open Go.RowKit
set_option linter.unusedVariables false

/-- An extent: start, count. -/
abbrev Ex := Int × Int
def exV (d : Ex) : List Value := [.int .i64 d.1, .int .i64 d.2]
theorem ex_rowed : Rowed Tryz.prog 110 112 2 16 exV where
  under := Tryz.underlying110
  info := by
    have h : (Tryz.prog.info? 112).map (fun i => (i.zero.map (fun z => z.cells.size), i.size, i.bytes)) = some (some 2, 2, 16) := by kernel_rfl
    obtain ⟨i, hi, he⟩ := Option.map_eq_some_iff.1 h
    simp only [Prod.mk.injEq] at he
    obtain ⟨z, hz, hzs⟩ := Option.map_eq_some_iff.1 he.1
    exact ⟨i, z, hi, hz, he.2.1, he.2.2, hzs⟩
  pos := by decide
  small := by decide
  len := fun _ => rfl
  one := fun d u hu => by
    simp only [exV, List.mem_cons, List.not_mem_nil, or_false] at hu
    rcases hu with rfl | rfl <;> rfl
/-- The extents that stand upon the sectors, and the bad lines so far. -/
abbrev Occ := Nat → Ex
def meets (o : Occ) (s q : Nat) : Prop := ∃ i, s ≤ i ∧ i < s + q ∧ o i ≠ ((s : Int), (q : Int)) ∧ o i ≠ (0, 0)
def laid15 (o : Occ) (s q : Nat) : Occ := fun i => if s ≤ i ∧ i < s + q then ((s : Int), (q : Int)) else o i
noncomputable def stepB (l : List Int) (c : Int) (st : Occ × List Ln) (x : Ln) : Occ × List Ln :=
  open Classical in
  if (bytesE x.2.2 l c).2 ≠ 0 then (st.1, st.2 ++ [x]) else if meets st.1 x.2.2.2.1.toNat x.2.2.2.2.1.toNat then (st.1, st.2 ++ [x]) else (laid15 st.1 x.2.2.2.1.toNat x.2.2.2.2.1.toNat, st.2)
noncomputable def badRun (l : List Int) (c : Int) (L : List Ln) : Occ × List Ln := L.foldl (stepB l c) (fun _ => (0, 0), [])
/-- The bad lines of a meta's lines (15.2). -/
noncomputable def badL (l : List Int) (c : Int) (L : List Ln) : List Ln := (badRun l c L).2
theorem made_ex (n i : Nat) (hi : i < n) : (madeCells #[.int .i64 0, .int .i64 0] n)[i]? = some (.int .i64 0) := by
  have h2 : i % 2 = 0 ∨ i % 2 = 1 := by omega
  unfold madeCells
  rw [Array.getElem?_map, Array.getElem?_range, if_pos hi]
  rcases h2 with h | h <;> simp [h]
theorem mid2 (l : List Value) (m : Nat) (a b : Value) (hm : m + 2 ≤ l.length) (j : Nat) : (l.take m ++ [a, b] ++ l.drop (m + 2))[j]? = if j < m then l[j]? else if j = m then some a else if j = m + 1 then some b else l[j]? := by
  have e : (l.take m).length = m := by rw [List.length_take]; omega
  rw [List.append_assoc]
  by_cases h1 : j < m
  · rw [if_pos h1, List.getElem?_append_left (by omega), List.getElem?_take, if_pos h1]
  · rw [if_neg h1, List.getElem?_append_right (by omega), e]
    by_cases h2 : j = m
    · subst h2
      rw [if_pos rfl, Nat.sub_self]
      rfl
    · rw [if_neg h2]
      by_cases h3 : j = m + 1
      · subst h3
        rw [if_pos rfl, Nat.add_sub_cancel_left]
        rfl
      · rw [if_neg h3, List.getElem?_append_right (by simp only [List.length_cons, List.length_nil]; omega), List.getElem?_drop]
        congr 1
        simp only [List.length_cons, List.length_nil]
        omega
theorem badRun_snoc (l : List Int) (c : Int) (L : List Ln) (x : Ln) : badRun l c (L ++ [x]) = stepB l c (badRun l c L) x := by unfold badRun; rw [List.foldl_append]; rfl
/-- The row of extents. -/
def OccIn (w : World) (R K : Nat) (o : Occ) : Prop := ∃ cs : Array Value, Blk w R 112 cs ∧ cs.size = K * 2 ∧ ∀ i, i < K → cs[i * 2]? = some (.int .i64 (o i).1) ∧ cs[i * 2 + 1]? = some (.int .i64 (o i).2)

theorem grown_trans {a w w' : World} {row : Option Nat} (h : a.grownBy w row) (k : w.grownBy w' row) : a.grownBy w' row :=
  ⟨k.os.trans h.os, k.tape.trans h.tape, k.output.trans h.output, Nat.le_trans h.size k.size, fun j hj hr => (k.block j (Nat.lt_of_lt_of_le hj h.size) hr).trans (h.block j hj hr)⟩
theorem grown_below {w w' : World} (h : Below w.heap.size w w') (row : Option Nat) : w.grownBy w' row := ⟨h.os, h.tape, h.output, h.size, fun k hk _ => h.block k hk⟩
theorem grown_row {a w w' : World} {row row' : Option Nat} (h : a.grownBy w row) (hg : w.grownBy w' row') (hr : ∀ k, row' = some k → a.heap.size ≤ k) : a.grownBy w' row :=
  ⟨hg.os.trans h.os, hg.tape.trans h.tape, hg.output.trans h.output, Nat.le_trans h.size hg.size, fun j hj hne => (hg.block j (Nat.lt_of_lt_of_le hj h.size) (fun e => by have := hr j e.symm; omega)).trans (h.block j hj hne)⟩
theorem ex_info : (Tryz.prog.info? 112).map (fun i => (i.zero, i.size, i.bytes)) = some (some (.agg #[.int .i64 0, .int .i64 0]), 2, 16) := by kernel_rfl
theorem make_occ (w : World) (K : Nat) (hK : K ≤ 100000) : (Instr.makeSlice 110 (.int .i64 K) (.int .i64 K)).run Tryz.prog w = .ok (.slice (some ⟨w.heap.size, 0, none⟩) K K) (w.alloc (.cells (madeCells #[.int .i64 0, .int .i64 0] (K * 2)) 112)) ∧ OccIn (w.alloc (.cells (madeCells #[.int .i64 0, .int .i64 0] (K * 2)) 112)) w.heap.size K (fun _ => (0, 0)) := by
  obtain ⟨i0, hi, he⟩ := Option.map_eq_some_iff.1 ex_info
  simp only [Prod.mk.injEq] at he
  have := run_make (P := Tryz.prog) w 110 112 i0 (.agg #[.int .i64 0, .int .i64 0]) Tryz.underlying110 hi he.1 .i64 .i64 K K (by omega) (Int.le_refl _) (by rw [he.2.2]; omega) (by omega)
  rw [he.2.1, Int.toNat_natCast] at this
  exact ⟨this, _, Blk.new _ _ _, size_madeCells _ _, fun i hi => ⟨made_ex _ _ (by omega), made_ex _ _ (by omega)⟩⟩
theorem OccIn.kept {w w' : World} {X K : Nat} {o : Occ} (h : OccIn w X K o) {row : Option Nat} (hg : w.grownBy w' row) (hne : row ≠ some X) : OccIn w' X K o := by
  obtain ⟨cs, h1, h2⟩ := h
  exact ⟨cs, h1.kept hg (fun e => hne e.symm), h2⟩
theorem OccIn.lt {w : World} {X K : Nat} {o : Occ} (h : OccIn w X K o) : X < w.heap.size := by
  obtain ⟨cs, h1, _⟩ := h
  exact h1.lt
theorem OccIn.cell {w : World} {X K : Nat} {o : Occ} (h : OccIn w X K o) {i : Nat} (hi : i < K) : w.cell? ⟨X, i * 2, none⟩ = some (.int .i64 (o i).1) ∧ w.cell? ⟨X, i * 2 + 1, none⟩ = some (.int .i64 (o i).2) := by
  obtain ⟨cs, h1, _, h3⟩ := h
  rw [h1.cell, h1.cell]
  exact h3 i hi
/-- One extent set. -/
def setX (o : Occ) (i : Nat) (x : Ex) : Occ := fun j => if j = i then x else o j
theorem OccIn.put {w : World} {X K : Nat} {o : Occ} (h : OccIn w X K o) {i : Nat} (hi : i < K) (p q : Int) : ∃ cur : Array Value, w.heap[X]? = some (.cells cur 112 (0, 0)) ∧ i * 2 + 2 ≤ cur.size ∧ OccIn (w.setRow X (cur.toList.take (i * 2) ++ [Value.int .i64 p, Value.int .i64 q] ++ cur.toList.drop (i * 2 + 2)).toArray) X K (setX o i (p, q)) ∧ w.grownBy (w.setRow X (cur.toList.take (i * 2) ++ [Value.int .i64 p, Value.int .i64 q] ++ cur.toList.drop (i * 2 + 2)).toArray) (some X) := by
  obtain ⟨cs, h1, h2, h3⟩ := h
  refine ⟨cs, h1, by omega, ⟨_, setRow_heap w X cs _ _ _ h1, ?_, fun k hk => ?_⟩, ⟨rfl, rfl, rfl, by simp [World.setRow], fun k _ hk => setRow_other w X k _ (fun e => hk (by rw [e]))⟩⟩
  · have e : cs.toList.length = K * 2 := by rw [Array.length_toList, h2]
    rw [List.size_toArray, List.length_append, List.length_append, List.length_take, List.length_drop, e]
    simp only [List.length_cons, List.length_nil]
    omega
  · have e : cs.toList.length = K * 2 := by rw [Array.length_toList, h2]
    obtain ⟨k1, k2⟩ := h3 k hk
    rw [List.getElem?_toArray, List.getElem?_toArray, mid2 _ _ _ _ (by omega), mid2 _ _ _ _ (by omega), Array.getElem?_toList, Array.getElem?_toList]
    unfold setX
    by_cases hk2 : k = i
    · subst hk2
      have a1 : ¬ (k * 2 + 1 < k * 2) := by omega
      have a2 : ¬ (k * 2 + 1 = k * 2) := by omega
      rw [if_neg (Nat.lt_irrefl (k * 2)), if_neg a1, if_neg a2]
      simp only [if_true]
      exact ⟨trivial, trivial⟩
    · rw [if_neg hk2]
      constructor
      · rw [if_neg (by omega : ¬ k * 2 = i * 2), if_neg (by omega : ¬ k * 2 = i * 2 + 1)]
        split <;> exact k1
      · rw [if_neg (by omega : ¬ k * 2 + 1 = i * 2), if_neg (by omega : ¬ k * 2 + 1 = i * 2 + 1)]
        split <;> exact k2
theorem OccIn.put_at {w : World} {X K : Nat} {o : Occ} (h : OccIn w X K o) {i off : Nat} (hi : i < K) (hoff : i * 2 = off) (p q : Int) : ∃ cur : Array Value, w.heap[X]? = some (.cells cur 112 (0, 0)) ∧ off + 2 ≤ cur.size ∧ OccIn (w.setRow X (cur.toList.take off ++ [Value.int .i64 p, Value.int .i64 q] ++ cur.toList.drop (off + 2)).toArray) X K (setX o i (p, q)) ∧ w.grownBy (w.setRow X (cur.toList.take off ++ [Value.int .i64 p, Value.int .i64 q] ++ cur.toList.drop (off + 2)).toArray) (some X) := by
  subst hoff
  exact h.put hi p q
theorem ex_size : (Tryz.prog.info? 112).map (·.size) = some 2 := by kernel_rfl
theorem cellsG {w : World} {Y : Nat} {t : TypeId} {v0 v1 v2 v3 v4 v5 v6 : Value} (h : Blk w Y t #[v0, v1, v2, v3, v4, v5, v6]) : w.cell? ⟨Y, 0, none⟩ = some v0 ∧ w.cell? ⟨Y, 1, none⟩ = some v1 ∧ w.cell? ⟨Y, 2, none⟩ = some v2 ∧ w.cell? ⟨Y, 3, none⟩ = some v3 ∧ w.cell? ⟨Y, 4, none⟩ = some v4 ∧ w.cell? ⟨Y, 5, none⟩ = some v5 ∧ w.cell? ⟨Y, 6, none⟩ = some v6 := by
  refine ⟨?_, ?_, ?_, ?_, ?_, ?_, ?_⟩ <;> (rw [h.cell]; rfl)
theorem cells2G {w : World} {Y : Nat} {t : TypeId} {v0 v1 : Value} (h : Blk w Y t #[v0, v1]) : w.cell? ⟨Y, 0, none⟩ = some v0 ∧ w.cell? ⟨Y, 1, none⟩ = some v1 := by
  refine ⟨?_, ?_⟩ <;> (rw [h.cell]; rfl)
/-- The extents when so many of them are laid. -/
def layTo (o : Occ) (s q t : Nat) : Occ := fun i => if s ≤ i ∧ i < s + t then ((s : Int), (q : Int)) else o i
theorem layTo_zero (o : Occ) (s q : Nat) : layTo o s q 0 = o := by
  funext i
  unfold layTo
  rw [if_neg (by omega)]
theorem layTo_succ (o : Occ) (s q t : Nat) : setX (layTo o s q t) (s + t) ((s : Int), (q : Int)) = layTo o s q (t + 1) := by
  funext i
  unfold setX layTo
  by_cases h : i = s + t
  · rw [if_pos h, if_pos (by omega)]
  · rw [if_neg h]
    by_cases h2 : s ≤ i ∧ i < s + t
    · rw [if_pos h2, if_pos (by omega)]
    · rw [if_neg h2, if_neg (by omega)]
theorem layTo_all (o : Occ) (s q : Nat) : layTo o s q q = laid15 o s q := rfl
theorem stepB_bad {l : List Int} {c : Int} {st : Occ × List Ln} {x : Ln} (h : (bytesE x.2.2 l c).2 ≠ 0) : stepB l c st x = (st.1, st.2 ++ [x]) := by
  unfold stepB
  rw [if_pos h]
theorem stepB_meet {l : List Int} {c : Int} {st : Occ × List Ln} {x : Ln} (h0 : (bytesE x.2.2 l c).2 = 0) {p q : Nat} (hp : x.2.2.2.1 = (p : Int)) (hq : x.2.2.2.2.1 = (q : Int)) (h : meets st.1 p q) : stepB l c st x = (st.1, st.2 ++ [x]) := by
  unfold stepB
  rw [if_neg (fun k => k h0), hp, hq, Int.toNat_natCast, Int.toNat_natCast, if_pos h]
theorem stepB_good {l : List Int} {c : Int} {st : Occ × List Ln} {x : Ln} (h0 : (bytesE x.2.2 l c).2 = 0) {p q : Nat} (hp : x.2.2.2.1 = (p : Int)) (hq : x.2.2.2.2.1 = (q : Int)) (h : ¬ meets st.1 p q) : stepB l c st x = (laid15 st.1 p q, st.2) := by
  unfold stepB
  rw [if_neg (fun k => k h0), hp, hq, Int.toNat_natCast, Int.toNat_natCast, if_neg h]
theorem bytesE_fit {x : En} {l : List Int} {c : Int} (hs : secE x) (h : (bytesE x l c).2 = 0) : MayE x c ∧ x.2.1 + x.2.2.1 ≤ (wholeN l.length : Int) := by
  unfold bytesE at h
  split at h
  · exact absurd h (by decide)
  · rename_i hm
    rw [if_neg (fun k => k hs)] at h
    split at h
    · exact absurd h (by decide)
    · rename_i hf
      exact ⟨Decidable.of_not_not hm, by omega⟩
theorem line_sec {T : Tb} {S : List Tb} {x : Ln} (h : x ∈ allLines T S) : secE x.2.2 := by
  rcases List.mem_append.1 h with h | h
  · obtain ⟨c, _, h1, rfl⟩ := linesTo_mem h
    exact h1
  · obtain ⟨i, _, h⟩ := List.mem_flatMap.1 h
    obtain ⟨c, _, h1, rfl⟩ := linesTo_mem h
    exact h1
theorem equalIn_ex (n : Nat) (a b a' b' : Int) (w : World) : (Op.equalIn (n + 2) 112 (.agg #[.int .i64 a, .int .i64 b]) (.agg #[.int .i64 a', .int .i64 b'])).run Tryz.prog w = .ok (decide (a = a' ∧ b = b')) w := by
  have hf : Tryz.prog.underlying 112 = some (.struct (Tryz.prog.fieldsOf 112)) := by kernel_rfl
  have hp : Tryz.prog.stoodInHeld 112 = false := by kernel_rfl
  rw [run_equalIn_struct w (n + 1) 112 _ _ hf hp]
  unfold Program.fieldsOf
  rw [Tryz.underlying112]
  have i3 := fun (w : World) (a b : Int) => run_equalIn_int (P := Tryz.prog) w n 3 .i64 .i64 a b Tryz.underlying3
  have s3 : (Tryz.prog.info? 3).map (·.size) = some 1 := by kernel_rfl
  simp [Op.eqFields, go_sem, i3]
  by_cases h1 : a = a' <;> by_cases h2 : b = b' <;> simp [h1, h2]
theorem neq_ex (a b a' b' : Int) (w : World) : (binOp .neq 112 (.agg #[.int .i64 a, .int .i64 b]) (.agg #[.int .i64 a', .int .i64 b'])).run Tryz.prog w = .ok (.bool (!decide (a = a' ∧ b = b'))) w := by
  rw [run_neq_struct, equalIn_ex 9998 a b a' b' w]
  rfl
theorem guard_ex : Tryz.prog.eqGuardType Tryz.prog.depth 112 = false := by kernel_rfl
theorem slice_ex (X K p q : Nat) (hq : 1 ≤ q) (h : p + q ≤ K) (w : World) : (Instr.slice 110 (.slice (some ⟨X, 0, none⟩) K K) (some (.int .i64 p)) (some (.int .i64 ((p : Int) + (q : Int)))) none).run Tryz.prog w = .ok (.slice (some ⟨X, p * 2, none⟩) q (K - p)) w := by
  obtain ⟨i0, hi, he⟩ := Option.map_eq_some_iff.1 ex_info
  simp only [Prod.mk.injEq] at he
  obtain ⟨r, hr⟩ : ∃ r : Nat, r = p + q := ⟨_, rfl⟩
  have e1 : (p : Int) + (q : Int) = (r : Int) := by omega
  have e2 : q = r - p := by omega
  have b1 : r ≤ K := by omega
  have b2 : p ≤ r := by omega
  have b3 : ¬ K = p := by omega
  rw [e1, e2]
  clear e1 e2
  simp [Instr.slice, Instr.sliceBounds, Instr.sliceBound, asIntOf, run_underlying Tryz.underlying110, sizeOf, typeInfo, hi, he.2.1, b1, b2, b3, Addr.add, go_sem]
  omega
set_option maxRecDepth 100000 in
set_option maxHeartbeats 3200000 in
theorem badLines15 (w : World) (a : Option Addr) (n cp : Nat) (l : List Int) (hB : Bytes w a n l) (hc : n ≤ cp) (hnil : a = none → cp = 0) (hn : n ≤ 1000000000) (c s : Int) (bk : ByteArray) (a0 : Option Addr) (n0 c0 : Nat) (sa : Option Addr) (sn sc : Nat) (a5 : Option Addr) (n5 c5 : Nat) (a6 : Option Addr) (n6 c6 : Nat) (T : Tb) (S : List Sh)
    (hT : Tab w a0 n0 c0 T) (hS : ShsR w sa sn S) (hR : RightX T S) (hsn : sn ≤ 900) :
    Calls Tryz.prog 40 #[.agg #[.int .i64 c, .int .i64 s, .string bk, .slice a0 n0 c0, .slice sa sn sc, .slice a5 n5 c5, .slice a6 n6 c6], .slice a n cp] w fun e w' => ∃ (a' : Option Addr) (N c' : Nat), e = .returned (.slice a' N c') ∧ OwnLn w' w.heap.size (.slice a' N c') N (badL l c (allLines T (S.map shT))) ∧ Below w.heap.size w w' := by
  have hll : l.length = n := hB.1
  obtain ⟨K, hK⟩ := named (wholeN n)
  have hK1 : K ≤ 65536 := by rw [← hK.out]; unfold wholeN; omega
  have HSO := Lib.hid (fun W => sectorsOf15 W a n cp hn hK.out)
  have HEA := Lib.hid (fun W (hb : Below w.heap.size w W) => each_any W c s bk a0 n0 c0 sa sn sc a5 n5 c5 a6 n6 c6 T S (hT.later hb) (hS.later hb) hR hsn)
  have HBY := Lib.hid (fun W (hb : Below w.heap.size w W) (k s q z m : Int) (ho : EnOk (k, s, q, z, m)) => checkBytes W a n cp l (hB.later hb) hc hnil hn (cl := c) ho)
  have HLK : Hid (∀ x ∈ allLines T (S.map shT), LnOk x ∧ secE x.2.2) := fun x hx => ⟨all_ok hT hS hR hsn x hx, line_sec hx⟩
  have hLlen : (allLines T (S.map shT)).length ≤ 3700000 := by
    obtain ⟨v, hv⟩ := vtx_of (tabsX_ok hT hS hR hsn)
    have hvl : v.length = sn + 1 := by
      have := congrArg List.length hv
      rw [List.length_map] at this
      rw [this]
      simp [tabsX, shX, hS.len]
    have := lines_len v
    rw [lines_is hv] at this
    omega
  obtain ⟨L, hL⟩ := named (allLines T (S.map shT))
  rw [hL.out] at HLK HEA hLlen ⊢
  clear hB hT hS hR hL hc hnil
  have HM0 := Lib.hid (Blk.new w 41 #[.int .i64 c, .int .i64 s, .string bk, .slice a0 n0 c0, .slice sa sn sc, .slice a5 n5 c5, .slice a6 n6 c6])
  have HB0 := Lib.hid ((Below.refl w.heap.size w).alloc (Nat.le_refl _) (.cells #[.int .i64 c, .int .i64 s, .string bk, .slice a0 n0 c0, .slice sa sn sc, .slice a5 n5 c5, .slice a6 n6 c6] 41))
  have hmk : ∀ w' : World, (Instr.makeSlice 110 (.int .i64 K) (.int .i64 K)).run Tryz.prog w' = .ok (.slice (some ⟨w'.heap.size, 0, none⟩) K K) (w'.alloc (.cells (madeCells #[.int .i64 0, .int .i64 0] (K * 2)) 112)) := fun w' => (make_occ w' K (by omega)).1
  have HO1 := Lib.hid (make_occ (w.alloc (.cells #[.int .i64 c, .int .i64 s, .string bk, .slice a0 n0 c0, .slice sa sn sc, .slice a5 n5 c5, .slice a6 n6 c6] 41)) K (by omega)).2
  rw [World.size_alloc] at HO1
  have HB1 := Lib.hid (HB0.out.alloc (by rw [World.size_alloc]; omega) (.cells (madeCells #[.int .i64 0, .int .i64 0] (K * 2)) 112))
  have HM1 := Lib.hid (HM0.out.alloc (.cells (madeCells #[.int .i64 0, .int .i64 0] (K * 2)) 112))
  go_enter Tryz.func40, Tryz.ntmps40
  go_wp2
  go_step3
  go_wp2_with (first
    | (go_at_call 29; (with_reducible refine (HSO.out _).mono ?_); rintro e w1 ⟨rfl, hw⟩; obtain rfl := hw.symm))
  go_step3
  go_wp2_with (first
    | (go_at_call 71; (with_reducible refine (HEA.out _ HB1.out).mono ?_); rintro e w3 ⟨la, NL, lc, rfl, hO, hb⟩; have HL3 := Lib.hid hO; have HM3 := Lib.hid (HM1.out.later hb); have HO3 := Lib.hid (HO1.out.kept (grown_below hb none) (fun e => by cases e)); have HB3 := Lib.hid (HB1.out.trans (hb.mono HB1.out.size)); clear hO hb))
  have hxi := ex_info
  have hge := guard_ex
  have hNL : NL ≤ 3700000 := by have := HL3.out.2.1; omega
  obtain ⟨Q, hQ⟩ := named w3.heap.size
  have hsz1 : w.heap.size + 2 ≤ Q := by
    have h1 := HB1.out.size; have h2 := HM3.out.lt; have h3 := HO3.out.lt; have := hQ.out; omega
  go_loopw [5, 22] (fun b i wr => ∃ (j N cc : Nat) (ba : Option Addr) (o : Occ) (B : List Ln), j ≤ NL ∧ N ≤ j ∧ b = .slice ba N cc ∧ i = .int .i64 j ∧ Hid (badRun l c (L.take j) = (o, B)) ∧ Hid (OccIn wr (w.heap.size + 1) K o) ∧ Hid (OwnLn wr Q (.slice ba N cc) N B) ∧ Hid (w3.grownBy wr (some (w.heap.size + 1)))) (fun _ i _ => NL - (intOf i).toNat)
  case atStart => exact ⟨0, 0, 0, none, _, _, Nat.zero_le _, Nat.le_refl _, rfl, rfl, rfl, HO3.out, OwnG.none _ _ _ _ _, ⟨rfl, rfl, rfl, Nat.le_refl _, fun _ _ _ => rfl⟩⟩
  case round =>
    obtain ⟨j, N, cc, ba, o, B, hj, hNj, rfl, rfl, HRN, HO, HBL, HG⟩ := hrel
    by_cases hlt : j < NL
    · have hi : (j : Int) < (NL : Int) := by omega
      obtain ⟨ocs, hoc, _, _⟩ := HO3.out
      have HLr := Lib.hid (HL3.out.kept' HG.out (fun k hk e => by cases e; exact hoc.not_row (by decide) HL3.out hk.symm))
      obtain ⟨bl, off, sh, cl, k, st, ct, z, m, hla, hx, e0, e1, e2, e3, e4, e5, e6⟩ := ln_at (OwnG.reads ln_rowed HLr.out).1 j hlt
      subst hla
      obtain ⟨⟨hok, hsh, hcl, hst, hct, hsum⟩, hsec⟩ := HLK.out _ (List.mem_of_getElem? hx)
      dsimp only at hok hsh hcl hst hct hsum hsec
      obtain ⟨p, rfl⟩ : ∃ p : Nat, st = p := ⟨st.toNat, by omega⟩
      obtain ⟨q, rfl⟩ : ∃ q : Nat, ct = q := ⟨ct.toNat, by omega⟩
      have HTK : Hid (badRun l c (L.take (j + 1)) = stepB l c (o, B) (sh, cl, k, (p : Int), (q : Int), z, m)) := by
        rw [Hid, List.take_add_one, hx, ← HRN.out]
        exact badRun_snoc l c (L.take j) _
      have hQr : Q ≤ wr.heap.size := by have h1 := HG.out.size; have := hQ.out; omega
      have HBW := Lib.hid (HB3.out.grown HG.out HB3.out.size (fun k hk => by have := Option.some.inj hk; omega))
      have HA := Lib.hid ((Below.refl wr.heap.size wr).alloc (Nat.le_refl _) (.cells #[.int .i64 sh, .int .i64 cl, .int .i64 k, .int .i64 p, .int .i64 q, .int .i64 z, .int .u32 m] 58))
      have HCB := Lib.hid (HBY.out _ (HBW.out.trans (HA.out.mono HBW.out.size)) k p q z m hok)
      have hmb := HM3.out.kept HG.out (fun e => by have := Option.some.inj e; omega)
      have hd0 := (cellsG (hmb.alloc (.cells #[.int .i64 sh, .int .i64 cl, .int .i64 k, .int .i64 p, .int .i64 q, .int .i64 z, .int .u32 m] 58))).1
      have HLB := Lib.hid (Blk.new wr 58 #[.int .i64 sh, .int .i64 cl, .int .i64 k, .int .i64 p, .int .i64 q, .int .i64 z, .int .u32 m])
      obtain ⟨f0, f1, f2, f3, f4, f5, f6⟩ := cellsG HLB.out
      obtain ⟨er, her⟩ := named (bytesE (k, (p : Int), (q : Int), z, m) l c).2
      obtain ⟨bs, hbs⟩ := named (bytesE (k, (p : Int), (q : Int), z, m) l c).1
      obtain ⟨bn, hbn⟩ := named bs.length
      rw [her.out, hbs.out] at HCB
      have HER := Lib.hid her.out
      have HSEC := Lib.hid hsec
      have HLL := Lib.hid hll
      clear hmb hx hok hsum hsh hcl hoc
      by_cases hbad : er = 0
      · subst hbad
        have hfit := (bytesE_fit HSEC.out HER.out).2
        dsimp only at hfit
        rw [HLL.out, hK.out] at hfit
        have hpq : p + q ≤ K := by omega
        have hq0 : 1 ≤ q := by omega
        have hsl := slice_ex (w.heap.size + 1) K p q hq0 hpq
        have hpw : IntKind.i64.wrap ((p : Int) + (q : Int)) = (p : Int) + (q : Int) := IntWalk.i64_in _ (by omega)
        clear hfit
        go_wp2_with (first
          | (go_at_call 11; (with_reducible refine HCB.out.mono ?_); rintro e w4 hp; obtain ⟨xa, xc, rfl, _, _, hb⟩ := hp.sized hbn.out; have HB4 := Lib.hid (HA.out.trans (hb.mono HA.out.size)); have HLB4 := Lib.hid (HLB.out.later hb); have HOWN := Lib.hid (Blk.new w4 112 #[.int .i64 p, .int .i64 q]); have HB5 := Lib.hid (HB4.out.alloc HB4.out.size (.cells #[.int .i64 p, .int .i64 q] 112)); clear hp hb f0 f1 f2 f3 f4 f5 f6; obtain ⟨f0, f1, f2, f3, f4, f5, f6⟩ := cellsG HLB4.out; obtain ⟨g0, g1⟩ := cells2G HOWN.out))
        have HQ5 : Hid (Q ≤ w4.heap.size) := Nat.le_trans hQr HB4.out.size
        have HO5 := Lib.hid (HO.out.kept (grown_below HB5.out none) (fun e => by cases e))
        have HBL5 := Lib.hid (HBL.out.kept' (grown_below HB5.out none) (fun k _ e => by cases e))
        have HG5 := Lib.hid (grown_trans HG.out (grown_below HB5.out _))
        have HLB5 := Lib.hid (HLB4.out.alloc (.cells #[.int .i64 p, .int .i64 q] 112))
        clear HO HBL HG HBW HA HCB HLB HLB4 HB4 HB5 f0 f1 f2 f3 f4 f5 f6 g0 g1 hd0 e0 e1 e2 e3 e4 e5 e6 hsl hpw HLr
        go_loopw [5, 59] (fun b5 i wx => ∃ (t : Nat), t ≤ q ∧ b5 = .slice ba N cc ∧ i = .int .i64 t ∧ Hid (Below (w4.alloc (.cells #[.int .i64 p, .int .i64 q] 112)).heap.size (w4.alloc (.cells #[.int .i64 p, .int .i64 q] 112)) wx) ∧ Hid (∀ u, u < t → (o (p + u) = ((p : Int), (q : Int)) ∨ o (p + u) = (0, 0)))) (fun _ i _ => q - (intOf i).toNat)
        case atStart => exact ⟨0, Nat.zero_le _, rfl, rfl, Below.refl _ _, fun u hu => absurd hu (Nat.not_lt_zero _)⟩
        case round =>
          obtain ⟨t, ht, rfl, rfl, HBX, HEQ⟩ := hrel
          by_cases ht2 : t < q
          · have hi2 : (t : Int) < (q : Int) := by omega
            have hO6 := HO5.out.kept (grown_below HBX.out none) (fun e => by cases e)
            obtain ⟨h1, h2⟩ := hO6.cell (i := p + t) (by omega)
            rw [show (p + t) * 2 = p * 2 + t * 2 by omega] at h1 h2
            obtain ⟨y1, hy1⟩ := named (o (p + t)).1
            obtain ⟨y2, hy2⟩ := named (o (p + t)).2
            rw [hy1.out] at h1
            rw [hy2.out] at h2
            have HYY : Hid (o (p + t) = (y1, y2)) := by rw [Hid, ← hy1.out, ← hy2.out]
            have HOWN7 := Lib.hid ((HOWN.out.later HBX.out).alloc (.cells #[.int .i64 y1, .int .i64 y2] 112))
            obtain ⟨g0, g1⟩ := cells2G HOWN7.out
            have HLB7 := Lib.hid ((HLB5.out.later HBX.out).alloc (.cells #[.int .i64 y1, .int .i64 y2] 112))
            obtain ⟨f0, f1, f2, f3, f4, f5, f6⟩ := cellsG HLB7.out
            have HB7 := Lib.hid (HBX.out.alloc HBX.out.size (.cells #[.int .i64 y1, .int .i64 y2] 112))
            clear hO6
            by_cases hs : y1 = (p : Int) ∧ y2 = (q : Int)
            · have hq1 : ∀ w : World, (binOp .neq 112 (.agg #[.int .i64 y1, .int .i64 y2]) (.agg #[.int .i64 p, .int .i64 q])).run Tryz.prog w = .ok (.bool false) w := fun w => by rw [neq_ex, decide_eq_true hs]; rfl
              have HEQ2 : Hid (∀ u, u < t + 1 → (o (p + u) = ((p : Int), (q : Int)) ∨ o (p + u) = (0, 0))) := fun u hu => by
                by_cases e : u = t
                · subst e
                  exact Or.inl (by rw [HYY.out, hs.1, hs.2])
                · exact HEQ.out u (by omega)
              clear hs HEQ
              go_wp2
              go_roundw
              case rel => exact ⟨t + 1, by omega, rfl, by go_num, HB7.out, HEQ2.out⟩
              case measure => simp [intOf]; omega
            · have hq1 : ∀ w : World, (binOp .neq 112 (.agg #[.int .i64 y1, .int .i64 y2]) (.agg #[.int .i64 p, .int .i64 q])).run Tryz.prog w = .ok (.bool true) w := fun w => by rw [neq_ex, decide_eq_false hs]; rfl
              by_cases hz : y1 = 0 ∧ y2 = 0
              · have hq2 : ∀ w : World, (binOp .neq 112 (.agg #[.int .i64 y1, .int .i64 y2]) (.agg #[.int .i64 0, .int .i64 0])).run Tryz.prog w = .ok (.bool false) w := fun w => by rw [neq_ex, decide_eq_true hz]; rfl
                have HEQ2 : Hid (∀ u, u < t + 1 → (o (p + u) = ((p : Int), (q : Int)) ∨ o (p + u) = (0, 0))) := fun u hu => by
                  by_cases e : u = t
                  · subst e
                    exact Or.inr (by rw [HYY.out, hz.1, hz.2])
                  · exact HEQ.out u (by omega)
                clear hs hz HEQ
                go_wp2
                go_roundw
                case rel => exact ⟨t + 1, by omega, rfl, by go_num, HB7.out, HEQ2.out⟩
                case measure => simp [intOf]; omega
              · have hq2 : ∀ w : World, (binOp .neq 112 (.agg #[.int .i64 y1, .int .i64 y2]) (.agg #[.int .i64 0, .int .i64 0])).run Tryz.prog w = .ok (.bool true) w := fun w => by rw [neq_ex, decide_eq_false hz]; rfl
                have HST : Hid (badRun l c (L.take (j + 1)) = (o, B ++ [(sh, cl, k, (p : Int), (q : Int), z, m)])) := by
                  rw [HTK.out]
                  exact stepB_meet HER.out rfl rfl ⟨p + t, by omega, by omega, by show o (p + t) ≠ _; rw [HYY.out]; exact fun e => hs (by rw [Prod.mk.injEq] at e; exact e), by show o (p + t) ≠ _; rw [HYY.out]; exact fun e => hz (by rw [Prod.mk.injEq] at e; exact e)⟩
                clear hs hz HEQ
                have HBL7 := Lib.hid (HBL5.out.kept' (grown_below HB7.out none) (fun k _ e => by cases e))
                have HO7 := Lib.hid (HO5.out.kept (grown_below HB7.out none) (fun e => by cases e))
                have HG7 := Lib.hid (grown_trans HG5.out (grown_below HB7.out _))
                have hQ7 : Q ≤ wr.heap.size := by have h1 := HQ5.out; have h2 := HBX.out.size; rw [World.size_alloc] at h2; omega
                go_wp2_with (first
                  | (at_builtin; refine append_lg ln_rowed rfl _ _ rfl Q _ N B rfl (HBL7.out.alloc (.cells #[.int .i64 sh, .int .i64 cl, .int .i64 k, .int .i64 p, .int .i64 q, .int .i64 z, .int .u32 m] 58)) (some ⟨wr.heap.size + 1, 0, none⟩) 1 1 [(sh, cl, k, (p : Int), (q : Int), z, m)] rfl (fun e => by cases e) (one_reads2 wr (.cells #[.int .i64 y1, .int .i64 y2] 112) (sh, cl, k, (p : Int), (q : Int), z, m) #[.int .i64 sh, .int .i64 cl, .int .i64 k, .int .i64 p, .int .i64 q, .int .i64 z, .int .u32 m] 58 rfl) (by omega) (by rw [World.size_alloc, World.size_alloc]; omega) ?_; intro pa c9 w9 g1 g2 g3; have HBL9 := Lib.hid g1; have HG9 := Lib.hid (grown_alloc g2); clear g1 g2 g3))
                go_roundw
                case rel => exact ⟨j + 1, N + 1, c9, pa, o, _, by omega, by omega, rfl, by go_num, HST.out, HO7.out.kept HG9.out (fun e => absurd (HBL7.out.1.lt _ e).1 (by omega)), HBL9.out, grown_row HG7.out HG9.out (fun k hk => by have := (HBL7.out.1.lt k hk).1; have := hQ.out; omega)⟩
                case measure => simp [intOf]; omega
          · obtain rfl : t = q := by omega
            have hnm : ¬ meets o p t := by
              rintro ⟨i, h1, h2, h3, h4⟩
              have h := HEQ.out (i - p) (by omega)
              rw [show p + (i - p) = i by omega] at h
              exact h.elim h3 h4
            have HST : Hid (badRun l c (L.take (j + 1)) = (laid15 o p t, B)) := by
              rw [HTK.out]
              exact stepB_good HER.out rfl rfl hnm
            have HO6 := Lib.hid (HO5.out.kept (grown_below HBX.out none) (fun e => by cases e))
            have HBL6 := Lib.hid (HBL5.out.kept' (grown_below HBX.out none) (fun k _ e => by cases e))
            have HG6 := Lib.hid (grown_trans HG5.out (grown_below HBX.out _))
            have HOWN6 := Lib.hid (HOWN.out.later HBX.out)
            clear hnm HEQ HTK HO5 HBL5 HG5 HOWN HLB5
            go_wp2
            go_loopw [78] (fun i wx => ∃ (u : Nat), u ≤ t ∧ i = .int .i64 u ∧ Hid (OccIn wx (w.heap.size + 1) K (layTo o p t u)) ∧ Hid (wr.grownBy wx (some (w.heap.size + 1)))) (fun i _ => t - (intOf i).toNat)
            case atStart => exact ⟨0, Nat.zero_le _, rfl, by rw [layTo_zero]; exact HO6.out, ⟨rfl, rfl, rfl, Nat.le_refl _, fun _ _ _ => rfl⟩⟩
            case round =>
              obtain ⟨u, hu, rfl, HO7, HG7⟩ := hrel
              by_cases hu2 : u < t
              · have hi3 : (u : Int) < (t : Int) := by omega
                obtain ⟨g0, g1⟩ := cells2G (HOWN6.out.kept HG7.out (fun e => by have h1 := Option.some.inj e; have h2 := HQ5.out; omega))
                obtain ⟨cur, k1, k2, k3, k4⟩ := HO7.out.put_at (i := p + u) (off := p * 2 + u * 2) (by omega) (by omega) (p : Int) (t : Int)
                obtain ⟨w8, hw8⟩ := named (wr.setRow (w.heap.size + 1) (cur.toList.take (p * 2 + u * 2) ++ (#[Value.int .i64 (p : Int), Value.int .i64 (t : Int)]).toList ++ cur.toList.drop (p * 2 + u * 2 + (#[Value.int .i64 (p : Int), Value.int .i64 (t : Int)]).toList.length)).toArray)
                have HO8 : Hid (OccIn w8 (w.heap.size + 1) K (layTo o p t (u + 1))) := by
                  rw [Hid, ← layTo_succ, ← hw8.out]
                  exact k3
                have HG8 : Hid (wr.grownBy w8 (some (w.heap.size + 1))) := by
                  rw [Hid, ← hw8.out]
                  exact k4
                clear k3 k4
                go_wp2_with (refine wpList_store_in9 rfl (.tmp 84) (.tmp 83) rfl (w.heap.size + 1) (p * 2 + u * 2) cur #[Value.int .i64 (p : Int), Value.int .i64 (t : Int)] (by rfl) (by rfl) k1 ex_size k2 (fun v hv => by simp at hv; rcases hv with rfl | rfl <;> rfl) ?_; rw [hw8.out])
                go_roundw
                case rel => exact ⟨u + 1, by omega, by go_num, HO8.out, grown_trans HG7.out HG8.out⟩
                case measure => simp [intOf]; omega
              · obtain rfl : u = t := by omega
                go_wp2
                go_roundw
                case rel => exact ⟨j + 1, N, cc, ba, _, B, by omega, by omega, rfl, by go_num, HST.out, HO7.out, HBL6.out.kept' HG7.out (fun k hk e => by have h1 := Option.some.inj e; have := (HBL6.out.1.lt k hk).1; omega), grown_trans HG6.out HG7.out⟩
                case measure => simp [intOf]; omega
      · have hbad2 : (er == 0) = false := by simp [hbad]
        have HST : Hid (badRun l c (L.take (j + 1)) = (o, B ++ [(sh, cl, k, (p : Int), (q : Int), z, m)])) := by rw [HTK.out]; exact stepB_bad (by rw [HER.out]; exact hbad)
        go_wp2_with (first
          | (go_at_call 11; (with_reducible refine HCB.out.mono ?_); rintro e w4 hp; obtain ⟨xa, xc, rfl, _, _, hb⟩ := hp.sized hbn.out; have HB4 := Lib.hid (HA.out.trans (hb.mono HA.out.size)); have HLB4 := Lib.hid (HLB.out.later hb); have HBL4 := Lib.hid (HBL.out.kept' (grown_below HB4.out none) (fun k _ e => by cases e)); have hQ4 : Q ≤ w4.heap.size := Nat.le_trans hQr HB4.out.size; clear hp hb f0 f1 f2 f3 f4 f5 f6; obtain ⟨f0, f1, f2, f3, f4, f5, f6⟩ := cellsG HLB4.out)
          | (at_builtin; refine append_lg ln_rowed rfl _ _ rfl Q _ N B rfl (HBL4.out.alloc (.cells #[.int .i64 sh, .int .i64 cl, .int .i64 k, .int .i64 p, .int .i64 q, .int .i64 z, .int .u32 m] 58)) (some ⟨w4.heap.size, 0, none⟩) 1 1 [(sh, cl, k, (p : Int), (q : Int), z, m)] rfl (fun e => by cases e) (one_reads w4 (sh, cl, k, (p : Int), (q : Int), z, m) #[.int .i64 sh, .int .i64 cl, .int .i64 k, .int .i64 p, .int .i64 q, .int .i64 z, .int .u32 m] 58 rfl) (by omega) (by rw [World.size_alloc]; omega) ?_; intro pa c9 w9 g1 g2 g3; have HBL9 := Lib.hid g1; have HG9 := Lib.hid (grown_alloc g2); clear g1 g2 g3))
        go_roundw
        case rel => exact ⟨j + 1, N + 1, c9, pa, o, _, by omega, by omega, rfl, by go_num, HST.out, (HO.out.kept (grown_below HB4.out none) (fun e => by cases e)).kept HG9.out (fun e => absurd (HBL4.out.1.lt _ e).1 (by omega)), HBL9.out, grown_row (grown_trans HG.out (grown_below HB4.out _)) HG9.out (fun k hk => by have := (HBL4.out.1.lt k hk).1; have := hQ.out; omega)⟩
        case measure => simp [intOf]; omega
    · obtain rfl : j = NL := by omega
      have hR2 := HRN.out
      rw [List.take_of_length_le (by have := HL3.out.2.1; omega)] at hR2
      have HBB := Lib.hid (HB3.out.grown HG.out HB3.out.size (fun k hk => by have := Option.some.inj hk; omega))
      have HBE : Hid (badL l c L = B) := by unfold badL; rw [Hid, hR2]
      go_wp2
      try rw [Exit.noGoto_ret]
      go_ret
      exact ⟨ba, N, cc, rfl, by rw [HBE.out]; exact HBL.out.mono9 (by omega), HBB.out⟩
end Go.Proofs.YtlljcdmblmkblaaGreat
