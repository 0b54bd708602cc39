/-
  What MapOthers wants: one bitmap of a list, a list whose sets are spoilt one by one. Conditions: none.
-/
import Derived.Test.YtjaaieamlgghhaaUq
import Derived.Deep.QuietTactic
namespace Go.Proofs.Ytjaaieamlgghhaa
open Go.RowKit
set_option linter.unusedVariables false

theorem reads_sub {α : Type} {P : Program} {t e : TypeId} {bytes : Nat} {cv : α → List Value} (R : Rowed P t e 3 bytes cv) {w : World} {b off n : Nat} {ds : List α} (h : Reads cv w (some ⟨b, off, none⟩) n ds) (i : Nat) (d : α) (hd : ds[i]? = some d) : Reads cv w (some ⟨b, off + i * 3, none⟩) 1 [d] := by
  obtain ⟨h1, h2, h3⟩ := h
  have hi := (List.getElem?_eq_some_iff.1 hd).1
  obtain ⟨b', off', e1, hb, hc⟩ := h3.resolve_left (by omega)
  cases e1
  refine ⟨rfl, by omega, Or.inr ⟨_, _, rfl, hb, fun j u hu => ?_⟩⟩
  rw [List.flatMap_cons, List.flatMap_nil, List.append_nil] at hu
  have hj : j < 3 := by
    have := (List.getElem?_eq_some_iff.1 hu).1
    rwa [R.len] at this
  have := hc (i * 3 + j) u (by rw [flat_at R.len ds i j d hd hj]; exact hu)
  rwa [← Nat.add_assoc] at this
/-- One bitmap, as a list. -/
theorem BmsD.sub {w : World} {b off len cap : Nat} {B : List BmM} (h : BmsD w (some ⟨b, off, none⟩) len cap B) (i : Nat) (d : BmM) (hd : B[i]? = some d) : BmsD w (some ⟨b, off + i * 3, none⟩) 1 (cap - i) [d] := by
  obtain ⟨ds, ⟨h1, h2⟩, rfl, h3, h4, h5⟩ := h
  rw [List.getElem?_map] at hd
  cases hx : ds[i]? with
  | none => rw [hx] at hd; cases hd
  | some x =>
    rw [hx] at hd
    cases hd
    have hi : i < len := by have := (List.getElem?_eq_some_iff.1 hx).1; have := h1.1; omega
    exact ⟨[x], ⟨reads_sub bm_rowed h1 i x hx, fun d hd => by
      obtain rfl : d = x := by simpa using hd
      exact h2 _ (List.mem_of_getElem? hx)⟩, rfl, ⟨fun e => (by cases e), by have := h3.2; omega⟩, by omega, fun d hd => by
      obtain rfl : d = bmM x := by simpa using hd
      exact h5 _ (List.mem_map.2 ⟨x, List.mem_of_getElem? hx, rfl⟩)⟩
theorem slice_midB {b off j c p q : Nat} (h1 : p ≤ q) (h2 : q ≤ c) (h3 : ¬ c = p) (w' : World) : (Instr.slice 26 (.slice (some ⟨b, off, none⟩) j c) (some (.int .i64 p)) (some (.int .i64 q)) none).run Try.prog w' = .ok (.slice (some ⟨b, off + p * 3, none⟩) (q - p) (c - p)) w' := by
  obtain ⟨i0, hi0, hi1⟩ := Option.map_eq_some_iff.1 bitmap_size
  simp [Instr.slice, Instr.sliceBounds, Instr.sliceBound, asIntOf, run_underlying Try.underlying26, sizeOf, typeInfo, hi0, hi1, h1, h2, h3, Addr.add, go_sem]
theorem slice_oneB {b off j c p : Nat} (h1 : p < j) (h2 : j ≤ c) (w' : World) : (Instr.slice 26 (.slice (some ⟨b, off, none⟩) j c) (some (.int .i64 p)) (some (.int .i64 ((p : Int) + 1))) none).run Try.prog w' = .ok (.slice (some ⟨b, off + p * 3, none⟩) 1 (c - p)) w' := by
  have := slice_midB (b := b) (off := off) (j := j) (c := c) (p := p) (q := p + 1) (by omega) (by omega) (by omega) w'
  rwa [show p + 1 - p = 1 by omega, show (((p + 1 : Nat) : Int)) = (p : Int) + 1 by omega] at this
theorem BmsN.apart {w w' : World} {base len cap : Nat} {a : Option Addr} {B : List BmM} (h : BmsN w base a len cap B) {g : Nat} (hg : w.grownBy w' (some g)) (hlt : g < base) : BmsN w' base a len cap B := by
  obtain ⟨ds, h1, h2, h3, h4⟩ := h
  exact ⟨ds, h1.kept' hg fun k hk e => by cases e; have := (h1.1.lt _ hk).1; omega, fun d hd => ⟨(h2 d hd).1.kept' hg fun k hk e => by cases e; have := ((h2 d hd).1.1.lt _ hk).1; omega, (h2 d hd).2⟩, h3, h4⟩
/-- The sets ahead of i are spoilt. -/
structure Spo (V : World) (lim : Nat) (g len c : Nat) (ds : List Bm) (aw : Option Addr) (cw : Nat) (B : List BmM) (i : Nat) (W : World) : Prop where
  row : OwnG bmV 53 3 W V.heap.size (.slice (some ⟨g, 0, none⟩) len c) len ds
  sps : ∀ (k : Nat) (d : Bm), i ≤ k → ds[k]? = some d → SpN W V.heap.size d.2.2.1 d.2.2.2.1 d.2.2.2.2.1 (bmL d)
  sep : ApartB ds
  low : ∀ d ∈ ds, ∀ x, rowOf d = some x → x < lim
  was : BmsN W lim aw len cw B
  dat : Below V.heap.size V W
theorem Spo.later {V W W' : World} {lim g len c : Nat} {ds : List Bm} {aw : Option Addr} {cw : Nat} {B : List BmM} {i : Nat} (h : Spo V lim g len c ds aw cw B i W) (hb : Below W.heap.size W W') : Spo V lim g len c ds aw cw B i W' :=
  ⟨h.row.laterB hb, fun k d hk hd => (h.sps k d hk hd).off (Off.none _ _) (grown_of_below hb), h.sep, h.low, h.was.later hb, h.dat.trans (hb.mono h.dat.size)⟩
theorem Spo.next {V W : World} {lim g len c : Nat} {ds : List Bm} {aw : Option Addr} {cw : Nat} {B : List BmM} {i : Nat} (h : Spo V lim g len c ds aw cw B i W) : Spo V lim g len c ds aw cw B (i + 1) W :=
  ⟨h.row, fun k d hk hd => h.sps k d (by omega) hd, h.sep, h.low, h.was, h.dat⟩
/-- Within the i-th set. -/
def SpoI (V : World) (lim : Nat) (g len c : Nat) (ds : List Bm) (aw : Option Addr) (cw : Nat) (B : List BmM) (i : Nat) (al : Option Addr) (ll cl : Nat) (W : World) : Prop := Spo V lim g len c ds aw cw B (i + 1) W ∧ ∃ l, OwnSp W V.heap.size (.slice al ll cl) ll l
theorem Spo.first {V W : World} {lim g len c : Nat} {ds : List Bm} {aw : Option Addr} {cw : Nat} {B : List BmM} {i : Nat} (h : Spo V lim g len c ds aw cw B i W) {nm : ByteArray} {on : Bool} {al : Option Addr} {ll cl : Nat} {l : List Sp} (hd : ds[i]? = some (nm, on, al, ll, cl, l)) : SpoI V lim g len c ds aw cw B i al ll cl W := ⟨h.next, l, (h.sps i _ (Nat.le_refl _) hd).1⟩
theorem Spo.cells {V W : World} {lim g len c : Nat} {ds : List Bm} {aw : Option Addr} {cw : Nat} {B : List BmM} {i k : Nat} (h : Spo V lim g len c ds aw cw B i W) {nm : ByteArray} {on : Bool} {al : Option Addr} {ll cl : Nat} {l : List Sp} (hd : ds[k]? = some (nm, on, al, ll, cl, l)) (hk : k < len) : W.cell? ⟨g, k * 3, none⟩ = some (.string nm) ∧ W.cell? ⟨g, k * 3 + 1, none⟩ = some (.bool on) ∧ W.cell? ⟨g, k * 3 + 2, none⟩ = some (.slice al ll cl) := by
  obtain ⟨g', d', e, _, _, hd', ⟨x0, x1, x2⟩, _⟩ := own3_at bm_rowed h.row k hk
  cases e
  have := Option.some.inj (hd.symm.trans hd')
  cases this
  exact ⟨x0, x1, x2⟩
theorem Spo.one {V W : World} {lim g len c : Nat} {ds : List Bm} {aw : Option Addr} {cw : Nat} {B : List BmM} {i : Nat} (h : Spo V lim g len c ds aw cw B i W) {d : Bm} (hd : ds[i]? = some d) (hi : i < len) (hnm : d.1.size ≤ 9223372036854775807) : BmsD W (some ⟨g, i * 3, none⟩) 1 (c - i) [bmM d] := by
  obtain ⟨h1, h2, h3⟩ := h.row.reads bm_rowed
  have := reads_sub bm_rowed h1 i d hd
  rw [Nat.zero_add] at this
  exact ⟨[d], ⟨this, fun x hx => by
    obtain rfl : x = d := by simpa using hx
    exact (h.sps i _ (Nat.le_refl _) hd).d⟩, rfl, ⟨fun e => (by cases e), by omega⟩, by omega, fun x hx => by
    obtain rfl : x = bmM d := by simpa using hx
    exact hnm⟩
theorem slice_oneZ {b j c p : Nat} (h1 : p < j) (h2 : j ≤ c) (w' : World) : (Instr.slice 26 (.slice (some ⟨b, 0, none⟩) j c) (some (.int .i64 p)) (some (.int .i64 ((p : Int) + 1))) none).run Try.prog w' = .ok (.slice (some ⟨b, p * 3, none⟩) 1 (c - p)) w' := by
  have := slice_oneB (b := b) (off := 0) h1 h2 w'
  rwa [Nat.zero_add] at this
theorem exec_slice {P : Program} {W : World} {a : Act} {o : Oper} (t : TypeId) (x lo hi : Operand) (ho : o.op = .slice t x (some lo) (some hi) none) {vx vl vh v : Value} (hx : a.eval x = vx) (hl : a.eval lo = vl) (hh : a.eval hi = vh)
    (h : (Instr.sliceAt t vx (some vl) (some vh) none).run P W = .ok v W) : (execOp a.eval o).run P W = .ok (.value v) W := by
  unfold execOp
  simp only [ho, hx, hl, hh, Option.map_some, Option.map_none, Sem.run_bind, Sem.run_pure, Result.andThen_ok, h]
theorem exec_sliceB {W : World} {a : Act} {o : Oper} (x lo hi : Operand) (ho : o.op = .slice 26 x (some lo) (some hi) none) {vx vl vh v : Value} (hx : a.eval x = vx) (hl : a.eval lo = vl) (hh : a.eval hi = vh)
    (h : (Instr.slice 26 vx (some vl) (some vh) none).run Try.prog W = .ok v W) : (execOp a.eval o).run Try.prog W = .ok (.value v) W :=
  exec_slice _ x lo hi ho hx hl hh ((run_sliceAt_slice _ _ _ _ _ _ (by kernel_rfl)).trans h)
theorem SpoI.spoil {V W : World} {lim g len c : Nat} {ds : List Bm} {aw : Option Addr} {cw : Nat} {B : List BmM} {i : Nat} {al : Option Addr} {ll cl : Nat} (h : SpoI V lim g len c ds aw cw B i al ll cl W) {nm : ByteArray} {on : Bool} {l0 : List Sp} (hd : ds[i]? = some (nm, on, al, ll, cl, l0)) (j : Nat) (hj : j < ll) :
    ∃ gi f t, al = some ⟨gi, 0, none⟩ ∧ gi ≠ g ∧ W.cell? ⟨gi, j * 2, none⟩ = some (.int .i64 f) ∧ W.cell? ⟨gi, j * 2 + 1, none⟩ = some (.int .i64 t) ∧ W.frozen? ⟨gi, j * 2, none⟩ = false ∧ ∀ z, SpoI V lim g len c ds aw cw B i al ll cl (W.setCell ⟨gi, j * 2, none⟩ (.int .i64 z)) := by
  obtain ⟨hs, l, hO⟩ := h
  have hl : l.length = ll := hO.2.1
  obtain ⟨⟨f, t⟩, hft⟩ : ∃ x, l[j]? = some x := ⟨_, List.getElem?_eq_getElem (by omega)⟩
  rcases hO.1.2 with ⟨_, h0⟩ | ⟨gi, cap', cur, e', hb, hg, r⟩
  · omega
  · cases e'
    obtain ⟨hr1, _, _⟩ := hO.reads sp_rowed
    obtain ⟨c0, c1⟩ := span_cells hr1 j hj
    have hsp : spAt l j = (f, t) := by
      have := spAt_some l j (by omega)
      rw [hft] at this
      exact (Option.some.inj this).symm
    rw [hsp, Nat.zero_add] at c0 c1
    have hgi : gi ≠ g := fun e => by
      subst e
      rcases hs.row.1.2 with ⟨e1, _⟩ | ⟨g2, _, cur2, e2, _, hg2, _⟩
      · cases e1
      · cases e2
        have := hg.symm.trans hg2
        cases this
    refine ⟨gi, f, t, rfl, hgi, c0, c1, hO.1.frozenAt _, fun z => ?_⟩
    obtain ⟨q1, q2⟩ := own_setK sp_rowed hO j 0 (f, t) (z, t) hft (.int .i64 z) (by omega) rfl
    rw [Nat.add_zero] at q1 q2
    have hoff : Off W (some gi) 53 := OwnG.off (e := 53) hO (by decide)
    have hlim : gi < lim := hs.low _ (List.mem_of_getElem? hd) gi rfl
    refine ⟨⟨hoff.row hs.row q2, fun k d hk hd' => ⟨(hs.sps k d hk hd').1.kept' q2 fun x hx e => ?_, (hs.sps k d hk hd').2⟩, hs.sep, hs.low, hs.was.apart q2 hlim, belowRow hs.dat q2 hb hs.dat.size⟩, _, q1⟩
    cases e
    exact hs.sep i k _ d (by omega) hd hd' gi rfl hx
/-- Names of one's own place. -/
theorem fndB_only {B : List BmM} {k : Nat} {d : BmM} (hd : B[k]? = some d) (hu : ∀ i e, i ≠ k → B[i]? = some e → e.1 ≠ d.1) : fndB d.1 B = k := fndB_at hd rfl fun i hi e he => hu i e (by omega) he
def GiveO (w : World) (n k : Nat) (B : List BmM) (e : Ending) (w' : World) : Prop := ∃ (a : Option Addr) (c : Nat) (d : BmM), e = .returned (.tuple #[.slice a n c, .int .i64 0]) ∧ BmsX w' w.heap.size a n c (B.set k d) ∧ Below w.heap.size w w'
section
variable {w : World} {a : Option Addr} {n c k : Nat} {B : List BmM} {d : BmM}
theorem oth_turn (h : BmsD w a n c B) (hd : B[k]? = some d) (hf : fndB d.1 B = k) (on : Bool) : Calls Try.prog 36 #[.slice a n c, .string d.1, .bool on] w (GiveO w n k B) := by
  refine (mapsTurnX w a n c B h d.1 on).mono ?_
  rintro e w' ⟨a', n', c', e1, e2, e3⟩
  have hr : turnB B d.1 on = (B.set k (d.1, on, d.2.2), 0) := by
    unfold turnB
    rw [hf, if_neg (by omega), Int.toNat_natCast, modify_at hd]
  rw [hr] at e1 e2
  obtain rfl : n = n' := by have := e2.n.d.lens.1; rw [List.length_set] at this; have := h.lens.1; omega
  exact ⟨a', c', _, e1, e2, e3⟩
theorem oth_clear (h : BmsD w a n c B) (hd : B[k]? = some d) (hf : fndB d.1 B = k) : Calls Try.prog 38 #[.slice a n c, .string d.1] w (GiveO w n k B) := by
  refine (mapsClearX w a n c B h d.1).mono ?_
  rintro e w' ⟨a', n', c', e1, e2, e3⟩
  have hr : clearB B d.1 = (B.set k (d.1, d.2.1, []), 0) := by
    unfold clearB
    rw [hf, if_neg (by omega), Int.toNat_natCast, modify_at hd]
  rw [hr] at e1 e2
  obtain rfl : n = n' := by have := e2.n.d.lens.1; rw [List.length_set] at this; have := h.lens.1; omega
  exact ⟨a', c', _, e1, e2, e3⟩
theorem oth_merge (h : BmsD w a n c B) (hl : ∀ b ∈ B, b.2.2.length ≤ 10000) (hd : B[k]? = some d) (hf : fndB d.1 B = k) {d0 : BmM} (h0 : B[0]? = some d0) : Calls Try.prog 40 #[.slice a n c, .string d.1, .string d0.1] w (GiveO w n k B) := by
  refine (mapsMergeX w a n c B h hl d.1 d0.1).mono ?_
  rintro e w' ⟨a', n', c', e1, e2, e3⟩
  have hf0 : fndB d0.1 B = ((0 : Nat) : Int) := fndB_at h0 rfl fun i hi => by omega
  obtain ⟨x, hx⟩ : ∃ x, mergeB B d.1 d0.1 = (B.set k x, 0) := by
    unfold mergeB
    rw [hf, hf0, if_neg (by omega), Int.toNat_natCast, modify_at hd]
    exact ⟨_, rfl⟩
  rw [hx] at e1 e2
  obtain rfl : n = n' := by have := e2.n.d.lens.1; rw [List.length_set] at this; have := h.lens.1; omega
  exact ⟨a', c', _, e1, e2, e3⟩
end
end Go.Proofs.Ytjaaieamlgghhaa
