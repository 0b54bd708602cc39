/-
  Metas in memory: shots, bitmaps, counts, metas that read, metas of one's own (layer 12). Conditions: none.
-/
import Derived.Test.YtdffgnpldapciaaGreatDoorT0
import Derived.Test.YtdffgnpldapciaaGreatDoorA4
import Derived.Test.YtdffgnpldapciaaGreatDoorY4
namespace Go.Proofs.YtdffgnpldapciaaGreatDoor
open Go.RowKit
set_option linter.unusedVariables false

/-- A shot: name, size, its slice, its table. -/
abbrev Sh := ByteArray × Int × Option Addr × Nat × Nat × Tb
def shV (d : Sh) : List Value := [.string d.1, .int .i64 d.2.1, .slice d.2.2.1 d.2.2.2.1 d.2.2.2.2.1]
def shT (d : Sh) : Tb := d.2.2.2.2.2
theorem sh_rowed : Rowed Tryz.prog 27 54 3 48 shV where
  under := Tryz.underlying27
  info := by
    have h : (Tryz.prog.info? 54).map (fun i => (i.zero.map (fun z => z.cells.size), i.size, i.bytes)) = some (some 3, 3, 48) := by kernel_rfl
    obtain ⟨i, hi, he⟩ := Option.map_eq_some_iff.1 h
    simp only [Prod.mk.injEq] at he
    obtain ⟨z, hz, hzs⟩ := Option.map_eq_some_iff.1 he.1
    exact ⟨i, z, hi, hz, he.2.1, he.2.2, hzs⟩
  pos := by decide
  small := by decide
  len := fun _ => rfl
  one := fun d u hu => by
    simp only [shV, List.mem_cons, List.not_mem_nil, or_false] at hu
    rcases hu with rfl | rfl | rfl <;> rfl
/-- A bitmap: name, flag, its slice, its spans. -/
abbrev Bm := ByteArray × Bool × Option Addr × Nat × Nat × List Sp
def bmV (d : Bm) : List Value := [.string d.1, .bool d.2.1, .slice d.2.2.1 d.2.2.2.1 d.2.2.2.2.1]
def bmL (d : Bm) : List Sp := d.2.2.2.2.2
theorem bm_rowed : Rowed Tryz.prog 28 57 3 48 bmV where
  under := Tryz.underlying28
  info := by
    have h : (Tryz.prog.info? 57).map (fun i => (i.zero.map (fun z => z.cells.size), i.size, i.bytes)) = some (some 3, 3, 48) := by kernel_rfl
    obtain ⟨i, hi, he⟩ := Option.map_eq_some_iff.1 h
    simp only [Prod.mk.injEq] at he
    obtain ⟨z, hz, hzs⟩ := Option.map_eq_some_iff.1 he.1
    exact ⟨i, z, hi, hz, he.2.1, he.2.2, hzs⟩
  pos := by decide
  small := by decide
  len := fun _ => rfl
  one := fun d u hu => by
    simp only [bmV, List.mem_cons, List.not_mem_nil, or_false] at hu
    rcases hu with rfl | rfl | rfl <;> rfl
def ivV (z : Int) : List Value := [.int .i64 z]
theorem iv_rowed : Rowed Tryz.prog 29 3 1 8 ivV where
  under := Tryz.underlying29
  info := by
    have h : (Tryz.prog.info? 3).map (fun i => (i.zero.map (fun z => z.cells.size), i.size, i.bytes)) = some (some 1, 1, 8) := by kernel_rfl
    obtain ⟨i, hi, he⟩ := Option.map_eq_some_iff.1 h
    simp only [Prod.mk.injEq] at he
    obtain ⟨z, hz, hzs⟩ := Option.map_eq_some_iff.1 he.1
    exact ⟨i, z, hi, hz, he.2.1, he.2.2, hzs⟩
  pos := by decide
  small := by decide
  len := fun _ => rfl
  one := fun d u hu => by
    simp only [ivV, List.mem_cons, List.not_mem_nil, or_false] at hu
    subst hu
    rfl

/-- Plain shots, bitmaps, metas. -/
abbrev ShM := ByteArray × Int × Tb
abbrev BmM := ByteArray × Bool × List Sp
def shM (d : Sh) : ShM := (d.1, d.2.1, shT d)
def bmM (d : Bm) : BmM := (d.1, d.2.1, bmL d)
structure MM where
  c : Int
  s : Int
  bk : ByteArray
  T : Tb
  S : List ShM
  B : List BmM
  K : List Int
/-- Where a meta's parts lie. -/
structure Mt where
  a0 : Option Addr
  n0 : Nat
  c0 : Nat
  sa : Option Addr
  sn : Nat
  sc : Nat
  ma : Option Addr
  mn : Nat
  mc : Nat
  ca : Option Addr
  cn : Nat
  cc : Nat
def mtA (M : MM) (x : Mt) : Array Value := #[.int .i64 M.c, .int .i64 M.s, .string M.bk, .slice x.a0 x.n0 x.c0, .slice x.sa x.sn x.sc, .slice x.ma x.mn x.mc, .slice x.ca x.cn x.cc]
theorem meta_size : (Tryz.prog.info? 31).map (·.size) = some 7 := by kernel_rfl
theorem shot_size : (Tryz.prog.info? 54).map (·.size) = some 3 := by kernel_rfl
theorem cells7 {W : World} {M : Nat} {v0 v1 v2 v3 v4 v5 v6 : Value} (h : Blk W M 31 #[v0, v1, v2, v3, v4, v5, v6]) :
    W.cell? ⟨M, 0, none⟩ = some v0 ∧ W.cell? ⟨M, 1, none⟩ = some v1 ∧ W.cell? ⟨M, 2, none⟩ = some v2 ∧ W.cell? ⟨M, 3, none⟩ = some v3 ∧ W.cell? ⟨M, 4, none⟩ = some v4 ∧ W.cell? ⟨M, 5, none⟩ = some v5 ∧ W.cell? ⟨M, 6, none⟩ = some v6 := by
  refine ⟨?_, ?_, ?_, ?_, ?_, ?_, ?_⟩ <;> (rw [h.cell]; rfl)
theorem free7 {W : World} {M : Nat} {t : TypeId} {cs : Array Value} (h : Blk W M t cs) :
    W.frozen? ⟨M, 0, none⟩ = false ∧ W.frozen? ⟨M, 1, none⟩ = false ∧ W.frozen? ⟨M, 2, none⟩ = false ∧ W.frozen? ⟨M, 3, none⟩ = false ∧ W.frozen? ⟨M, 4, none⟩ = false ∧ W.frozen? ⟨M, 5, none⟩ = false ∧ W.frozen? ⟨M, 6, none⟩ = false :=
  ⟨h.free 0, h.free 1, h.free 2, h.free 3, h.free 4, h.free 5, h.free 6⟩
theorem cells3 {W : World} {E : Nat} {t : TypeId} {a b c : Value} (h : Blk W E t #[a, b, c]) : W.cell? ⟨E, 0, none⟩ = some a ∧ W.cell? ⟨E, 1, none⟩ = some b ∧ W.cell? ⟨E, 2, none⟩ = some c := by
  refine ⟨?_, ?_, ?_⟩ <;> (rw [h.cell]; rfl)
theorem free3 {W : World} {E : Nat} {t : TypeId} {cs : Array Value} (h : Blk W E t cs) : W.frozen? ⟨E, 0, none⟩ = false ∧ W.frozen? ⟨E, 1, none⟩ = false ∧ W.frozen? ⟨E, 2, none⟩ = false := ⟨h.free 0, h.free 1, h.free 2⟩

/-- What reads. -/

def SpD (w : World) (a : Option Addr) (len cap : Nat) (l : List Sp) : Prop := Spans w a len l ∧ Caps a len cap ∧ len ≤ 100000 ∧ SpFit l
def ShsR (w : World) (a : Option Addr) (len : Nat) (ds : List Sh) : Prop := Reads shV w a len ds ∧ ∀ d ∈ ds, Tab w d.2.2.1 d.2.2.2.1 d.2.2.2.2.1 (shT d)
def BmsR (w : World) (a : Option Addr) (len : Nat) (ds : List Bm) : Prop := Reads bmV w a len ds ∧ ∀ d ∈ ds, SpD w d.2.2.1 d.2.2.2.1 d.2.2.2.2.1 (bmL d)
def ShMok (d : ShM) : Prop := I64 d.2.1 ∧ d.1.size ≤ 9223372036854775807
def ShsD (w : World) (a : Option Addr) (len cap : Nat) (S : List ShM) : Prop := ∃ ds, ShsR w a len ds ∧ ds.map shM = S ∧ Caps a len cap ∧ len ≤ 1000 ∧ ∀ d ∈ S, ShMok d
def BmsD (w : World) (a : Option Addr) (len cap : Nat) (B : List BmM) : Prop := ∃ ds, BmsR w a len ds ∧ ds.map bmM = B ∧ Caps a len cap ∧ len ≤ 1000 ∧ ∀ d ∈ B, d.1.size ≤ 9223372036854775807
def IntsD (w : World) (a : Option Addr) (len cap : Nat) (K : List Int) : Prop := Reads ivV w a len K ∧ Caps a len cap ∧ len ≤ 1000000
structure MetaD (w : World) (x : Mt) (M : MM) : Prop where
  hc : I64 M.c
  hs : I64 M.s
  hbk : M.bk.size ≤ 9223372036854775807
  T : Tab w x.a0 x.n0 x.c0 M.T
  S : ShsD w x.sa x.sn x.sc M.S
  B : BmsD w x.ma x.mn x.mc M.B
  K : IntsD w x.ca x.cn x.cc M.K
section
variable {w w' : World} {a : Option Addr} {len cap : Nat}
theorem SpD.later {l : List Sp} (h : SpD w a len cap l) (hb : Below w.heap.size w w') : SpD w' a len cap l := ⟨h.1.later hb, h.2⟩
theorem SpD.nil (w : World) : SpD w none 0 0 [] := ⟨Reads.nil _ _ _, ⟨fun _ => rfl, Nat.le_refl _⟩, Nat.zero_le _, fun x hx => by cases hx⟩
theorem ShsR.later {ds : List Sh} (h : ShsR w a len ds) (hb : Below w.heap.size w w') : ShsR w' a len ds := ⟨h.1.later hb, fun d hd => (h.2 d hd).later hb⟩
theorem BmsR.later {ds : List Bm} (h : BmsR w a len ds) (hb : Below w.heap.size w w') : BmsR w' a len ds := ⟨h.1.later hb, fun d hd => (h.2 d hd).later hb⟩
theorem ShsD.later {S : List ShM} (h : ShsD w a len cap S) (hb : Below w.heap.size w w') : ShsD w' a len cap S := by
  obtain ⟨ds, h1, h2⟩ := h
  exact ⟨ds, h1.later hb, h2⟩
theorem BmsD.later {B : List BmM} (h : BmsD w a len cap B) (hb : Below w.heap.size w w') : BmsD w' a len cap B := by
  obtain ⟨ds, h1, h2⟩ := h
  exact ⟨ds, h1.later hb, h2⟩
theorem IntsD.later {K : List Int} (h : IntsD w a len cap K) (hb : Below w.heap.size w w') : IntsD w' a len cap K := ⟨h.1.later hb, h.2⟩
theorem MetaD.later {x : Mt} {M : MM} (h : MetaD w x M) (hb : Below w.heap.size w w') : MetaD w' x M := ⟨h.hc, h.hs, h.hbk, h.T.later hb, h.S.later hb, h.B.later hb, h.K.later hb⟩
theorem ShsD.lens {S : List ShM} (h : ShsD w a len cap S) : S.length = len ∧ len ≤ 1000 := by
  obtain ⟨ds, h1, h2, _, h3, _⟩ := h
  rw [← h2, List.length_map]
  exact ⟨h1.1.1, h3⟩
theorem BmsD.lens {B : List BmM} (h : BmsD w a len cap B) : B.length = len ∧ len ≤ 1000 := by
  obtain ⟨ds, h1, h2, _, h3, _⟩ := h
  rw [← h2, List.length_map]
  exact ⟨h1.1.1, h3⟩
theorem row3_at {α : Type} {cv : α → List Value} {P : Program} {t e : TypeId} {bytes : Nat} (R : Rowed P t e 3 bytes cv) {ds : List α} (h : Reads cv w a len ds) (i : Nat) (hi : i < len) : ∃ b off d, a = some ⟨b, off, none⟩ ∧ ds[i]? = some d ∧ b < w.heap.size ∧
    w.cell? ⟨b, off + i * 3, none⟩ = (cv d)[0]? ∧ w.cell? ⟨b, off + i * 3 + 1, none⟩ = (cv d)[1]? ∧ w.cell? ⟨b, off + i * 3 + 2, none⟩ = (cv d)[2]? := by
  have hl := h.1
  obtain ⟨d, hx⟩ : ∃ d, ds[i]? = some d := ⟨_, List.getElem?_eq_getElem (by omega)⟩
  have hlen := R.len d
  obtain ⟨_, _, h3⟩ := id h
  obtain ⟨b, off, rfl, hlt, _⟩ := h3.resolve_left (by omega)
  refine ⟨b, off, d, rfl, hx, hlt, ?_, ?_, ?_⟩
  · rw [List.getElem?_eq_getElem (by omega)]
    exact h.cellAt R i 0 _ _ hx (List.getElem?_eq_getElem (by omega))
  · rw [List.getElem?_eq_getElem (by omega)]
    have := h.cellAt R i 1 _ _ hx (List.getElem?_eq_getElem (by omega))
    rwa [← Nat.add_assoc] at this
  · rw [List.getElem?_eq_getElem (by omega)]
    have := h.cellAt R i 2 _ _ hx (List.getElem?_eq_getElem (by omega))
    rwa [← Nat.add_assoc] at this
/-- The shot at a place. -/
theorem ShsD.at {S : List ShM} (h : ShsD w a len cap S) (i : Nat) (hi : i < len) : ∃ b off nm sz al ll cl T, a = some ⟨b, off, none⟩ ∧ S[i]? = some (nm, sz, T) ∧ b < w.heap.size ∧ ShMok (nm, sz, T) ∧
    w.cell? ⟨b, off + i * 3, none⟩ = some (.string nm) ∧ w.cell? ⟨b, off + i * 3 + 1, none⟩ = some (.int .i64 sz) ∧ w.cell? ⟨b, off + i * 3 + 2, none⟩ = some (.slice al ll cl) ∧ Tab w al ll cl T := by
  obtain ⟨ds, h1, rfl, _, _, h2⟩ := h
  obtain ⟨b, off, ⟨nm, sz, al, ll, cl, T⟩, e, hx, hlt, x0, x1, x2⟩ := row3_at sh_rowed h1.1 i hi
  have hm := List.mem_of_getElem? hx
  exact ⟨b, off, nm, sz, al, ll, cl, T, e, by rw [List.getElem?_map, hx]; rfl, hlt, h2 _ (List.mem_map.2 ⟨_, hm, rfl⟩), x0, x1, x2, h1.2 _ hm⟩
/-- The bitmap at a place. -/
theorem BmsD.at {B : List BmM} (h : BmsD w a len cap B) (i : Nat) (hi : i < len) : ∃ b off nm on al ll cl l, a = some ⟨b, off, none⟩ ∧ B[i]? = some (nm, on, l) ∧ b < w.heap.size ∧ nm.size ≤ 9223372036854775807 ∧
    w.cell? ⟨b, off + i * 3, none⟩ = some (.string nm) ∧ w.cell? ⟨b, off + i * 3 + 1, none⟩ = some (.bool on) ∧ w.cell? ⟨b, off + i * 3 + 2, none⟩ = some (.slice al ll cl) ∧ SpD w al ll cl l := by
  obtain ⟨ds, h1, rfl, _, _, h2⟩ := h
  obtain ⟨b, off, ⟨nm, on, al, ll, cl, l⟩, e, hx, hlt, x0, x1, x2⟩ := row3_at bm_rowed h1.1 i hi
  have hm := List.mem_of_getElem? hx
  exact ⟨b, off, nm, on, al, ll, cl, l, e, by rw [List.getElem?_map, hx]; rfl, hlt, h2 (nm, on, l) (List.mem_map.2 ⟨_, hm, rfl⟩), x0, x1, x2, h1.2 _ hm⟩
end

/-- A table of one's own, its blocks among F. -/
def TabF (w : World) (base : Nat) (F : Nat → Prop) (a : Option Addr) (len cap : Nat) (T : Tb) : Prop :=
  ∃ es, TabQ w base a len cap es es ∧ tbOf es = T ∧ len ≤ 6000 ∧ (∀ lf ∈ T, lf.length ≤ 1000000) ∧ (∀ k, (Value.slice a len cap).ownBlock = some k → F k) ∧ ∀ d ∈ es, ∀ k, blkD d = some k → F k
def From (base : Nat) : Nat → Prop := fun k => base ≤ k
def Iv (lo hi : Nat) : Nat → Prop := fun k => lo ≤ k ∧ k < hi
section
variable {w w' : World} {base len cap : Nat} {F G : Nat → Prop} {a : Option Addr} {T : Tb}
theorem TabF.n (h : TabF w base F a len cap T) : TabN w base a len cap T := by
  obtain ⟨es, h1, h2, h3, h4, _⟩ := h
  exact ⟨es, h1, h2, h3, h4⟩
theorem TabF.kept (h : TabF w base F a len cap T) {row : Option Nat} (hg : w.grownBy w' row) (hr : ∀ k, row = some k → ¬ F k) : TabF w' base F a len cap T := by
  obtain ⟨es, h1, h2, h3, h4, h5, h6⟩ := h
  exact ⟨es, h1.kept hg (fun k hk e => hr k e (h5 k hk)) (fun d hd k hk e => hr k e (h6 d hd k hk)), h2, h3, h4, h5, h6⟩
theorem TabF.later (h : TabF w base F a len cap T) (hb : Below w.heap.size w w') : TabF w' base F a len cap T := h.kept (grown_of_below hb) (fun _ e => by cases e)
theorem TabF.mono (h : TabF w base F a len cap T) {base' : Nat} (hb : base' ≤ base) (hF : ∀ k, base ≤ k → F k → G k) : TabF w base' G a len cap T := by
  obtain ⟨es, h1, h2, h3, h4, h5, h6⟩ := h
  exact ⟨es, h1.mono hb, h2, h3, h4, fun k hk => hF k (h1.out.1.lt k hk).1 (h5 k hk), fun d hd k hk => hF k ((h1.leaf d hd).lt hk).1 (h6 d hd k hk)⟩
theorem TabN.f (h : TabN w base a len cap T) : TabF w base (Iv base w.heap.size) a len cap T := by
  obtain ⟨es, h1, h2, h3, h4⟩ := h
  exact ⟨es, h1, h2, h3, h4, fun k hk => h1.out.1.lt k hk, fun d hd k hk => (h1.leaf d hd).lt hk⟩
theorem TabN.typed (h : TabN w base a len cap T) {Y : Nat} {ty : TypeId} {cs : Array Value} (hY : Blk w Y ty cs) (h1 : ty ≠ 88) (h2 : ty ≠ 91) (hg : w.grownBy w' (some Y)) : TabN w' base a len cap T := by
  obtain ⟨es, hq, hr⟩ := h
  exact ⟨es, hq.kept hg (fun k hk e => by cases e; exact hY.not_row h1 hq.out hk.symm) (fun d hd k hk e => by cases e; exact hY.not_row h2 (hq.leaf d hd).1 hk.symm), hr⟩
theorem TabN.row (h : TabN w base a len cap T) {α : Type} {cv : α → List Value} {e : TypeId} {sz base' n : Nat} {v : Value} {l : List α} (hv : OwnG cv e sz w base' v n l) (h1 : e ≠ 88) (h2 : e ≠ 91) (hg : w.grownBy w' v.ownBlock) : TabN w' base a len cap T := by
  obtain ⟨es, hq, hr⟩ := h
  exact ⟨es, hq.kept hg (fun k hk e => row_apart hv hq.out h1 k e hk) (fun d hd k hk e => row_apart hv (hq.leaf d hd).1 h2 k e hk), hr⟩
theorem TabF.typed (h : TabF w base F a len cap T) {Y : Nat} {ty : TypeId} {cs : Array Value} (hY : Blk w Y ty cs) (h1 : ty ≠ 88) (h2 : ty ≠ 91) (hg : w.grownBy w' (some Y)) : TabF w' base F a len cap T := by
  obtain ⟨es, hq, hr⟩ := h
  exact ⟨es, hq.kept hg (fun k hk e => by cases e; exact hY.not_row h1 hq.out hk.symm) (fun d hd k hk e => by cases e; exact hY.not_row h2 (hq.leaf d hd).1 hk.symm), hr⟩
theorem TabF.row (h : TabF w base F a len cap T) {α : Type} {cv : α → List Value} {e : TypeId} {sz base' n : Nat} {v : Value} {l : List α} (hv : OwnG cv e sz w base' v n l) (h1 : e ≠ 88) (h2 : e ≠ 91) (hg : w.grownBy w' v.ownBlock) : TabF w' base F a len cap T := by
  obtain ⟨es, hq, hr⟩ := h
  exact ⟨es, hq.kept hg (fun k hk e => row_apart hv hq.out h1 k e hk) (fun d hd k hk e => row_apart hv (hq.leaf d hd).1 h2 k e hk), hr⟩
theorem TabF.nil (w : World) (base : Nat) (F : Nat → Prop) : TabF w base F none 0 0 [] := ⟨[], TabQ.first _ _, rfl, Nat.zero_le _, by simp, fun k hk => by simp [Value.ownBlock] at hk, fun d hd => by cases hd⟩
end
/-- A turn of the world that leaves rows of tables, spans and ints alone: it turns one block of another type. -/
def Off (w : World) (row : Option Nat) (e : TypeId) : Prop := ∀ k o, row = some k → w.heap[k]? = some o → ∀ cs fr, o ≠ .cells cs e fr
theorem Blk.off {w : World} {Y : Nat} {ty : TypeId} {cs : Array Value} (hY : Blk w Y ty cs) {e : TypeId} (h : ty ≠ e) : Off w (some Y) e := fun k o hk ho cs' fr heq => by
  cases hk
  rw [show w.heap[Y]? = _ from hY] at ho
  cases ho
  cases heq
  exact h rfl
theorem Off.none (w : World) (e : TypeId) : Off w none e := fun k o hk => by cases hk
theorem OwnG.off {α : Type} {cv : α → List Value} {e' : TypeId} {sz : Nat} {w : World} {base n : Nat} {v : Value} {l : List α} (h : OwnG cv e' sz w base v n l) {e : TypeId} (hne : e' ≠ e) : Off w v.ownBlock e := fun k o hk ho cs' fr heq => by
  rcases h.1.2 with ⟨rfl, _⟩ | ⟨g, cap, cur, rfl, _, hg, _⟩
  · simp [Value.ownBlock] at hk
  · have : g = k := by simpa [Value.ownBlock] using hk
    subst this
    rw [hg] at ho
    cases ho
    cases heq
    exact hne rfl
theorem Off.row {α : Type} {cv : α → List Value} {e : TypeId} {sz : Nat} {w w' : World} {base n : Nat} {v : Value} {l : List α} {row : Option Nat} (ho : Off w row e) (h : OwnG cv e sz w base v n l) (hg : w.grownBy w' row) : OwnG cv e sz w' base v n l :=
  h.kept' hg fun k hk er => by
    rcases h.1.2 with ⟨rfl, _⟩ | ⟨g, cap, cur, rfl, _, hgb, _⟩
    · simp [Value.ownBlock] at hk
    · have : g = k := by simpa [Value.ownBlock] using hk
      subst this
      exact ho g _ er hgb _ _ rfl
theorem Off.tabF {w w' : World} {base len cap : Nat} {F : Nat → Prop} {a : Option Addr} {T : Tb} {row : Option Nat} (h1 : Off w row 88) (h2 : Off w row 91) (h : TabF w base F a len cap T) (hg : w.grownBy w' row) : TabF w' base F a len cap T := by
  obtain ⟨es, hq, hr⟩ := h
  have key : ∀ {e : TypeId} {α : Type} {cv : α → List Value} {sz n : Nat} {v : Value} {l : List α}, Off w row e → OwnG cv e sz w base v n l → ∀ k, v.ownBlock = some k → row ≠ some k := fun ho hO k hk er => by
    rcases hO.1.2 with ⟨rfl, _⟩ | ⟨g, cap, cur, rfl, _, hgb, _⟩
    · simp [Value.ownBlock] at hk
    · have : g = k := by simpa [Value.ownBlock] using hk
      subst this
      exact ho g _ er hgb _ _ rfl
  exact ⟨es, hq.kept hg (key h1 hq.out) (fun d hd k hk => key h2 (hq.leaf d hd).1 k hk), hr⟩

/-- Spans, shots, bitmaps, counts of one's own. -/
def SpN (w : World) (base : Nat) (a : Option Addr) (len cap : Nat) (l : List Sp) : Prop := OwnSp w base (.slice a len cap) len l ∧ len ≤ 100000 ∧ SpFit l
def ShsN (w : World) (base : Nat) (F : Nat → Prop) (a : Option Addr) (len cap : Nat) (S : List ShM) : Prop :=
  ∃ ds : List Sh, OwnG shV 54 3 w base (.slice a len cap) len ds ∧ (∀ d ∈ ds, TabF w base F d.2.2.1 d.2.2.2.1 d.2.2.2.2.1 (shT d)) ∧ ds.map shM = S ∧ len ≤ 1000 ∧ ∀ d ∈ S, ShMok d
def BmsN (w : World) (base : Nat) (a : Option Addr) (len cap : Nat) (B : List BmM) : Prop :=
  ∃ ds : List Bm, OwnG bmV 57 3 w base (.slice a len cap) len ds ∧ (∀ d ∈ ds, SpN w base d.2.2.1 d.2.2.2.1 d.2.2.2.2.1 (bmL d)) ∧ ds.map bmM = B ∧ len ≤ 1000 ∧ ∀ d ∈ B, d.1.size ≤ 9223372036854775807
def IntsN (w : World) (base : Nat) (a : Option Addr) (len cap : Nat) (K : List Int) : Prop := OwnG ivV 3 1 w base (.slice a len cap) len K ∧ len ≤ 1000000
section
variable {w w' : World} {base len cap : Nat} {F G : Nat → Prop} {a : Option Addr} {row : Option Nat}
theorem SpN.d {l : List Sp} (h : SpN w base a len cap l) : SpD w a len cap l := ⟨(h.1.reads sp_rowed).1, (h.1.reads sp_rowed).2, h.2⟩
theorem ShsN.d {S : List ShM} (h : ShsN w base F a len cap S) : ShsD w a len cap S := by
  obtain ⟨ds, h1, h2, h3, h4⟩ := h
  exact ⟨ds, ⟨(h1.reads sh_rowed).1, fun d hd => (h2 d hd).n.tab⟩, h3, (h1.reads sh_rowed).2, h4⟩
theorem BmsN.d {B : List BmM} (h : BmsN w base a len cap B) : BmsD w a len cap B := by
  obtain ⟨ds, h1, h2, h3, h4⟩ := h
  exact ⟨ds, ⟨(h1.reads bm_rowed).1, fun d hd => (h2 d hd).d⟩, h3, (h1.reads bm_rowed).2, h4⟩
theorem IntsN.d {K : List Int} (h : IntsN w base a len cap K) : IntsD w a len cap K := ⟨(h.1.reads iv_rowed).1, (h.1.reads iv_rowed).2, h.2⟩
theorem SpN.off {l : List Sp} (h : SpN w base a len cap l) (ho : Off w row 59) (hg : w.grownBy w' row) : SpN w' base a len cap l := ⟨ho.row h.1 hg, h.2⟩
theorem ShsN.off {S : List ShM} (h : ShsN w base F a len cap S) (h0 : Off w row 54) (h1 : Off w row 88) (h2 : Off w row 91) (hg : w.grownBy w' row) : ShsN w' base F a len cap S := by
  obtain ⟨ds, k1, k2, k3⟩ := h
  exact ⟨ds, h0.row k1 hg, fun d hd => h1.tabF h2 (k2 d hd) hg, k3⟩
theorem BmsN.off {B : List BmM} (h : BmsN w base a len cap B) (h0 : Off w row 57) (h1 : Off w row 59) (hg : w.grownBy w' row) : BmsN w' base a len cap B := by
  obtain ⟨ds, k1, k2, k3⟩ := h
  exact ⟨ds, h0.row k1 hg, fun d hd => (k2 d hd).off h1 hg, k3⟩
theorem IntsN.off {K : List Int} (h : IntsN w base a len cap K) (h0 : Off w row 3) (hg : w.grownBy w' row) : IntsN w' base a len cap K := ⟨h0.row h.1 hg, h.2⟩
theorem SpN.mono {l : List Sp} (h : SpN w base a len cap l) {base' : Nat} (hb : base' ≤ base) : SpN w base' a len cap l := ⟨h.1.monoB hb, h.2⟩
theorem ShsN.mono {S : List ShM} (h : ShsN w base F a len cap S) {base' : Nat} (hb : base' ≤ base) (hF : ∀ k, base ≤ k → F k → G k) : ShsN w base' G a len cap S := by
  obtain ⟨ds, k1, k2, k3⟩ := h
  exact ⟨ds, k1.monoB hb, fun d hd => (k2 d hd).mono hb hF, k3⟩
theorem BmsN.mono {B : List BmM} (h : BmsN w base a len cap B) {base' : Nat} (hb : base' ≤ base) : BmsN w base' a len cap B := by
  obtain ⟨ds, k1, k2, k3⟩ := h
  exact ⟨ds, k1.monoB hb, fun d hd => (k2 d hd).mono hb, k3⟩
theorem IntsN.mono {K : List Int} (h : IntsN w base a len cap K) {base' : Nat} (hb : base' ≤ base) : IntsN w base' a len cap K := ⟨h.1.monoB hb, h.2⟩
end
/-- A meta of one's own: its table's blocks among F, its shots' tables' among G. -/
structure MetaN (w : World) (base : Nat) (F G : Nat → Prop) (x : Mt) (M : MM) : Prop where
  hc : I64 M.c
  hs : I64 M.s
  hbk : M.bk.size ≤ 9223372036854775807
  T : TabF w base F x.a0 x.n0 x.c0 M.T
  S : ShsN w base G x.sa x.sn x.sc M.S
  B : BmsN w base x.ma x.mn x.mc M.B
  K : IntsN w base x.ca x.cn x.cc M.K
theorem MetaN.d {w : World} {base : Nat} {F G : Nat → Prop} {x : Mt} {M : MM} (h : MetaN w base F G x M) : MetaD w x M := ⟨h.hc, h.hs, h.hbk, h.T.n.tab, h.S.d, h.B.d, h.K.d⟩
/-- A turn that leaves all rows alone. -/
structure Off6 (w : World) (row : Option Nat) : Prop where
  o1 : Off w row 88
  o2 : Off w row 91
  o3 : Off w row 54
  o4 : Off w row 57
  o5 : Off w row 59
  o6 : Off w row 3
theorem MetaN.off {w w' : World} {base : Nat} {F G : Nat → Prop} {x : Mt} {M : MM} {row : Option Nat} (h : MetaN w base F G x M) (ho : Off6 w row) (hg : w.grownBy w' row) : MetaN w' base F G x M :=
  ⟨h.hc, h.hs, h.hbk, ho.o1.tabF ho.o2 h.T hg, h.S.off ho.o3 ho.o1 ho.o2 hg, h.B.off ho.o4 ho.o5 hg, h.K.off ho.o6 hg⟩
theorem Off6.none (w : World) : Off6 w none := ⟨Off.none _ _, Off.none _ _, Off.none _ _, Off.none _ _, Off.none _ _, Off.none _ _⟩
theorem Blk.off6 {w : World} {Y : Nat} {cs : Array Value} (h : Blk w Y 31 cs) : Off6 w (some Y) := ⟨h.off (by decide), h.off (by decide), h.off (by decide), h.off (by decide), h.off (by decide), h.off (by decide)⟩
theorem Blk.off6s {w : World} {Y : Nat} {cs : Array Value} (h : Blk w Y 26 cs) : Off6 w (some Y) := ⟨h.off (by decide), h.off (by decide), h.off (by decide), h.off (by decide), h.off (by decide), h.off (by decide)⟩
theorem MetaN.later {w w' : World} {base : Nat} {F G : Nat → Prop} {x : Mt} {M : MM} (h : MetaN w base F G x M) (hb : Below w.heap.size w w') : MetaN w' base F G x M := h.off (Off6.none w) (grown_of_below hb)
theorem MetaN.box {w : World} {base : Nat} {F G : Nat → Prop} {x : Mt} {M : MM} (h : MetaN w base F G x M) {Y : Nat} {cs : Array Value} (hY : Blk w Y 31 cs) (i : Nat) (v : Value) : MetaN (w.setCell ⟨Y, i, none⟩ v) base F G x M := h.off hY.off6 (grownBy_setCell4 w Y i v)
theorem MetaN.mono {w : World} {base : Nat} {F G F' G' : Nat → Prop} {x : Mt} {M : MM} (h : MetaN w base F G x M) {base' : Nat} (hb : base' ≤ base) (hF : ∀ k, base ≤ k → F k → F' k) (hG : ∀ k, base ≤ k → G k → G' k) : MetaN w base' F' G' x M :=
  ⟨h.hc, h.hs, h.hbk, h.T.mono hb hF, h.S.mono hb hG, h.B.mono hb, h.K.mono hb⟩
theorem TabN.off {w w' : World} {base len cap : Nat} {a : Option Addr} {T : Tb} {row : Option Nat} (h : TabN w base a len cap T) (h1 : Off w row 88) (h2 : Off w row 91) (hg : w.grownBy w' row) : TabN w' base a len cap T := (h1.tabF h2 h.f hg).n
/-- The meta that is none. -/
def MM0 : MM := ⟨0, 0, ByteArray.empty, [], [], [], []⟩
def Mt0 : Mt := ⟨none, 0, 0, none, 0, 0, none, 0, 0, none, 0, 0⟩
theorem MetaN.zero (w : World) (base : Nat) (F G : Nat → Prop) : MetaN w base F G Mt0 MM0 :=
  ⟨by unfold I64 MM0; dsimp only; omega, by unfold I64 MM0; dsimp only; omega, by show (0 : Nat) ≤ 9223372036854775807; omega, TabF.nil _ _ _, ⟨[], OwnG.none _ _ _ _ _, fun d hd => (by cases hd), rfl, Nat.zero_le _, fun d hd => (by cases hd)⟩, ⟨[], OwnG.none _ _ _ _ _, fun d hd => (by cases hd), rfl, Nat.zero_le _, fun d hd => (by cases hd)⟩, ⟨OwnG.none _ _ _ _ _, Nat.zero_le _⟩⟩
theorem low_new {W W' : World} {B : Nat} {v : Value} (hg : W.grownBy W' v.ownBlock) (hv : ∀ k, v.ownBlock = some k → B ≤ k) (hB : B ≤ W.heap.size) : Below B W W' :=
  ⟨hg.os, hg.tape, hg.output, hg.size, fun k hk => hg.block k (Nat.lt_of_lt_of_le hk hB) fun e => by have := hv k e.symm; omega⟩
end Go.Proofs.YtdffgnpldapciaaGreatDoor
