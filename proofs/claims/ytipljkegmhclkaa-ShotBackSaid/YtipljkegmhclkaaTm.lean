/-
  A right meta with a shot more, spoilt and gone back; any table against the reference's TableRight (ShotApart, ShotBack). Conditions: none.
-/
import Derived.Test.YtipljkegmhclkaaTg
import Derived.Laws.StructEq
namespace Go.Proofs.Ytipljkegmhclkaa
open Go.RowKit
set_option linter.unusedVariables false

/-- The sum of an entry of a table of one's own turns: the table that is read then, its shape, and where the store went. -/
theorem TabF.spoil {w : World} {base len cap : Nat} {F : Nat → Prop} {a : Option Addr} {T : Tb} (h : TabF w base F a len cap T) (i : Nat) (lf : List En) (hi : T[i]? = some lf) (k : Nat) (x : En) (hx : lf[k]? = some x) :
    ∃ g gi cl, a = some ⟨g, 0, none⟩ ∧ w.cell? ⟨g, i, none⟩ = some (.slice (some ⟨gi, 0, none⟩) lf.length cl) ∧ g < w.heap.size ∧ gi < w.heap.size ∧ base ≤ gi ∧ F gi ∧ gi ≠ g ∧ (∀ t, 72 ≠ t → Off w (some gi) t) ∧ w.frozen? ⟨gi, k * 5 + 4, none⟩ = false ∧ w.cell? ⟨gi, k * 5 + 4, none⟩ = some (.int .u32 x.2.2.2.2) ∧
      ∀ z : Int, 0 ≤ z → z < 4294967296 → TabF (w.setCell ⟨gi, k * 5 + 4, none⟩ (.int .u32 z)) base F a len cap (T.set i (lf.set k (x.1, x.2.1, x.2.2.1, x.2.2.2.1, z))) ∧ w.grownBy (w.setCell ⟨gi, k * 5 + 4, none⟩ (.int .u32 z)) (some gi) := by
  obtain ⟨es, hq, rfl, hlen, hll, ho, hl⟩ := h
  have hi' : ∃ d, es[i]? = some d ∧ d.2.2.2 = lf := by
    unfold tbOf at hi
    rw [List.getElem?_map] at hi
    cases hd : es[i]? with
    | none => rw [hd] at hi; cases hi
    | some d => rw [hd] at hi; exact ⟨d, rfl, Option.some.inj hi⟩
  obtain ⟨d, hd, rfl⟩ := hi'
  have hil : i < len := by have := (List.getElem?_eq_some_iff.1 hd).1; have := hq.size; omega
  obtain ⟨g, d', e1, hg1, hg2, hd', hc, hf⟩ := hq.at i hil
  have := Option.some.inj (hd.symm.trans hd')
  subst this
  have hL := hq.leaf d (List.mem_of_getElem? hd)
  have hkl : k < d.2.1 := by have := (List.getElem?_eq_some_iff.1 hx).1; have := hL.1.2.1; omega
  have hll2 : d.2.2.2.length = d.2.1 := hL.1.2.1
  rcases hL.1.1.2 with ⟨_, h0⟩ | ⟨gi, cap', cur, e2, hb, hgb, r⟩
  · omega
  obtain ⟨al, ll, cl, xs⟩ := d
  dsimp only at e2 hc hkl hll2 hx
  cases e2
  subst hll2
  have hgi : gi ≠ g := fun e => by
    subst e
    subst e1
    rcases hq.out.1.2 with ⟨e3, _⟩ | ⟨g2, _, cur2, e4, _, hg3, _⟩
    · cases e3
    · cases e4
      have := hgb.symm.trans hg3
      cases this
  have hfz : w.frozen? ⟨gi, k * 5 + 4, none⟩ = false := hL.1.1.frozenAt _
  obtain ⟨hr1, _, _⟩ := hL.1.reads en_rowed
  have hcell : w.cell? ⟨gi, k * 5 + 4, none⟩ = some (.int .u32 x.2.2.2.2) := by
    obtain ⟨h1, h2, h3⟩ := hr1
    obtain ⟨b', off', e5, hb', hcc⟩ := h3.resolve_left (by dsimp only; omega)
    cases e5
    have := hcc (k * 5 + 4) (.int .u32 x.2.2.2.2) (by rw [flat_at en_rowed.len xs k 4 x hx (by omega)]; rfl)
    rwa [Nat.zero_add] at this
  refine ⟨g, gi, cap', e1, hc, hg2, lt_of_block hgb, hb, hl _ (List.mem_of_getElem? hd) gi rfl, hgi, (fun t ht => OwnG.off (e := t) hL.1 ht), hfz, hcell, fun z hz1 hz2 => ?_⟩
  obtain ⟨q1, q2⟩ := own_setK en_rowed hL.1 k 4 x (x.1, x.2.1, x.2.2.1, x.2.2.2.1, z) hx (.int .u32 z) (by omega) rfl
  have hxo : EnOk x := hL.2 x (List.mem_of_getElem? hx)
  have hLO : LfO (w.setCell ⟨gi, k * 5 + 4, none⟩ (.int .u32 z)) base (some ⟨gi, 0, none⟩, xs.length, cap', xs.set k (x.1, x.2.1, x.2.2.1, x.2.2.2.1, z)) := ⟨q1, fun y hy => by
    rcases List.mem_or_eq_of_mem_set hy with hm | rfl
    · exact hL.2 y hm
    · exact ⟨hxo.1, hxo.2.1, hxo.2.2.1, hxo.2.2.2.1, hz1, hz2⟩⟩
  have hqs := (hq.setEs i (some ⟨gi, 0, none⟩, xs.length, cap', xs) (some ⟨gi, 0, none⟩, xs.length, cap', xs.set k (x.1, x.2.1, x.2.2.1, x.2.2.2.1, z)) hd q2 rfl hLO)
  have hmap : es.map cvD = (es.set i (some ⟨gi, 0, none⟩, xs.length, cap', xs.set k (x.1, x.2.1, x.2.2.1, x.2.2.2.1, z))).map cvD := by
    refine List.ext_getElem? fun j => ?_
    rw [List.getElem?_map, List.getElem?_map, List.getElem?_set]
    by_cases hij : i = j
    · subst hij
      rw [if_pos rfl, if_pos (List.getElem?_eq_some_iff.1 hd).1, hd]
      rfl
    · rw [if_neg hij]
  refine ⟨⟨_, hqs.same hmap, by unfold tbOf; rw [List.map_set], hlen, fun l hl' => ?_, ho, fun y hy b hb2 => ?_⟩, q2⟩
  · rcases List.mem_or_eq_of_mem_set hl' with hm | rfl
    · exact hll l hm
    · rw [List.length_set]
      exact hll xs (List.mem_map.2 ⟨_, List.mem_of_getElem? hd, rfl⟩)
  · rcases List.mem_or_eq_of_mem_set hy with hm | rfl
    · exact hl y hm b hb2
    · exact hl _ (List.mem_of_getElem? hd) b hb2
theorem ShsN.spare {w w' : World} {base len cap : Nat} {F : Nat → Prop} {a : Option Addr} {S : List ShM} (h : ShsN w base F a len cap S) {gi : Nat} (ho : Off w (some gi) 62) (hF : ¬ F gi) (hg : w.grownBy w' (some gi)) : ShsN w' base F a len cap S := by
  obtain ⟨ds, h1, h2, h3⟩ := h
  exact ⟨ds, ho.row h1 hg, fun d hd => (h2 d hd).kept hg (fun k e => by cases e; exact hF), h3⟩
/-- A meta of one's own, an entry of whose table is spoilt: its shots stay. -/
theorem MetaN.spoil {w : World} {base lo hi : Nat} {x : Mt} {M : MM} (h : MetaN w base (Iv lo hi) (Out lo hi) x M) (i : Nat) (lf : List En) (hi' : M.T[i]? = some lf) (k : Nat) (e : En) (hx : lf[k]? = some e) :
    ∃ g gi cl, x.a0 = some ⟨g, 0, none⟩ ∧ w.cell? ⟨g, i, none⟩ = some (.slice (some ⟨gi, 0, none⟩) lf.length cl) ∧ g < w.heap.size ∧ gi < w.heap.size ∧ base ≤ gi ∧ gi ≠ g ∧ (∀ t, 72 ≠ t → Off w (some gi) t) ∧ w.frozen? ⟨gi, k * 5 + 4, none⟩ = false ∧ w.cell? ⟨gi, k * 5 + 4, none⟩ = some (.int .u32 e.2.2.2.2) ∧
      ∀ z : Int, 0 ≤ z → z < 4294967296 → MetaN (w.setCell ⟨gi, k * 5 + 4, none⟩ (.int .u32 z)) base (Iv lo hi) (Out lo hi) x { M with T := M.T.set i (lf.set k (e.1, e.2.1, e.2.2.1, e.2.2.2.1, z)) } ∧ w.grownBy (w.setCell ⟨gi, k * 5 + 4, none⟩ (.int .u32 z)) (some gi) := by
  obtain ⟨g, gi, cl, h1, h2, h3, h4, h5, h6, h7, h8, h9, h10, h11⟩ := h.T.spoil i lf hi' k e hx
  refine ⟨g, gi, cl, h1, h2, h3, h4, h5, h7, h8, h9, h10, fun z hz1 hz2 => ?_⟩
  obtain ⟨q1, q2⟩ := h11 z hz1 hz2
  have hno : ¬ Out lo hi gi := fun ho => by
    rcases ho with ho | ho
    · exact absurd h6.1 (by omega)
    · exact absurd h6.2 (by omega)
  exact ⟨⟨h.hc, h.hs, h.hbk, q1, h.S.spare (h8 _ (by decide)) hno q2, h.B.off (h8 _ (by decide)) (h8 _ (by decide)) q2, h.K.off (h8 _ (by decide)) q2⟩, q2⟩
theorem Blk.spare {w w' : World} {Y gi : Nat} {t : TypeId} {cs : Array Value} (h : Blk w Y t cs) (ho : Off w (some gi) t) (hg : w.grownBy w' (some gi)) : Blk w' Y t cs := h.kept hg fun e => by cases e; exact ho _ _ rfl h _ _ rfl
end Go.Proofs.Ytipljkegmhclkaa
namespace Go.Proofs.Ytipljkegmhclkaa
open Go.RowKit
set_option linter.unusedVariables false

def txO : ByteArray := ⟨#[111, 110, 101, 45, 109, 111, 114, 101]⟩
theorem txO_ok : nameOk txO := by decide +kernel
theorem add_cases (M : MM) : (∃ z, addM M txO = (MM0, z) ∧ (z = 5 ∨ z = 9)) ∨ (addM M txO = ({ M with S := M.S ++ [(txO, M.s, M.T)] }, 0) ∧ fndS txO M.S < 0) := by
  unfold addM
  rw [if_neg (fun h => h txO_ok)]
  by_cases h1 : 0 ≤ fndS txO M.S
  · rw [if_pos h1]
    exact Or.inl ⟨5, rfl, Or.inl rfl⟩
  · rw [if_neg h1]
    by_cases h2 : 8 ≤ M.S.length
    · rw [if_pos h2]
      exact Or.inl ⟨9, rfl, Or.inr rfl⟩
    · rw [if_neg h2]
      exact Or.inr ⟨rfl, by omega⟩
theorem fnd_added {nm : ByteArray} {S : List ShM} (h : fndS nm S < 0) (s : Int) (T : Tb) : fndS nm (S ++ [(nm, s, T)]) = S.length ∧ (S ++ [(nm, s, T)])[S.length]? = some (nm, s, T) := by
  have hat : (S ++ [(nm, s, T)])[S.length]? = some (nm, s, T) := by
    rw [List.getElem?_append_right (Nat.le_refl _), Nat.sub_self]
    rfl
  refine ⟨fndS_at hat rfl fun k hk e he => ?_, hat⟩
  rw [List.getElem?_append_left hk] at he
  rcases fndS_cases nm S with ⟨_, hn⟩ | ⟨i, _, hi, _⟩
  · exact hn e (List.mem_of_getElem? he)
  · omega
theorem back_added {M : MM} {nm : ByteArray} (h : fndS nm M.S < 0) (T' : Tb) : backM { M with S := M.S ++ [(nm, M.s, M.T)], T := T' } nm = ({ M with S := M.S ++ [(nm, M.s, M.T)], B := setAll M.B (clN M.s M.c) }, 0) := by
  obtain ⟨h1, h2⟩ := fnd_added h M.s M.T
  unfold backM
  dsimp only
  rw [h1, if_neg (by omega), Int.toNat_natCast, atS_is h2]
theorem mild_added {M : MM} (h : Mild M) (nm : ByteArray) (T' : Tb) : Mild { M with S := M.S ++ [(nm, M.s, M.T)], T := T' } :=
  ⟨h.c, h.s, fun d hd => by
    rcases List.mem_append.1 hd with hd | hd
    · exact h.S d hd
    · obtain rfl : d = (nm, M.s, M.T) := by simpa using hd
      exact h.s, h.B⟩
/-- The same shape. -/
def SameS (T T' : Tb) : Prop := T'.length = T.length ∧ ∀ i, (T'.getD i []).length = (T.getD i []).length
theorem SameS.refl (T : Tb) : SameS T T := ⟨rfl, fun _ => rfl⟩
theorem SameS.set {T T' : Tb} (h : SameS T T') {i : Nat} {lf lf' : List En} (hi : T'[i]? = some lf) (hl : lf'.length = lf.length) : SameS T (T'.set i lf') := by
  refine ⟨by rw [List.length_set]; exact h.1, fun j => ?_⟩
  rw [← h.2 j, List.getD_eq_getElem?_getD, List.getD_eq_getElem?_getD, List.getElem?_set]
  by_cases e : i = j
  · subst e
    rw [if_pos rfl, if_pos (List.getElem?_eq_some_iff.1 hi).1, hi]
    exact hl
  · rw [if_neg e]
/-- A leaf of a table of one's own. -/
theorem TabF.leafAt {w : World} {base len cap : Nat} {F : Nat → Prop} {a : Option Addr} {T : Tb} (h : TabF w base F a len cap T) (i : Nat) (hi : i < len) : ∃ g al ll cl lf, a = some ⟨g, 0, none⟩ ∧ g < w.heap.size ∧ w.cell? ⟨g, i, none⟩ = some (.slice al ll cl) ∧ T[i]? = some lf ∧ lf.length = ll ∧ ll = (T.getD i []).length ∧ ll ≤ 1000000 := by
  obtain ⟨es, hq, rfl, hlen, hll, _, _⟩ := h
  obtain ⟨g, ⟨al, ll, cl, xs⟩, e1, hg1, hg2, hd, hc, _⟩ := hq.at i hi
  have hL := hq.leaf _ (List.mem_of_getElem? hd)
  have hT : (tbOf es)[i]? = some xs := by
    unfold tbOf
    rw [List.getElem?_map, hd]
    rfl
  have hx : xs.length = ll := hL.1.2.1
  exact ⟨g, al, ll, cl, xs, e1, hg2, hc, hT, hx, by rw [List.getD_eq_getElem?_getD, hT]; exact hx.symm, by rw [← hx]; exact hll xs (List.mem_of_getElem? hT)⟩
/-- Between two stores into the table of a meta of one's own that lies in a box. -/
structure Apa (V : World) (A lo hi : Nat) (cs : Array Value) (x : Mt) (M : MM) (W : World) : Prop where
  ex : ∃ T', SameS M.T T' ∧ MetaN W V.heap.size (Iv lo hi) (Out lo hi) x { M with T := T' }
  box : Blk W A 29 cs
  dat : Below V.heap.size V W
theorem Apa.store {V W : World} {A lo hi : Nat} {cs : Array Value} {x : Mt} {M : MM} (h : Apa V A lo hi cs x M W) (i k : Nat) (hi' : i < x.n0) (hk : k < (M.T.getD i []).length) : ∃ g gi cl s, x.a0 = some ⟨g, 0, none⟩ ∧ W.cell? ⟨g, i, none⟩ = some (.slice (some ⟨gi, 0, none⟩) (M.T.getD i []).length cl) ∧ W.frozen? ⟨gi, k * 5 + 4, none⟩ = false ∧ W.cell? ⟨gi, k * 5 + 4, none⟩ = some (.int .u32 s) ∧ ∀ z : Int, 0 ≤ z → z < 4294967296 → Apa V A lo hi cs x M (W.setCell ⟨gi, k * 5 + 4, none⟩ (.int .u32 z)) := by
  obtain ⟨⟨T', hS, hN⟩, hB, hD⟩ := h
  obtain ⟨_, _, _, _, lf, _, _, _, hT, _, hll, _⟩ := hN.T.leafAt i hi'
  have hlf : lf.length = (M.T.getD i []).length := by
    rw [← hS.2 i, List.getD_eq_getElem?_getD, hT]
    rfl
  obtain ⟨e, he⟩ : ∃ e, lf[k]? = some e := ⟨_, List.getElem?_eq_getElem (by omega)⟩
  obtain ⟨g, gi, cl, h1, h2, h3, h4, h5, h6, h7, h8, h9, h10⟩ := hN.spoil i lf hT k e he
  rw [hlf] at h2
  refine ⟨g, gi, cl, _, h1, h2, h8, h9, fun z hz1 hz2 => ?_⟩
  obtain ⟨q1, q2⟩ := h10 z hz1 hz2
  exact ⟨⟨_, hS.set hT (by rw [List.length_set]), q1⟩, hB.spare (h7 _ (by decide)) q2, belowRow hD q2 h5 hD.size⟩
theorem Apa.leaf {V W : World} {A lo hi : Nat} {cs : Array Value} {x : Mt} {M : MM} (h : Apa V A lo hi cs x M W) (i : Nat) (hi' : i < x.n0) : ∃ g al cl, x.a0 = some ⟨g, 0, none⟩ ∧ W.cell? ⟨g, i, none⟩ = some (.slice al (M.T.getD i []).length cl) ∧ (M.T.getD i []).length ≤ 1000000 := by
  obtain ⟨⟨T', hS, hN⟩, hB, hD⟩ := h
  obtain ⟨g, al, ll, cl, lf, h1, _, h2, hT, h3, h4, h5⟩ := hN.T.leafAt i hi'
  have e : ll = (M.T.getD i []).length := by rw [h4]; exact hS.2 i
  subst e
  exact ⟨g, al, cl, h1, h2, h5⟩
/-- Between two stores into the table of a shot that lies in a box. -/
structure Apb (V : World) (A : Nat) (F : Nat → Prop) (cs : Array Value) (a : Option Addr) (n c : Nat) (T : Tb) (W : World) : Prop where
  ex : ∃ T', SameS T T' ∧ TabF W V.heap.size F a n c T'
  box : Blk W A 62 cs
  dat : Below V.heap.size V W
theorem Apb.store {V W : World} {A : Nat} {F : Nat → Prop} {cs : Array Value} {a : Option Addr} {n c : Nat} {T : Tb} (h : Apb V A F cs a n c T W) (i k : Nat) (hi' : i < n) (hk : k < (T.getD i []).length) : ∃ g gi cl s, a = some ⟨g, 0, none⟩ ∧ W.cell? ⟨g, i, none⟩ = some (.slice (some ⟨gi, 0, none⟩) (T.getD i []).length cl) ∧ W.frozen? ⟨gi, k * 5 + 4, none⟩ = false ∧ W.cell? ⟨gi, k * 5 + 4, none⟩ = some (.int .u32 s) ∧ ∀ z : Int, 0 ≤ z → z < 4294967296 → Apb V A F cs a n c T (W.setCell ⟨gi, k * 5 + 4, none⟩ (.int .u32 z)) := by
  obtain ⟨⟨T', hS, hN⟩, hB, hD⟩ := h
  obtain ⟨_, _, _, _, lf, _, _, _, hT, _, hll, _⟩ := hN.leafAt i hi'
  have hlf : lf.length = (T.getD i []).length := by
    rw [← hS.2 i, List.getD_eq_getElem?_getD, hT]
    rfl
  obtain ⟨e, he⟩ : ∃ e, lf[k]? = some e := ⟨_, List.getElem?_eq_getElem (by omega)⟩
  obtain ⟨g, gi, cl, h1, h2, h3, h4, h5, _, h6, h7, h8, h9, h10⟩ := hN.spoil i lf hT k e he
  rw [hlf] at h2
  refine ⟨g, gi, cl, _, h1, h2, h8, h9, fun z hz1 hz2 => ?_⟩
  obtain ⟨q1, q2⟩ := h10 z hz1 hz2
  exact ⟨⟨_, hS.set hT (by rw [List.length_set]), q1⟩, hB.spare (h7 _ (by decide)) q2, belowRow hD q2 h5 hD.size⟩
theorem Apb.leaf {V W : World} {A : Nat} {F : Nat → Prop} {cs : Array Value} {a : Option Addr} {n c : Nat} {T : Tb} (h : Apb V A F cs a n c T W) (i : Nat) (hi' : i < n) : ∃ g al cl, a = some ⟨g, 0, none⟩ ∧ W.cell? ⟨g, i, none⟩ = some (.slice al (T.getD i []).length cl) ∧ (T.getD i []).length ≤ 1000000 := by
  obtain ⟨⟨T', hS, hN⟩, hB, hD⟩ := h
  obtain ⟨g, al, ll, cl, lf, h1, _, h2, hT, h3, h4, h5⟩ := hN.leafAt i hi'
  have e : ll = (T.getD i []).length := by rw [h4]; exact hS.2 i
  subst e
  exact ⟨g, al, cl, h1, h2, h5⟩
end Go.Proofs.Ytipljkegmhclkaa
namespace Go.Proofs.Ytipljkegmhclkaa
open Go.RowKit Go.Deep
set_option linter.unusedVariables false

/-- A leaf of a table that came in: it reads where it is not long. -/
def LfW (w : World) (d : LfD) : Prop := d.2.2.2.length = d.2.1 ∧ d.2.1 ≤ maxLen ∧ (d.2.1 ≤ 6000 → LfR w d)
/-- A table that came in. -/
def TabW (w : World) (a : Option Addr) (len : Nat) (ds : List LfD) : Prop := Reads cvD w a len ds ∧ ∀ d ∈ ds, LfW w d
theorem LfW.later {w w' : World} {d : LfD} (h : LfW w d) (hb : Below w.heap.size w w') : LfW w' d := ⟨h.1, h.2.1, fun e => (h.2.2 e).later hb⟩
theorem TabW.later {w w' : World} {a : Option Addr} {len : Nat} {ds : List LfD} (h : TabW w a len ds) (hb : Below w.heap.size w w') : TabW w' a len ds := ⟨h.1.later hb, fun d hd => (h.2 d hd).later hb⟩
theorem TabW.tlen {w : World} {a : Option Addr} {len : Nat} {ds : List LfD} (h : TabW w a len ds) : (tbOf ds).length = len := by
  unfold tbOf
  rw [List.length_map]
  exact h.1.1
theorem TabW.at {w : World} {a : Option Addr} {len : Nat} {ds : List LfD} (h : TabW w a len ds) (i : Nat) (hi : i < len) :
    ∃ b off al ll cl xs, a = some ⟨b, off, none⟩ ∧ w.cell? ⟨b, off + i, none⟩ = some (.slice al ll cl) ∧ LfW w (al, ll, cl, xs) ∧ tbAt (tbOf ds) i = xs ∧ ds[i]? = some (al, ll, cl, xs) := by
  obtain ⟨b, off, rfl⟩ := h.1.lies (by omega)
  have hl := h.1.1
  have hd : ds[i]? = some ds[i] := List.getElem?_eq_getElem (by omega)
  have hc := h.1.cellAt lf_rowed i 0 ds[i] _ hd rfl
  rw [Nat.mul_one, Nat.add_zero] at hc
  refine ⟨b, off, ds[i].1, ds[i].2.1, ds[i].2.2.1, ds[i].2.2.2, rfl, hc, h.2 _ (List.getElem_mem _), ?_, hd⟩
  unfold tbAt tbOf
  rw [List.getD_eq_getElem?_getD, List.getElem?_map, hd]
  rfl
/-- A table that came in, however long. -/
theorem TabArg.tabW {w : World} {a : Option Addr} {len cap : Nat} (h : TabArg w a len cap) (h512 : len ≤ 512) : ∃ ds, TabW w a len ds := by
  obtain ⟨hc, g, hg, hi⟩ := h
  have one : ∀ i, i < len → ∃ x : List En, x.length = (g i).2.1 ∧ ((g i).2.1 ≤ 6000 → LfR w ((g i).1, (g i).2.1, (g i).2.2, x)) := fun i hil => by
    by_cases h6 : (g i).2.1 ≤ 6000
    · obtain ⟨x, hx⟩ := hi i hil h6
      exact ⟨x, hx.len, fun _ => hx⟩
    · exact ⟨List.replicate (g i).2.1 enZ, List.length_replicate, fun e => absurd e h6⟩
  obtain ⟨xs, hxs⟩ := choose_lt (α := List En) one
  refine ⟨(List.range len).map (fun i => ((g i).1, (g i).2.1, (g i).2.2, xs i)), ⟨by simp, by omega, ?_⟩, fun d hd => ?_⟩
  · by_cases h0 : len = 0
    · exact Or.inl h0
    · obtain ⟨b, off, e, hlt, hcc⟩ := hg.2.2 (by omega)
      refine Or.inr ⟨b, off, e, hlt, fun j u hu => ?_⟩
      have hlt : j < len * 1 := by
        rcases Nat.lt_or_ge j (len * 1) with h' | h'
        · exact h'
        · rw [List.getElem?_eq_none (by rw [flat_len lf_rowed.len, List.length_map, List.length_range]; exact h')] at hu
          cases hu
      rw [Nat.mul_one] at hlt
      have hat := flat_at lf_rowed.len ((List.range len).map (fun i => ((g i).1, (g i).2.1, (g i).2.2, xs i))) j 0 _ (by rw [List.getElem?_map, List.getElem?_range hlt]; rfl) (by omega)
      rw [Nat.mul_one, Nat.add_zero] at hat
      rw [hat] at hu
      cases hu
      exact hcc j hlt
  · obtain ⟨i, hir, rfl⟩ := List.mem_map.1 hd
    have hil := List.mem_range.1 hir
    exact ⟨(hxs i hil).1, hg.2.1 i hil, (hxs i hil).2⟩
/-- A right one is a table as any other. -/
theorem TabW.tab {w : World} {a : Option Addr} {len cap : Nat} {ds : List LfD} (h : TabW w a len ds) (hc : Caps a len cap) {n c : Int} (hr : rightT (tbOf ds) n c) : Tab w a len cap (tbOf ds) := by
  obtain ⟨h1, h2⟩ := right_lens hr
  have hl := h.tlen
  have h8 : ∀ d ∈ ds, d.2.1 ≤ 8 := fun d hd => by
    rw [← (h.2 d hd).1]
    exact h2 _ (List.mem_map.2 ⟨d, hd, rfl⟩)
  exact ⟨ds, ⟨h.1, fun d hd => (h.2 d hd).2.2 (by have := h8 d hd; omega)⟩, hc, rfl, by omega, fun d hd => by have := h8 d hd; omega⟩
set_option maxRecDepth 100000 in
set_option maxHeartbeats 3200000 in
theorem refRightW (w : World) (a : Option Addr) (len cap : Nat) (ds : List LfD) (n c : Int) (h : TabW w a len ds) (R : Bool) (hR : decide (rightT (tbOf ds) n c) = R) : Calls Try.prog 10 #[.agg #[.slice a len cap], .int .i64 n, .int .i64 c] w fun e w' => e = .returned (.bool R) ∧ Below w.heap.size w w' := by
  have hR' : R = true ↔ rightT (tbOf ds) n c := by rw [← hR, decide_eq_true_iff]
  have HG0 : Hid (Below w.heap.size w (w.alloc (.cells #[.slice a len cap] 24))) := (Below.refl _ _).alloc (Nat.le_refl _) _
  have hlt' := h.tlen
  by_cases hg : (0 ≤ n ∧ n ≤ 4096) ∧ (0 ≤ c ∧ c ≤ 6)
  · obtain ⟨hn, hc⟩ := hg
    obtain ⟨N, rfl⟩ : ∃ N : Nat, n = N := ⟨n.toNat, by omega⟩
    obtain ⟨C, rfl⟩ : ∃ C : Nat, c = C := ⟨c.toNat, by omega⟩
    by_cases hlast : 0 < len → tbAt (tbOf ds) (len - 1) ≠ []
    · by_cases h512 : len ≤ 512
      · have HRL : Hid (R = true ↔ ∀ i, i < len → tbAt (tbOf ds) i ≠ [] → rightL (tbAt (tbOf ds) i) i N C) := by
          show _ ↔ _
          rw [hR']
          unfold rightT
          rw [hlt']
          exact ⟨fun h => h.2.2.2.2, fun h => ⟨hn, hc, hlast, h512, h⟩⟩
        have HT := Lib.hid h
        have HB0 := Lib.hid (Box1.first w (.slice a len cap))
        obtain ⟨X, hX⟩ := named w.heap.size
        have hXX := hX.out
        rw [hX.out] at HB0 ⊢
        clear hR hR'
        by_cases h0 : len = 0
        · subst h0
          have hr : R = true := HRL.out.2 fun i hi => by omega
          subst hr
          clear h
          go_enter Try.func10, Try.ntmps10
          go_wp2
          go_loopw [7] (fun i wr => i = .int .i64 0 ∧ Hid (Box1 X (.slice a 0 cap) w wr)) (fun _ _ => 1)
          case atStart => exact ⟨rfl, HB0.out⟩
          case round =>
            obtain ⟨rfl, HB⟩ := hrel
            have b1 := HB.out.cell
            go_wp2
            go_ret
            exact ⟨rfl, HB.out.2⟩
        · obtain ⟨b, off, al, ll, cl, xs, rfl, hcell, hL, hxs, _⟩ := (h.later HG0.out).at (len - 1) (by omega)
          have hl0 : ¬ ll = 0 := fun e => hlast (by omega) (hxs.trans (List.eq_nil_of_length_eq_zero (hL.1.trans e)))
          have e1 : wrap64 ((len : Int) - 1) = ((len - 1 : Nat) : Int) := by unfold wrap64; omega
          have h02 : len - 1 < len := by omega
          have h03 : 0 < len := by omega
          have d1 : decide ((N : Int) < 0) = false := decide_eq_false (by omega)
          have d2 : decide (4096 < (N : Int)) = false := decide_eq_false (by omega)
          have d3 : decide ((C : Int) < 0) = false := decide_eq_false (by omega)
          have d4 : decide (6 < (C : Int)) = false := decide_eq_false (by omega)
          have d5 : ((ll : Int) == 0) = false := by simp [hl0]
          have d6 : decide (512 < (len : Int)) = false := decide_eq_false (by omega)
          clear hlast h hL hxs
          go_enter Try.func10, Try.ntmps10
          go_wp2
          clear hcell d5
          go_loopw [7] (fun i wr => ∃ j : Nat, j ≤ len ∧ i = .int .i64 j ∧ Hid (∀ i, i < j → tbAt (tbOf ds) i ≠ [] → rightL (tbAt (tbOf ds) i) i N C) ∧ Hid (Box1 X (.slice (some ⟨b, off, none⟩) len cap) w wr)) (fun i _ => len - (intOf i).toNat)
          case atStart => exact ⟨0, Nat.zero_le _, rfl, fun k hk => by omega, HB0.out⟩
          case round =>
            obtain ⟨j, hj, rfl, HJ, HB⟩ := hrel
            have hTR := HT.out.later (hX.out.symm ▸ HB.out.2)
            have b1 := HB.out.cell
            by_cases hlt : j < len
            · obtain ⟨b0, off0, al, ll, cl, xs, e0, hcell, hL, hxs, hget⟩ := hTR.at j hlt
              cases e0
              have HXS := Lib.hid hxs
              by_cases h0 : ll = 0
              · subst h0
                have he : xs = [] := List.eq_nil_of_length_eq_zero hL.1
                have HJ2 : Hid (∀ i, i < j + 1 → tbAt (tbOf ds) i ≠ [] → rightL (tbAt (tbOf ds) i) i N C) := fun i hi hne => by
                  by_cases e : i = j
                  · subst e
                    exact absurd (HXS.out.trans he) hne
                  · exact HJ.out i (by omega) hne
                clear hTR hL hxs he hget
                go_wp2
                go_roundw
                case rel => exact ⟨j + 1, by omega, by go_num, HJ2, HB.out⟩
                case measure => simp [intOf]; omega
              · have hne : xs ≠ [] := fun e => by
                  have := hL.1
                  dsimp only at this
                  rw [e] at this
                  exact h0 this.symm
                have HL := Lib.hid hL
                have HNO : Hid (¬ rightL xs j N C → R = false) := fun hno => by
                  cases R with
                  | false => rfl
                  | true =>
                    have := HRL.out.1 rfl j hlt (by rw [HXS.out]; exact hne)
                    rw [HXS.out] at this
                    exact absurd this hno
                by_cases h8 : ll = 8
                · subst h8
                  have HJ2 : Hid (rightL xs j N C → ∀ i, i < j + 1 → tbAt (tbOf ds) i ≠ [] → rightL (tbAt (tbOf ds) i) i N C) := fun hrj i hi hne => by
                    by_cases e : i = j
                    · subst e
                      rw [HXS.out]
                      exact hrj
                    · exact HJ.out i (by omega) hne
                  have HLEN := Lib.hid hL.1
                  have HGET := Lib.hid hget
                  clear hTR hL hxs hget
                  go_wp2
                  go_loopw [8, 9] (fun v i w9 => ∃ q : Nat, ∃ B : Bool, q ≤ 8 ∧ i = .int .i64 q ∧ v = .bool B ∧ Hid (∀ k, k < q → MayE (lfAt xs k) C ∧ ((lfAt xs k).1 ≠ 0 → ((j * 8 + k : Nat) : Int) < N)) ∧ Hid (B = true ↔ ∃ k, k < q ∧ (lfAt xs k).1 ≠ 0) ∧ Hid (Box1 X (.slice (some ⟨b, off, none⟩) len cap) w w9)) (fun _ i _ => 8 - (intOf i).toNat)
                  case atStart => exact ⟨0, false, by omega, rfl, rfl, fun k hk => by omega, ⟨fun e => (by cases e), fun ⟨k, hk, _⟩ => by omega⟩, HB.out⟩
                  case round =>
                    obtain ⟨q, B, hq, rfl, rfl, HK, HBB, HB9⟩ := hrel
                    have b9 := HB9.out.cell
                    have hTR9 := HT.out.later (hX.out.symm ▸ HB9.out.2)
                    by_cases hql : q < 8
                    · obtain ⟨b0, off0, al0, ll0, cl0, xs0, e0, hcell9, hL9, hxs9, hget⟩ := hTR9.at j hlt
                      cases e0
                      obtain ⟨rfl, rfl, rfl, rfl⟩ : al0 = al ∧ ll0 = 8 ∧ cl0 = cl ∧ xs0 = xs := by
                        have := HGET.out.symm.trans hget
                        simp only [Option.some.injEq, Prod.mk.injEq] at this
                        exact ⟨this.1.symm, this.2.1.symm, this.2.2.1.symm, this.2.2.2.symm⟩
                      obtain ⟨b', off', e1, hs, x1, x2, x3, x4, x5⟩ := (hL9.2.2 (by show (8 : Nat) ≤ 6000; omega)).at q hql
                      dsimp only at e1 hs x1 x2 x3 x4 x5
                      subst e1
                      have hno : ¬ (MayE (lfAt xs0 q) C ∧ ((lfAt xs0 q).1 ≠ 0 → ((j * 8 + q : Nat) : Int) < N)) → R = false := fun h => HNO.out fun hr => h (hr.2.1 q hql)
                      have heq : MayE (lfAt xs0 q) C ∧ ((lfAt xs0 q).1 ≠ 0 → ((j * 8 + q : Nat) : Int) < N) → Hid (∀ k, k < q + 1 → MayE (lfAt xs0 k) C ∧ ((lfAt xs0 k).1 ≠ 0 → ((j * 8 + k : Nat) : Int) < N)) := fun h k hk => by
                        by_cases e : k = q
                        · rw [e]; exact h
                        · exact HK.out k (by omega)
                      have hB1 : (lfAt xs0 q).1 ≠ 0 → Hid (true = true ↔ ∃ k, k < q + 1 ∧ (lfAt xs0 k).1 ≠ 0) := fun h => ⟨fun _ => ⟨q, by omega, h⟩, fun _ => rfl⟩
                      have hB2 : (lfAt xs0 q).1 = 0 → Hid (B = true ↔ ∃ k, k < q + 1 ∧ (lfAt xs0 k).1 ≠ 0) := fun h => ⟨fun e => by
                        obtain ⟨k, h1, h2⟩ := HBB.out.1 e
                        exact ⟨k, by omega, h2⟩, fun ⟨k, h1, h2⟩ => HBB.out.2 ⟨k, by
                          rcases Nat.lt_or_ge k q with h' | h'
                          · exact h'
                          · exact absurd (by rw [show k = q by omega]; exact h) h2, h2⟩⟩
                      obtain ⟨⟨v1, v2, v3, v4, v5⟩, HV⟩ := named (lfAt xs0 q)
                      rw [HV.out] at x1 x2 x3 x4 x5 hno heq hs hB1 hB2
                      dsimp only at x1 x2 x3 x4 x5 hno heq hB1 hB2
                      have hcast : ((j * 8 + q : Nat) : Int) = (j : Int) * 8 + q := by omega
                      rw [hcast] at hno heq
                      clear hcast
                      clear HV hTR9 hget hxs9 hL9
                      by_cases hm : MayE (v1, v2, v3, v4, v5) C
                      · have HM := Lib.hid (fun w => rmayC hs (decide_eq_true hm) w)
                        by_cases hv : v1 = 0
                        · subst hv
                          have HQ2 := heq ⟨hm, fun h => absurd rfl h⟩
                          have HB2 := hB2 rfl
                          clear hno heq hs hm hB1 hB2
                          have hvb : ((0 : Int) != 0) = false := rfl
                          cases B
                          all_goals
                            go_wp2_with (go_at_call 32; (with_reducible refine (HM.out _).mono ?_); rintro e w2 ⟨rfl, g⟩; have HN2 := Lib.hid ((HB9.out.alloc (.cells #[.int .i64 0, .int .i64 v2, .int .i64 v3, .int .i64 v4, .int .u32 v5] 72)).later g); have k1 := ek_at g; clear g)
                            go_roundw
                            case rel => exact ⟨q + 1, _, by omega, by go_num, rfl, HQ2, (by have := HB2.out; show _ ↔ _; simpa using this), HN2.out⟩
                            case measure => simp [intOf]; omega
                        · by_cases hlt9 : (j : Int) * 8 + q < N
                          · have HQ2 := heq ⟨hm, fun _ => hlt9⟩
                            have HB2 := hB1 hv
                            have hvb : (v1 != 0) = true := by simp [hv]
                            have d7 : decide ((N : Int) ≤ (j : Int) * 8 + q) = false := decide_eq_false (by omega)
                            clear hno heq hs hm hB1 hB2 HBB
                            cases B
                            all_goals
                              go_wp2_with (go_at_call 32; (with_reducible refine (HM.out _).mono ?_); rintro e w2 ⟨rfl, g⟩; have HN2 := Lib.hid ((HB9.out.alloc (.cells #[.int .i64 v1, .int .i64 v2, .int .i64 v3, .int .i64 v4, .int .u32 v5] 72)).later g); have k1 := ek_at g; clear g)
                              go_roundw
                              case rel => exact ⟨q + 1, true, by omega, by go_num, rfl, HQ2, (by have := HB2.out; show _ ↔ _; simpa using this), HN2.out⟩
                              case measure => simp [intOf]; omega
                          · have hr : R = false := hno fun h => hlt9 (h.2 hv)
                            have hvb : (v1 != 0) = true := by simp [hv]
                            have d7 : decide ((N : Int) ≤ (j : Int) * 8 + q) = true := decide_eq_true (by omega)
                            subst hr
                            clear hno heq hs hm hB1 hB2
                            go_wp2_with (go_at_call 32; (with_reducible refine (HM.out _).mono ?_); rintro e w2 ⟨rfl, g⟩; have HN2 := Lib.hid ((HB9.out.alloc (.cells #[.int .i64 v1, .int .i64 v2, .int .i64 v3, .int .i64 v4, .int .u32 v5] 72)).later g); have k1 := ek_at g; clear g)
                            go_ret
                            exact ⟨rfl, HN2.out.2⟩
                      · have HM := Lib.hid (fun w => rmayC hs (decide_eq_false hm) w)
                        have hr : R = false := hno fun h => hm h.1
                        subst hr
                        clear hno heq hs hm hB1 hB2
                        go_wp2_with (go_at_call 32; (with_reducible refine (HM.out _).mono ?_); rintro e w2 ⟨rfl, g⟩; have HN2 := Lib.hid ((HB9.out.alloc (.cells #[.int .i64 v1, .int .i64 v2, .int .i64 v3, .int .i64 v4, .int .u32 v5] 72)).later g); have k1 := ek_at g; clear g)
                        go_ret
                        exact ⟨rfl, HN2.out.2⟩
                    · have hq8 : q = 8 := by omega
                      subst hq8
                      by_cases hB : B = true
                      · subst hB
                        have HJ3 := Lib.hid (HJ2.out ⟨HLEN.out, HK.out, HBB.out.1 rfl⟩)
                        clear hTR9
                        go_wp2
                        go_roundw
                        case rel => exact ⟨j + 1, by omega, by go_num, HJ3.out, HB9.out⟩
                        case measure => simp [intOf]; omega
                      · have hr : R = false := HNO.out fun h => hB (HBB.out.2 h.2.2)
                        subst hr
                        clear hTR9
                        go_wp2
                        go_ret
                        exact ⟨rfl, HB9.out.2⟩
                · have hr : R = false := HNO.out fun h => h8 (hL.1.symm.trans h.1)
                  subst hr
                  clear hTR hL hxs hget
                  go_wp2
                  go_ret
                  exact ⟨rfl, HB.out.2⟩
            · have hr : R = true := HRL.out.2 fun i hi => HJ.out i (by omega)
              subst hr
              clear hTR
              go_wp2
              go_ret
              exact ⟨rfl, HB.out.2⟩
      · have hr : R = false := by
          cases R with
          | false => rfl
          | true =>
            have := (hR'.1 rfl).2.2.2.1
            omega
        subst hr
        obtain ⟨b, off, al, ll, cl, xs, rfl, hcell, hL, hxs, _⟩ := (h.later HG0.out).at (len - 1) (by omega)
        have hl0 : ¬ ll = 0 := fun e => hlast (by omega) (hxs.trans (List.eq_nil_of_length_eq_zero (hL.1.trans e)))
        have hm := h.1.2.1
        have e1 : wrap64 ((len : Int) - 1) = ((len - 1 : Nat) : Int) := by unfold wrap64; omega
        have h02 : len - 1 < len := by omega
        clear hlast h hL hxs hR hR'
        go_enter Try.func10, Try.ntmps10
        go_wp2
        go_ret
        exact ⟨rfl, HG0.out⟩
    · have hr : R = false := by
        cases R with
        | false => rfl
        | true =>
          have := (hR'.1 rfl).2.2.1
          rw [hlt'] at this
          exact absurd this hlast
      subst hr
      have hp : 0 < len := Decidable.byContradiction fun h' => hlast fun h => absurd h h'
      have hnil : tbAt (tbOf ds) (len - 1) = [] := Decidable.byContradiction fun h' => hlast fun _ => h'
      obtain ⟨b, off, al, ll, cl, xs, rfl, hcell, hL, hxs, _⟩ := (h.later HG0.out).at (len - 1) (by omega)
      have hl0 : ll = 0 := by
        have := hL.1
        dsimp only at this
        rw [← hxs, hnil] at this
        exact this.symm
      subst hl0
      have hm := h.1.2.1
      have e1 : wrap64 ((len : Int) - 1) = ((len - 1 : Nat) : Int) := by unfold wrap64; omega
      have h02 : len - 1 < len := by omega
      have h03 : ¬ len = 0 := by omega
      clear hlast h hL hxs hR hR' hnil
      go_enter Try.func10, Try.ntmps10
      go_wp2
      go_ret
      exact ⟨rfl, HG0.out⟩
  · have hr : R = false := by
      cases R with
      | false => rfl
      | true => exact absurd ⟨(hR'.1 rfl).1, (hR'.1 rfl).2.1⟩ hg
    subst hr
    have hcs : n < 0 ∨ (0 ≤ n ∧ 4096 < n) ∨ (0 ≤ n ∧ n ≤ 4096 ∧ c < 0) ∨ (0 ≤ n ∧ n ≤ 4096 ∧ 0 ≤ c ∧ 6 < c) := by omega
    clear hR hR' h hg
    rcases hcs with h1 | ⟨h1, h2⟩ | ⟨h1, h2, h3⟩ | ⟨h1, h2, h3, h4⟩
    all_goals
      go_enter Try.func10, Try.ntmps10
      go_wp2
      go_ret
      exact ⟨rfl, HG0.out⟩

set_option maxRecDepth 100000 in
set_option maxHeartbeats 1600000 in
/-- A table of too many leaves. -/
theorem refRightLong (w : World) (a : Option Addr) (len cap : Nat) (n c : Int) (h : TabArg w a len cap) (hl : 512 < len) : Calls Try.prog 10 #[.agg #[.slice a len cap], .int .i64 n, .int .i64 c] w fun e w' => e = .returned (.bool false) ∧ Below w.heap.size w w' := by
  have HG0 : Hid (Below w.heap.size w (w.alloc (.cells #[.slice a len cap] 24))) := (Below.refl _ _).alloc (Nat.le_refl _) _
  obtain ⟨_, g, hg, _⟩ := h
  have hmx : len ≤ 9223372036854775807 := by have := hg.1; unfold maxLen at this; omega
  obtain ⟨b, off, rfl, hb, hc⟩ := (hg.later HG0.out).2.2 (by omega)
  have hcell := hc (len - 1) (by omega)
  obtain ⟨⟨al, ll, cl⟩, hG⟩ := named (g (len - 1))
  rw [hG.out] at hcell
  dsimp only at hcell
  have e1 : wrap64 ((len : Int) - 1) = ((len - 1 : Nat) : Int) := by unfold wrap64; omega
  have h02 : len - 1 < len := by omega
  have h03 : 0 < len := by omega
  have h04 : ¬ len = 0 := by omega
  have h5 : decide (512 < (len : Int)) = true := decide_eq_true (by omega)
  have hcs : n < 0 ∨ (0 ≤ n ∧ 4096 < n) ∨ (0 ≤ n ∧ n ≤ 4096 ∧ c < 0) ∨ (0 ≤ n ∧ n ≤ 4096 ∧ 0 ≤ c ∧ 6 < c) ∨ (0 ≤ n ∧ n ≤ 4096 ∧ 0 ≤ c ∧ c ≤ 6) := by omega
  clear hg hc hb hG
  rcases hcs with h1 | ⟨h1, h2⟩ | ⟨h1, h2, h3⟩ | ⟨h1, h2, h3, h4⟩ | ⟨h1, h2, h3, h4⟩
  iterate 4
    · go_enter Try.func10, Try.ntmps10
      go_wp2
      go_ret
      exact ⟨rfl, HG0.out⟩
  have q1 : decide (n < 0) = false := decide_eq_false (by omega)
  have q2 : decide (4096 < n) = false := decide_eq_false (by omega)
  have q3 : decide (c < 0) = false := decide_eq_false (by omega)
  have q4 : decide (6 < c) = false := decide_eq_false (by omega)
  by_cases h0 : ll = 0
  · subst h0
    go_enter Try.func10, Try.ntmps10
    go_wp2
    go_ret
    exact ⟨rfl, HG0.out⟩
  · have q5 : ((ll : Int) == 0) = false := by simp [h0]
    go_enter Try.func10, Try.ntmps10
    go_wp2
    go_ret
    exact ⟨rfl, HG0.out⟩
/-- What TableRight answers of any table that came in. -/
theorem refRightArg (w : World) (a : Option Addr) (len cap : Nat) (n c : Int) (w0 : World) (h : TabArg w0 a len cap) (hb : Below w0.heap.size w0 w) : ∃ R : Bool, (R = true → ∃ T, rightT T n c ∧ Tab w0 a len cap T) ∧ Calls Try.prog 10 #[.agg #[.slice a len cap], .int .i64 n, .int .i64 c] w fun e w' => e = .returned (.bool R) ∧ Below w.heap.size w w' := by
  by_cases hl : len ≤ 512
  · obtain ⟨ds, hd⟩ := h.tabW hl
    refine ⟨decide (rightT (tbOf ds) n c), fun hr => ⟨tbOf ds, of_decide_eq_true hr, hd.tab h.1 (of_decide_eq_true hr)⟩, refRightW w a len cap ds n c (hd.later hb) _ rfl⟩
  · exact ⟨false, (fun e => by cases e), refRightLong w a len cap n c (h.later hb) (by omega)⟩

theorem size_J (z c : Int) (hz : 0 ≤ z ∧ z < 256) (hc : 0 ≤ c ∧ c ≤ 6) : ∃ n1 n2 : Int, wrap64 z = z ∧ IntKind.u64.wrap c = c ∧ min c.toNat 64 = c.toNat ∧ wrap64 (z / 2 ^ c.toNat * 2 ^ c.toNat) = n1 ∧ n1 / 2 ^ c.toNat = n2 ∧ sizedM n1 c ∧ I64 n1 ∧ n2 = n1 / 2 ^ c.toNat := by
  have h3 : (0 : Int) < 2 ^ c.toNat := Int.pow_pos (by omega)
  have h4 := Int.ediv_mul_le z (by omega : (2 : Int) ^ c.toNat ≠ 0)
  have h5 : 0 ≤ z / 2 ^ c.toNat * 2 ^ c.toNat := Int.mul_nonneg (Int.ediv_nonneg (by omega) (by omega)) (by omega)
  refine ⟨_, _, by unfold wrap64; omega, by rw [IntKind.wrap_u64]; omega, by omega, rfl, rfl, ?_, ?_, rfl⟩
  · have e : wrap64 (z / 2 ^ c.toNat * 2 ^ c.toNat) = z / 2 ^ c.toNat * 2 ^ c.toNat := by unfold wrap64; omega
    rw [e]
    refine ⟨h5, by omega, ?_⟩
    rw [Int.mul_ediv_cancel _ (by omega)]
  · unfold wrap64 I64
    omega
def txJ : ByteArray := ⟨#[106, 117, 115, 116, 45, 110, 111, 119]⟩
theorem txJ_ok : nameOk txJ := by decide +kernel
theorem addJ_cases (M : MM) : (∃ z, addM M txJ = (MM0, z) ∧ (z = 5 ∨ z = 9)) ∨ (addM M txJ = ({ M with S := M.S ++ [(txJ, M.s, M.T)] }, 0) ∧ fndS txJ M.S < 0 ∧ M.S.length < 8) := by
  unfold addM
  rw [if_neg (fun h => h txJ_ok)]
  by_cases h1 : 0 ≤ fndS txJ M.S
  · rw [if_pos h1]
    exact Or.inl ⟨5, rfl, Or.inl rfl⟩
  · rw [if_neg h1]
    by_cases h2 : 8 ≤ M.S.length
    · rw [if_pos h2]
      exact Or.inl ⟨9, rfl, Or.inr rfl⟩
    · rw [if_neg h2]
      exact Or.inr ⟨rfl, by omega, by omega⟩
theorem rt_all : ∀ {lo : Int} (l : List Sp), Rt lo l → ∀ x ∈ l, lo < x.1 ∧ x.1 < x.2 ∧ x.2 ≤ 1073741824
  | _, [], _, x, hx => by cases hx
  | lo, y :: r, h, x, hx => by
    rcases List.mem_cons.1 hx with rfl | hx
    · exact ⟨h.1, h.2.1, h.2.2.1⟩
    · have := rt_all r h.2.2.2 x hx
      have := h.1
      have := h.2.1
      omega
theorem setA_in (on : Bool) (l : List Sp) (now : Int) (h : 0 ≤ now ∧ now ≤ 4096) (n : Int) (hn : inL (setA on l now) n) : 0 ≤ n ∧ n < now := by
  have hsub : ∀ n, inL (subL l (now, 1073741824)) n → 0 ≤ n ∧ n < now := fun n hn => by
    have hm : mayB (now, 1073741824) = true := by rw [mayB_iff]; dsimp only; omega
    obtain ⟨_, h2⟩ := (subL_in l _ hm n).1 hn
    obtain ⟨x, hx, h3, h4⟩ := hn
    have := rt_all _ (subL_right l (now, 1073741824)) x hx
    dsimp only at h2
    omega
  unfold setA at hn
  cases on with
  | false =>
    rw [if_neg Bool.false_ne_true] at hn
    exact hsub n hn
  | true =>
    rw [if_pos rfl] at hn
    by_cases h0 : now = 0
    · have hm : ¬ mayB (0, now) = true := by rw [mayB_iff]; dsimp only; omega
      unfold addL at hn
      rw [if_neg hm, subL_norm] at hn
      exact hsub n hn
    · have hm : mayB (0, now) = true := by rw [mayB_iff]; dsimp only; omega
      rw [addL_in _ _ hm, subL_norm] at hn
      rcases hn with hn | hn
      · exact hsub n hn
      · exact hn
theorem setA_on (l : List Sp) (now : Int) (h : 0 < now ∧ now ≤ 4096) : setA true l now = [(0, now)] := by
  have hr : Rt (-1) [((0 : Int), now)] := ⟨by dsimp only; omega, h.1, by dsimp only; omega, trivial⟩
  refine same_list _ _ (setA_right true l now) hr fun n => ⟨fun hn => ?_, fun ⟨x, hx, h1, h2⟩ => ?_⟩
  · have := setA_in true l now (by omega) n hn
    exact ⟨(0, now), List.mem_singleton.2 rfl, this.1, this.2⟩
  · obtain rfl := List.mem_singleton.1 hx
    unfold setA
    rw [if_pos rfl]
    have hm : mayB (0, now) = true := by rw [mayB_iff]; dsimp only; omega
    exact (addL_in _ _ hm n).2 (Or.inr ⟨h1, h2⟩)
theorem setA_last (on : Bool) (l : List Sp) (now : Int) (h : 0 ≤ now ∧ now ≤ 4096) (h0 : 0 < (setA on l now).length) : (spAt (setA on l now) ((setA on l now).length - 1)).2 ≤ 4096 := by
  have hx : spAt (setA on l now) ((setA on l now).length - 1) ∈ setA on l now := List.mem_of_getElem? (spAt_some _ _ (by omega))
  have hb := rt_all _ (setA_right on l now) _ hx
  have := setA_in on l now h ((spAt (setA on l now) ((setA on l now).length - 1)).2 - 1) ⟨_, hx, by omega, by omega⟩
  omega
theorem clN_right {M : MM} (h : RightMt M) : clN M.s M.c = M.s / 2 ^ M.c.toNat ∧ 0 ≤ clN M.s M.c ∧ clN M.s M.c ≤ 4096 ∧ (0 < M.s → 0 < clN M.s M.c) := by
  have h0 := h.s
  unfold sizedM at h0
  have e : clN M.s M.c = M.s / 2 ^ M.c.toNat := by unfold clN; rw [if_neg (by omega)]
  rw [e]
  refine ⟨rfl, Int.ediv_nonneg h0.1 (by exact Int.le_of_lt (Int.pow_pos (by omega))), Int.le_trans (Int.ediv_le_self _ h0.1) h0.2.1, fun hp => ?_⟩
  rcases Int.lt_or_le 0 (M.s / 2 ^ M.c.toNat) with h1 | h1
  · exact h1
  · have h2 : 0 ≤ M.s / 2 ^ M.c.toNat := Int.ediv_nonneg h0.1 (by exact Int.le_of_lt (Int.pow_pos (by omega)))
    have h3 : M.s / 2 ^ M.c.toNat = 0 := by omega
    have h4 := h0.2.2
    rw [h3] at h4
    omega
/-- The meta that went back to the shot just taken. -/
def wentM (M : MM) : MM := { M with S := M.S ++ [(txJ, M.s, M.T)], B := setAll M.B (clN M.s M.c) }
theorem back_J {M : MM} (h : fndS txJ M.S < 0) (T' : Tb) (s' : Int) : backM { M with S := M.S ++ [(txJ, M.s, M.T)], T := T', s := s' } txJ = (wentM M, 0) := by
  obtain ⟨h1, h2⟩ := fnd_added h M.s M.T
  unfold backM wentM
  dsimp only
  rw [h1, if_neg (by omega), Int.toNat_natCast, atS_is h2]
theorem mild_J {M : MM} (h : Mild M) (T' : Tb) {s' : Int} (hs : s' ≤ 1073741824) : Mild { M with S := M.S ++ [(txJ, M.s, M.T)], T := T', s := s' } :=
  ⟨h.c, hs, fun d hd => by
    rcases List.mem_append.1 hd with hd | hd
    · exact h.S d hd
    · obtain rfl : d = (txJ, M.s, M.T) := by simpa using hd
      exact h.s, h.B⟩
theorem drop_J {M : MM} (h : fndS txJ M.S < 0) : dropM (wentM M) txJ = ({ wentM M with S := M.S }, 0) := by
  obtain ⟨h1, h2⟩ := fnd_added h M.s M.T
  unfold dropM wentM
  dsimp only
  rw [h1, if_neg (by omega), Int.toNat_natCast, List.take_append_of_le_length (Nat.le_refl _), List.take_length, List.drop_eq_nil_of_le (by simp), List.append_nil]
theorem fndS_min {nm : ByteArray} {S : List ShM} {i : Nat} (h : fndS nm S = i) : i < S.length ∧ ∀ k, k < i → ∀ e, S[k]? = some e → e.1 ≠ nm := by
  rcases fndS_cases nm S with ⟨h1, _⟩ | ⟨j, d, h1, h2, h3, h4, h5⟩
  · omega
  · have : j = i := by omega
    subst this
    exact ⟨h4, h5⟩
theorem fndB_min {nm : ByteArray} {S : List BmM} {i : Nat} (h : fndB nm S = i) : i < S.length ∧ ∀ k, k < i → ∀ e, S[k]? = some e → e.1 ≠ nm := by
  rcases fndB_cases nm S with ⟨h1, _⟩ | ⟨j, d, h1, h2, h3, h4, h5⟩
  · omega
  · have : j = i := by omega
    subst this
    exact ⟨h4, h5⟩
theorem went_right {M : MM} (h : RightMt M) (hf : fndS txJ M.S < 0) (h8 : M.S.length < 8) : RightMt (wentM M) := by
  obtain ⟨f1, f2⟩ := fnd_added hf M.s M.T
  obtain ⟨e1, e2, e3, _⟩ := clN_right h
  refine ⟨h.c, h.s, h.bk, by unfold wentM; simp; omega, by unfold wentM setAll; rw [List.length_map]; exact h.nB, h.nK, h.T, fun i d hd => ?_, fun i b hb => ?_, h.K⟩
  · unfold wentM at hd ⊢
    dsimp only at hd ⊢
    by_cases hi : i < M.S.length
    · rw [List.getElem?_append_left hi] at hd
      obtain ⟨q1, q2, q3, q4⟩ := h.S i d hd
      refine ⟨q1, fndS_at (by rw [List.getElem?_append_left hi]; exact hd) rfl fun k hk e he => ?_, q3, q4⟩
      rw [List.getElem?_append_left (by omega)] at he
      exact (fndS_min q2).2 k hk e he
    · have hil := (List.getElem?_eq_some_iff.1 hd).1
      rw [List.length_append] at hil
      have hi' : i = M.S.length := by simp at hil; omega
      subst hi'
      rw [f2] at hd
      cases hd
      exact ⟨txJ_ok, f1, h.s, h.T⟩
  · unfold wentM setAll at hb ⊢
    dsimp only at hb ⊢
    rw [List.getElem?_map] at hb
    obtain ⟨b0, hb0, rfl⟩ := Option.map_eq_some_iff.1 hb
    obtain ⟨q1, q2, _, _⟩ := h.B i b0 hb0
    refine ⟨q1, fndB_at (by rw [List.getElem?_map, hb0]; rfl) rfl fun k hk e he => ?_, setA_right _ _ _, fun h0 => setA_last _ _ _ ⟨e2, e3⟩ h0⟩
    rw [List.getElem?_map] at he
    obtain ⟨e0, he0, rfl⟩ := Option.map_eq_some_iff.1 he
    exact (fndB_min q2).2 k hk e0 he0
theorem went_maps {M : MM} (h : RightMt M) (hs : 0 < M.s) {i : Nat} {nm : ByteArray} {l : List Sp} (hb : (wentM M).B[i]? = some (nm, true, l)) : l = [(0, M.s / 2 ^ M.c.toNat)] := by
  obtain ⟨e1, e2, e3, e4⟩ := clN_right h
  unfold wentM setAll at hb
  dsimp only at hb
  rw [List.getElem?_map] at hb
  obtain ⟨b0, hb0, he⟩ := Option.map_eq_some_iff.1 hb
  simp only [Prod.mk.injEq] at he
  obtain ⟨_, h2, h3⟩ := he
  rw [h2] at h3
  rw [← h3, setA_on _ _ ⟨e4 hs, e3⟩, e1]
theorem sn_J {M : MM} {W : World} {a : Option Addr} {n c m : Nat} (h1 : ShsD W a n c (wentM M).S) (h2 : M.S.length = m) (hm : m ≤ 20) : wrap64 ((m : Int) + 1) = (n : Int) ∧ (m : Int) + 1 = (n : Int) := by
  have e1 := h1.lens.1
  unfold wentM at e1
  simp only [List.length_append, List.length_cons, List.length_nil] at e1
  unfold wrap64
  omega
theorem kn_J {M : MM} {W W' : World} {a a' : Option Addr} {n c n' c' : Nat} (h1 : IntsD W a n c (wentM M).K) (h2 : IntsD W' a' n' c' M.K) (hm : n' ≤ 20000) : n ≤ 65536 := by
  have e1 := h1.1.1
  have e2 := h2.1.1
  unfold wentM at e1
  dsimp only at e1
  omega
end Go.Proofs.Ytipljkegmhclkaa
namespace Go.Proofs.Ytipljkegmhclkaa
open Go.RowKit
set_option linter.unusedVariables false

theorem equalIn_sp (n : Nat) (a b a' b' : Int) (w : World) : (Op.equalIn (n + 2) 40 (.agg #[.int .i64 a, .int .i64 b]) (.agg #[.int .i64 a', .int .i64 b'])).run Try.prog w = .ok (decide (a = a') && decide (b = b')) w := by
  have hf : Try.prog.underlying 40 = some (.struct (Try.prog.fieldsOf 40)) := by kernel_rfl
  have hp : Try.prog.stoodInHeld 40 = false := by kernel_rfl
  rw [run_equalIn_struct w (n + 1) 40 _ _ hf hp]
  unfold Program.fieldsOf
  rw [Try.underlying40]
  have i3 := fun (w : World) (a b : Int) => run_equalIn_int (P := Try.prog) w n 3 .i64 .i64 a b Try.underlying3
  have s3 : (Try.prog.info? 3).map (·.size) = some 1 := by kernel_rfl
  simp [Op.eqFields, go_sem, i3]
  by_cases h1 : a = a' <;> by_cases h2 : b = b' <;> simp [h1, h2]
theorem neq_spn (n : Int) (w : World) : (binOp .neq 40 (.agg #[.int .i64 0, .int .i64 n]) (.agg #[.int .i64 0, .int .i64 n])).run Try.prog w = .ok (.bool false) w := by
  rw [run_neq_struct, equalIn_sp 9998 0 n 0 n w]
  simp
theorem shotsDropJ (w : World) (x : Mt) (M : MM) (h : MetaD w x (wentM M)) (hf : fndS txJ M.S < 0) {m : Nat} (hm : M.S.length = m) : Calls Try.prog 13 #[.agg (mtA (wentM M) x), .string txJ] w fun e w' => ∃ (v3 : Value) (sa : Option Addr) (sc : Nat) (v5 v6 : Value), e = .returned (.tuple #[.agg #[.int .i64 M.c, .int .i64 M.s, .string M.bk, v3, .slice sa m sc, v5, v6], .int .i64 0]) ∧ (∃ a n c, v3 = .slice a n c) ∧ (∃ a n c, v5 = .slice a n c) ∧ (∃ a n c, v6 = .slice a n c) ∧ Below w.heap.size w w' := by
  have h9 := shotsDrop w x (wentM M) h txJ
  rw [drop_J hf] at h9
  refine h9.mono ?_
  rintro e w' ⟨y, lo, hi, e1, e2, e3⟩
  have e4 := e2.d.S.lens.1
  dsimp only at e4
  obtain rfl : m = y.sn := hm.symm.trans e4
  exact ⟨_, y.sa, y.sc, _, _, e1, ⟨_, _, _, rfl⟩, ⟨_, _, _, rfl⟩, ⟨_, _, _, rfl⟩, e3⟩
/-- The one span of a bitmap that is on. -/
theorem sp_one {W : World} {al : Option Addr} {ll cl : Nat} {n : Int} (h : SpD W al ll cl [(0, n)]) : ∃ g o, al = some ⟨g, o, none⟩ ∧ ll = 1 ∧ g < W.heap.size ∧ 1 ≤ cl ∧ W.cell? ⟨g, o, none⟩ = some (.int .i64 0) ∧ W.cell? ⟨g, o + 1, none⟩ = some (.int .i64 n) := by
  obtain ⟨h1, h2, _, _⟩ := h
  obtain rfl : 1 = ll := h1.1
  obtain ⟨b, off, rfl⟩ := h1.lies (by omega)
  obtain ⟨x0, x1⟩ := span_cells h1 0 (by omega)
  rw [Nat.zero_mul, Nat.add_zero] at x0 x1
  exact ⟨b, off, rfl, rfl, block_lt_of_cell x0, h2.2, x0, x1⟩
end Go.Proofs.Ytipljkegmhclkaa
