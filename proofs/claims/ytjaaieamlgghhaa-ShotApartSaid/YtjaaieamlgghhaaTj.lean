/-
  A shot more of a right meta; tables of one's own whose entries' sums are spoilt (ShotApart). Conditions: none.
-/
import Derived.Test.YtjaaieamlgghhaaTg
namespace Go.Proofs.Ytjaaieamlgghhaa
open Go.RowKit
set_option linter.unusedVariables false

/-- The sum of an entry of a table of one's own turns: the table that is read then, its shape, and where the store went. -/
theorem TabF.spoil {w : World} {base len cap : Nat} {F : Nat → Prop} {a : Option Addr} {T : Tb} (h : TabF w base F a len cap T) (i : Nat) (lf : List En) (hi : T[i]? = some lf) (k : Nat) (x : En) (hx : lf[k]? = some x) :
    ∃ g gi cl, a = some ⟨g, 0, none⟩ ∧ w.cell? ⟨g, i, none⟩ = some (.slice (some ⟨gi, 0, none⟩) lf.length cl) ∧ g < w.heap.size ∧ gi < w.heap.size ∧ base ≤ gi ∧ F gi ∧ gi ≠ g ∧ (∀ t, 58 ≠ t → Off w (some gi) t) ∧ w.frozen? ⟨gi, k * 5 + 4, none⟩ = false ∧ w.cell? ⟨gi, k * 5 + 4, none⟩ = some (.int .u32 x.2.2.2.2) ∧
      ∀ z : Int, 0 ≤ z → z < 4294967296 → TabF (w.setCell ⟨gi, k * 5 + 4, none⟩ (.int .u32 z)) base F a len cap (T.set i (lf.set k (x.1, x.2.1, x.2.2.1, x.2.2.2.1, z))) ∧ w.grownBy (w.setCell ⟨gi, k * 5 + 4, none⟩ (.int .u32 z)) (some gi) := by
  obtain ⟨es, hq, rfl, hlen, hll, ho, hl⟩ := h
  have hi' : ∃ d, es[i]? = some d ∧ d.2.2.2 = lf := by
    unfold tbOf at hi
    rw [List.getElem?_map] at hi
    cases hd : es[i]? with
    | none => rw [hd] at hi; cases hi
    | some d => rw [hd] at hi; exact ⟨d, rfl, Option.some.inj hi⟩
  obtain ⟨d, hd, rfl⟩ := hi'
  have hil : i < len := by have := (List.getElem?_eq_some_iff.1 hd).1; have := hq.size; omega
  obtain ⟨g, d', e1, hg1, hg2, hd', hc, hf⟩ := hq.at i hil
  have := Option.some.inj (hd.symm.trans hd')
  subst this
  have hL := hq.leaf d (List.mem_of_getElem? hd)
  have hkl : k < d.2.1 := by have := (List.getElem?_eq_some_iff.1 hx).1; have := hL.1.2.1; omega
  have hll2 : d.2.2.2.length = d.2.1 := hL.1.2.1
  rcases hL.1.1.2 with ⟨_, h0⟩ | ⟨gi, cap', cur, e2, hb, hgb, r⟩
  · omega
  obtain ⟨al, ll, cl, xs⟩ := d
  dsimp only at e2 hc hkl hll2 hx
  cases e2
  subst hll2
  have hgi : gi ≠ g := fun e => by
    subst e
    subst e1
    rcases hq.out.1.2 with ⟨e3, _⟩ | ⟨g2, _, cur2, e4, _, hg3, _⟩
    · cases e3
    · cases e4
      have := hgb.symm.trans hg3
      cases this
  have hfz : w.frozen? ⟨gi, k * 5 + 4, none⟩ = false := hL.1.1.frozenAt _
  obtain ⟨hr1, _, _⟩ := hL.1.reads en_rowed
  have hcell : w.cell? ⟨gi, k * 5 + 4, none⟩ = some (.int .u32 x.2.2.2.2) := by
    obtain ⟨h1, h2, h3⟩ := hr1
    obtain ⟨b', off', e5, hb', hcc⟩ := h3.resolve_left (by dsimp only; omega)
    cases e5
    have := hcc (k * 5 + 4) (.int .u32 x.2.2.2.2) (by rw [flat_at en_rowed.len xs k 4 x hx (by omega)]; rfl)
    rwa [Nat.zero_add] at this
  refine ⟨g, gi, cap', e1, hc, hg2, lt_of_block hgb, hb, hl _ (List.mem_of_getElem? hd) gi rfl, hgi, (fun t ht => OwnG.off (e := t) hL.1 ht), hfz, hcell, fun z hz1 hz2 => ?_⟩
  obtain ⟨q1, q2⟩ := own_setK en_rowed hL.1 k 4 x (x.1, x.2.1, x.2.2.1, x.2.2.2.1, z) hx (.int .u32 z) (by omega) rfl
  have hxo : EnOk x := hL.2 x (List.mem_of_getElem? hx)
  have hLO : LfO (w.setCell ⟨gi, k * 5 + 4, none⟩ (.int .u32 z)) base (some ⟨gi, 0, none⟩, xs.length, cap', xs.set k (x.1, x.2.1, x.2.2.1, x.2.2.2.1, z)) := ⟨q1, fun y hy => by
    rcases List.mem_or_eq_of_mem_set hy with hm | rfl
    · exact hL.2 y hm
    · exact ⟨hxo.1, hxo.2.1, hxo.2.2.1, hxo.2.2.2.1, hz1, hz2⟩⟩
  have hqs := (hq.setEs i (some ⟨gi, 0, none⟩, xs.length, cap', xs) (some ⟨gi, 0, none⟩, xs.length, cap', xs.set k (x.1, x.2.1, x.2.2.1, x.2.2.2.1, z)) hd q2 rfl hLO)
  have hmap : es.map cvD = (es.set i (some ⟨gi, 0, none⟩, xs.length, cap', xs.set k (x.1, x.2.1, x.2.2.1, x.2.2.2.1, z))).map cvD := by
    refine List.ext_getElem? fun j => ?_
    rw [List.getElem?_map, List.getElem?_map, List.getElem?_set]
    by_cases hij : i = j
    · subst hij
      rw [if_pos rfl, if_pos (List.getElem?_eq_some_iff.1 hd).1, hd]
      rfl
    · rw [if_neg hij]
  refine ⟨⟨_, hqs.same hmap, by unfold tbOf; rw [List.map_set], hlen, fun l hl' => ?_, ho, fun y hy b hb2 => ?_⟩, q2⟩
  · rcases List.mem_or_eq_of_mem_set hl' with hm | rfl
    · exact hll l hm
    · rw [List.length_set]
      exact hll xs (List.mem_map.2 ⟨_, List.mem_of_getElem? hd, rfl⟩)
  · rcases List.mem_or_eq_of_mem_set hy with hm | rfl
    · exact hl y hm b hb2
    · exact hl _ (List.mem_of_getElem? hd) b hb2
theorem ShsN.spare {w w' : World} {base len cap : Nat} {F : Nat → Prop} {a : Option Addr} {S : List ShM} (h : ShsN w base F a len cap S) {gi : Nat} (ho : Off w (some gi) 39) (hF : ¬ F gi) (hg : w.grownBy w' (some gi)) : ShsN w' base F a len cap S := by
  obtain ⟨ds, h1, h2, h3⟩ := h
  exact ⟨ds, ho.row h1 hg, fun d hd => (h2 d hd).kept hg (fun k e => by cases e; exact hF), h3⟩
/-- A meta of one's own, an entry of whose table is spoilt: its shots stay. -/
theorem MetaN.spoil {w : World} {base lo hi : Nat} {x : Mt} {M : MM} (h : MetaN w base (Iv lo hi) (Out lo hi) x M) (i : Nat) (lf : List En) (hi' : M.T[i]? = some lf) (k : Nat) (e : En) (hx : lf[k]? = some e) :
    ∃ g gi cl, x.a0 = some ⟨g, 0, none⟩ ∧ w.cell? ⟨g, i, none⟩ = some (.slice (some ⟨gi, 0, none⟩) lf.length cl) ∧ g < w.heap.size ∧ gi < w.heap.size ∧ base ≤ gi ∧ gi ≠ g ∧ (∀ t, 58 ≠ t → Off w (some gi) t) ∧ w.frozen? ⟨gi, k * 5 + 4, none⟩ = false ∧ w.cell? ⟨gi, k * 5 + 4, none⟩ = some (.int .u32 e.2.2.2.2) ∧
      ∀ z : Int, 0 ≤ z → z < 4294967296 → MetaN (w.setCell ⟨gi, k * 5 + 4, none⟩ (.int .u32 z)) base (Iv lo hi) (Out lo hi) x { M with T := M.T.set i (lf.set k (e.1, e.2.1, e.2.2.1, e.2.2.2.1, z)) } ∧ w.grownBy (w.setCell ⟨gi, k * 5 + 4, none⟩ (.int .u32 z)) (some gi) := by
  obtain ⟨g, gi, cl, h1, h2, h3, h4, h5, h6, h7, h8, h9, h10, h11⟩ := h.T.spoil i lf hi' k e hx
  refine ⟨g, gi, cl, h1, h2, h3, h4, h5, h7, h8, h9, h10, fun z hz1 hz2 => ?_⟩
  obtain ⟨q1, q2⟩ := h11 z hz1 hz2
  have hno : ¬ Out lo hi gi := fun ho => by
    rcases ho with ho | ho
    · exact absurd h6.1 (by omega)
    · exact absurd h6.2 (by omega)
  exact ⟨⟨h.hc, h.hs, h.hbk, q1, h.S.spare (h8 _ (by decide)) hno q2, h.B.off (h8 _ (by decide)) (h8 _ (by decide)) q2, h.K.off (h8 _ (by decide)) q2⟩, q2⟩
theorem Blk.spare {w w' : World} {Y gi : Nat} {t : TypeId} {cs : Array Value} (h : Blk w Y t cs) (ho : Off w (some gi) t) (hg : w.grownBy w' (some gi)) : Blk w' Y t cs := h.kept hg fun e => by cases e; exact ho _ _ rfl h _ _ rfl
end Go.Proofs.Ytjaaieamlgghhaa
namespace Go.Proofs.Ytjaaieamlgghhaa
open Go.RowKit
set_option linter.unusedVariables false

def txO : ByteArray := ⟨#[111, 110, 101, 45, 109, 111, 114, 101]⟩
theorem txO_ok : nameOk txO := by decide +kernel
theorem add_cases (M : MM) : (∃ z, addM M txO = (MM0, z) ∧ (z = 5 ∨ z = 9)) ∨ (addM M txO = ({ M with S := M.S ++ [(txO, M.s, M.T)] }, 0) ∧ fndS txO M.S < 0) := by
  unfold addM
  rw [if_neg (fun h => h txO_ok)]
  by_cases h1 : 0 ≤ fndS txO M.S
  · rw [if_pos h1]
    exact Or.inl ⟨5, rfl, Or.inl rfl⟩
  · rw [if_neg h1]
    by_cases h2 : 8 ≤ M.S.length
    · rw [if_pos h2]
      exact Or.inl ⟨9, rfl, Or.inr rfl⟩
    · rw [if_neg h2]
      exact Or.inr ⟨rfl, by omega⟩
theorem fnd_added {nm : ByteArray} {S : List ShM} (h : fndS nm S < 0) (s : Int) (T : Tb) : fndS nm (S ++ [(nm, s, T)]) = S.length ∧ (S ++ [(nm, s, T)])[S.length]? = some (nm, s, T) := by
  have hat : (S ++ [(nm, s, T)])[S.length]? = some (nm, s, T) := by
    rw [List.getElem?_append_right (Nat.le_refl _), Nat.sub_self]
    rfl
  refine ⟨fndS_at hat rfl fun k hk e he => ?_, hat⟩
  rw [List.getElem?_append_left hk] at he
  rcases fndS_cases nm S with ⟨_, hn⟩ | ⟨i, _, hi, _⟩
  · exact hn e (List.mem_of_getElem? he)
  · omega
theorem back_added {M : MM} {nm : ByteArray} (h : fndS nm M.S < 0) (T' : Tb) : backM { M with S := M.S ++ [(nm, M.s, M.T)], T := T' } nm = ({ M with S := M.S ++ [(nm, M.s, M.T)], B := setAll M.B (clN M.s M.c) }, 0) := by
  obtain ⟨h1, h2⟩ := fnd_added h M.s M.T
  unfold backM
  dsimp only
  rw [h1, if_neg (by omega), Int.toNat_natCast, atS_is h2]
theorem mild_added {M : MM} (h : Mild M) (nm : ByteArray) (T' : Tb) : Mild { M with S := M.S ++ [(nm, M.s, M.T)], T := T' } :=
  ⟨h.c, h.s, fun d hd => by
    rcases List.mem_append.1 hd with hd | hd
    · exact h.S d hd
    · obtain rfl : d = (nm, M.s, M.T) := by simpa using hd
      exact h.s, h.B⟩
/-- The same shape. -/
def SameS (T T' : Tb) : Prop := T'.length = T.length ∧ ∀ i, (T'.getD i []).length = (T.getD i []).length
theorem SameS.refl (T : Tb) : SameS T T := ⟨rfl, fun _ => rfl⟩
theorem SameS.set {T T' : Tb} (h : SameS T T') {i : Nat} {lf lf' : List En} (hi : T'[i]? = some lf) (hl : lf'.length = lf.length) : SameS T (T'.set i lf') := by
  refine ⟨by rw [List.length_set]; exact h.1, fun j => ?_⟩
  rw [← h.2 j, List.getD_eq_getElem?_getD, List.getD_eq_getElem?_getD, List.getElem?_set]
  by_cases e : i = j
  · subst e
    rw [if_pos rfl, if_pos (List.getElem?_eq_some_iff.1 hi).1, hi]
    exact hl
  · rw [if_neg e]
/-- A leaf of a table of one's own. -/
theorem TabF.leafAt {w : World} {base len cap : Nat} {F : Nat → Prop} {a : Option Addr} {T : Tb} (h : TabF w base F a len cap T) (i : Nat) (hi : i < len) : ∃ g al ll cl lf, a = some ⟨g, 0, none⟩ ∧ g < w.heap.size ∧ w.cell? ⟨g, i, none⟩ = some (.slice al ll cl) ∧ T[i]? = some lf ∧ lf.length = ll ∧ ll = (T.getD i []).length ∧ ll ≤ 1000000 := by
  obtain ⟨es, hq, rfl, hlen, hll, _, _⟩ := h
  obtain ⟨g, ⟨al, ll, cl, xs⟩, e1, hg1, hg2, hd, hc, _⟩ := hq.at i hi
  have hL := hq.leaf _ (List.mem_of_getElem? hd)
  have hT : (tbOf es)[i]? = some xs := by
    unfold tbOf
    rw [List.getElem?_map, hd]
    rfl
  have hx : xs.length = ll := hL.1.2.1
  exact ⟨g, al, ll, cl, xs, e1, hg2, hc, hT, hx, by rw [List.getD_eq_getElem?_getD, hT]; exact hx.symm, by rw [← hx]; exact hll xs (List.mem_of_getElem? hT)⟩
/-- Between two stores into the table of a meta of one's own that lies in a box. -/
structure Apa (V : World) (A lo hi : Nat) (cs : Array Value) (x : Mt) (M : MM) (W : World) : Prop where
  ex : ∃ T', SameS M.T T' ∧ MetaN W V.heap.size (Iv lo hi) (Out lo hi) x { M with T := T' }
  box : Blk W A 29 cs
  dat : Below V.heap.size V W
theorem Apa.store {V W : World} {A lo hi : Nat} {cs : Array Value} {x : Mt} {M : MM} (h : Apa V A lo hi cs x M W) (i k : Nat) (hi' : i < x.n0) (hk : k < (M.T.getD i []).length) : ∃ g gi cl s, x.a0 = some ⟨g, 0, none⟩ ∧ W.cell? ⟨g, i, none⟩ = some (.slice (some ⟨gi, 0, none⟩) (M.T.getD i []).length cl) ∧ W.frozen? ⟨gi, k * 5 + 4, none⟩ = false ∧ W.cell? ⟨gi, k * 5 + 4, none⟩ = some (.int .u32 s) ∧ ∀ z : Int, 0 ≤ z → z < 4294967296 → Apa V A lo hi cs x M (W.setCell ⟨gi, k * 5 + 4, none⟩ (.int .u32 z)) := by
  obtain ⟨⟨T', hS, hN⟩, hB, hD⟩ := h
  obtain ⟨_, _, _, _, lf, _, _, _, hT, _, hll, _⟩ := hN.T.leafAt i hi'
  have hlf : lf.length = (M.T.getD i []).length := by
    rw [← hS.2 i, List.getD_eq_getElem?_getD, hT]
    rfl
  obtain ⟨e, he⟩ : ∃ e, lf[k]? = some e := ⟨_, List.getElem?_eq_getElem (by omega)⟩
  obtain ⟨g, gi, cl, h1, h2, h3, h4, h5, h6, h7, h8, h9, h10⟩ := hN.spoil i lf hT k e he
  rw [hlf] at h2
  refine ⟨g, gi, cl, _, h1, h2, h8, h9, fun z hz1 hz2 => ?_⟩
  obtain ⟨q1, q2⟩ := h10 z hz1 hz2
  exact ⟨⟨_, hS.set hT (by rw [List.length_set]), q1⟩, hB.spare (h7 _ (by decide)) q2, belowRow hD q2 h5 hD.size⟩
theorem Apa.leaf {V W : World} {A lo hi : Nat} {cs : Array Value} {x : Mt} {M : MM} (h : Apa V A lo hi cs x M W) (i : Nat) (hi' : i < x.n0) : ∃ g al cl, x.a0 = some ⟨g, 0, none⟩ ∧ W.cell? ⟨g, i, none⟩ = some (.slice al (M.T.getD i []).length cl) ∧ (M.T.getD i []).length ≤ 1000000 := by
  obtain ⟨⟨T', hS, hN⟩, hB, hD⟩ := h
  obtain ⟨g, al, ll, cl, lf, h1, _, h2, hT, h3, h4, h5⟩ := hN.T.leafAt i hi'
  have e : ll = (M.T.getD i []).length := by rw [h4]; exact hS.2 i
  subst e
  exact ⟨g, al, cl, h1, h2, h5⟩
/-- Between two stores into the table of a shot that lies in a box. -/
structure Apb (V : World) (A : Nat) (F : Nat → Prop) (cs : Array Value) (a : Option Addr) (n c : Nat) (T : Tb) (W : World) : Prop where
  ex : ∃ T', SameS T T' ∧ TabF W V.heap.size F a n c T'
  box : Blk W A 39 cs
  dat : Below V.heap.size V W
theorem Apb.store {V W : World} {A : Nat} {F : Nat → Prop} {cs : Array Value} {a : Option Addr} {n c : Nat} {T : Tb} (h : Apb V A F cs a n c T W) (i k : Nat) (hi' : i < n) (hk : k < (T.getD i []).length) : ∃ g gi cl s, a = some ⟨g, 0, none⟩ ∧ W.cell? ⟨g, i, none⟩ = some (.slice (some ⟨gi, 0, none⟩) (T.getD i []).length cl) ∧ W.frozen? ⟨gi, k * 5 + 4, none⟩ = false ∧ W.cell? ⟨gi, k * 5 + 4, none⟩ = some (.int .u32 s) ∧ ∀ z : Int, 0 ≤ z → z < 4294967296 → Apb V A F cs a n c T (W.setCell ⟨gi, k * 5 + 4, none⟩ (.int .u32 z)) := by
  obtain ⟨⟨T', hS, hN⟩, hB, hD⟩ := h
  obtain ⟨_, _, _, _, lf, _, _, _, hT, _, hll, _⟩ := hN.leafAt i hi'
  have hlf : lf.length = (T.getD i []).length := by
    rw [← hS.2 i, List.getD_eq_getElem?_getD, hT]
    rfl
  obtain ⟨e, he⟩ : ∃ e, lf[k]? = some e := ⟨_, List.getElem?_eq_getElem (by omega)⟩
  obtain ⟨g, gi, cl, h1, h2, h3, h4, h5, _, h6, h7, h8, h9, h10⟩ := hN.spoil i lf hT k e he
  rw [hlf] at h2
  refine ⟨g, gi, cl, _, h1, h2, h8, h9, fun z hz1 hz2 => ?_⟩
  obtain ⟨q1, q2⟩ := h10 z hz1 hz2
  exact ⟨⟨_, hS.set hT (by rw [List.length_set]), q1⟩, hB.spare (h7 _ (by decide)) q2, belowRow hD q2 h5 hD.size⟩
theorem Apb.leaf {V W : World} {A : Nat} {F : Nat → Prop} {cs : Array Value} {a : Option Addr} {n c : Nat} {T : Tb} (h : Apb V A F cs a n c T W) (i : Nat) (hi' : i < n) : ∃ g al cl, a = some ⟨g, 0, none⟩ ∧ W.cell? ⟨g, i, none⟩ = some (.slice al (T.getD i []).length cl) ∧ (T.getD i []).length ≤ 1000000 := by
  obtain ⟨⟨T', hS, hN⟩, hB, hD⟩ := h
  obtain ⟨g, al, ll, cl, lf, h1, _, h2, hT, h3, h4, h5⟩ := hN.leafAt i hi'
  have e : ll = (T.getD i []).length := by rw [h4]; exact hS.2 i
  subst e
  exact ⟨g, al, cl, h1, h2, h5⟩
end Go.Proofs.Ytjaaieamlgghhaa
