/-
  What the reference's AddShot and DropShot answer (layer 12). Conditions: the meta reads.
-/
import Derived.Test.YtipljkegmhclkaaSs
namespace Go.Proofs.Ytipljkegmhclkaa
open Go.RowKit
set_option linter.unusedVariables false

theorem TabF.clip {w : World} {base len cap : Nat} {F : Nat → Prop} {a : Option Addr} {T : Tb} (h : TabF w base F a len cap T) : TabF w base (fun k => F k ∧ k < w.heap.size) a len cap T := by
  obtain ⟨es, h1, h2, h3, h4, h5, h6⟩ := h
  exact ⟨es, h1, h2, h3, h4, fun k hk => ⟨h5 k hk, (h1.out.1.lt k hk).2⟩, fun d hd k hk => ⟨h6 d hd k hk, ((h1.leaf d hd).lt hk).2⟩⟩
/-- A meta that is being changed in its box. -/
structure Ad (w0 : World) (L4 lo H : Nat) (cs os : Array Value) (ax : Option Addr) (nx cx : Nat) (T : Tb) (sax : Option Addr) (snx scx : Nat) (ds : List Sh) (max : Option Addr) (mnx mcx : Nat) (B : List BmM) (cax : Option Addr) (cnx ccx : Nat) (K : List Int) (W : World) : Prop where
  cp : Cp w0 w0.heap.size cs #[.int .i64 0, .int .i64 0, .string ByteArray.empty, .slice none 0 0, .slice none 0 0, .slice none 0 0, .slice none 0 0] W
  ob : Blk W L4 29 os
  far : w0.heap.size + 2 ≤ L4
  T : TabF W w0.heap.size (Iv lo H) ax nx cx T
  row : OwnG shV 62 3 W w0.heap.size (.slice sax snx scx) snx ds
  tabs : ∀ d ∈ ds, TabF W w0.heap.size (Out lo H) d.2.2.1 d.2.2.2.1 d.2.2.2.2.1 (shT d)
  B : BmsN W w0.heap.size max mnx mcx B
  K : IntsN W w0.heap.size cax cnx ccx K
section
variable {w0 W W' : World} {L4 lo H : Nat} {cs os : Array Value} {ax : Option Addr} {nx cx : Nat} {T : Tb} {sax : Option Addr} {snx scx : Nat} {ds : List Sh} {max : Option Addr} {mnx mcx : Nat} {B : List BmM} {cax : Option Addr} {cnx ccx : Nat} {K : List Int}
theorem Ad.later (h : Ad w0 L4 lo H cs os ax nx cx T sax snx scx ds max mnx mcx B cax cnx ccx K W) (hb : Below W.heap.size W W') : Ad w0 L4 lo H cs os ax nx cx T sax snx scx ds max mnx mcx B cax cnx ccx K W' :=
  have k := KeepL.later L6 hb
  ⟨h.cp.later hb, h.ob.later hb, h.far, h.T.keep (by decide) (by decide) k, h.row.keep (L := L6) (by decide) k, fun d hd => (h.tabs d hd).keep (L := L6) (by decide) (by decide) k, h.B.keep (by decide) (by decide) k, h.K.keep (by decide) k⟩
theorem Ad.push (h : Ad w0 L4 lo H cs os ax nx cx T sax snx scx ds max mnx mcx B cax cnx ccx K W) {d : Sh} (hd : TabF W w0.heap.size (Out lo H) d.2.2.1 d.2.2.2.1 d.2.2.2.2.1 (shT d)) {pa : Option Addr} {n' pc : Nat} (hO : OwnG shV 62 3 W' w0.heap.size (.slice pa n' pc) n' (ds ++ [d])) (hg : W.grownBy W' (Value.slice sax snx scx).ownBlock) :
    Ad w0 L4 lo H cs os ax nx cx T pa n' pc (ds ++ [d]) max mnx mcx B cax cnx ccx K W' := by
  have k := OwnG.keepL (L := L5) h.row (by decide) hg
  refine ⟨h.cp.row h.row (by decide) (Nat.le_refl _) hg, h.ob.kept hg (h.ob.not_row (by decide) h.row), h.far, h.T.keep (by decide) (by decide) k, hO, fun x hx => ?_, h.B.keep (by decide) (by decide) k, h.K.keep (by decide) k⟩
  rcases List.mem_append.1 hx with hx | hx
  · exact (h.tabs x hx).keep (L := L5) (by decide) (by decide) k
  · obtain rfl : x = d := by simpa using hx
    exact hd.keep (L := L5) (by decide) (by decide) k
theorem Ad.grow (h : Ad w0 L4 lo H cs os ax nx cx T sax snx scx ds max mnx mcx B cax cnx ccx K W) {ds' : List Sh} (hd : ∀ d ∈ ds', TabF W w0.heap.size (Out lo H) d.2.2.1 d.2.2.2.1 d.2.2.2.2.1 (shT d)) {pa : Option Addr} {n' pc : Nat} (hO : OwnG shV 62 3 W' w0.heap.size (.slice pa n' pc) n' ds') (hg : W.grownBy W' (Value.slice sax snx scx).ownBlock) :
    Ad w0 L4 lo H cs os ax nx cx T pa n' pc ds' max mnx mcx B cax cnx ccx K W' := by
  have k := OwnG.keepL (L := L5) h.row (by decide) hg
  exact ⟨h.cp.row h.row (by decide) (Nat.le_refl _) hg, h.ob.kept hg (h.ob.not_row (by decide) h.row), h.far, h.T.keep (by decide) (by decide) k, hO, fun x hx => (hd x hx).keep (L := L5) (by decide) (by decide) k, h.B.keep (by decide) (by decide) k, h.K.keep (by decide) k⟩
theorem Ad.store (h : Ad w0 L4 lo H cs os ax nx cx T sax snx scx ds max mnx mcx B cax cnx ccx K W) (i : Nat) (v : Value) : Ad w0 L4 lo H cs (os.setIfInBounds i v) ax nx cx T sax snx scx ds max mnx mcx B cax cnx ccx K (W.setCell ⟨L4, i, none⟩ v) := by
  have hg := grownBy_setCell4 W L4 i v
  have k := h.ob.keepL (L := L6) (by decide) hg
  have hf := h.far
  exact ⟨⟨h.cp.m.apart hg (by omega), h.cp.r.apart hg (by omega), belowRow h.cp.dat hg (by omega) h.cp.dat.size⟩, h.ob.set i v, hf, h.T.keep (by decide) (by decide) k, h.row.keep (L := L6) (by decide) k, fun d hd => (h.tabs d hd).keep (L := L6) (by decide) (by decide) k, h.B.keep (by decide) (by decide) k, h.K.keep (by decide) k⟩
/-- What is handed back. -/
theorem Ad.give (h : Ad w0 L4 lo H cs os ax nx cx T sax snx scx ds max mnx mcx B cax cnx ccx K W) (c s : Int) (bk : ByteArray) (S : List ShM) (hc : I64 c) (hs : I64 s) (hbk : bk.size ≤ 9223372036854775807) (hS : ds.map shM = S) (hn : snx ≤ 1000) (hok : ∀ d ∈ S, ShMok d) {W' : World} (hg : W.grownBy W' (some (w0.heap.size + 1))) :
    GiveM w0 ({ c := c, s := s, bk := bk, T := T, S := S, B := B, K := K }, 0) (.returned (.tuple #[.agg #[.int .i64 c, .int .i64 s, .string bk, .slice ax nx cx, .slice sax snx scx, .slice max mnx mcx, .slice cax cnx ccx], .int .i64 0])) W' := by
  have k := h.cp.r.keepL (L := L6) (by decide) hg
  exact ⟨⟨ax, nx, cx, sax, snx, scx, max, mnx, mcx, cax, cnx, ccx⟩, lo, H, rfl, ⟨hc, hs, hbk, h.T.keep (by decide) (by decide) k, ⟨ds, h.row.keep (L := L6) (by decide) k, fun d hd => (h.tabs d hd).keep (L := L6) (by decide) (by decide) k, hS, hn, hok⟩, h.B.keep (by decide) (by decide) k, h.K.keep (by decide) k⟩, belowRow h.cp.dat hg (by omega) h.cp.dat.size⟩
/-- A copy in its box. -/
theorem Ad.first {w0 w4 : World} {cs : Array Value} (hC : Cp w0 w0.heap.size cs #[.int .i64 0, .int .i64 0, .string ByteArray.empty, .slice none 0 0, .slice none 0 0, .slice none 0 0, .slice none 0 0] w4) {base H0 : Nat} {x : Mt} {M : MM} (h : MetaN w4 base (Iv base H0) (From H0) x M) (hb : w0.heap.size ≤ base) : ∃ ds H, ds.map shM = M.S ∧ x.sn ≤ 1000 ∧ (∀ d ∈ M.S, ShMok d) ∧ ds.length = x.sn ∧ H ≤ w4.heap.size ∧ Ad w0 w4.heap.size base H cs (mtA M x) x.a0 x.n0 x.c0 M.T x.sa x.sn x.sc ds x.ma x.mn x.mc M.B x.ca x.cn x.cc M.K (w4.alloc (.cells (mtA M x) 29)) := by
  obtain ⟨_, _, _, hT, ⟨ds, hO, hS, hE, h1k, hSo⟩, hB, hK⟩ := h
  have k := KeepL.later L6 ((Below.refl _ w4).alloc (Nat.le_refl _) (.cells (mtA M x) 29))
  have hT2 := hT.clip.mono (G := Iv base (min H0 w4.heap.size)) hb (fun k _ h => ⟨h.1.1, by have := h.1.2; have := h.2; omega⟩)
  exact ⟨ds, min H0 w4.heap.size, hE, h1k, hSo, hO.2.1, Nat.min_le_right _ _, hC.later ((Below.refl _ w4).alloc (Nat.le_refl _) _), Blk.new w4 _ _, hC.size, hT2.keep (by decide) (by decide) k, (hO.monoB hb).keep (L := L6) (by decide) k, fun d hd => ((hS d hd).mono hb (fun k _ h => Or.inr (Nat.le_trans (Nat.min_le_left _ _) h))).keep (L := L6) (by decide) (by decide) k, (hB.mono hb).keep (by decide) (by decide) k, (hK.mono hb).keep (by decide) k⟩
end
theorem akeep {w0 W : World} {L4 lo H : Nat} {c s : Int} {bk : ByteArray} {v3 v4 v5 v6 : Value} {os : Array Value} {ax : Option Addr} {nx cx : Nat} {T : Tb} {sax : Option Addr} {snx scx : Nat} {ds : List Sh} {max : Option Addr} {mnx mcx : Nat} {B : List BmM} {cax : Option Addr} {cnx ccx : Nat} {K : List Int} (h : Ad w0 L4 lo H #[.int .i64 c, .int .i64 s, .string bk, v3, v4, v5, v6] os ax nx cx T sax snx scx ds max mnx mcx B cax cnx ccx K W) :
    W.cell? ⟨w0.heap.size, 1, none⟩ = some (.int .i64 s) ∧ W.cell? ⟨w0.heap.size, 3, none⟩ = some v3 := ⟨h.cp.m.cell 1, h.cp.m.cell 3⟩
theorem reads_take {α : Type} {P : Program} {t e : TypeId} {sz bytes : Nat} {cv : α → List Value} (R : Rowed P t e sz bytes cv) {w : World} {a : Option Addr} {len : Nat} {l : List α} (h : Reads cv w a len l) (k : Nat) (hk : k ≤ len) : Reads cv w a k (l.take k) := by
  obtain ⟨h1, h2, h3⟩ := h
  refine ⟨by rw [List.length_take]; omega, by omega, ?_⟩
  by_cases h0 : k = 0
  · exact Or.inl h0
  · obtain ⟨b, off, e1, hb, hc⟩ := h3.resolve_left (by omega)
    refine Or.inr ⟨b, off, e1, hb, fun j u hu => ?_⟩
    rw [flat_takeK R.len] at hu
    refine hc j u ?_
    rw [List.getElem?_take] at hu
    split at hu
    · exact hu
    · cases hu
theorem shot_tail {w : World} {base n c g : Nat} {ds : List Sh} (h : OwnG shV 62 3 w base (.slice (some ⟨g, 0, none⟩) n c) n ds) (i : Nat) (hi : i < n) : ∃ A, (∀ W, (Instr.slice 25 (.slice (some ⟨g, 0, none⟩) n c) (some (.int .i64 ((i : Int) + 1))) none none).run Try.prog W = .ok (.slice (some A) (n - (i + 1)) (c - (i + 1))) W) ∧ Reads shV w (some A) (n - (i + 1)) (ds.drop (i + 1)) := by
  obtain ⟨hR, hcap, hnc⟩ := h.reads sh_rowed
  have ei : ((i : Int) + 1) = ((i + 1 : Nat) : Int) := by omega
  by_cases hc : c = i + 1
  · have hn : n = i + 1 := by omega
    refine ⟨⟨g, 0, none⟩, fun W => ?_, ?_⟩
    · obtain ⟨i0, hi0, hi1⟩ := Option.map_eq_some_iff.1 shot_size
      rw [ei, hc, hn]
      simp [Instr.slice, Instr.sliceBounds, Instr.sliceBound, asIntOf, run_underlying Try.underlying25, sizeOf, typeInfo, hi0, hi1, Addr.add, go_sem]
      exact fun h => by omega
    · rw [show n - (i + 1) = 0 by omega, List.drop_eq_nil_of_le (by have := hR.1; omega)]
      exact Reads.nil _ _ _
  · refine ⟨⟨g, (i + 1) * 3, none⟩, fun W => ?_, ?_⟩
    · rw [ei]
      exact slice_back3 (by omega) hnc (by omega) W
    · obtain ⟨h1, h2, h3⟩ := hR
      obtain ⟨b, off, e1, hb, hcell⟩ := h3.resolve_left (by omega)
      cases e1
      refine ⟨by rw [List.length_drop]; omega, by omega, ?_⟩
      by_cases h0 : n - (i + 1) = 0
      · exact Or.inl h0
      · refine Or.inr ⟨g, (i + 1) * 3, rfl, hb, fun j u hu => ?_⟩
        rw [flat_dropK sh_rowed.len, List.getElem?_drop] at hu
        have := hcell ((i + 1) * 3 + j) u hu
        rwa [Nat.zero_add] at this
/-- 'append(nil, x...)'. -/
theorem append_nil {α : Type} {P : Program} {t e : TypeId} {sz bytes : Nat} {cv : α → List Value} (R : Rowed P t e sz bytes cv) {ops : Array Oper} {rest : List Oper} {o : Oper} {a : Act} {w : World} {Q : Exit → Act → World → Prop} (hgd : o.guard = Option.none) (s x : Operand)
    (ho : o.op = .call { callee := .builtin .append, args := #[s, x], argTypes := #[t, t] }) (base : Nat) (hs : a.eval s = .slice none 0 0)
    (ao : Option Addr) (m c : Nat) (l : List α) (hx : a.eval x = .slice ao m c) (hnil : ao = Option.none → c = 0) (hB : Reads cv w ao m l) (hn : m ≤ 10000000) (hbase : base ≤ w.heap.size)
    (h : ∀ a' c' w', OwnG cv e sz w' base (.slice a' m c') m l → Below w.heap.size w w' → wpList P ops Q rest (a.put o.dst (.slice a' m c')) w') : wpList P ops Q (o :: rest) a w := by
  refine append_lg R hgd s x ho base _ 0 [] hs (OwnG.none _ _ _ _ _) ao m c l hx hnil hB (by omega) hbase ?_
  intro a' c' w' h1 h2 h3
  rw [Nat.zero_add, List.nil_append] at h1
  rw [Nat.zero_add]
  exact h a' c' w' h1 (below_of_grown h2)
theorem Ad.swap {w0 W : World} {L4 lo H : Nat} {cs os : Array Value} {ax : Option Addr} {nx cx : Nat} {T : Tb} {sax : Option Addr} {snx scx : Nat} {ds : List Sh} {max : Option Addr} {mnx mcx : Nat} {B : List BmM} {cax : Option Addr} {cnx ccx : Nat} {K : List Int} (h : Ad w0 L4 lo H cs os ax nx cx T sax snx scx ds max mnx mcx B cax cnx ccx K W) {pa : Option Addr} {n' pc : Nat} {ds' : List Sh} (hO : OwnG shV 62 3 W w0.heap.size (.slice pa n' pc) n' ds') (hsub : ∀ d ∈ ds', d ∈ ds) : Ad w0 L4 lo H cs os ax nx cx T pa n' pc ds' max mnx mcx B cax cnx ccx K W :=
  ⟨h.cp, h.ob, h.far, h.T, hO, fun d hd => h.tabs d (hsub d hd), h.B, h.K⟩
end Go.Proofs.Ytipljkegmhclkaa
