/-
  What the project's copies.Meta answers (package copies). Conditions: what came in reads.
-/
import Derived.Test.YtipljkegmhclkaaSe
namespace Go.Proofs.Ytipljkegmhclkaa
open Go.RowKit
set_option linter.unusedVariables false

/-- Two boxes of metas, all else below them as it was. -/
structure Cp (w0 : World) (X : Nat) (cs rs : Array Value) (W : World) : Prop where
  m : Blk W X 29 cs
  r : Blk W (X + 1) 29 rs
  dat : Below X w0 W
section
variable {w0 W W' : World} {X : Nat} {cs rs : Array Value}
theorem Cp.size (h : Cp w0 X cs rs W) : X + 2 ≤ W.heap.size := h.r.lt
theorem Cp.later (h : Cp w0 X cs rs W) (hb : Below W.heap.size W W') : Cp w0 X cs rs W' := ⟨h.m.later hb, h.r.later hb, h.dat.trans (hb.mono (by have := h.size; omega))⟩
theorem Cp.set (h : Cp w0 X cs rs W) (i : Nat) (v : Value) : Cp w0 X (cs.setIfInBounds i v) rs (W.setCell ⟨X, i, none⟩ v) := ⟨h.m.set i v, h.r.other (by omega) _, h.dat.setCell (Nat.le_refl _) v⟩
theorem Cp.res (h : Cp w0 X cs rs W) (hg : W.grownBy W' (some (X + 1))) {rs' : Array Value} (hr : Blk W' (X + 1) 29 rs') : Cp w0 X cs rs' W' :=
  ⟨h.m.apart hg (by omega), hr, belowRow h.dat hg (by omega) (by have := h.size; omega)⟩
theorem Cp.row {α : Type} {cv : α → List Value} {e : TypeId} {sz base n : Nat} {v : Value} {l : List α} (h : Cp w0 X cs rs W) (hv : OwnG cv e sz W base v n l) (he : 29 ≠ e) (hb : X ≤ base) (hg : W.grownBy W' v.ownBlock) : Cp w0 X cs rs W' :=
  ⟨h.m.kept hg (h.m.not_row he hv), h.r.kept hg (h.r.not_row he hv), h.dat.grown hg (by have := h.size; omega) fun k hk => Nat.le_trans hb (hv.1.lt k hk).1⟩
theorem Cp.first (w : World) (cs rs : Array Value) : Cp w w.heap.size cs rs ((w.alloc (.cells cs 29)).alloc (.cells rs 29)) := ⟨(Blk.new w _ _).alloc _, blk_next, ((Below.refl _ _).alloc (Nat.le_refl _) _).alloc (by simp) _⟩
end
/-- ... a table and shots of one's own. -/
structure CpS (w0 : World) (X H : Nat) (cs rs : Array Value) (a1 : Option Addr) (n0 c1 : Nat) (T : Tb) (sa2 : Option Addr) (sn sc2 : Nat) (ds : List Sh) (j : Nat) (es : List Sh) (W : World) : Prop where
  cp : Cp w0 X cs rs W
  T : TabF W X (Iv X H) a1 n0 c1 T
  row : OwnG shV 62 3 W X (.slice sa2 sn sc2) sn (es ++ ds.drop j)
  tabs : ∀ d ∈ es, TabF W X (From H) d.2.2.1 d.2.2.2.1 d.2.2.2.2.1 (shT d)
  len : es.length = j
  is : es.map shM = (ds.map shM).take j
  hH : H ≤ W.heap.size
theorem CpS.later {w0 W W' : World} {X H : Nat} {cs rs : Array Value} {a1 : Option Addr} {n0 c1 : Nat} {T : Tb} {sa2 : Option Addr} {sn sc2 : Nat} {ds : List Sh} {j : Nat} {es : List Sh} (h : CpS w0 X H cs rs a1 n0 c1 T sa2 sn sc2 ds j es W) (hb : Below W.heap.size W W') : CpS w0 X H cs rs a1 n0 c1 T sa2 sn sc2 ds j es W' :=
  ⟨h.cp.later hb, h.T.later hb, h.row.laterB hb, fun d hd => (h.tabs d hd).later hb, h.len, h.is, Nat.le_trans h.hH hb.size⟩
theorem set_self {α : Type} {l : List α} {j : Nat} {d : α} (h : l[j]? = some d) : l.set j d = l := by
  obtain ⟨hj, rfl⟩ := List.getElem?_eq_some_iff.1 h
  exact List.set_getElem_self hj
theorem s5 {A B C D E : Prop} (h : A ∧ B ∧ C ∧ D ∧ E) : E := h.2.2.2.2
/-- A copy of a meta. -/
def CopyP (w : World) (M : MM) (e : Ending) (w' : World) : Prop := ∃ (x : Mt) (H : Nat), e = .returned (.agg (mtA M x)) ∧ MetaN w' w.heap.size (Iv w.heap.size H) (From H) x M ∧ Below w.heap.size w w'
set_option maxRecDepth 100000 in
set_option maxHeartbeats 3200000 in
theorem pcopyM (w : World) (x : Mt) (M : MM) (h : MetaD w x M) : Calls Try.prog 31 #[.agg (mtA M x)] w (CopyP w M) := by
  obtain ⟨a0, n0, c0, sa, sn, sc, ma, mn, mc, ca, cn, cc⟩ := x
  obtain ⟨c, s, bk, T, S, B, K⟩ := M
  obtain ⟨hc, hs, hbk, hT, hS, hB, hK⟩ := h
  dsimp only [mtA] at hc hs hbk hT hS hB hK ⊢
  obtain ⟨ds, hSR, rfl, hSC, hS1, hSo⟩ := hS
  have hdl := hSR.1.1
  have HTC := Lib.hid (fun W (hb : Below w.heap.size w W) => pcopyT W (hT.later hb))
  have HSC := Lib.hid (fun W (hb : Below w.heap.size w W) => cloneSh W sa sn sc ds (hSR.1.later hb) hSC (by omega))
  have HTS := Lib.hid (fun W (hb : Below w.heap.size w W) d (hd : d ∈ ds) => (hSR.2 d hd).later hb)
  have HBC := Lib.hid (fun W (hb : Below w.heap.size w W) => pcopyBms W ma mn mc B (hB.later hb))
  have HKC := Lib.hid (fun W (hb : Below w.heap.size w W) => cloneIv W ca cn cc K (hK.1.later hb) hK.2.1 hK.2.2)
  have HK2 := Lib.hid hK.2.2
  have HO1 := Lib.hid hSo
  have HC0 := Lib.hid (Cp.first w #[.int .i64 c, .int .i64 s, .string bk, .slice a0 n0 c0, .slice sa sn sc, .slice ma mn mc, .slice ca cn cc] #[.int .i64 0, .int .i64 0, .string ByteArray.empty, .slice none 0 0, .slice none 0 0, .slice none 0 0, .slice none 0 0])
  have HI := Lib.hid (And.intro hc (And.intro hs hbk))
  clear hT hSR hSC hB hK hSo hc hs hbk
  go_enter Try.func31, Try.ntmps31
  go_wp2_with (first
    | (go_at_call 46; refine (HTC.out _ HC0.out.dat).mono ?_; rintro e w1 ⟨a1, c1, rfl, ht, hb⟩; have HC1 := Lib.hid (HC0.out.later hb); have HT1 := Lib.hid ht; have HH1 := Lib.hid hb.size; have HC2 := Lib.hid (HC1.out.set 3 (.slice a1 n0 c1)); obtain ⟨x0, x1, x2, x3, x4, x5, x6⟩ := cells7 HC1.out.m; obtain ⟨f0, f1, f2, f3, f4, f5, f6⟩ := free7 HC1.out.m; clear hb ht)
    | (go_at_call 47; refine (HSC.out _ HC2.out.dat).mono ?_; rintro e w2 ⟨sa2, sc2, rfl, g1, g2⟩; have HC3 := Lib.hid (HC2.out.later g2); have HR3 := Lib.hid g1; have HG3 := Lib.hid g2; have HC4 := Lib.hid (HC3.out.set 4 (.slice sa2 sn sc2)); obtain ⟨y0, y1, y2, y3, y4, y5, y6⟩ := cells7 HC3.out.m; obtain ⟨z0, z1, z2, z3, z4, z5, z6⟩ := free7 HC3.out.m; clear g1 g2 x0 x1 x2 x3 x4 x5 x6 f0 f1 f2 f3 f4 f5 f6))
  have HS4 : Hid (CpS w w.heap.size w1.heap.size #[.int .i64 c, .int .i64 s, .string bk, .slice a1 n0 c1, .slice sa2 sn sc2, .slice ma mn mc, .slice ca cn cc] #[.int .i64 0, .int .i64 0, .string ByteArray.empty, .slice none 0 0, .slice none 0 0, .slice none 0 0, .slice none 0 0] a1 n0 c1 T sa2 sn sc2 ds 0 [] (w2.setCell ⟨w.heap.size, 4, none⟩ (.slice sa2 sn sc2))) := by
    have k1 := grownBy_setCell4 w1 w.heap.size 3 (.slice a1 n0 c1)
    have k2 := grownBy_setCell4 w2 w.heap.size 4 (.slice sa2 sn sc2)
    have hX1 := HC1.out.size
    have hH : w.heap.size + 2 ≤ w1.heap.size := hX1
    have t1 : TabF w1 w.heap.size (Iv w.heap.size w1.heap.size) a1 n0 c1 T := HT1.out.f.mono HC0.out.dat.size (fun k _ hk => ⟨by have := HC0.out.size; have h := hk.1; omega, hk.2⟩)
    have t2 := (HC1.out.m.off (e := 69) (by decide)).tabF (HC1.out.m.off (e := 72) (by decide)) t1 k1
    have t3 := t2.later HG3.out
    have t4 := (HC3.out.m.off (e := 69) (by decide)).tabF (HC3.out.m.off (e := 72) (by decide)) t3 k2
    have r3 := HR3.out.monoB (base' := w.heap.size) (by rw [World.size_setCell]; omega)
    have r4 := (HC3.out.m.off (e := 62) (by decide)).row r3 k2
    exact ⟨HC4.out, t4, by simpa using r4, by simp, rfl, rfl, by rw [World.size_setCell]; have := HG3.out.size; rw [World.size_setCell] at this; omega⟩
  clear HC1 HC2 HC3 HC4 HT1 HR3 HG3 HC0
  go_loopw [16] (fun i wr => ∃ (j : Nat) (es : List Sh), j ≤ sn ∧ i = .int .i64 j ∧ Hid (CpS w w.heap.size w1.heap.size #[.int .i64 c, .int .i64 s, .string bk, .slice a1 n0 c1, .slice sa2 sn sc2, .slice ma mn mc, .slice ca cn cc] #[.int .i64 0, .int .i64 0, .string ByteArray.empty, .slice none 0 0, .slice none 0 0, .slice none 0 0, .slice none 0 0] a1 n0 c1 T sa2 sn sc2 ds j es wr)) (fun i _ => sn - (intOf i).toNat)
  case atStart => exact ⟨0, [], Nat.zero_le _, rfl, HS4.out⟩
  case round =>
    clear HS4 y0 y1 y2 y3 y4 y5 y6 z0 z1 z2 z3 z4 z5 z6
    obtain ⟨j, es, hj, rfl, HL⟩ := hrel
    obtain ⟨x0, x1, x2, x3, x4, x5, x6⟩ := cells7 HL.out.cp.m
    by_cases hlt : j < sn
    · obtain ⟨g, ⟨nm, sz, al, ll, cl, T'⟩, rfl, hg1, hg2, hd, ⟨q0, q1, q2⟩, hfz, cs, hblk⟩ := own3_at sh_rowed HL.out.row j hlt
      have hd2 := mid_at HL.out.len hd
      have hx0 : wr.cell? ⟨g, j * 3, none⟩ = some (.string nm) := q0
      have hx1 : wr.cell? ⟨g, j * 3 + 1, none⟩ = some (.int .i64 sz) := q1
      have hx2 : wr.cell? ⟨g, j * 3 + 2, none⟩ = some (.slice al ll cl) := q2
      have HD2 := Lib.hid hd2
      have HD := Lib.hid hd
      have HFZ := Lib.hid hfz
      obtain ⟨W1, hW1⟩ := named (wr.alloc (.cells #[.string nm, .int .i64 sz, .slice al ll cl] 62))
      obtain ⟨LB, hLB⟩ := named wr.heap.size
      have HWB : Hid (Below wr.heap.size wr W1) := by rw [← hW1.out]; exact (Below.refl _ wr).alloc (Nat.le_refl _) _
      have HLA : Hid (Blk W1 LB 62 #[.string nm, .int .i64 sz, .slice al ll cl]) := by rw [← hW1.out, ← hLB.out]; exact Blk.new _ _ _
      have HL1 := Lib.hid (HL.out.later HWB.out)
      have HSH : Hid (∀ W, Below W1.heap.size W1 W → Calls Try.prog 30 #[.agg #[.string nm, .int .i64 sz, .slice al ll cl]] W fun e w' => ∃ (a' : Option Addr) (c' : Nat), e = .returned (.agg #[.string nm, .int .i64 sz, .slice a' ll c']) ∧ TabN w' W1.heap.size a' ll c' T' ∧ Below W1.heap.size W1 w') := fun W hb =>
        (pcopyShot W nm sz al ll cl T' ((HTS.out _ HL1.out.cp.dat _ (List.mem_of_getElem? hd2)).later hb)).mono fun e w' ⟨a', c', e1, e2, e3⟩ => ⟨a', c', e1, e2.mono hb.size, hb.trans (e3.mono hb.size)⟩
      have HKP : Hid (∀ W, Below W1.heap.size W1 W → W.cell? ⟨w.heap.size, 4, none⟩ = some (.slice (some ⟨g, 0, none⟩) sn sc2) ∧ W.cell? ⟨LB, 0, none⟩ = some (.string nm) ∧ W.cell? ⟨LB, 1, none⟩ = some (.int .i64 sz) ∧ W.cell? ⟨LB, 2, none⟩ = some (.slice al ll cl)) := fun W hb =>
        ⟨((HL1.out.later hb).cp.m).cell 4, (HLA.out.later hb).cell 0, (HLA.out.later hb).cell 1, (HLA.out.later hb).cell 2⟩
      have hgX : w.heap.size ≠ g := fun e => by
        subst e
        have := (show wr.heap[w.heap.size]? = _ from hblk).symm.trans HL.out.cp.m
        simp at this
      have hgL : LB ≠ g := fun e => by have := hLB.out; omega
      have HKF : Hid (∀ W v0 v1 v2, Below W1.heap.size W1 W → (((W.setCell ⟨g, j * 3, none⟩ v0).setCell ⟨g, j * 3 + 1, none⟩ v1).setCell ⟨g, j * 3 + 2, none⟩ v2).cell? ⟨w.heap.size, 4, none⟩ = some (.slice (some ⟨g, 0, none⟩) sn sc2) ∧ (((W.setCell ⟨g, j * 3, none⟩ v0).setCell ⟨g, j * 3 + 1, none⟩ v1).setCell ⟨g, j * 3 + 2, none⟩ v2).cell? ⟨LB, 0, none⟩ = some (.string nm) ∧ (((W.setCell ⟨g, j * 3, none⟩ v0).setCell ⟨g, j * 3 + 1, none⟩ v1).setCell ⟨g, j * 3 + 2, none⟩ v2).cell? ⟨LB, 1, none⟩ = some (.int .i64 sz) ∧ (((W.setCell ⟨g, j * 3, none⟩ v0).setCell ⟨g, j * 3 + 1, none⟩ v1).setCell ⟨g, j * 3 + 2, none⟩ v2).cell? ⟨LB, 2, none⟩ = some (.slice al ll cl)) := fun W v0 v1 v2 hb => by
        have a1 := ((((HL1.out.later hb).cp.m).other hgX v0 (i := j * 3)).other hgX v1 (i := j * 3 + 1)).other hgX v2 (i := j * 3 + 2)
        have a2 := (((HLA.out.later hb).other hgL v0 (i := j * 3)).other hgL v1 (i := j * 3 + 1)).other hgL v2 (i := j * 3 + 2)
        exact ⟨a1.cell 4, a2.cell 0, a2.cell 1, a2.cell 2⟩
      have HR1 := Lib.hid (Below.refl W1.heap.size W1)
      have HP : Hid (∀ W, Below W1.heap.size W1 W → (W.cell? ⟨g, j * 3, none⟩ = some (.string nm) ∧ W.cell? ⟨g, j * 3 + 1, none⟩ = some (.int .i64 sz) ∧ W.cell? ⟨g, j * 3 + 2, none⟩ = some (.slice al ll cl)) ∧ (W.frozen? ⟨g, j * 3, none⟩ = false ∧ W.frozen? ⟨g, j * 3 + 1, none⟩ = false ∧ W.frozen? ⟨g, j * 3 + 2, none⟩ = false)) := fun W hb => by
        have h2 := HWB.out.trans (hb.mono HWB.out.size)
        exact ⟨⟨(h2.cell (p := ⟨g, j * 3, none⟩) hg2).trans hx0, (h2.cell (p := ⟨g, j * 3 + 1, none⟩) hg2).trans hx1, (h2.cell (p := ⟨g, j * 3 + 2, none⟩) hg2).trans hx2⟩, (h2.frozen (p := ⟨g, j * 3, none⟩) hg2).trans (HFZ.out _), (h2.frozen (p := ⟨g, j * 3 + 1, none⟩) hg2).trans (HFZ.out _), (h2.frozen (p := ⟨g, j * 3 + 2, none⟩) hg2).trans (HFZ.out _)⟩
      have hlb := hLB.out
      clear q0 q1 q2 hd hd2 hfz hLB hblk
      go_wp2
      rw [hW1.out]
      clear hlb hx0 hx1 hx2
      clear hgX hgL
      go_region_held3 (fun W => W.cell? ⟨w.heap.size, 4, none⟩ = some (.slice (some ⟨g, 0, none⟩) sn sc2) ∧ W.cell? ⟨LB, 0, none⟩ = some (.string nm) ∧ W.cell? ⟨LB, 1, none⟩ = some (.int .i64 sz) ∧ W.cell? ⟨LB, 2, none⟩ = some (.slice al ll cl)) (first | assumption | exact HKP.out _ HR1.out | exact HKP.out _ HR1.out.drew | exact HKP.out _ HB4.out | exact HKF.out _ _ _ _ HB4.out) (first | (go_at_call 30; (first | refine (HSH.out _ HR1.out).mono ?_ | refine (HSH.out _ HR1.out.drew).mono ?_); rintro e w4 ⟨a4, c4, rfl, g1, g2⟩; have HT4 := Lib.hid g1; have HB4 := Lib.hid g2; obtain ⟨⟨p0, p1, p2⟩, z0, z1, z2⟩ := HP.out _ g2; clear g1 g2))
      have HW4 : Hid (Below wr.heap.size wr w4) := HWB.out.trans (HB4.out.mono HWB.out.size)
      have HL5 : Hid (CpS w w.heap.size w1.heap.size #[.int .i64 c, .int .i64 s, .string bk, .slice a1 n0 c1, .slice (some ⟨g, 0, none⟩) sn sc2, .slice ma mn mc, .slice ca cn cc] #[.int .i64 0, .int .i64 0, .string ByteArray.empty, .slice none 0 0, .slice none 0 0, .slice none 0 0, .slice none 0 0] a1 n0 c1 T (some ⟨g, 0, none⟩) sn sc2 ds (j + 1) (es ++ [(nm, sz, a4, ll, c4, T')]) (((w4.setCell ⟨g, j * 3, none⟩ (.string nm)).setCell ⟨g, j * 3 + 1, none⟩ (.int .i64 sz)).setCell ⟨g, j * 3 + 2, none⟩ (.slice a4 ll c4))) := by
        have h4 := HL.out.later HW4.out
        obtain ⟨r0, k0⟩ := own_setK sh_rowed h4.row j 0 _ (nm, sz, al, ll, cl, T') HD.out (.string nm) (by omega) rfl
        rw [set_self HD.out] at r0
        obtain ⟨r1, k1⟩ := own_setK sh_rowed r0 j 1 _ (nm, sz, al, ll, cl, T') HD.out (.int .i64 sz) (by omega) rfl
        rw [set_self HD.out] at r1
        obtain ⟨r2, k2⟩ := own_setK sh_rowed r1 j 2 _ (nm, sz, a4, ll, c4, T') HD.out (.slice a4 ll c4) (by omega) rfl
        have hset : (es ++ ds.drop j).set j (nm, sz, a4, ll, c4, T') = (es ++ [(nm, sz, a4, ll, c4, T')]) ++ ds.drop (j + 1) := mid_set _ _ _ _ HL.out.len (by omega)
        rw [hset] at r2
        have kk := grownTwo (grownTwo k0 k1) k2
        have o1 : Off w4 (some g) 69 := OwnG.off (e := 69) h4.row (by decide)
        have o2 : Off w4 (some g) 72 := OwnG.off (e := 72) h4.row (by decide)
        have hw1 : w.heap.size ≤ W1.heap.size := by have := HL1.out.cp.size; omega
        refine ⟨h4.cp.row h4.row (by decide) (Nat.le_refl _) kk, o1.tabF o2 h4.T kk, r2, fun d hd => ?_, by rw [List.length_append, HL.out.len]; rfl, ?_, by rw [World.size_setCell, World.size_setCell, World.size_setCell]; exact h4.hH⟩
        · rcases List.mem_append.1 hd with hd | hd
          · exact o1.tabF o2 (h4.tabs d hd) kk
          · obtain rfl : d = (nm, sz, a4, ll, c4, T') := by simpa using hd
            exact o1.tabF o2 (HT4.out.f.mono hw1 (fun k hk _ => Nat.le_trans HL1.out.hH hk)) kk
        · rw [List.map_append, HL.out.is, take_map_succ HD2.out]
          rfl
      clear p0 p1 p2 z0 z1 z2
      go_wp2
      go_roundw
      case rel => exact ⟨j + 1, _, by omega, by go_num, HL5.out⟩
      case measure => simp [intOf]; omega
    · obtain rfl : j = sn := by omega
      have HR0 : Hid (OwnG shV 62 3 wr w.heap.size (.slice sa2 j sc2) j es) := by
        have hr := HL.out.row
        rw [List.drop_eq_nil_of_le (Nat.le_of_eq hdl), List.append_nil] at hr
        exact hr
      have HE : Hid (es.map shM = ds.map shM) := by
        have := HL.out.is
        rw [List.take_of_length_le (by rw [List.length_map]; exact Nat.le_of_eq hdl)] at this
        exact this
      obtain ⟨f0, f1, f2, f3, f4, f5, f6⟩ := free7 HL.out.cp.m
      have HB0 := Lib.hid (HBC.out wr HL.out.cp.dat)
      have HC := Lib.hid HL.out.cp
      have HTT := Lib.hid HL.out.T
      have HTA := Lib.hid HL.out.tabs
      have hH := HL.out.hH
      clear HTC HSC HTS HBC HL
      go_wp2_with (first
        | (go_at_call 38; refine HB0.out.mono ?_; rintro e w5 ⟨ma2, mc2, rfl, g1, g2⟩; have HC5 := Lib.hid (HC.out.later g2); have HBN := Lib.hid g1; have HG5 := Lib.hid g2; have HC6 := Lib.hid (HC5.out.set 5 (.slice ma2 mn mc2)); obtain ⟨y0, y1, y2, y3, y4, y5, y6⟩ := cells7 HC5.out.m; obtain ⟨z0, z1, z2, z3, z4, z5, z6⟩ := free7 HC5.out.m; clear g1 g2 x0 x1 x2 x3 x4 x5 x6 f0 f1 f2 f3 f4 f5 f6)
        | (go_at_call 48; refine (HKC.out _ HC6.out.dat).mono ?_; rintro e w6 ⟨ca2, cc2, rfl, g1, g2⟩; have HC7 := Lib.hid (HC6.out.later g2); have HKN := Lib.hid g1; have HG7 := Lib.hid g2; have HC8 := Lib.hid (HC7.out.set 6 (.slice ca2 cn cc2)); obtain ⟨x0, x1, x2, x3, x4, x5, x6⟩ := cells7 HC7.out.m; obtain ⟨f0, f1, f2, f3, f4, f5, f6⟩ := free7 HC7.out.m; obtain ⟨p0, p1, p2, p3, p4, p5, p6⟩ := cells7 HC7.out.r; obtain ⟨q0, q1, q2, q3, q4, q5, q6⟩ := free7 HC7.out.r; clear g1 g2 y0 y1 y2 y3 y4 y5 y6 z0 z1 z2 z3 z4 z5 z6))
      have kr := grown7 (w6.setCell ⟨w.heap.size, 6, none⟩ (.slice ca2 cn cc2)) (w.heap.size + 1) (.int .i64 c) (.int .i64 s) (.string bk) (.slice a1 n0 c1) (.slice sa2 j sc2) (.slice ma2 mn mc2) (.slice ca2 cn cc2)
      have r9 := HC8.out.r.set7 (.int .i64 c) (.int .i64 s) (.string bk) (.slice a1 n0 c1) (.slice sa2 j sc2) (.slice ma2 mn mc2) (.slice ca2 cn cc2)
      have HC9 := HC8.out.res kr r9
      have k5 := grownBy_setCell4 w5 w.heap.size 5 (.slice ma2 mn mc2)
      have k6 := grownBy_setCell4 w6 w.heap.size 6 (.slice ca2 cn cc2)
      have o5 := HC5.out.m.off6
      have o7 := HC7.out.m.off6
      have o8 := HC8.out.r.off6
      have hl5 := HC5.out.size
      have s5' : w.heap.size ≤ (w5.setCell ⟨w.heap.size, 5, none⟩ (.slice ma2 mn mc2)).heap.size := by rw [World.size_setCell]; omega
      have sN : ShsN wr w.heap.size (From w1.heap.size) sa2 j sc2 (ds.map shM) := ⟨es, HR0.out, HTA.out, HE.out, hS1, HO1.out⟩
      have bN : BmsN w5 w.heap.size ma2 mn mc2 B := HBN.out.mono (by have := HC.out.size; omega)
      have iN : IntsN w6 w.heap.size ca2 cn cc2 K := ⟨HKN.out.monoB s5', HK2.out⟩
      have t9 := o8.o1.tabF o8.o2 (o7.o1.tabF o7.o2 ((o5.o1.tabF o5.o2 (HTT.out.later HG5.out) k5).later HG7.out) k6) kr
      have n5 := grown_of_below HG5.out
      have n7 := grown_of_below HG7.out
      have s9 := ((((sN.off (Off.none _ _) (Off.none _ _) (Off.none _ _) n5).off o5.o3 o5.o1 o5.o2 k5).off (Off.none _ _) (Off.none _ _) (Off.none _ _) n7).off o7.o3 o7.o1 o7.o2 k6).off o8.o3 o8.o1 o8.o2 kr
      have b9 := (((bN.off o5.o4 o5.o5 k5).off (Off.none _ _) (Off.none _ _) n7).off o7.o4 o7.o5 k6).off o8.o4 o8.o5 kr
      have i9 := (iN.off o7.o6 k6).off o8.o6 kr
      exact bodyPost_ret (v := .agg #[.int .i64 c, .int .i64 s, .string bk, .slice a1 n0 c1, .slice sa2 j sc2, .slice ma2 mn mc2, .slice ca2 cn cc2]) (results_cell_row rfl _ _ (w.heap.size + 1) 29 #[.int .i64 c, .int .i64 s, .string bk, .slice a1 n0 c1, .slice sa2 j sc2, .slice ma2 mn mc2, .slice ca2 cn cc2] (0, 0) _ rfl r9 Try.underlying29 rfl meta_size) rfl ⟨⟨a1, n0, c1, sa2, j, sc2, ma2, mn, mc2, ca2, cn, cc2⟩, w1.heap.size, rfl, ⟨HI.out.1, HI.out.2.1, HI.out.2.2, t9, s9, b9, i9⟩, HC9.dat⟩
end Go.Proofs.Ytipljkegmhclkaa
