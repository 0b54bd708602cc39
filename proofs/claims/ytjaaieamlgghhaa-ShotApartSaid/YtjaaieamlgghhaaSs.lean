/-
  What the reference's Copy answers: a meta anew (layer 12). Conditions: the meta reads.
-/
import Derived.Test.YtjaaieamlgghhaaSr
namespace Go.Proofs.Ytjaaieamlgghhaa
open Go.RowKit
set_option linter.unusedVariables false

/-- Three boxes of metas, all else below them as it was. -/
structure Cp3 (w0 : World) (cs rs os : Array Value) (W : World) : Prop where
  m : Blk W w0.heap.size 29 cs
  r : Blk W (w0.heap.size + 1) 29 rs
  o : Blk W (w0.heap.size + 2) 29 os
  dat : Below w0.heap.size w0 W
section
variable {w0 W W' : World} {cs rs os : Array Value}
theorem Cp3.size (h : Cp3 w0 cs rs os W) : w0.heap.size + 3 ≤ W.heap.size := h.o.lt
theorem Cp3.later (h : Cp3 w0 cs rs os W) (hb : Below W.heap.size W W') : Cp3 w0 cs rs os W' := ⟨h.m.later hb, h.r.later hb, h.o.later hb, h.dat.trans (hb.mono h.dat.size)⟩
theorem Cp3.out (h : Cp3 w0 cs rs os W) (i : Nat) (v : Value) : Cp3 w0 cs rs (os.setIfInBounds i v) (W.setCell ⟨w0.heap.size + 2, i, none⟩ v) := ⟨h.m.other (by omega) _, h.r.other (by omega) _, h.o.set i v, h.dat.setCell (by show w0.heap.size ≤ w0.heap.size + 2; omega) v⟩
theorem Cp3.row (h : Cp3 w0 cs rs os W) {row : Option Nat} (hg : W.grownBy W' row) (hr : ∀ k, row = some k → w0.heap.size + 3 ≤ k) : Cp3 w0 cs rs os W' :=
  ⟨h.m.kept hg (fun e => by have := hr _ e.symm; omega), h.r.kept hg (fun e => by have := hr _ e.symm; omega), h.o.kept hg (fun e => by have := hr _ e.symm; omega), h.dat.grown hg h.dat.size fun k hk => by have := hr k hk; omega⟩
theorem Cp3.first (w : World) (cs rs os : Array Value) : Cp3 w cs rs os (((w.alloc (.cells cs 29)).alloc (.cells rs 29)).alloc (.cells os 29)) := by
  have h2 : Blk (((w.alloc (.cells cs 29)).alloc (.cells rs 29)).alloc (.cells os 29)) (w.heap.size + 2) 29 os := by
    have := Blk.new ((w.alloc (.cells cs 29)).alloc (.cells rs 29)) 29 os
    rwa [World.size_alloc, World.size_alloc] at this
  exact ⟨((Blk.new w _ _).alloc _).alloc _, blk_next.alloc _, h2, (((Below.refl _ _).alloc (Nat.le_refl _) _).alloc (by simp) _).alloc (by simp; omega) _⟩
end
/-- ... a table and shots of one's own. -/
structure Rc3 (w0 : World) (H : Nat) (cs rs os : Array Value) (a1 : Option Addr) (n0 c1 : Nat) (T : Tb) (pa : Option Addr) (pc j : Nat) (S : List ShM) (L : List Sh) (W : World) : Prop where
  cp : Cp3 w0 cs rs os W
  T : TabF W (w0.heap.size + 3) (Iv w0.heap.size H) a1 n0 c1 T
  row : OwnG shV 39 3 W (w0.heap.size + 3) (.slice pa j pc) j L
  tabs : ∀ d ∈ L, TabF W (w0.heap.size + 3) (From H) d.2.2.1 d.2.2.2.1 d.2.2.2.2.1 (shT d)
  is : L.map shM = S.take j
  hH : H ≤ W.heap.size
section
variable {w0 W W' : World} {H : Nat} {cs rs os : Array Value} {a1 : Option Addr} {n0 c1 : Nat} {T : Tb} {pa : Option Addr} {pc j : Nat} {S : List ShM} {L : List Sh}
theorem Rc3.later (h : Rc3 w0 H cs rs os a1 n0 c1 T pa pc j S L W) (hb : Below W.heap.size W W') : Rc3 w0 H cs rs os a1 n0 c1 T pa pc j S L W' :=
  have k := KeepL.later L6 hb
  ⟨h.cp.later hb, h.T.keep (by decide) (by decide) k, h.row.keep (L := L6) (by decide) k, fun d hd => (h.tabs d hd).keep (L := L6) (by decide) (by decide) k, h.is, Nat.le_trans h.hH hb.size⟩
/-- A cell of a box of a shot that lies apart from the row. -/
theorem Rc3.shot (h : Rc3 w0 H cs rs os a1 n0 c1 T pa pc j S L W) {Y : Nat} {ct : Array Value} (hY : Blk W Y 39 ct) (h1 : w0.heap.size + 3 ≤ Y) (h2 : (Value.slice pa j pc).ownBlock ≠ some Y) (i : Nat) (v : Value) : Rc3 w0 H cs rs os a1 n0 c1 T pa pc j S L (W.setCell ⟨Y, i, none⟩ v) :=
  have hg := grownBy_setCell4 W Y i v
  have k := hY.keepL (L := L5) (by decide) hg
  ⟨h.cp.row hg (fun k hk => by cases hk; exact h1), h.T.keep (by decide) (by decide) k, h.row.kept' hg (fun k hk e => h2 (hk.trans e.symm)), fun d hd => (h.tabs d hd).keep (L := L5) (by decide) (by decide) k, h.is, by rw [World.size_setCell]; exact h.hH⟩
/-- The append of a shot. -/
theorem Rc3.push (h : Rc3 w0 H cs rs os a1 n0 c1 T pa pc j S L W) {d : Sh} (hd : TabF W (w0.heap.size + 3) (From H) d.2.2.1 d.2.2.2.1 d.2.2.2.2.1 (shT d)) (hS : S[j]? = some (shM d)) {pa' : Option Addr} {pc' : Nat} (hO : OwnG shV 39 3 W' (w0.heap.size + 3) (.slice pa' (j + 1) pc') (j + 1) (L ++ [d])) (hg : W.grownBy W' (Value.slice pa j pc).ownBlock) (v : Value) :
    Rc3 w0 H cs rs (os.setIfInBounds 4 v) a1 n0 c1 T pa' pc' (j + 1) S (L ++ [d]) (W'.setCell ⟨w0.heap.size + 2, 4, none⟩ v) := by
  have k1 := OwnG.keepL (L := L5) h.row (by decide) hg
  have c1 := h.cp.row hg (fun k hk => (h.row.1.lt k hk).1)
  have hg2 := grownBy_setCell4 W' (w0.heap.size + 2) 4 v
  have k2 := c1.o.keepL (L := L6) (by decide) hg2
  have kk := k1.trans (k2.weak (L' := L5) (by decide))
  refine ⟨c1.out 4 v, h.T.keep (by decide) (by decide) kk, hO.keep (L := L6) (by decide) k2, fun x hx => ?_, ?_, by rw [World.size_setCell]; exact Nat.le_trans h.hH hg.size⟩
  · rcases List.mem_append.1 hx with hx | hx
    · exact (h.tabs x hx).keep (L := L5) (by decide) (by decide) kk
    · obtain rfl : x = d := by simpa using hx
      exact hd.keep (L := L5) (by decide) (by decide) kk
  · rw [List.map_append, h.is, List.take_add_one, hS]
    rfl
end
set_option maxRecDepth 100000 in
set_option maxHeartbeats 3200000 in
theorem refCopy (w : World) (x : Mt) (M : MM) (h : MetaD w x M) : Calls Try.prog 16 #[.agg (mtA M x)] w (CopyP w M) := by
  obtain ⟨a0, n0, c0, sa, sn, sc, ma, mn, mc, ca, cn, cc⟩ := x
  obtain ⟨c, s, bk, T, S, B, K⟩ := M
  have HD := Lib.hid h
  have hT := h.T
  have hB := h.B
  have hK := h.K
  have hl := h.S.lens
  dsimp only [mtA] at hT hB hK hl ⊢
  have HL := Lib.hid hl.1
  have hsn := hl.2
  have HTC := Lib.hid (fun W (hb : Below w.heap.size w W) => copyT W (hT.later hb))
  have HBC := Lib.hid (fun W (hb : Below w.heap.size w W) => refCopyMaps W ma mn mc B (hB.later hb))
  have HKD := Lib.hid hK
  have HC0 := Lib.hid (Cp3.first w #[.int .i64 c, .int .i64 s, .string bk, .slice a0 n0 c0, .slice sa sn sc, .slice ma mn mc, .slice ca cn cc] #[.int .i64 0, .int .i64 0, .string ByteArray.empty, .slice none 0 0, .slice none 0 0, .slice none 0 0, .slice none 0 0] #[.int .i64 c, .int .i64 s, .string bk, .slice a0 n0 c0, .slice sa sn sc, .slice ma mn mc, .slice ca cn cc])
  obtain ⟨m0, m1, m2, m3, m4, m5, m6⟩ := cells7 HC0.out.m
  have HSM : Hid (∀ d ∈ S, ShMok d) := by
    obtain ⟨ds, _, _, _, _, h5⟩ := h.S
    exact h5
  clear h hT hB hK hl
  go_enter Try.func16, Try.ntmps16
  go_wp2_with (go_at_call 55; refine (HTC.out _ HC0.out.dat).mono ?_; rintro e w1 ⟨a1, c1, rfl, ht, hb⟩; have HC1 := Lib.hid (HC0.out.later hb); have HT1 := Lib.hid ht; have HG1 := Lib.hid hb; have HC2 : Hid (Cp3 w #[.int .i64 c, .int .i64 s, .string bk, .slice a0 n0 c0, .slice sa sn sc, .slice ma mn mc, .slice ca cn cc] #[.int .i64 0, .int .i64 0, .string ByteArray.empty, .slice none 0 0, .slice none 0 0, .slice none 0 0, .slice none 0 0] #[.int .i64 c, .int .i64 s, .string bk, .slice a1 n0 c1, .slice sa sn sc, .slice ma mn mc, .slice ca cn cc] (w1.setCell ⟨w.heap.size + 2, 3, none⟩ (.slice a1 n0 c1))) := Lib.hid (HC1.out.out 3 (.slice a1 n0 c1)); obtain ⟨o0, o1, o2, o3, o4, o5, o6⟩ := cells7 HC1.out.o; obtain ⟨f0, f1, f2, f3, f4, f5, f6⟩ := free7 HC1.out.o; clear ht hb)
  have HS0 : Hid (Rc3 w w1.heap.size #[.int .i64 c, .int .i64 s, .string bk, .slice a0 n0 c0, .slice sa sn sc, .slice ma mn mc, .slice ca cn cc] #[.int .i64 0, .int .i64 0, .string ByteArray.empty, .slice none 0 0, .slice none 0 0, .slice none 0 0, .slice none 0 0] #[.int .i64 c, .int .i64 s, .string bk, .slice a1 n0 c1, .slice none 0 0, .slice ma mn mc, .slice ca cn cc] a1 n0 c1 T none 0 0 S [] ((w1.setCell ⟨w.heap.size + 2, 3, none⟩ (.slice a1 n0 c1)).setCell ⟨w.heap.size + 2, 4, none⟩ (.slice none 0 0))) := by
    have g3 := grownBy_setCell4 w1 (w.heap.size + 2) 3 (.slice a1 n0 c1)
    have g4 := grownBy_setCell4 (w1.setCell ⟨w.heap.size + 2, 3, none⟩ (.slice a1 n0 c1)) (w.heap.size + 2) 4 (.slice none 0 0)
    have k := (HC1.out.o.keepL (L := L6) (by decide) g3).trans (HC2.out.o.keepL (L := L6) (by decide) g4)
    have t1 : TabF w1 (w.heap.size + 3) (Iv w.heap.size w1.heap.size) a1 n0 c1 T := HT1.out.f.mono HC0.out.size (fun k hk h => ⟨by have := HC0.out.size; omega, h.2⟩)
    exact ⟨HC2.out.out 4 (.slice none 0 0), t1.keep (by decide) (by decide) k, OwnG.none _ _ _ _ _, fun d hd => (by cases hd), rfl, by rw [World.size_setCell, World.size_setCell]; exact Nat.le_refl _⟩
  clear HC1 HC2 HT1 HTC HC0 o0 o1 o2 o3 o4 o5 o6 f0 f1 f2 f3 f4 f5 f6 m0 m1 m2 m3 m4 m5 m6
  go_loopw [4] (fun i wr => ∃ (j : Nat) (pa : Option Addr) (pc : Nat) (L : List Sh), j ≤ sn ∧ i = .int .i64 j ∧ Hid (Rc3 w w1.heap.size #[.int .i64 c, .int .i64 s, .string bk, .slice a0 n0 c0, .slice sa sn sc, .slice ma mn mc, .slice ca cn cc] #[.int .i64 0, .int .i64 0, .string ByteArray.empty, .slice none 0 0, .slice none 0 0, .slice none 0 0, .slice none 0 0] #[.int .i64 c, .int .i64 s, .string bk, .slice a1 n0 c1, .slice pa j pc, .slice ma mn mc, .slice ca cn cc] a1 n0 c1 T pa pc j S L wr)) (fun i _ => sn - (intOf i).toNat)
  case atStart => exact ⟨0, none, 0, [], Nat.zero_le _, rfl, HS0.out⟩
  case round =>
    clear HS0
    obtain ⟨j, pa, pc, L, hj, rfl, HS⟩ := hrel
    obtain ⟨q0, q1, q2, q3, q4, q5, q6⟩ := cells7 HS.out.cp.m
    obtain ⟨o0, o1, o2, o3, o4, o5, o6⟩ := cells7 HS.out.cp.o
    by_cases hlt : j < sn
    · obtain ⟨b, off, nm, sz, al, ll, cl, T', rfl, hSj, hb, _, x1, x2, x3, hT⟩ := (HD.out.S.later HS.out.cp.dat).at j hlt
      have HSJ := Lib.hid hSj
      have HW1 : Hid (Below wr.heap.size wr (wr.alloc (.cells #[.string nm, .int .i64 sz, .slice al ll cl] 39))) := (Below.refl _ _).alloc (Nat.le_refl _) _
      have HBX : Hid (Blk (wr.alloc (.cells #[.string nm, .int .i64 sz, .slice al ll cl] 39)) wr.heap.size 39 #[.string nm, .int .i64 sz, .slice al ll cl]) := Blk.new _ _ _
      have HS1 := Lib.hid (HS.out.later HW1.out)
      have HCT := Lib.hid (copyT (wr.alloc (.cells #[.string nm, .int .i64 sz, .slice al ll cl] 39)) (hT.later HW1.out))
      have HAW : Hid ((Value.slice pa j pc).ownBlock ≠ some wr.heap.size) := fun e => absurd (HS.out.row.1.lt _ e).2 (Nat.lt_irrefl _)
      have hb0 : (wr.alloc (.cells #[.string nm, .int .i64 sz, .slice al ll cl] 39)).cell? ⟨wr.heap.size, 2, none⟩ = some (.slice al ll cl) := HBX.out.cell 2
      clear hSj hT
      go_wp2_with (first
        | (go_at_call 55; refine HCT.out.mono ?_; rintro e w5 ⟨al5, cl5, rfl, ht, hb⟩; have HS5 := Lib.hid (HS1.out.later hb); have HB5 := Lib.hid (HBX.out.later hb); have HT5 := Lib.hid ht; have HS6 := Lib.hid (HS5.out.shot HB5.out (by have := HS.out.cp.size; omega) HAW.out 2 (.slice al5 ll cl5)); have HB6 := Lib.hid (HB5.out.set 2 (.slice al5 ll cl5)); have HA6 := Lib.hid (HS6.out.later ((Below.refl _ (w5.setCell ⟨wr.heap.size, 2, none⟩ (.slice al5 ll cl5))).alloc (Nat.le_refl _) (.cells #[.string nm, .int .i64 sz, .slice al5 ll cl5] 39))); have HRD : Hid (Reads shV ((w5.setCell ⟨wr.heap.size, 2, none⟩ (.slice al5 ll cl5)).alloc (.cells #[.string nm, .int .i64 sz, .slice al5 ll cl5] 39)) (some ⟨w5.heap.size, 0, none⟩) 1 [(nm, sz, al5, ll, cl5, T')]) := Lib.hid (by have h9 := one_reads (cv := shV) (w5.setCell ⟨wr.heap.size, 2, none⟩ (.slice al5 ll cl5)) (nm, sz, al5, ll, cl5, T') #[.string nm, .int .i64 sz, .slice al5 ll cl5] 39 rfl; rwa [World.size_setCell] at h9); have HT6 := Lib.hid (((HT5.out.f.mono (base' := w.heap.size + 3) (G := From w1.heap.size) HS1.out.cp.size (fun k hk _ => Nat.le_trans HS1.out.hH hk)).keep (L := L5) (by decide) (by decide) (HB5.out.keepL (L := L5) (by decide) (grownBy_setCell4 w5 wr.heap.size 2 (.slice al5 ll cl5)))).later ((Below.refl _ (w5.setCell ⟨wr.heap.size, 2, none⟩ (.slice al5 ll cl5))).alloc (Nat.le_refl _) (.cells #[.string nm, .int .i64 sz, .slice al5 ll cl5] 39))); obtain ⟨y0, y1, y2⟩ := cells3 HB5.out; obtain ⟨z0, z1, z2⟩ := free3 HB5.out; obtain ⟨u0, u1, u2, u3, u4, u5, u6⟩ := cells7 HS6.out.cp.o; have u4f := HS6.out.cp.o.free 4; have yy0 : (w5.setCell ⟨wr.heap.size, 2, none⟩ (.slice al5 ll cl5)).cell? ⟨wr.heap.size, 0, none⟩ = some (.string nm) := HB6.out.cell 0; have yy1 : (w5.setCell ⟨wr.heap.size, 2, none⟩ (.slice al5 ll cl5)).cell? ⟨wr.heap.size, 1, none⟩ = some (.int .i64 sz) := HB6.out.cell 1; have yy2 : (w5.setCell ⟨wr.heap.size, 2, none⟩ (.slice al5 ll cl5)).cell? ⟨wr.heap.size, 2, none⟩ = some (.slice al5 ll cl5) := HB6.out.cell 2; clear ht hb)
        | (at_builtin; refine append_lg sh_rowed rfl (.tmp 29) (.tmp 31) rfl (w.heap.size + 3) _ j L rfl HA6.out.row (some ⟨w5.heap.size, 0, none⟩) 1 1 [(nm, sz, al5, ll, cl5, T')] rfl (fun e => by cases e) HRD.out (by omega) (Nat.le_trans HA6.out.cp.size (Nat.le_refl _)) ?_; intro pa8 pc8 w8 g1 g2 g3; have HS9 := Lib.hid (HA6.out.push (d := (nm, sz, al5, ll, cl5, T')) HT6.out HSJ.out g1 g2 (.slice pa8 (j + 1) pc8)); have HC8 := Lib.hid (HA6.out.cp.row g2 (fun k hk => (HA6.out.row.1.lt k hk).1)); have v4 : w8.cell? ⟨w.heap.size + 2, 4, none⟩ = some (.slice pa j pc) := HC8.out.o.cell 4; have v4f := HC8.out.o.free 4; clear g1 g2 g3))
      go_roundw
      case rel => exact ⟨j + 1, pa8, pc8, _, by omega, by go_num, HS9.out⟩
      case measure => simp [intOf]; omega
    · obtain rfl : j = sn := by omega
      have HMC := Lib.hid (HBC.out wr HS.out.cp.dat)
      have HE : Hid (L.map shM = S) := Lib.hid (by rw [HS.out.is, List.take_of_length_le (Nat.le_of_eq HL.out)])
      clear HBC
      have f5 := HS.out.cp.o.free 5
      go_wp2_with (first
        | (go_at_call 56; refine HMC.out.mono ?_; rintro e w5 ⟨ma1, mc1, rfl, hB, hb⟩; have HS5 := Lib.hid (HS.out.later hb); have HB5 := Lib.hid hB; have HW5 := Lib.hid hb; have HC6 := Lib.hid (HS5.out.cp.out 5 (.slice ma1 mn mc1)); have z5 := HS5.out.cp.o.free 5; have y5 := HS5.out.cp.o.cell 5; have z6 := HC6.out.o.free 6; have y6 := HC6.out.o.cell 6; have m6b : ((w5.setCell ⟨w.heap.size + 1 + 1, 5, none⟩ (.slice ma1 mn mc1)).alloc (.cells #[] 3)).cell? ⟨w.heap.size, 6, none⟩ = some (.slice ca cn cc) := (HC6.out.later ((Below.refl _ (w5.setCell ⟨w.heap.size + 2, 5, none⟩ (.slice ma1 mn mc1))).alloc (Nat.le_refl _) (.cells #[] 3))).m.cell 6; have HI6 := Lib.hid (HKD.out.1.later HC6.out.dat); clear hB hb)
        | (at_builtin; refine copy_own iv_rowed (w5.setCell ⟨w.heap.size + 2, 5, none⟩ (.slice ma1 mn mc1)) rfl (.tmp 38) (.tmp 40) rfl w5.heap.size (World.size_setCell ..).symm rfl ca cn cc K rfl HKD.out.2.1.1 HI6.out (by have := HKD.out.2.2; omega) ?_; intro ca7 cc7 w7 g0 g1; have HK7 := Lib.hid g0; have HW7 := Lib.hid g1; have HC7 := Lib.hid (HC6.out.later g1); have HC8 := Lib.hid (HC7.out.out 6 (.slice ca7 cn cc7)); obtain ⟨n0', n1', n2', n3', n4', n5', n6'⟩ := cells7 HC7.out.o; obtain ⟨h0', h1', h2', h3', h4', h5', h6'⟩ := free7 HC7.out.o; obtain ⟨r0, r1, r2, r3, r4, r5, r6⟩ := cells7 HC7.out.r; obtain ⟨k0, k1, k2, k3, k4, k5, k6⟩ := free7 HC7.out.r; clear g0 g1))
      have g5 := grownBy_setCell4 w5 (w.heap.size + 2) 5 (.slice ma1 mn mc1)
      have g6 := grownBy_setCell4 w7 (w.heap.size + 2) 6 (.slice ca7 cn cc7)
      have g7 := grown7 (w7.setCell ⟨w.heap.size + 2, 6, none⟩ (.slice ca7 cn cc7)) (w.heap.size + 1) (.int .i64 c) (.int .i64 s) (.string bk) (.slice a1 n0 c1) (.slice pa j pc) (.slice ma1 mn mc1) (.slice ca7 cn cc7)
      have r9 := HC8.out.r.set7 (.int .i64 c) (.int .i64 s) (.string bk) (.slice a1 n0 c1) (.slice pa j pc) (.slice ma1 mn mc1) (.slice ca7 cn cc7)
      have k67 := (HC7.out.o.keepL (L := L6) (by decide) g6).trans (HC8.out.r.keepL (L := L6) (by decide) g7)
      have k57 := ((HS5.out.cp.o.keepL (L := L6) (by decide) g5).trans (KeepL.later L6 HW7.out)).trans k67
      have k07 := (KeepL.later L6 HW5.out).trans k57
      have hX := HS.out.cp.size
      have hX5 := HS5.out.cp.size
      have b9 := belowRow HC8.out.dat g7 (by omega) HC8.out.dat.size
      exact bodyPost_ret (v := .agg #[.int .i64 c, .int .i64 s, .string bk, .slice a1 n0 c1, .slice pa j pc, .slice ma1 mn mc1, .slice ca7 cn cc7]) (results_cell_row rfl _ _ (w.heap.size + 1) 29 #[.int .i64 c, .int .i64 s, .string bk, .slice a1 n0 c1, .slice pa j pc, .slice ma1 mn mc1, .slice ca7 cn cc7] (0, 0) _ rfl r9 Try.underlying29 rfl meta_size) rfl ⟨⟨a1, n0, c1, pa, j, pc, ma1, mn, mc1, ca7, cn, cc7⟩, w1.heap.size, rfl, ⟨HD.out.hc, HD.out.hs, HD.out.hbk, (HS.out.T.mono (by omega) (fun k _ h => h)).keep (by decide) (by decide) k07, ⟨L, (HS.out.row.monoB (by omega)).keep (L := L6) (by decide) k07, fun d hd => ((HS.out.tabs d hd).mono (by omega) (fun k _ h => h)).keep (L := L6) (by decide) (by decide) k07, HE.out, hsn, HSM.out⟩, (HB5.out.mono (by omega)).keep (by decide) (by decide) k57, ⟨(HK7.out.monoB (by rw [World.size_setCell]; omega)).keep (L := L6) (by decide) k67, HKD.out.2.2⟩⟩, b9⟩
end Go.Proofs.Ytjaaieamlgghhaa
