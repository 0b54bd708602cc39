/-
  What the project's shots.Back answers (12.2). Conditions: the meta reads, a cluster from 0 to 6, sizes of no more than 2^30 sectors, short sets.
-/
import Derived.Test.YtipljkegmhclkaaSm
namespace Go.Proofs.Ytipljkegmhclkaa
open Go.RowKit
set_option linter.unusedVariables false

def atS (S : List ShM) (i : Nat) : ShM := S.getD i (ByteArray.empty, 0, [])
theorem atS_is {S : List ShM} {i : Nat} {d : ShM} (h : S[i]? = some d) : atS S i = d := by
  unfold atS
  rw [List.getD_eq_getElem?_getD, h]
  rfl
def setAll (B : List BmM) (now : Int) : List BmM := B.map fun b => (b.1, b.2.1, setA b.2.1 b.2.2 now)
/-- A meta as it was at a shot. -/
noncomputable def backM (M : MM) (nm : ByteArray) : MM × Int := if fndS nm M.S < 0 then (MM0, 4) else ({ M with s := (atS M.S (fndS nm M.S).toNat).2.1, T := (atS M.S (fndS nm M.S).toNat).2.2, B := setAll M.B (clN (atS M.S (fndS nm M.S).toNat).2.1 M.c) }, 0)
/-- What Back asks of a meta. -/
structure Mild (M : MM) : Prop where
  c : 0 ≤ M.c ∧ M.c ≤ 6
  s : M.s ≤ 1073741824
  S : ∀ d ∈ M.S, d.2.1 ≤ 1073741824
  B : ∀ b ∈ M.B, b.2.2.length ≤ 10000
theorem clN_bd {s c : Int} (h : s ≤ 1073741824) : 0 ≤ clN s c ∧ clN s c ≤ 1073741824 := by
  unfold clN
  split
  · omega
  · have h1 : (1 : Int) ≤ 2 ^ c.toNat := by
      have e : (2 : Int) ^ c.toNat = ((2 ^ c.toNat : Nat) : Int) := by simp
      have := Nat.two_pow_pos c.toNat
      rw [e]
      omega
    refine ⟨Int.ediv_nonneg (by omega) (by omega), Int.le_trans (Int.ediv_le_self _ (by omega)) h⟩
/-- Between two bitmaps of a meta that goes back. -/
structure BkS (w0 : World) (X L4 : Nat) (cs os : Array Value) (lo hi : Nat) (ta : Option Addr) (ll tc : Nat) (T1 : Tb) (sax : Option Addr) (snx scx : Nat) (S : List ShM) (cax : Option Addr) (cnx ccx : Nat) (K : List Int) (max : Option Addr) (mnx mcx : Nat) (ds : List Bm) (now : Int) (j : Nat) (es : List Bm) (W : World) : Prop where
  cp : Cp w0 X cs #[.int .i64 0, .int .i64 0, .string ByteArray.empty, .slice none 0 0, .slice none 0 0, .slice none 0 0, .slice none 0 0] W
  ob : Blk W L4 29 os
  T : TabF W X (Iv lo hi) ta ll tc T1
  S : ShsN W X (Out lo hi) sax snx scx S
  K : IntsN W X cax cnx ccx K
  row : OwnG bmV 43 3 W X (.slice max mnx mcx) mnx (es ++ ds.drop j)
  new : ∀ d ∈ es, SpN W X d.2.2.1 d.2.2.2.1 d.2.2.2.2.1 (bmL d)
  old : ∀ d ∈ ds, SpN W X d.2.2.1 d.2.2.2.1 d.2.2.2.2.1 (bmL d)
  len : es.length = j
  is : es.map bmM = (setAll (ds.map bmM) now).take j
section
variable {w0 W W' : World} {X L4 : Nat} {cs os : Array Value} {lo hi : Nat} {ta : Option Addr} {ll tc : Nat} {T1 : Tb} {sax : Option Addr} {snx scx : Nat} {S : List ShM} {cax : Option Addr} {cnx ccx : Nat} {K : List Int} {max : Option Addr} {mnx mcx : Nat} {ds : List Bm} {now : Int} {j : Nat} {es : List Bm}
theorem BkS.later (h : BkS w0 X L4 cs os lo hi ta ll tc T1 sax snx scx S cax cnx ccx K max mnx mcx ds now j es W) (hb : Below W.heap.size W W') : BkS w0 X L4 cs os lo hi ta ll tc T1 sax snx scx S cax cnx ccx K max mnx mcx ds now j es W' :=
  have k := KeepL.later L6 hb
  ⟨h.cp.later hb, h.ob.later hb, h.T.keep (by decide) (by decide) k, h.S.keep (by decide) (by decide) (by decide) k, h.K.keep (by decide) k, h.row.keep (L := L6) (by decide) k, fun d hd => (h.new d hd).keep (L := L6) (by decide) k, fun d hd => (h.old d hd).keep (L := L6) (by decide) k, h.len, h.is⟩
abbrev L5b : List TypeId := [69, 72, 62, 40, 3]
/-- A set goes into the row. -/
theorem BkS.put (h : BkS w0 X L4 cs os lo hi ta ll tc T1 sax snx scx S cax cnx ccx K max mnx mcx ds now j es W) (hj : j < mnx) (g : Nat) (hm : max = some ⟨g, 0, none⟩) (nm : ByteArray) (on : Bool) (al : Option Addr) (l0 cl : Nat) (l : List Sp) (hd : ds[j]? = some (nm, on, al, l0, cl, l)) (a' : Option Addr) (n' c' : Nat) (hn : SpN W X a' n' c' (setA on l now)) :
    BkS w0 X L4 cs os lo hi ta ll tc T1 sax snx scx S cax cnx ccx K max mnx mcx ds now (j + 1) (es ++ [(nm, on, a', n', c', setA on l now)]) (W.setCell ⟨g, j * 3 + 2, none⟩ (.slice a' n' c')) := by
  subst hm
  have hdl : ds.length = mnx := by
    have := h.row.2.1
    rw [List.length_append, List.length_drop, h.len] at this
    have := (List.getElem?_eq_some_iff.1 hd).1
    omega
  have hd2 : (es ++ ds.drop j)[j]? = some (nm, on, al, l0, cl, l) := by
    rw [List.getElem?_append_right (by rw [h.len]; omega), h.len, Nat.sub_self, List.getElem?_drop, Nat.add_zero]
    exact hd
  obtain ⟨q1, q2⟩ := own_setK bm_rowed h.row j 2 _ (nm, on, a', n', c', setA on l now) hd2 (.slice a' n' c') (by omega) rfl
  rw [mid_set _ _ _ _ h.len (by omega)] at q1
  have k : KeepL L5b W _ := OwnG.keepL (L := L5b) h.row (by decide) q2
  refine ⟨h.cp.row h.row (by decide) (Nat.le_refl _) q2, h.ob.kept q2 (h.ob.not_row (by decide) h.row), h.T.keep (by decide) (by decide) k, h.S.keep (by decide) (by decide) (by decide) k, h.K.keep (by decide) k, q1, fun d hd' => ?_, fun d hd' => (h.old d hd').keep (L := L5b) (by decide) k, by rw [List.length_append, h.len]; rfl, ?_⟩
  · rcases List.mem_append.1 hd' with hd' | hd'
    · exact (h.new d hd').keep (L := L5b) (by decide) k
    · obtain rfl : d = (nm, on, a', n', c', setA on l now) := by simpa using hd'
      exact hn.keep (L := L5b) (by decide) k
  · rw [List.map_append, h.is]
    unfold setAll
    rw [List.map_map, take_map_succ hd]
    rfl
end
set_option maxRecDepth 100000 in
set_option maxHeartbeats 3200000 in
theorem shotsBack (w : World) (x : Mt) (M : MM) (h : MetaD w x M) (hmi : Mild M) (nm : ByteArray) : Calls Try.prog 11 #[.agg (mtA M x), .string nm] w (GiveM w (backM M nm)) := by
  obtain ⟨RM, hRM⟩ := named (backM M nm)
  rw [hRM.out]
  have HP := Lib.hid (fun W (hb : Below w.heap.size w W) (r : Int) hr => placeOf W x M (h.later hb) nm (r := r) hr)
  have HCM := Lib.hid (fun W (hb : Below w.heap.size w W) => pcopyM W x M (h.later hb))
  have HD := Lib.hid h
  clear h
  obtain ⟨a0, n0, c0, sa, sn, sc, ma, mn, mc, ca, cn, cc⟩ := x
  obtain ⟨c, s, bk, T, S, B, K⟩ := M
  dsimp only [mtA] at *
  have hl := HD.out.S.lens
  dsimp only at hl
  have hRR := hRM.out
  unfold backM at hRR
  dsimp only at hRR
  rcases fndS_cases nm S with ⟨hr, _⟩ | ⟨i, ⟨n1, sz, T1⟩, hr, hi, hnm, hil, _⟩
  · have HC0 := Lib.hid (Cp.first w #[.int .i64 c, .int .i64 s, .string bk, .slice a0 n0 c0, .slice sa sn sc, .slice ma mn mc, .slice ca cn cc] #[.int .i64 0, .int .i64 0, .string ByteArray.empty, .slice none 0 0, .slice none 0 0, .slice none 0 0, .slice none 0 0])
    rw [if_pos (by rw [hr]; omega)] at hRR
    subst hRR
    have HP1 := Lib.hid (fun W hb => HP.out W hb (-1) hr)
    clear hl hr HP HCM hRM hmi
    go_enter Try.func11, Try.ntmps11
    go_wp2_with (first
      | (go_at_call 29; refine (HP1.out _ HC0.out.dat).mono ?_; rintro e w2 ⟨rfl, hb⟩; have HC2 := Lib.hid (HC0.out.later hb); obtain ⟨p0, p1, p2, p3, p4, p5, p6⟩ := cells7 HC2.out.r; obtain ⟨q0, q1, q2, q3, q4, q5, q6⟩ := free7 HC2.out.r; clear hb))
    have HF := HC2.out.zero
    exact bodyPost_ret (results_cell_tmp rfl _ _ (w.heap.size + 1) 29 #[.int .i64 0, .int .i64 0, .string ByteArray.empty, .slice none 0 0, .slice none 0 0, .slice none 0 0, .slice none 0 0] (0, 0) _ rfl (.int .i64 4) rfl HF.r Try.underlying29 rfl meta_size) rfl (GiveM.zero 4 HF)
  · rw [if_neg (by rw [hr]; omega), hr, Int.toNat_natCast, atS_is hi] at hRR
    dsimp only at hRR hnm
    subst hnm
    obtain ⟨now, hnow⟩ := named (clN sz c)
    obtain ⟨was, hwas⟩ := named (clN s c)
    rw [hnow.out] at hRR
    have hin : i < sn := by omega
    obtain ⟨b, off, n1', sz', al, ll, cl, T', e0, hSi, hb, hok, x0, x1, x2, hT⟩ := HD.out.S.at i hin
    obtain rfl : sa = some ⟨b, off, none⟩ := e0
    rw [hi] at hSi
    cases hSi
    have HC0 := Lib.hid (Cp.first w #[.int .i64 c, .int .i64 s, .string bk, .slice a0 n0 c0, .slice (some ⟨b, off, none⟩) sn sc, .slice ma mn mc, .slice ca cn cc] #[.int .i64 0, .int .i64 0, .string ByteArray.empty, .slice none 0 0, .slice none 0 0, .slice none 0 0, .slice none 0 0])
    have HP1 := Lib.hid (fun W hb => HP.out W hb i hr)
    have di : decide ((i : Int) < 0) = false := decide_eq_false (by omega)
    have hi1000 : i ≤ 1000 := by omega
    have hnb : 0 ≤ now ∧ now ≤ 1073741824 := hnow.out ▸ clN_bd (hmi.S _ (List.mem_of_getElem? hi))
    have hwb : 0 ≤ was ∧ was ≤ 1073741824 := hwas.out ▸ clN_bd hmi.s
    have HNB := Lib.hid hnb
    have HWB' := Lib.hid hwb
    have HMB := Lib.hid hmi.B
    have HXX : Hid (∀ W, Below w.heap.size w W → W.cell? ⟨b, off + i * 3, none⟩ = some (.string n1) ∧ W.cell? ⟨b, off + i * 3 + 1, none⟩ = some (.int .i64 sz) ∧ W.cell? ⟨b, off + i * 3 + 2, none⟩ = some (.slice al ll cl)) := fun W hw => ⟨(hw.cell (p := ⟨b, off + i * 3, none⟩) hb).trans x0, (hw.cell (p := ⟨b, off + i * 3 + 1, none⟩) hb).trans x1, (hw.cell (p := ⟨b, off + i * 3 + 2, none⟩) hb).trans x2⟩
    have HSH := Lib.hid (fun W (hb : Below w.heap.size w W) => pcopyShot W n1 sz al ll cl T1 (hT.later hb))
    have HK1 := Lib.hid (fun (v3 v4 v5 v6 : Value) W => clustersOf s c HD.out.hs hmi.c hwas.out bk v3 v4 v5 v6 W)
    have HK2 := Lib.hid (fun (v3 v4 v5 v6 : Value) W => clustersOf sz c hok.1 hmi.c hnow.out bk v3 v4 v5 v6 W)
    have HOK := Lib.hid hok.1
    clear hl hr HP hRM hi hil hmi hnb hwb x0 x1 x2 hT hok hb
    go_enter Try.func11, Try.ntmps11
    go_wp2_with (first
      | (go_at_call 29; refine (HP1.out _ HC0.out.dat).mono ?_; rintro e w2 ⟨rfl, hb⟩; have HC2 := Lib.hid (HC0.out.later hb); obtain ⟨x0, x1, x2, x3, x4, x5, x6⟩ := cells7 HC2.out.m; obtain ⟨y0, y1, y2⟩ := HXX.out _ HC2.out.dat; clear hb)
      | (go_at_call 30; refine (HSH.out _ HC2.out.dat).mono ?_; rintro e w3 ⟨ta, tc, rfl, ht, hb⟩; have HC3 := Lib.hid (HC2.out.later hb); have HT3 := Lib.hid ht; have HW23 : Hid (w2.heap.size ≤ w3.heap.size) := hb.size; have HC3a := Lib.hid (HC3.out.later ((Below.refl _ w3).alloc (Nat.le_refl _) (.cells #[.string n1, .int .i64 sz, .slice ta ll tc] 62))); obtain ⟨z0, z1, z2, z3, z4, z5, z6⟩ := cells7 HC3a.out.m; clear hb ht x0 x1 x2 x3 x4 x5 x6 y0 y1 y2)
      | (go_at_call 31; refine (HCM.out _ HC3a.out.dat).mono ?_; rintro e w4 ⟨⟨ax, nx, cx, sax, snx, scx, max, mnx, mcx, cax, cnx, ccx⟩, H, rfl, hm, hb⟩; have HC4 := Lib.hid (HC3a.out.later hb); have HM4 := Lib.hid hm; have HB4 := Lib.hid hb; have HTK := Lib.hid (((Blk.new w3 62 #[.string n1, .int .i64 sz, .slice ta ll tc]).later hb).alloc (.cells #[.int .i64 c, .int .i64 s, .string bk, .slice ax nx cx, .slice sax snx scx, .slice max mnx mcx, .slice cax cnx ccx] 29)); have HOB := Lib.hid (Blk.new w4 29 #[.int .i64 c, .int .i64 s, .string bk, .slice ax nx cx, .slice sax snx scx, .slice max mnx mcx, .slice cax cnx ccx]); obtain ⟨p0, p1, p2⟩ := cells3 HTK.out; have HC4a := Lib.hid (HC4.out.later ((Below.refl _ w4).alloc (Nat.le_refl _) (.cells #[.int .i64 c, .int .i64 s, .string bk, .slice ax nx cx, .slice sax snx scx, .slice max mnx mcx, .slice cax cnx ccx] 29))); obtain ⟨x0, x1, x2, x3, x4, x5, x6⟩ := cells7 HC4a.out.m; dsimp only [mtA]; clear hb hm z0 z1 z2 z3 z4 z5 z6)
      | (go_at_call 33; trace_state; sorry))
    have HKP : Hid (∀ cs, (w4.alloc (.cells cs 29)).cell? ⟨w3.heap.size, 1, none⟩ = some (.int .i64 sz) ∧ (w4.alloc (.cells cs 29)).cell? ⟨w3.heap.size, 2, none⟩ = some (.slice ta ll tc)) := fun cs =>
      have hbk := ((Blk.new w3 62 #[.string n1, .int .i64 sz, .slice ta ll tc]).later HB4.out).alloc (.cells cs 29)
      ⟨hbk.cell 1, hbk.cell 2⟩
    have HKD : Hid (∀ cs, (w4.alloc (.cells cs 29)).drew.cell? ⟨w3.heap.size, 1, none⟩ = some (.int .i64 sz) ∧ (w4.alloc (.cells cs 29)).drew.cell? ⟨w3.heap.size, 2, none⟩ = some (.slice ta ll tc)) := fun cs => HKP.out cs
    go_region_held3 (fun W => W.cell? ⟨w3.heap.size, 1, none⟩ = some (.int .i64 sz) ∧ W.cell? ⟨w3.heap.size, 2, none⟩ = some (.slice ta ll tc)) (first | assumption | exact HKP.out _ | exact HKD.out _) (fail)
    obtain ⟨W5, hW5⟩ := named (w4.alloc (.cells #[.int .i64 c, .int .i64 sz, .string bk, .slice ta ll tc, .slice sax snx scx, .slice max mnx mcx, .slice cax cnx ccx] 29)).drew
    have HB5 : Hid (Below w4.heap.size w4 W5) := by rw [← hW5.out]; exact ((Below.refl _ w4).alloc (Nat.le_refl _) _).drew
    have HOB5 : Hid (Blk W5 w4.heap.size 29 #[.int .i64 c, .int .i64 sz, .string bk, .slice ta ll tc, .slice sax snx scx, .slice max mnx mcx, .slice cax cnx ccx]) := by rw [← hW5.out]; exact Blk.new w4 _ _
    have HC5 := Lib.hid (HC4.out.later HB5.out)
    rw [hW5.out]
    clear x0 x1 x2 x3 x4 x5 x6 p0 p1 p2 HKP HKD hW5 HOB HC4a HTK
    obtain ⟨x0, x1, x2, x3, x4, x5, x6⟩ := cells7 HC5.out.m
    obtain ⟨y0, y1, y2, y3, y4, y5, y6⟩ := cells7 HOB5.out
    have HKP : Hid (∀ W, Below W5.heap.size W5 W → (W.cell? ⟨w.heap.size, 0, none⟩ = some (.int .i64 c) ∧ W.cell? ⟨w.heap.size, 1, none⟩ = some (.int .i64 s) ∧ W.cell? ⟨w.heap.size, 2, none⟩ = some (.string bk) ∧ W.cell? ⟨w.heap.size, 3, none⟩ = some (.slice a0 n0 c0) ∧ W.cell? ⟨w.heap.size, 4, none⟩ = some (.slice (some ⟨b, off, none⟩) sn sc) ∧ W.cell? ⟨w.heap.size, 5, none⟩ = some (.slice ma mn mc) ∧ W.cell? ⟨w.heap.size, 6, none⟩ = some (.slice ca cn cc) ∧ W.cell? ⟨w4.heap.size, 0, none⟩ = some (.int .i64 c) ∧ W.cell? ⟨w4.heap.size, 1, none⟩ = some (.int .i64 sz) ∧ W.cell? ⟨w4.heap.size, 2, none⟩ = some (.string bk) ∧ W.cell? ⟨w4.heap.size, 3, none⟩ = some (.slice ta ll tc) ∧ W.cell? ⟨w4.heap.size, 4, none⟩ = some (.slice sax snx scx) ∧ W.cell? ⟨w4.heap.size, 5, none⟩ = some (.slice max mnx mcx) ∧ W.cell? ⟨w4.heap.size, 6, none⟩ = some (.slice cax cnx ccx))) := fun W hb => by
      obtain ⟨a0', a1', a2', a3', a4', a5', a6'⟩ := cells7 (HC5.out.later hb).m
      obtain ⟨b0', b1', b2', b3', b4', b5', b6'⟩ := cells7 (HOB5.out.later hb)
      exact ⟨a0', a1', a2', a3', a4', a5', a6', b0', b1', b2', b3', b4', b5', b6'⟩
    have HR5 := Lib.hid (Below.refl W5.heap.size W5)
    have HK3 : Hid (∀ W, Below W5.heap.size W5 W → Calls Try.prog 33 #[.agg #[.int .i64 c, .int .i64 s, .string bk, .slice a0 n0 c0, .slice (some ⟨b, off, none⟩) sn sc, .slice ma mn mc, .slice ca cn cc]] W fun e w' => e = .returned (.int .i64 was) ∧ Below W5.heap.size W5 w') := fun W hb => (HK1.out _ _ _ _ W).mono fun e w' ⟨h1, h2⟩ => ⟨h1, hb.trans (h2.mono hb.size)⟩
    have HK4 : Hid (∀ W, Below W5.heap.size W5 W → Calls Try.prog 33 #[.agg #[.int .i64 c, .int .i64 sz, .string bk, .slice ta ll tc, .slice sax snx scx, .slice max mnx mcx, .slice cax cnx ccx]] W fun e w' => e = .returned (.int .i64 now) ∧ Below W5.heap.size W5 w') := fun W hb => (HK2.out _ _ _ _ W).mono fun e w' ⟨h1, h2⟩ => ⟨h1, hb.trans (h2.mono hb.size)⟩
    clear HK1 HK2 x0 x1 x2 x3 x4 x5 x6 y0 y1 y2 y3 y4 y5 y6
    go_wp2
    go_region_held3 (fun W => W.cell? ⟨w.heap.size, 0, none⟩ = some (.int .i64 c) ∧ W.cell? ⟨w.heap.size, 1, none⟩ = some (.int .i64 s) ∧ W.cell? ⟨w.heap.size, 2, none⟩ = some (.string bk) ∧ W.cell? ⟨w.heap.size, 3, none⟩ = some (.slice a0 n0 c0) ∧ W.cell? ⟨w.heap.size, 4, none⟩ = some (.slice (some ⟨b, off, none⟩) sn sc) ∧ W.cell? ⟨w.heap.size, 5, none⟩ = some (.slice ma mn mc) ∧ W.cell? ⟨w.heap.size, 6, none⟩ = some (.slice ca cn cc) ∧ W.cell? ⟨w4.heap.size, 0, none⟩ = some (.int .i64 c) ∧ W.cell? ⟨w4.heap.size, 1, none⟩ = some (.int .i64 sz) ∧ W.cell? ⟨w4.heap.size, 2, none⟩ = some (.string bk) ∧ W.cell? ⟨w4.heap.size, 3, none⟩ = some (.slice ta ll tc) ∧ W.cell? ⟨w4.heap.size, 4, none⟩ = some (.slice sax snx scx) ∧ W.cell? ⟨w4.heap.size, 5, none⟩ = some (.slice max mnx mcx) ∧ W.cell? ⟨w4.heap.size, 6, none⟩ = some (.slice cax cnx ccx)) (first | assumption | with_reducible exact HKP.out _ HR5.out | with_reducible exact HKP.out _ HR5.out.drew | with_reducible exact HKP.out _ HB6.out | with_reducible exact HKP.out _ HB6.out.drew | with_reducible exact HKP.out _ HB7.out | with_reducible exact HKP.out _ HB7.out.drew) (first
      | (go_at_call 33; (with_reducible refine (HK3.out _ HR5.out.drew).mono ?_); rintro e w6 ⟨rfl, hb⟩; have HB6 := Lib.hid hb; clear hb)
      | (go_at_call 33; (first | with_reducible refine (HK4.out _ HB6.out).mono ?_ | with_reducible refine (HK4.out _ HB6.out.drew).mono ?_); rintro e w7 ⟨rfl, hb⟩; have HB7 := Lib.hid hb; clear hb))
    have HW47 : Hid (Below w4.heap.size w4 w7) := HB5.out.trans (HB7.out.mono HB5.out.size)
    have hMB := HM4.out.B
    have hMS := HM4.out.S
    have hMK := HM4.out.K
    dsimp only at hMB hMS hMK
    obtain ⟨ds, kO, kS, kE, h1k, hBo⟩ := hMB
    have hlo : w.heap.size ≤ w2.heap.size := HC2.out.dat.size
    have hlo3 : w.heap.size ≤ (w3.alloc (.cells #[.string n1, .int .i64 sz, .slice ta ll tc] 62)).heap.size := HC3a.out.dat.size
    have HS0 : Hid (BkS w w.heap.size w4.heap.size #[.int .i64 c, .int .i64 s, .string bk, .slice a0 n0 c0, .slice (some ⟨b, off, none⟩) sn sc, .slice ma mn mc, .slice ca cn cc] #[.int .i64 c, .int .i64 sz, .string bk, .slice ta ll tc, .slice sax snx scx, .slice max mnx mcx, .slice cax cnx ccx] w2.heap.size w3.heap.size ta ll tc T1 sax snx scx S cax cnx ccx K max mnx mcx ds now 0 [] w7) := by
      have k47 := KeepL.later L6 HW47.out
      have t3 : TabF w4 w.heap.size (Iv w2.heap.size w3.heap.size) ta ll tc T1 := ((HT3.out.f.mono hlo (fun k _ h => h)).later ((Below.refl _ w3).alloc (Nat.le_refl _) (.cells #[.string n1, .int .i64 sz, .slice ta ll tc] 62))).later HB4.out
      refine ⟨HC5.out.later HB7.out, HOB5.out.later HB7.out, t3.keep (by decide) (by decide) k47, (hMS.mono hlo3 (fun k hk h => Or.inr ?_)).keep (by decide) (by decide) (by decide) k47, (hMK.mono hlo3).keep (by decide) k47, ?_, fun d hd => (by cases hd), fun d hd => ((kS d hd).mono hlo3).keep (L := L6) (by decide) k47, rfl, rfl⟩
      · rw [World.size_alloc] at hk
        exact Nat.le_of_succ_le hk
      · have := (kO.monoB hlo3).keep (L := L6) (by decide) k47
        simpa using this
    have HDL : Hid (ds.length = mnx) := kO.2.1
    have HKE := Lib.hid kE
    have HBO := Lib.hid hBo
    clear hMS hMK kO kS kE hBo
    go_wp2
    go_loopw [40] (fun i wr => ∃ (j : Nat) (es : List Bm), j ≤ mnx ∧ i = .int .i64 j ∧ Hid (BkS w w.heap.size w4.heap.size #[.int .i64 c, .int .i64 s, .string bk, .slice a0 n0 c0, .slice (some ⟨b, off, none⟩) sn sc, .slice ma mn mc, .slice ca cn cc] #[.int .i64 c, .int .i64 sz, .string bk, .slice ta ll tc, .slice sax snx scx, .slice max mnx mcx, .slice cax cnx ccx] w2.heap.size w3.heap.size ta ll tc T1 sax snx scx S cax cnx ccx K max mnx mcx ds now j es wr)) (fun i _ => mnx - (intOf i).toNat)
    case atStart => exact ⟨0, [], Nat.zero_le _, rfl, HS0.out⟩
    case round =>
      clear HS0
      obtain ⟨j, es, hj, rfl, HL⟩ := hrel
      by_cases hlt : j < mnx
      · obtain ⟨g, ⟨mm, on, bl, l0, bc, l⟩, rfl, hg1, hg2, hd, ⟨q0, q1, q2⟩, hfz, cs, hblk⟩ := own3_at bm_rowed HL.out.row j hlt
        have hd2 := mid_at HL.out.len hd
        have hx0 : wr.cell? ⟨g, j * 3, none⟩ = some (.string mm) := q0
        have hx1 : wr.cell? ⟨g, j * 3 + 1, none⟩ = some (.bool on) := q1
        have hx2 : wr.cell? ⟨g, j * 3 + 2, none⟩ = some (.slice bl l0 bc) := q2
        have HD2 := Lib.hid hd2
        obtain ⟨W1, hW1⟩ := named (wr.alloc (.cells #[.string mm, .bool on, .slice bl l0 bc] 43))
        obtain ⟨LB, hLB⟩ := named wr.heap.size
        have HWB : Hid (Below wr.heap.size wr W1) := by rw [← hW1.out]; exact (Below.refl _ wr).alloc (Nat.le_refl _) _
        have HLA : Hid (Blk W1 LB 43 #[.string mm, .bool on, .slice bl l0 bc]) := by rw [← hW1.out, ← hLB.out]; exact Blk.new _ _ _
        have HL1 := Lib.hid (HL.out.later HWB.out)
        have hsp : SpD wr bl l0 bc l := (HL.out.old _ (List.mem_of_getElem? hd2)).d
        have hl0 : l0 ≤ 10000 := by
          have h1 : (mm, on, l) ∈ B := by
            rw [← HKE.out]
            exact List.mem_map.2 ⟨_, List.mem_of_getElem? hd2, rfl⟩
          have h2 := HMB.out _ h1
          have h3 := hsp.1.1
          dsimp only at h2
          omega
        have HSA : Hid (∀ W, Below W1.heap.size W1 W → Calls Try.prog 34 #[.agg #[.string mm, .bool on, .slice bl l0 bc], .int .i64 was, .int .i64 now] W fun e w' => ∃ (a' : Option Addr) (n' c' : Nat), e = .returned (.slice a' n' c') ∧ SpN w' w.heap.size a' n' c' (setA on l now) ∧ Below W1.heap.size W1 w') := fun W hb =>
          (setAfter mm on bl l0 bc l was now W ((hsp.later HWB.out).later hb) hl0 HWB'.out HNB.out).mono fun e w' ⟨a', n', c', e1, e2, e3⟩ => ⟨a', n', c', e1, e2.mono (by have := HL1.out.cp.size; have := hb.size; omega), hb.trans (e3.mono hb.size)⟩
        have HKP : Hid (∀ W, Below W1.heap.size W1 W → W.cell? ⟨w4.heap.size, 5, none⟩ = some (.slice (some ⟨g, 0, none⟩) mnx mcx) ∧ W.cell? ⟨LB, 0, none⟩ = some (.string mm) ∧ W.cell? ⟨LB, 1, none⟩ = some (.bool on) ∧ W.cell? ⟨LB, 2, none⟩ = some (.slice bl l0 bc)) := fun W hb =>
          ⟨(HL1.out.later hb).ob.cell 5, (HLA.out.later hb).cell 0, (HLA.out.later hb).cell 1, (HLA.out.later hb).cell 2⟩
        have hgX : w4.heap.size ≠ g := fun e => by
          subst e
          have := (show wr.heap[w4.heap.size]? = _ from hblk).symm.trans HL.out.ob
          simp at this
        have hgL : LB ≠ g := fun e => by have := hLB.out; omega
        have HKF : Hid (∀ W v, Below W1.heap.size W1 W → (W.setCell ⟨g, j * 3 + 2, none⟩ v).cell? ⟨w4.heap.size, 5, none⟩ = some (.slice (some ⟨g, 0, none⟩) mnx mcx) ∧ (W.setCell ⟨g, j * 3 + 2, none⟩ v).cell? ⟨LB, 0, none⟩ = some (.string mm) ∧ (W.setCell ⟨g, j * 3 + 2, none⟩ v).cell? ⟨LB, 1, none⟩ = some (.bool on) ∧ (W.setCell ⟨g, j * 3 + 2, none⟩ v).cell? ⟨LB, 2, none⟩ = some (.slice bl l0 bc)) := fun W v hb => by
          have a1 := ((HL1.out.later hb).ob).other hgX v (i := j * 3 + 2)
          have a2 := (HLA.out.later hb).other hgL v (i := j * 3 + 2)
          exact ⟨a1.cell 5, a2.cell 0, a2.cell 1, a2.cell 2⟩
        have HR1 := Lib.hid (Below.refl W1.heap.size W1)
        have HP : Hid (∀ W, Below W1.heap.size W1 W → W.cell? ⟨g, j * 3 + 2, none⟩ = some (.slice bl l0 bc) ∧ W.frozen? ⟨g, j * 3 + 2, none⟩ = false) := fun W hb => by
          have h2 := HWB.out.trans (hb.mono HWB.out.size)
          exact ⟨(h2.cell (p := ⟨g, j * 3 + 2, none⟩) hg2).trans hx2, (h2.frozen (p := ⟨g, j * 3 + 2, none⟩) hg2).trans (hfz _)⟩
        have hlb := hLB.out
        clear q0 q1 q2 hd hd2 hfz hLB hblk hgX hgL hsp hl0
        go_wp2
        rw [hW1.out]
        clear hlb hx0 hx1 hx2
        go_region_held3 (fun W => W.cell? ⟨w4.heap.size, 5, none⟩ = some (.slice (some ⟨g, 0, none⟩) mnx mcx) ∧ W.cell? ⟨LB, 0, none⟩ = some (.string mm) ∧ W.cell? ⟨LB, 1, none⟩ = some (.bool on) ∧ W.cell? ⟨LB, 2, none⟩ = some (.slice bl l0 bc)) (first | assumption | with_reducible exact HKP.out _ HR1.out | with_reducible exact HKP.out _ HR1.out.drew | with_reducible exact HKP.out _ HB8.out | exact HKF.out _ _ HB8.out) (first
          | (go_at_call 34; with_reducible refine (HSA.out _ HR1.out.drew).mono ?_; rintro e w8 ⟨a8, n8, c8, rfl, g1, g2⟩; have HN8 := Lib.hid g1; have HB8 := Lib.hid g2; obtain ⟨p0, z0⟩ := HP.out _ g2; clear g1 g2))
        have HL9 := Lib.hid ((HL1.out.later HB8.out).put hlt g rfl mm on bl l0 bc l HD2.out a8 n8 c8 HN8.out)
        clear p0 z0
        go_wp2
        go_roundw
        case rel => exact ⟨j + 1, _, by omega, by go_num, HL9.out⟩
        case measure => simp [intOf]; omega
      · obtain rfl : j = mnx := by omega
        obtain ⟨x0, x1, x2, x3, x4, x5, x6⟩ := cells7 HL.out.ob
        obtain ⟨p0, p1, p2, p3, p4, p5, p6⟩ := cells7 HL.out.cp.r
        obtain ⟨q0, q1, q2, q3, q4, q5, q6⟩ := free7 HL.out.cp.r
        go_wp2
        subst hRR
        have g7 := grown7 wr (w.heap.size + 1) (.int .i64 c) (.int .i64 sz) (.string bk) (.slice ta ll tc) (.slice sax snx scx) (.slice max j mcx) (.slice cax cnx ccx)
        have HF := HL.out.cp.end7 (v0 := (.int .i64 c)) (v1 := (.int .i64 sz)) (v2 := (.string bk)) (v3 := (.slice ta ll tc)) (v4 := (.slice sax snx scx)) (v5 := (.slice max j mcx)) (v6 := (.slice cax cnx ccx)) rfl
        have k7 := HL.out.cp.r.keepL (L := L6) (by decide) g7
        have hr := HL.out.row
        rw [List.drop_eq_nil_of_le (Nat.le_of_eq HDL.out), List.append_nil] at hr
        have he : es.map bmM = setAll B now := by
          rw [HL.out.is, HKE.out, List.take_of_length_le]
          unfold setAll
          rw [List.length_map, ← HKE.out, List.length_map]
          exact Nat.le_of_eq HDL.out
        exact bodyPost_ret (results_cell_tmp rfl _ _ (w.heap.size + 1) 29 #[.int .i64 c, .int .i64 sz, .string bk, .slice ta ll tc, .slice sax snx scx, .slice max j mcx, .slice cax cnx ccx] (0, 0) _ rfl (.int .i64 0) rfl HF.r Try.underlying29 rfl meta_size) rfl ⟨⟨ta, ll, tc, sax, snx, scx, max, j, mcx, cax, cnx, ccx⟩, w2.heap.size, w3.heap.size, rfl, ⟨HD.out.hc, HOK.out, HD.out.hbk, HL.out.T.keep (by decide) (by decide) k7, HL.out.S.keep (by decide) (by decide) (by decide) k7, ⟨es, hr.keep (L := L6) (by decide) k7, fun d hd => (HL.out.new d hd).keep (L := L6) (by decide) k7, he, h1k, fun d hd => by
          obtain ⟨d', hd', rfl⟩ := List.mem_map.1 hd
          exact HBO.out d' hd'⟩, HL.out.K.keep (by decide) k7⟩, HF.dat⟩
end Go.Proofs.Ytipljkegmhclkaa
