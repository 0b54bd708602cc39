/-
  What the reference's AddShot and DropShot answer (layer 12). Conditions: the meta reads.
-/
import Derived.Test.YtjaaieamlgghhaaSs
namespace Go.Proofs.Ytjaaieamlgghhaa
open Go.RowKit
set_option linter.unusedVariables false

theorem TabF.clip {w : World} {base len cap : Nat} {F : Nat → Prop} {a : Option Addr} {T : Tb} (h : TabF w base F a len cap T) : TabF w base (fun k => F k ∧ k < w.heap.size) a len cap T := by
  obtain ⟨es, h1, h2, h3, h4, h5, h6⟩ := h
  exact ⟨es, h1, h2, h3, h4, fun k hk => ⟨h5 k hk, (h1.out.1.lt k hk).2⟩, fun d hd k hk => ⟨h6 d hd k hk, ((h1.leaf d hd).lt hk).2⟩⟩
/-- A meta that is being changed in its box. -/
structure Ad (w0 : World) (L4 lo H : Nat) (cs os : Array Value) (ax : Option Addr) (nx cx : Nat) (T : Tb) (sax : Option Addr) (snx scx : Nat) (ds : List Sh) (max : Option Addr) (mnx mcx : Nat) (B : List BmM) (cax : Option Addr) (cnx ccx : Nat) (K : List Int) (W : World) : Prop where
  cp : Cp w0 w0.heap.size cs #[.int .i64 0, .int .i64 0, .string ByteArray.empty, .slice none 0 0, .slice none 0 0, .slice none 0 0, .slice none 0 0] W
  ob : Blk W L4 29 os
  far : w0.heap.size + 2 ≤ L4
  T : TabF W w0.heap.size (Iv lo H) ax nx cx T
  row : OwnG shV 39 3 W w0.heap.size (.slice sax snx scx) snx ds
  tabs : ∀ d ∈ ds, TabF W w0.heap.size (Out lo H) d.2.2.1 d.2.2.2.1 d.2.2.2.2.1 (shT d)
  B : BmsN W w0.heap.size max mnx mcx B
  K : IntsN W w0.heap.size cax cnx ccx K
section
variable {w0 W W' : World} {L4 lo H : Nat} {cs os : Array Value} {ax : Option Addr} {nx cx : Nat} {T : Tb} {sax : Option Addr} {snx scx : Nat} {ds : List Sh} {max : Option Addr} {mnx mcx : Nat} {B : List BmM} {cax : Option Addr} {cnx ccx : Nat} {K : List Int}
theorem Ad.later (h : Ad w0 L4 lo H cs os ax nx cx T sax snx scx ds max mnx mcx B cax cnx ccx K W) (hb : Below W.heap.size W W') : Ad w0 L4 lo H cs os ax nx cx T sax snx scx ds max mnx mcx B cax cnx ccx K W' :=
  have k := KeepL.later L6 hb
  ⟨h.cp.later hb, h.ob.later hb, h.far, h.T.keep (by decide) (by decide) k, h.row.keep (L := L6) (by decide) k, fun d hd => (h.tabs d hd).keep (L := L6) (by decide) (by decide) k, h.B.keep (by decide) (by decide) k, h.K.keep (by decide) k⟩
theorem Ad.push (h : Ad w0 L4 lo H cs os ax nx cx T sax snx scx ds max mnx mcx B cax cnx ccx K W) {d : Sh} (hd : TabF W w0.heap.size (Out lo H) d.2.2.1 d.2.2.2.1 d.2.2.2.2.1 (shT d)) {pa : Option Addr} {n' pc : Nat} (hO : OwnG shV 39 3 W' w0.heap.size (.slice pa n' pc) n' (ds ++ [d])) (hg : W.grownBy W' (Value.slice sax snx scx).ownBlock) :
    Ad w0 L4 lo H cs os ax nx cx T pa n' pc (ds ++ [d]) max mnx mcx B cax cnx ccx K W' := by
  have k := OwnG.keepL (L := L5) h.row (by decide) hg
  refine ⟨h.cp.row h.row (by decide) (Nat.le_refl _) hg, h.ob.kept hg (h.ob.not_row (by decide) h.row), h.far, h.T.keep (by decide) (by decide) k, hO, fun x hx => ?_, h.B.keep (by decide) (by decide) k, h.K.keep (by decide) k⟩
  rcases List.mem_append.1 hx with hx | hx
  · exact (h.tabs x hx).keep (L := L5) (by decide) (by decide) k
  · obtain rfl : x = d := by simpa using hx
    exact hd.keep (L := L5) (by decide) (by decide) k
theorem Ad.grow (h : Ad w0 L4 lo H cs os ax nx cx T sax snx scx ds max mnx mcx B cax cnx ccx K W) {ds' : List Sh} (hd : ∀ d ∈ ds', TabF W w0.heap.size (Out lo H) d.2.2.1 d.2.2.2.1 d.2.2.2.2.1 (shT d)) {pa : Option Addr} {n' pc : Nat} (hO : OwnG shV 39 3 W' w0.heap.size (.slice pa n' pc) n' ds') (hg : W.grownBy W' (Value.slice sax snx scx).ownBlock) :
    Ad w0 L4 lo H cs os ax nx cx T pa n' pc ds' max mnx mcx B cax cnx ccx K W' := by
  have k := OwnG.keepL (L := L5) h.row (by decide) hg
  exact ⟨h.cp.row h.row (by decide) (Nat.le_refl _) hg, h.ob.kept hg (h.ob.not_row (by decide) h.row), h.far, h.T.keep (by decide) (by decide) k, hO, fun x hx => (hd x hx).keep (L := L5) (by decide) (by decide) k, h.B.keep (by decide) (by decide) k, h.K.keep (by decide) k⟩
theorem Ad.store (h : Ad w0 L4 lo H cs os ax nx cx T sax snx scx ds max mnx mcx B cax cnx ccx K W) (i : Nat) (v : Value) : Ad w0 L4 lo H cs (os.setIfInBounds i v) ax nx cx T sax snx scx ds max mnx mcx B cax cnx ccx K (W.setCell ⟨L4, i, none⟩ v) := by
  have hg := grownBy_setCell4 W L4 i v
  have k := h.ob.keepL (L := L6) (by decide) hg
  have hf := h.far
  exact ⟨⟨h.cp.m.apart hg (by omega), h.cp.r.apart hg (by omega), belowRow h.cp.dat hg (by omega) h.cp.dat.size⟩, h.ob.set i v, hf, h.T.keep (by decide) (by decide) k, h.row.keep (L := L6) (by decide) k, fun d hd => (h.tabs d hd).keep (L := L6) (by decide) (by decide) k, h.B.keep (by decide) (by decide) k, h.K.keep (by decide) k⟩
/-- What is handed back. -/
theorem Ad.give (h : Ad w0 L4 lo H cs os ax nx cx T sax snx scx ds max mnx mcx B cax cnx ccx K W) (c s : Int) (bk : ByteArray) (S : List ShM) (hc : I64 c) (hs : I64 s) (hbk : bk.size ≤ 9223372036854775807) (hS : ds.map shM = S) (hn : snx ≤ 1000) (hok : ∀ d ∈ S, ShMok d) {W' : World} (hg : W.grownBy W' (some (w0.heap.size + 1))) :
    GiveM w0 ({ c := c, s := s, bk := bk, T := T, S := S, B := B, K := K }, 0) (.returned (.tuple #[.agg #[.int .i64 c, .int .i64 s, .string bk, .slice ax nx cx, .slice sax snx scx, .slice max mnx mcx, .slice cax cnx ccx], .int .i64 0])) W' := by
  have k := h.cp.r.keepL (L := L6) (by decide) hg
  exact ⟨⟨ax, nx, cx, sax, snx, scx, max, mnx, mcx, cax, cnx, ccx⟩, lo, H, rfl, ⟨hc, hs, hbk, h.T.keep (by decide) (by decide) k, ⟨ds, h.row.keep (L := L6) (by decide) k, fun d hd => (h.tabs d hd).keep (L := L6) (by decide) (by decide) k, hS, hn, hok⟩, h.B.keep (by decide) (by decide) k, h.K.keep (by decide) k⟩, belowRow h.cp.dat hg (by omega) h.cp.dat.size⟩
/-- A copy in its box. -/
theorem Ad.first {w0 w4 : World} {cs : Array Value} (hC : Cp w0 w0.heap.size cs #[.int .i64 0, .int .i64 0, .string ByteArray.empty, .slice none 0 0, .slice none 0 0, .slice none 0 0, .slice none 0 0] w4) {base H0 : Nat} {x : Mt} {M : MM} (h : MetaN w4 base (Iv base H0) (From H0) x M) (hb : w0.heap.size ≤ base) : ∃ ds H, ds.map shM = M.S ∧ x.sn ≤ 1000 ∧ (∀ d ∈ M.S, ShMok d) ∧ ds.length = x.sn ∧ H ≤ w4.heap.size ∧ Ad w0 w4.heap.size base H cs (mtA M x) x.a0 x.n0 x.c0 M.T x.sa x.sn x.sc ds x.ma x.mn x.mc M.B x.ca x.cn x.cc M.K (w4.alloc (.cells (mtA M x) 29)) := by
  obtain ⟨_, _, _, hT, ⟨ds, hO, hS, hE, h1k, hSo⟩, hB, hK⟩ := h
  have k := KeepL.later L6 ((Below.refl _ w4).alloc (Nat.le_refl _) (.cells (mtA M x) 29))
  have hT2 := hT.clip.mono (G := Iv base (min H0 w4.heap.size)) hb (fun k _ h => ⟨h.1.1, by have := h.1.2; have := h.2; omega⟩)
  exact ⟨ds, min H0 w4.heap.size, hE, h1k, hSo, hO.2.1, Nat.min_le_right _ _, hC.later ((Below.refl _ w4).alloc (Nat.le_refl _) _), Blk.new w4 _ _, hC.size, hT2.keep (by decide) (by decide) k, (hO.monoB hb).keep (L := L6) (by decide) k, fun d hd => ((hS d hd).mono hb (fun k _ h => Or.inr (Nat.le_trans (Nat.min_le_left _ _) h))).keep (L := L6) (by decide) (by decide) k, (hB.mono hb).keep (by decide) (by decide) k, (hK.mono hb).keep (by decide) k⟩
end
theorem akeep {w0 W : World} {L4 lo H : Nat} {c s : Int} {bk : ByteArray} {v3 v4 v5 v6 : Value} {os : Array Value} {ax : Option Addr} {nx cx : Nat} {T : Tb} {sax : Option Addr} {snx scx : Nat} {ds : List Sh} {max : Option Addr} {mnx mcx : Nat} {B : List BmM} {cax : Option Addr} {cnx ccx : Nat} {K : List Int} (h : Ad w0 L4 lo H #[.int .i64 c, .int .i64 s, .string bk, v3, v4, v5, v6] os ax nx cx T sax snx scx ds max mnx mcx B cax cnx ccx K W) :
    W.cell? ⟨w0.heap.size, 1, none⟩ = some (.int .i64 s) ∧ W.cell? ⟨w0.heap.size, 3, none⟩ = some v3 := ⟨h.cp.m.cell 1, h.cp.m.cell 3⟩
set_option maxRecDepth 100000 in
set_option maxHeartbeats 6400000 in
theorem refAdd (w : World) (x : Mt) (M : MM) (h : MetaD w x M) (nm : ByteArray) (hnm : nm.size ≤ 9223372036854775807) : Calls Try.prog 18 #[.agg (mtA M x), .string nm] w (GiveM w (addM M nm)) := by
  obtain ⟨RM, hRM⟩ := named (addM M nm)
  rw [hRM.out]
  have HP := Lib.hid (fun W (hb : Below w.heap.size w W) (r : Int) hr => refShot W x M (h.later hb) nm (r := r) hr)
  have HTC := Lib.hid (fun W (hb : Below w.heap.size w W) => copyT W (h.T.later hb))
  have HCM := Lib.hid (fun W (hb : Below w.heap.size w W) => refCopy W x M (h.later hb))
  have HD := Lib.hid h
  have HNM := Lib.hid hnm
  clear h hnm
  obtain ⟨a0, n0, c0, sa, sn, sc, ma, mn, mc, ca, cn, cc⟩ := x
  obtain ⟨c, s, bk, T, S, B, K⟩ := M
  dsimp only [mtA] at *
  have HC0 := Lib.hid (Cp.first w #[.int .i64 c, .int .i64 s, .string bk, .slice a0 n0 c0, .slice sa sn sc, .slice ma mn mc, .slice ca cn cc] #[.int .i64 0, .int .i64 0, .string ByteArray.empty, .slice none 0 0, .slice none 0 0, .slice none 0 0, .slice none 0 0])
  have hl := HD.out.S.lens
  dsimp only at hl
  have hRR := hRM.out
  unfold addM at hRR
  dsimp only at hRR
  by_cases hok : nameOk nm
  · have HN := Lib.hid (fun W => refName nm HNM.out (decide_eq_true hok) W)
    obtain ⟨r, hr⟩ := named (fndS nm S)
    have HP1 := Lib.hid (fun W hb => HP.out W hb r hr.out)
    rw [if_neg (fun h => h hok), hr.out] at hRR
    by_cases hf : 0 ≤ r
    · rw [if_pos hf] at hRR
      subst hRR
      have hr0 : decide (0 ≤ r) = true := decide_eq_true hf
      clear hf hl HP HCM HTC hok hRM
      go_enter Try.func18, Try.ntmps18
      go_wp2_with (first
        | (go_at_call 51; refine (HN.out _).mono ?_; rintro e w1 ⟨rfl, rfl⟩)
        | (go_at_call 52; refine (HP1.out _ HC0.out.dat).mono ?_; rintro e w2 ⟨rfl, hb⟩; have HC2 := Lib.hid (HC0.out.later hb); obtain ⟨p0, p1, p2, p3, p4, p5, p6⟩ := cells7 HC2.out.r; obtain ⟨q0, q1, q2, q3, q4, q5, q6⟩ := free7 HC2.out.r; clear hb))
      have HF := HC2.out.zero
      exact bodyPost_ret (results_cell_tmp rfl _ _ (w.heap.size + 1) 29 #[.int .i64 0, .int .i64 0, .string ByteArray.empty, .slice none 0 0, .slice none 0 0, .slice none 0 0, .slice none 0 0] (0, 0) _ rfl (.int .i64 5) rfl HF.r Try.underlying29 rfl meta_size) rfl (GiveM.zero 5 HF)
    · rw [if_neg hf] at hRR
      have hr0 : decide (0 ≤ r) = false := decide_eq_false hf
      by_cases h8 : 8 ≤ S.length
      · rw [if_pos h8] at hRR
        subst hRR
        have h8n : decide (8 ≤ (sn : Int)) = true := decide_eq_true (by omega)
        clear hf hl h8 HP HCM HTC hok hRM
        go_enter Try.func18, Try.ntmps18
        go_wp2_with (first
          | (go_at_call 51; refine (HN.out _).mono ?_; rintro e w1 ⟨rfl, rfl⟩)
          | (go_at_call 52; refine (HP1.out _ HC0.out.dat).mono ?_; rintro e w2 ⟨rfl, hb⟩; have HC2 := Lib.hid (HC0.out.later hb); obtain ⟨x0, x1, x2, x3, x4, x5, x6⟩ := cells7 HC2.out.m; obtain ⟨p0, p1, p2, p3, p4, p5, p6⟩ := cells7 HC2.out.r; obtain ⟨q0, q1, q2, q3, q4, q5, q6⟩ := free7 HC2.out.r; clear hb))
        have HF := HC2.out.zero
        exact bodyPost_ret (results_cell_tmp rfl _ _ (w.heap.size + 1) 29 #[.int .i64 0, .int .i64 0, .string ByteArray.empty, .slice none 0 0, .slice none 0 0, .slice none 0 0, .slice none 0 0] (0, 0) _ rfl (.int .i64 9) rfl HF.r Try.underlying29 rfl meta_size) rfl (GiveM.zero 9 HF)
      · rw [if_neg h8] at hRR
        subst hRR
        have h8n : decide (8 ≤ (sn : Int)) = false := decide_eq_false (by omega)
        have H8 : Hid (S.length < 8) := Nat.lt_of_not_le h8
        clear hf h8 hl HP hok hRM
        go_enter Try.func18, Try.ntmps18
        go_wp2_with (first
          | (go_at_call 51; refine (HN.out _).mono ?_; rintro e w1 ⟨rfl, rfl⟩)
          | (go_at_call 52; refine (HP1.out _ HC0.out.dat).mono ?_; rintro e w2 ⟨rfl, hb⟩; have HC2 := Lib.hid (HC0.out.later hb); obtain ⟨x0, x1, x2, x3, x4, x5, x6⟩ := cells7 HC2.out.m; clear hb)
          | (go_at_call 16; refine (HCM.out _ HC2.out.dat).mono ?_; rintro e w4 ⟨⟨ax, nx, cx, sax, snx, scx, max, mnx, mcx, cax, cnx, ccx⟩, H0, rfl, hm, hb⟩; obtain ⟨ds, H, hE, h1k, hSo, hdl, hH4, hA⟩ := Ad.first (HC2.out.later hb) hm HC2.out.dat.size; dsimp only [mtA] at hE h1k hSo hdl hA ⊢; have HHH := Lib.hid hH4; have HE4 := Lib.hid hE; have HSO := Lib.hid hSo; have HDL := Lib.hid hdl; have HA := Lib.hid hA; clear hb hm hE hSo hdl hA hH4 x0 x1 x2 x3 x4 x5 x6))
        have HAd := Lib.hid (HA.out.later (Below.refl _ _).drew)
        have HHd : Hid (H ≤ (w4.alloc (.cells #[.int .i64 c, .int .i64 s, .string bk, .slice ax nx cx, .slice sax snx scx, .slice max mnx mcx, .slice cax cnx ccx] 29)).drew.heap.size) := Nat.le_trans HHH.out (by show w4.heap.size ≤ (w4.alloc _).heap.size; rw [World.size_alloc]; omega)
        have HLN : Hid (snx + 1 ≤ 1000) := Lib.hid (by
          have e1 := congrArg List.length HE4.out
          rw [List.length_map, HDL.out] at e1
          have := H8.out
          omega)
        have HSS : Hid (∀ (p : Option Addr) (q r : Nat), (ds ++ [(nm, s, p, q, r, T)]).map shM = S ++ [(nm, s, T)]) := fun p q r => by rw [List.map_append, HE4.out]; rfl
        have HSK : Hid (∀ d ∈ S ++ [(nm, s, T)], ShMok d) := fun d hd => by
          rcases List.mem_append.1 hd with hd | hd
          · exact HSO.out d hd
          · obtain rfl : d = (nm, s, T) := by simpa using hd
            exact ⟨HD.out.hs, HNM.out⟩
        obtain ⟨y0, y1, y2, y3, y4, y5, y6⟩ := cells7 HAd.out.ob
        refine wp_region_held_drew (S := fun w' => w'.cell? ⟨w.heap.size, 1, none⟩ = some (.int .i64 s) ∧ w'.cell? ⟨w.heap.size, 3, none⟩ = some (.slice a0 n0 c0)) (by kernel_rfl) (by first | assumption | exact akeep HA12.out | exact akeep HA10.out | exact akeep HA9.out | exact akeep HA7.out | exact akeep HAd.out) (fun hHeld => ?_)
        refine wpAnyH_take (i := 0) (oi := _) (v := ?vz6) rfl (by kernel_rfl) (by kernel_rfl) (by kernel_rfl) (fun _ _ _ h => h) (Or.inl ⟨by rfl, ?hyz6⟩) (by assumption) ?restz6
        case hyz6 => (intro wz hSw; (try dsimp only at hSw); go_simp; try with_reducible rfl)
        (try simp only [List.getElem_toArray, List.getElem_cons_zero, Act.put, List.setIfInBounds_toArray, List.set_cons_zero, List.set_cons_succ])
        refine wpAnyH_take (i := 2) (oi := _) (v := ?vz7) rfl (by kernel_rfl) (by kernel_rfl) (by kernel_rfl) (fun _ _ _ h => h) (Or.inl ⟨by rfl, ?hyz7⟩) (by assumption) ?restz7
        case hyz7 => (intro wz hSw; (try dsimp only at hSw); go_simp; try with_reducible rfl)
        (try simp only [List.getElem_toArray, List.getElem_cons_zero, List.getElem_cons_succ, Act.put, List.setIfInBounds_toArray, List.set_cons_zero, List.set_cons_succ])
        refine wpAnyH_take (i := 3) (oi := _) (v := ?vz8) rfl (by kernel_rfl) (by kernel_rfl) (by kernel_rfl) (fun _ _ _ h => h) (Or.inl ⟨by rfl, ?hyz8⟩) (by assumption) ?restz8
        case hyz8 => (intro wz hSw; (try dsimp only at hSw); go_simp; try with_reducible rfl)
        (try simp only [List.getElem_toArray, List.getElem_cons_zero, List.getElem_cons_succ, Act.put, List.setIfInBounds_toArray, List.set_cons_zero, List.set_cons_succ])
        refine wpAnyH_take (i := 4) (oi := _) (v := ?vz9) rfl (by kernel_rfl) (by kernel_rfl) (by kernel_rfl) (fun _ _ _ h => h) (Or.inl ⟨by rfl, ?hyz9⟩) (by assumption) ?restz9
        case hyz9 => (intro wz hSw; (try dsimp only at hSw); go_simp; try with_reducible rfl)
        (try simp only [List.getElem_toArray, List.getElem_cons_zero, List.getElem_cons_succ, Act.put, List.setIfInBounds_toArray, List.set_cons_zero, List.set_cons_succ])
        refine wpAnyH_take (i := 5) (oi := _) (v := ?vz10) rfl (by kernel_rfl) (by kernel_rfl) (by kernel_rfl) (fun _ _ _ h => h) (Or.inl ⟨by rfl, ?hyz10⟩) (by assumption) ?restz10
        case hyz10 => (intro wz hSw; (try dsimp only at hSw); go_simp; try with_reducible rfl)
        (try simp only [List.getElem_toArray, List.getElem_cons_zero, List.getElem_cons_succ, Act.put, List.setIfInBounds_toArray, List.set_cons_zero, List.set_cons_succ])
        refine wpAnyH_take (i := 6) (oi := _) (v := ?vz11) rfl (by kernel_rfl) (by kernel_rfl) (by kernel_rfl) (fun _ _ _ h => h) (Or.inl ⟨by rfl, ?hyz11⟩) (by assumption) ?restz11
        case hyz11 => (intro wz hSw; (try dsimp only at hSw); go_simp; try with_reducible rfl)
        (try simp only [List.getElem_toArray, List.getElem_cons_zero, List.getElem_cons_succ, Act.put, List.setIfInBounds_toArray, List.set_cons_zero, List.set_cons_succ])
        refine wpAnyH_ready (rs := [1, 7]) (by kernel_rfl) (by simp) ?_
        refine AllReadyH.cons (o := _) rfl (fun K hK => ?_) (AllReadyH.cons (o := _) rfl (fun K hK => ?_) AllReadyH.nil)
        · rw [if_pos (by rfl)]
          go_simp
          refine hK.out _ _ (by first | assumption | exact akeep HA12.out | exact akeep HA10.out | exact akeep HA9.out | exact akeep HA7.out | exact akeep HAd.out) (fun hHeld => ?_)
          clear hK K
          (try simp only [List.getElem_toArray, List.getElem_cons_zero, List.getElem_cons_succ, Act.put, List.setIfInBounds_toArray, List.set_cons_zero, List.set_cons_succ])
          refine wpAnyH_ready (rs := [7]) (by kernel_rfl) (by simp) ?_
          refine AllReadyH.cons (o := _) rfl (fun K hK => ?_) AllReadyH.nil
          rw [if_pos (by rfl)]
          go_simp
          (go_at_call 55; with_reducible refine (HTC.out _ HAd.out.cp.dat).mono ?_; rintro e w7 ⟨al, cl, rfl, ht, hb⟩; have HA7 := Lib.hid (HAd.out.later hb); have HT7 := Lib.hid ht; have HW7 := Lib.hid hb; obtain ⟨y0, y1, y2, y3, y4, y5, y6⟩ := cells7 HA7.out.ob; clear ht hb)
          (try dsimp only)
          refine hK.out _ _ (by first | assumption | exact akeep HA12.out | exact akeep HA10.out | exact akeep HA9.out | exact akeep HA7.out | exact akeep HAd.out) (fun hHeld => ?_)
          clear hK K
          (try simp only [List.getElem_toArray, List.getElem_cons_zero, List.getElem_cons_succ, Act.put, List.setIfInBounds_toArray, List.set_cons_zero, List.set_cons_succ])
          refine wpAnyH_take (i := 8) (oi := _) (v := ?vz1) rfl (by kernel_rfl) (by kernel_rfl) (by kernel_rfl) (fun _ _ _ h => h) (Or.inl ⟨by rfl, ?hyz1⟩) (by assumption) ?restz1
          case hyz1 => (intro wz hSw; (try dsimp only at hSw); go_simp; try with_reducible rfl)
          (try simp only [List.getElem_toArray, List.getElem_cons_zero, List.getElem_cons_succ, Act.put, List.setIfInBounds_toArray, List.set_cons_zero, List.set_cons_succ])
          refine wpAnyH_ready (rs := [9]) (by kernel_rfl) (by simp) ?_
          refine AllReadyH.cons (o := _) rfl (fun K hK => ?_) AllReadyH.nil
          rw [if_pos (by rfl)]
          go_simp
          have HA9 := Lib.hid (HA7.out.later ((Below.refl _ w7).alloc (Nat.le_refl _) (.cells #[.string nm, .int .i64 s, .slice al n0 cl] 39)))
          obtain ⟨y0, y1, y2, y3, y4, y5, y6⟩ := cells7 HA9.out.ob
          refine hK.out _ _ (by first | assumption | exact akeep HA12.out | exact akeep HA10.out | exact akeep HA9.out | exact akeep HA7.out | exact akeep HAd.out) (fun hHeld => ?_)
          clear hK K
          (try simp only [List.getElem_toArray, List.getElem_cons_zero, List.getElem_cons_succ, Act.put, List.setIfInBounds_toArray, List.set_cons_zero, List.set_cons_succ])
          refine wpAnyH_ready (rs := [10]) (by kernel_rfl) (by simp) ?_
          refine AllReadyH.cons (o := _) rfl (fun K hK => ?_) AllReadyH.nil
          rw [if_pos (by rfl)]
          refine wp_append_lg sh_rowed (.tmp 24) (.tmp 32) rfl w.heap.size _ snx ds rfl HA9.out.row (some ⟨w7.heap.size, 0, none⟩) 1 1 [(nm, s, al, n0, cl, T)] rfl (fun e => by cases e) (one_reads w7 (nm, s, al, n0, cl, T) #[.string nm, .int .i64 s, .slice al n0 cl] 39 rfl) (by omega) HA9.out.cp.dat.size ?_
          intro pa8 pc8 w10 g1 g2 g3
          have HA10 := Lib.hid (HA9.out.push (d := (nm, s, al, n0, cl, T)) (((HT7.out.f.mono (base' := w.heap.size) (G := Out w2.heap.size H) HAd.out.cp.dat.size (fun k hk _ => Or.inr (Nat.le_trans HHd.out hk))).later ((Below.refl _ w7).alloc (Nat.le_refl _) (.cells #[.string nm, .int .i64 s, .slice al n0 cl] 39)))) g1 g2)
          clear g1 g2 g3
          obtain ⟨y0, y1, y2, y3, y4, y5, y6⟩ := cells7 HA10.out.ob
          have y4f := HA10.out.ob.free 4
          refine hK.out _ _ (by first | assumption | exact akeep HA12.out | exact akeep HA10.out | exact akeep HA9.out | exact akeep HA7.out | exact akeep HAd.out) (fun hHeld => ?_)
          clear hK K
          (try simp only [List.getElem_toArray, List.getElem_cons_zero, List.getElem_cons_succ, Act.put, List.setIfInBounds_toArray, List.set_cons_zero, List.set_cons_succ])
          refine wpAnyH_take (i := 11) (oi := _) (v := ?vz2) rfl (by kernel_rfl) (by kernel_rfl) (by kernel_rfl) (fun _ _ _ h => h) (Or.inl ⟨by rfl, ?hyz2⟩) (by assumption) ?restz2
          case hyz2 => (intro wz hSw; (try dsimp only at hSw); go_simp; try with_reducible rfl)
          (try simp only [List.getElem_toArray, List.getElem_cons_zero, List.getElem_cons_succ, Act.put, List.setIfInBounds_toArray, List.set_cons_zero, List.set_cons_succ])
          refine wpAnyH_ready (rs := [12]) (by kernel_rfl) (by simp) ?_
          refine AllReadyH.cons (o := _) rfl (fun K hK => ?_) AllReadyH.nil
          rw [if_pos (by rfl)]
          go_simp
          have HA12 := Lib.hid (HA10.out.store 4 (.slice pa8 (snx + 1) pc8))
          refine hK.out _ _ (by first | assumption | exact akeep HA12.out | exact akeep HA10.out | exact akeep HA9.out | exact akeep HA7.out | exact akeep HAd.out) (fun hHeld => ?_)
          clear hK K
          (try simp only [List.getElem_toArray, List.getElem_cons_zero, List.getElem_cons_succ, Act.put, List.setIfInBounds_toArray, List.set_cons_zero, List.set_cons_succ])
          refine wpAnyH_done (by kernel_rfl) ?_ _
          clear y0 y1 y2 y3 y4 y5 y6
          obtain ⟨u0, u1, u2, u3, u4, u5, u6⟩ := cells7 HA12.out.ob
          obtain ⟨r0, r1, r2, r3, r4, r5, r6⟩ := cells7 HA12.out.cp.r
          obtain ⟨f0, f1, f2, f3, f4, f5, f6⟩ := free7 HA12.out.cp.r
          have hne1 : w.heap.size + 1 ≠ w4.heap.size := (by have := HAd.out.far; omega)
          have hne2 : w4.heap.size ≠ w.heap.size + 1 := (by have := HAd.out.far; omega)
          go_wp2
          have g7 := grown7 (w10.setCell ⟨w4.heap.size, 4, none⟩ (.slice pa8 (snx + 1) pc8)) (w.heap.size + 1) (.int .i64 c) (.int .i64 s) (.string bk) (.slice ax nx cx) (.slice pa8 (snx + 1) pc8) (.slice max mnx mcx) (.slice cax cnx ccx)
          have r9 := HA12.out.cp.r.set7 (.int .i64 c) (.int .i64 s) (.string bk) (.slice ax nx cx) (.slice pa8 (snx + 1) pc8) (.slice max mnx mcx) (.slice cax cnx ccx)
          exact bodyPost_ret (results_cell_tmp rfl _ _ (w.heap.size + 1) 29 #[.int .i64 c, .int .i64 s, .string bk, .slice ax nx cx, .slice pa8 (snx + 1) pc8, .slice max mnx mcx, .slice cax cnx ccx] (0, 0) _ rfl (.int .i64 0) rfl r9 Try.underlying29 rfl meta_size) rfl (HA12.out.give c s bk (S ++ [(nm, s, T)]) HD.out.hc HD.out.hs HD.out.hbk (HSS.out _ _ _) HLN.out HSK.out g7)
        · rw [if_pos (by rfl)]
          go_simp
          (go_at_call 55; with_reducible refine (HTC.out _ HAd.out.cp.dat).mono ?_; rintro e w7 ⟨al, cl, rfl, ht, hb⟩; have HA7 := Lib.hid (HAd.out.later hb); have HT7 := Lib.hid ht; have HW7 := Lib.hid hb; obtain ⟨y0, y1, y2, y3, y4, y5, y6⟩ := cells7 HA7.out.ob; clear ht hb)
          (try dsimp only)
          refine hK.out _ _ (by first | assumption | exact akeep HA12.out | exact akeep HA10.out | exact akeep HA9.out | exact akeep HA7.out | exact akeep HAd.out) (fun hHeld => ?_)
          clear hK K
          (try simp only [List.getElem_toArray, List.getElem_cons_zero, List.getElem_cons_succ, Act.put, List.setIfInBounds_toArray, List.set_cons_zero, List.set_cons_succ])
          refine wpAnyH_take (i := 8) (oi := _) (v := ?vz3) rfl (by kernel_rfl) (by kernel_rfl) (by kernel_rfl) (fun _ _ _ h => h) (Or.inl ⟨by rfl, ?hyz3⟩) (by assumption) ?restz3
          case hyz3 => (intro wz hSw; (try dsimp only at hSw); go_simp; try with_reducible rfl)
          (try simp only [List.getElem_toArray, List.getElem_cons_zero, List.getElem_cons_succ, Act.put, List.setIfInBounds_toArray, List.set_cons_zero, List.set_cons_succ])
          refine wpAnyH_ready (rs := [1, 9]) (by kernel_rfl) (by simp) ?_
          refine AllReadyH.cons (o := _) rfl (fun K hK => ?_) (AllReadyH.cons (o := _) rfl (fun K hK => ?_) AllReadyH.nil)
          · rw [if_pos (by rfl)]
            go_simp
            refine hK.out _ _ (by first | assumption | exact akeep HA12.out | exact akeep HA10.out | exact akeep HA9.out | exact akeep HA7.out | exact akeep HAd.out) (fun hHeld => ?_)
            clear hK K
            (try simp only [List.getElem_toArray, List.getElem_cons_zero, List.getElem_cons_succ, Act.put, List.setIfInBounds_toArray, List.set_cons_zero, List.set_cons_succ])
            refine wpAnyH_ready (rs := [9]) (by kernel_rfl) (by simp) ?_
            refine AllReadyH.cons (o := _) rfl (fun K hK => ?_) AllReadyH.nil
            rw [if_pos (by rfl)]
            go_simp
            have HA9 := Lib.hid (HA7.out.later ((Below.refl _ w7).alloc (Nat.le_refl _) (.cells #[.string nm, .int .i64 s, .slice al n0 cl] 39)))
            obtain ⟨y0, y1, y2, y3, y4, y5, y6⟩ := cells7 HA9.out.ob
            refine hK.out _ _ (by first | assumption | exact akeep HA12.out | exact akeep HA10.out | exact akeep HA9.out | exact akeep HA7.out | exact akeep HAd.out) (fun hHeld => ?_)
            clear hK K
            (try simp only [List.getElem_toArray, List.getElem_cons_zero, List.getElem_cons_succ, Act.put, List.setIfInBounds_toArray, List.set_cons_zero, List.set_cons_succ])
            refine wpAnyH_ready (rs := [10]) (by kernel_rfl) (by simp) ?_
            refine AllReadyH.cons (o := _) rfl (fun K hK => ?_) AllReadyH.nil
            rw [if_pos (by rfl)]
            refine wp_append_lg sh_rowed (.tmp 24) (.tmp 32) rfl w.heap.size _ snx ds rfl HA9.out.row (some ⟨w7.heap.size, 0, none⟩) 1 1 [(nm, s, al, n0, cl, T)] rfl (fun e => by cases e) (one_reads w7 (nm, s, al, n0, cl, T) #[.string nm, .int .i64 s, .slice al n0 cl] 39 rfl) (by omega) HA9.out.cp.dat.size ?_
            intro pa8 pc8 w10 g1 g2 g3
            have HA10 := Lib.hid (HA9.out.push (d := (nm, s, al, n0, cl, T)) (((HT7.out.f.mono (base' := w.heap.size) (G := Out w2.heap.size H) HAd.out.cp.dat.size (fun k hk _ => Or.inr (Nat.le_trans HHd.out hk))).later ((Below.refl _ w7).alloc (Nat.le_refl _) (.cells #[.string nm, .int .i64 s, .slice al n0 cl] 39)))) g1 g2)
            clear g1 g2 g3
            obtain ⟨y0, y1, y2, y3, y4, y5, y6⟩ := cells7 HA10.out.ob
            have y4f := HA10.out.ob.free 4
            refine hK.out _ _ (by first | assumption | exact akeep HA12.out | exact akeep HA10.out | exact akeep HA9.out | exact akeep HA7.out | exact akeep HAd.out) (fun hHeld => ?_)
            clear hK K
            (try simp only [List.getElem_toArray, List.getElem_cons_zero, List.getElem_cons_succ, Act.put, List.setIfInBounds_toArray, List.set_cons_zero, List.set_cons_succ])
            refine wpAnyH_take (i := 11) (oi := _) (v := ?vz4) rfl (by kernel_rfl) (by kernel_rfl) (by kernel_rfl) (fun _ _ _ h => h) (Or.inl ⟨by rfl, ?hyz4⟩) (by assumption) ?restz4
            case hyz4 => (intro wz hSw; (try dsimp only at hSw); go_simp; try with_reducible rfl)
            (try simp only [List.getElem_toArray, List.getElem_cons_zero, List.getElem_cons_succ, Act.put, List.setIfInBounds_toArray, List.set_cons_zero, List.set_cons_succ])
            refine wpAnyH_ready (rs := [12]) (by kernel_rfl) (by simp) ?_
            refine AllReadyH.cons (o := _) rfl (fun K hK => ?_) AllReadyH.nil
            rw [if_pos (by rfl)]
            go_simp
            have HA12 := Lib.hid (HA10.out.store 4 (.slice pa8 (snx + 1) pc8))
            refine hK.out _ _ (by first | assumption | exact akeep HA12.out | exact akeep HA10.out | exact akeep HA9.out | exact akeep HA7.out | exact akeep HAd.out) (fun hHeld => ?_)
            clear hK K
            (try simp only [List.getElem_toArray, List.getElem_cons_zero, List.getElem_cons_succ, Act.put, List.setIfInBounds_toArray, List.set_cons_zero, List.set_cons_succ])
            refine wpAnyH_done (by kernel_rfl) ?_ _
            clear y0 y1 y2 y3 y4 y5 y6
            obtain ⟨u0, u1, u2, u3, u4, u5, u6⟩ := cells7 HA12.out.ob
            obtain ⟨r0, r1, r2, r3, r4, r5, r6⟩ := cells7 HA12.out.cp.r
            obtain ⟨f0, f1, f2, f3, f4, f5, f6⟩ := free7 HA12.out.cp.r
            have hne1 : w.heap.size + 1 ≠ w4.heap.size := (by have := HAd.out.far; omega)
            have hne2 : w4.heap.size ≠ w.heap.size + 1 := (by have := HAd.out.far; omega)
            go_wp2
            have g7 := grown7 (w10.setCell ⟨w4.heap.size, 4, none⟩ (.slice pa8 (snx + 1) pc8)) (w.heap.size + 1) (.int .i64 c) (.int .i64 s) (.string bk) (.slice ax nx cx) (.slice pa8 (snx + 1) pc8) (.slice max mnx mcx) (.slice cax cnx ccx)
            have r9 := HA12.out.cp.r.set7 (.int .i64 c) (.int .i64 s) (.string bk) (.slice ax nx cx) (.slice pa8 (snx + 1) pc8) (.slice max mnx mcx) (.slice cax cnx ccx)
            exact bodyPost_ret (results_cell_tmp rfl _ _ (w.heap.size + 1) 29 #[.int .i64 c, .int .i64 s, .string bk, .slice ax nx cx, .slice pa8 (snx + 1) pc8, .slice max mnx mcx, .slice cax cnx ccx] (0, 0) _ rfl (.int .i64 0) rfl r9 Try.underlying29 rfl meta_size) rfl (HA12.out.give c s bk (S ++ [(nm, s, T)]) HD.out.hc HD.out.hs HD.out.hbk (HSS.out _ _ _) HLN.out HSK.out g7)
          · rw [if_pos (by rfl)]
            go_simp
            have HA9 := Lib.hid (HA7.out.later ((Below.refl _ w7).alloc (Nat.le_refl _) (.cells #[.string nm, .int .i64 s, .slice al n0 cl] 39)))
            obtain ⟨y0, y1, y2, y3, y4, y5, y6⟩ := cells7 HA9.out.ob
            refine hK.out _ _ (by first | assumption | exact akeep HA12.out | exact akeep HA10.out | exact akeep HA9.out | exact akeep HA7.out | exact akeep HAd.out) (fun hHeld => ?_)
            clear hK K
            (try simp only [List.getElem_toArray, List.getElem_cons_zero, List.getElem_cons_succ, Act.put, List.setIfInBounds_toArray, List.set_cons_zero, List.set_cons_succ])
            refine wpAnyH_ready (rs := [1]) (by kernel_rfl) (by simp) ?_
            refine AllReadyH.cons (o := _) rfl (fun K hK => ?_) AllReadyH.nil
            rw [if_pos (by rfl)]
            go_simp
            refine hK.out _ _ (by first | assumption | exact akeep HA12.out | exact akeep HA10.out | exact akeep HA9.out | exact akeep HA7.out | exact akeep HAd.out) (fun hHeld => ?_)
            clear hK K
            (try simp only [List.getElem_toArray, List.getElem_cons_zero, List.getElem_cons_succ, Act.put, List.setIfInBounds_toArray, List.set_cons_zero, List.set_cons_succ])
            refine wpAnyH_ready (rs := [10]) (by kernel_rfl) (by simp) ?_
            refine AllReadyH.cons (o := _) rfl (fun K hK => ?_) AllReadyH.nil
            rw [if_pos (by rfl)]
            refine wp_append_lg sh_rowed (.tmp 24) (.tmp 32) rfl w.heap.size _ snx ds rfl HA9.out.row (some ⟨w7.heap.size, 0, none⟩) 1 1 [(nm, s, al, n0, cl, T)] rfl (fun e => by cases e) (one_reads w7 (nm, s, al, n0, cl, T) #[.string nm, .int .i64 s, .slice al n0 cl] 39 rfl) (by omega) HA9.out.cp.dat.size ?_
            intro pa8 pc8 w10 g1 g2 g3
            have HA10 := Lib.hid (HA9.out.push (d := (nm, s, al, n0, cl, T)) (((HT7.out.f.mono (base' := w.heap.size) (G := Out w2.heap.size H) HAd.out.cp.dat.size (fun k hk _ => Or.inr (Nat.le_trans HHd.out hk))).later ((Below.refl _ w7).alloc (Nat.le_refl _) (.cells #[.string nm, .int .i64 s, .slice al n0 cl] 39)))) g1 g2)
            clear g1 g2 g3
            obtain ⟨y0, y1, y2, y3, y4, y5, y6⟩ := cells7 HA10.out.ob
            have y4f := HA10.out.ob.free 4
            refine hK.out _ _ (by first | assumption | exact akeep HA12.out | exact akeep HA10.out | exact akeep HA9.out | exact akeep HA7.out | exact akeep HAd.out) (fun hHeld => ?_)
            clear hK K
            (try simp only [List.getElem_toArray, List.getElem_cons_zero, List.getElem_cons_succ, Act.put, List.setIfInBounds_toArray, List.set_cons_zero, List.set_cons_succ])
            refine wpAnyH_take (i := 11) (oi := _) (v := ?vz5) rfl (by kernel_rfl) (by kernel_rfl) (by kernel_rfl) (fun _ _ _ h => h) (Or.inl ⟨by rfl, ?hyz5⟩) (by assumption) ?restz5
            case hyz5 => (intro wz hSw; (try dsimp only at hSw); go_simp; try with_reducible rfl)
            (try simp only [List.getElem_toArray, List.getElem_cons_zero, List.getElem_cons_succ, Act.put, List.setIfInBounds_toArray, List.set_cons_zero, List.set_cons_succ])
            refine wpAnyH_ready (rs := [12]) (by kernel_rfl) (by simp) ?_
            refine AllReadyH.cons (o := _) rfl (fun K hK => ?_) AllReadyH.nil
            rw [if_pos (by rfl)]
            go_simp
            have HA12 := Lib.hid (HA10.out.store 4 (.slice pa8 (snx + 1) pc8))
            refine hK.out _ _ (by first | assumption | exact akeep HA12.out | exact akeep HA10.out | exact akeep HA9.out | exact akeep HA7.out | exact akeep HAd.out) (fun hHeld => ?_)
            clear hK K
            (try simp only [List.getElem_toArray, List.getElem_cons_zero, List.getElem_cons_succ, Act.put, List.setIfInBounds_toArray, List.set_cons_zero, List.set_cons_succ])
            refine wpAnyH_done (by kernel_rfl) ?_ _
            clear y0 y1 y2 y3 y4 y5 y6
            obtain ⟨u0, u1, u2, u3, u4, u5, u6⟩ := cells7 HA12.out.ob
            obtain ⟨r0, r1, r2, r3, r4, r5, r6⟩ := cells7 HA12.out.cp.r
            obtain ⟨f0, f1, f2, f3, f4, f5, f6⟩ := free7 HA12.out.cp.r
            have hne1 : w.heap.size + 1 ≠ w4.heap.size := (by have := HAd.out.far; omega)
            have hne2 : w4.heap.size ≠ w.heap.size + 1 := (by have := HAd.out.far; omega)
            go_wp2
            have g7 := grown7 (w10.setCell ⟨w4.heap.size, 4, none⟩ (.slice pa8 (snx + 1) pc8)) (w.heap.size + 1) (.int .i64 c) (.int .i64 s) (.string bk) (.slice ax nx cx) (.slice pa8 (snx + 1) pc8) (.slice max mnx mcx) (.slice cax cnx ccx)
            have r9 := HA12.out.cp.r.set7 (.int .i64 c) (.int .i64 s) (.string bk) (.slice ax nx cx) (.slice pa8 (snx + 1) pc8) (.slice max mnx mcx) (.slice cax cnx ccx)
            exact bodyPost_ret (results_cell_tmp rfl _ _ (w.heap.size + 1) 29 #[.int .i64 c, .int .i64 s, .string bk, .slice ax nx cx, .slice pa8 (snx + 1) pc8, .slice max mnx mcx, .slice cax cnx ccx] (0, 0) _ rfl (.int .i64 0) rfl r9 Try.underlying29 rfl meta_size) rfl (HA12.out.give c s bk (S ++ [(nm, s, T)]) HD.out.hc HD.out.hs HD.out.hbk (HSS.out _ _ _) HLN.out HSK.out g7)
  · have HN := Lib.hid (fun W => refName nm HNM.out (decide_eq_false hok) W)
    rw [if_pos hok] at hRR
    subst hRR
    obtain ⟨p0, p1, p2, p3, p4, p5, p6⟩ := cells7 HC0.out.r
    obtain ⟨q0, q1, q2, q3, q4, q5, q6⟩ := free7 HC0.out.r
    clear hl HP HCM HTC hok hRM
    go_enter Try.func18, Try.ntmps18
    go_wp2_with (first
      | (go_at_call 51; refine (HN.out _).mono ?_; rintro e w1 ⟨rfl, rfl⟩))
    exact bodyPost_ret (results_cell_tmp rfl _ _ (w.heap.size + 1) 29 #[.int .i64 0, .int .i64 0, .string ByteArray.empty, .slice none 0 0, .slice none 0 0, .slice none 0 0, .slice none 0 0] (0, 0) _ rfl (.int .i64 1) rfl HC0.out.r Try.underlying29 rfl meta_size) rfl (GiveM.zero 1 HC0.out)
theorem reads_take {α : Type} {P : Program} {t e : TypeId} {sz bytes : Nat} {cv : α → List Value} (R : Rowed P t e sz bytes cv) {w : World} {a : Option Addr} {len : Nat} {l : List α} (h : Reads cv w a len l) (k : Nat) (hk : k ≤ len) : Reads cv w a k (l.take k) := by
  obtain ⟨h1, h2, h3⟩ := h
  refine ⟨by rw [List.length_take]; omega, by omega, ?_⟩
  by_cases h0 : k = 0
  · exact Or.inl h0
  · obtain ⟨b, off, e1, hb, hc⟩ := h3.resolve_left (by omega)
    refine Or.inr ⟨b, off, e1, hb, fun j u hu => ?_⟩
    rw [flat_takeK R.len] at hu
    refine hc j u ?_
    rw [List.getElem?_take] at hu
    split at hu
    · exact hu
    · cases hu
theorem shot_tail {w : World} {base n c g : Nat} {ds : List Sh} (h : OwnG shV 39 3 w base (.slice (some ⟨g, 0, none⟩) n c) n ds) (i : Nat) (hi : i < n) : ∃ A, (∀ W, (Instr.slice 25 (.slice (some ⟨g, 0, none⟩) n c) (some (.int .i64 ((i : Int) + 1))) none none).run Try.prog W = .ok (.slice (some A) (n - (i + 1)) (c - (i + 1))) W) ∧ Reads shV w (some A) (n - (i + 1)) (ds.drop (i + 1)) := by
  obtain ⟨hR, hcap, hnc⟩ := h.reads sh_rowed
  have ei : ((i : Int) + 1) = ((i + 1 : Nat) : Int) := by omega
  by_cases hc : c = i + 1
  · have hn : n = i + 1 := by omega
    refine ⟨⟨g, 0, none⟩, fun W => ?_, ?_⟩
    · obtain ⟨i0, hi0, hi1⟩ := Option.map_eq_some_iff.1 shot_size
      rw [ei, hc, hn]
      simp [Instr.slice, Instr.sliceBounds, Instr.sliceBound, asIntOf, run_underlying Try.underlying25, sizeOf, typeInfo, hi0, hi1, Addr.add, go_sem]
      exact fun h => by omega
    · rw [show n - (i + 1) = 0 by omega, List.drop_eq_nil_of_le (by have := hR.1; omega)]
      exact Reads.nil _ _ _
  · refine ⟨⟨g, (i + 1) * 3, none⟩, fun W => ?_, ?_⟩
    · rw [ei]
      exact slice_back3 (by omega) hnc (by omega) W
    · obtain ⟨h1, h2, h3⟩ := hR
      obtain ⟨b, off, e1, hb, hcell⟩ := h3.resolve_left (by omega)
      cases e1
      refine ⟨by rw [List.length_drop]; omega, by omega, ?_⟩
      by_cases h0 : n - (i + 1) = 0
      · exact Or.inl h0
      · refine Or.inr ⟨g, (i + 1) * 3, rfl, hb, fun j u hu => ?_⟩
        rw [flat_dropK sh_rowed.len, List.getElem?_drop] at hu
        have := hcell ((i + 1) * 3 + j) u hu
        rwa [Nat.zero_add] at this
/-- 'append(nil, x...)'. -/
theorem append_nil {α : Type} {P : Program} {t e : TypeId} {sz bytes : Nat} {cv : α → List Value} (R : Rowed P t e sz bytes cv) {ops : Array Oper} {rest : List Oper} {o : Oper} {a : Act} {w : World} {Q : Exit → Act → World → Prop} (hgd : o.guard = Option.none) (s x : Operand)
    (ho : o.op = .call { callee := .builtin .append, args := #[s, x], argTypes := #[t, t] }) (base : Nat) (hs : a.eval s = .slice none 0 0)
    (ao : Option Addr) (m c : Nat) (l : List α) (hx : a.eval x = .slice ao m c) (hnil : ao = Option.none → c = 0) (hB : Reads cv w ao m l) (hn : m ≤ 10000000) (hbase : base ≤ w.heap.size)
    (h : ∀ a' c' w', OwnG cv e sz w' base (.slice a' m c') m l → Below w.heap.size w w' → wpList P ops Q rest (a.put o.dst (.slice a' m c')) w') : wpList P ops Q (o :: rest) a w := by
  refine append_lg R hgd s x ho base _ 0 [] hs (OwnG.none _ _ _ _ _) ao m c l hx hnil hB (by omega) hbase ?_
  intro a' c' w' h1 h2 h3
  rw [Nat.zero_add, List.nil_append] at h1
  rw [Nat.zero_add]
  exact h a' c' w' h1 (below_of_grown h2)
theorem Ad.swap {w0 W : World} {L4 lo H : Nat} {cs os : Array Value} {ax : Option Addr} {nx cx : Nat} {T : Tb} {sax : Option Addr} {snx scx : Nat} {ds : List Sh} {max : Option Addr} {mnx mcx : Nat} {B : List BmM} {cax : Option Addr} {cnx ccx : Nat} {K : List Int} (h : Ad w0 L4 lo H cs os ax nx cx T sax snx scx ds max mnx mcx B cax cnx ccx K W) {pa : Option Addr} {n' pc : Nat} {ds' : List Sh} (hO : OwnG shV 39 3 W w0.heap.size (.slice pa n' pc) n' ds') (hsub : ∀ d ∈ ds', d ∈ ds) : Ad w0 L4 lo H cs os ax nx cx T pa n' pc ds' max mnx mcx B cax cnx ccx K W :=
  ⟨h.cp, h.ob, h.far, h.T, hO, fun d hd => h.tabs d (hsub d hd), h.B, h.K⟩
set_option maxRecDepth 100000 in
set_option maxHeartbeats 3200000 in
theorem refDrop (w : World) (x : Mt) (M : MM) (h : MetaD w x M) (nm : ByteArray) : Calls Try.prog 22 #[.agg (mtA M x), .string nm] w (GiveM w (dropM M nm)) := by
  obtain ⟨RM, hRM⟩ := named (dropM M nm)
  rw [hRM.out]
  have HP := Lib.hid (fun W (hb : Below w.heap.size w W) (r : Int) hr => refShot W x M (h.later hb) nm (r := r) hr)
  have HCM := Lib.hid (fun W (hb : Below w.heap.size w W) => refCopy W x M (h.later hb))
  have HD := Lib.hid h
  clear h
  obtain ⟨a0, n0, c0, sa, sn, sc, ma, mn, mc, ca, cn, cc⟩ := x
  obtain ⟨c, s, bk, T, S, B, K⟩ := M
  dsimp only [mtA] at *
  have HC0 := Lib.hid (Cp.first w #[.int .i64 c, .int .i64 s, .string bk, .slice a0 n0 c0, .slice sa sn sc, .slice ma mn mc, .slice ca cn cc] #[.int .i64 0, .int .i64 0, .string ByteArray.empty, .slice none 0 0, .slice none 0 0, .slice none 0 0, .slice none 0 0])
  have hl := HD.out.S.lens
  dsimp only at hl
  have hRR := hRM.out
  unfold dropM at hRR
  dsimp only at hRR
  rcases fndS_cases nm S with ⟨hr, _⟩ | ⟨i, d, hr, hi, _, hil, _⟩
  · rw [if_pos (by rw [hr]; omega)] at hRR
    subst hRR
    have HP1 := Lib.hid (fun W hb => HP.out W hb (-1) hr)
    clear hl hr HP HCM hRM
    go_enter Try.func22, Try.ntmps22
    go_wp2_with (first
      | (go_at_call 52; refine (HP1.out _ HC0.out.dat).mono ?_; rintro e w2 ⟨rfl, hb⟩; have HC2 := Lib.hid (HC0.out.later hb); obtain ⟨p0, p1, p2, p3, p4, p5, p6⟩ := cells7 HC2.out.r; obtain ⟨q0, q1, q2, q3, q4, q5, q6⟩ := free7 HC2.out.r; clear hb))
    have HF := HC2.out.zero
    exact bodyPost_ret (results_cell_tmp rfl _ _ (w.heap.size + 1) 29 #[.int .i64 0, .int .i64 0, .string ByteArray.empty, .slice none 0 0, .slice none 0 0, .slice none 0 0, .slice none 0 0] (0, 0) _ rfl (.int .i64 4) rfl HF.r Try.underlying29 rfl meta_size) rfl (GiveM.zero 4 HF)
  · rw [if_neg (by rw [hr]; omega), hr, Int.toNat_natCast] at hRR
    subst hRR
    have HP1 := Lib.hid (fun W hb => HP.out W hb i hr)
    have di : decide ((i : Int) < 0) = false := decide_eq_false (by omega)
    have hi1000 : i < 1000 := by omega
    have HIL := Lib.hid hil
    clear hl hr HP hRM hi hil
    go_enter Try.func22, Try.ntmps22
    go_wp2_with (first
      | (go_at_call 52; refine (HP1.out _ HC0.out.dat).mono ?_; rintro e w2 ⟨rfl, hb⟩; have HC2 := Lib.hid (HC0.out.later hb); obtain ⟨x0, x1, x2, x3, x4, x5, x6⟩ := cells7 HC2.out.m; clear hb)
      | (go_at_call 16; refine (HCM.out _ HC2.out.dat).mono ?_; rintro e w4 ⟨⟨ax, nx, cx, sax, snx, scx, max, mnx, mcx, cax, cnx, ccx⟩, H0, rfl, hm, hb⟩; obtain ⟨ds, H, hE, h1k, hSo, hdl, hH4, hA⟩ := Ad.first (HC2.out.later hb) hm HC2.out.dat.size; dsimp only [mtA] at hE h1k hSo hdl hA ⊢; have HE4 := Lib.hid hE; have HSO := Lib.hid hSo; have HDL := Lib.hid hdl; have HA := Lib.hid hA; have hsn : i < snx := (by have e1 := congrArg List.length hE; rw [List.length_map, hdl] at e1; have := HIL.out; omega); obtain ⟨g, dd, rfl, _, _, _, _, _, _⟩ := own3_at sh_rowed hA.row i hsn; obtain ⟨AA, hsl, hrd⟩ := shot_tail hA.row i hsn; have HRD := Lib.hid hrd; have HRT := Lib.hid (reads_take sh_rowed (hA.row.reads sh_rowed).1 i (Nat.le_of_lt hsn)); have hcap := (hA.row.reads sh_rowed).2.2; have hic : i ≤ scx := (by omega); obtain ⟨y0, y1, y2, y3, y4, y5, y6⟩ := cells7 hA.ob; clear hrd hb hm hE hSo hdl hA hH4 x0 x1 x2 x3 x4 x5 x6)
      | (at_builtin; (first
        | (have hh := HO5; clear hh; refine append_lg sh_rowed rfl (.tmp 23) (.tmp 28) rfl w.heap.size _ i _ rfl HO5.out (some AA) (snx - (i + 1)) (scx - (i + 1)) _ rfl (fun e => by cases e) (HRD.out.later HB5.out) (by omega) HA5.out.cp.dat.size ?_; intro a6 c6 w6 g1 g2 g3; have HA6 := Lib.hid ((HA5.out.swap HO5.out (fun d hd => List.mem_of_mem_take hd)).grow (ds' := ds.take i ++ ds.drop (i + 1)) (fun d hd => HA5.out.tabs d (by rcases List.mem_append.1 hd with hd | hd; exact List.mem_of_mem_take hd; exact List.mem_of_mem_drop hd)) g1 g2); have hne1 : w.heap.size + 1 ≠ w4.heap.size := (by have := HA.out.far; omega); have hne2 : w4.heap.size ≠ w.heap.size + 1 := (by have := HA.out.far; omega); have HA7 := Lib.hid (HA6.out.store 4 (.slice a6 (i + (snx - (i + 1))) c6)); clear y0 y1 y2 y3 y4 y5 y6; obtain ⟨y0, y1, y2, y3, y4, y5, y6⟩ := cells7 HA6.out.ob; have y4f := HA6.out.ob.free 4; obtain ⟨p0, p1, p2, p3, p4, p5, p6⟩ := cells7 HA6.out.cp.r; obtain ⟨q0, q1, q2, q3, q4, q5, q6⟩ := free7 HA6.out.cp.r; clear g1 g2 g3)
        | (refine append_nil sh_rowed rfl (.tmp 17) (.tmp 21) rfl w.heap.size rfl _ i scx _ rfl (fun e => by cases e) HRT.out (by omega) HA.out.cp.dat.size ?_; intro a5 c5 w5 g1 g2; have HO5 := Lib.hid g1; have HB5 := Lib.hid g2; have HA5 := Lib.hid (HA.out.later g2); clear y0 y1 y2 y3 y4 y5 y6; obtain ⟨y0, y1, y2, y3, y4, y5, y6⟩ := cells7 HA5.out.ob; clear g1 g2))))
    have g7 := grown7 (w6.setCell ⟨w4.heap.size, 4, none⟩ (.slice a6 (i + (snx - (i + 1))) c6)) (w.heap.size + 1) (.int .i64 c) (.int .i64 s) (.string bk) (.slice ax nx cx) (.slice a6 (i + (snx - (i + 1))) c6) (.slice max mnx mcx) (.slice cax cnx ccx)
    have r9 := HA7.out.cp.r.set7 (.int .i64 c) (.int .i64 s) (.string bk) (.slice ax nx cx) (.slice a6 (i + (snx - (i + 1))) c6) (.slice max mnx mcx) (.slice cax cnx ccx)
    exact bodyPost_ret (results_cell_tmp rfl _ _ (w.heap.size + 1) 29 #[.int .i64 c, .int .i64 s, .string bk, .slice ax nx cx, .slice a6 (i + (snx - (i + 1))) c6, .slice max mnx mcx, .slice cax cnx ccx] (0, 0) _ rfl (.int .i64 0) rfl r9 Try.underlying29 rfl meta_size) rfl (HA7.out.give c s bk (S.take i ++ S.drop (i + 1)) HD.out.hc HD.out.hs HD.out.hbk (by rw [List.map_append, List.map_take, List.map_drop, HE4.out]) (by omega) (fun d hd => HSO.out d (by rcases List.mem_append.1 hd with hd | hd; exact List.mem_of_mem_take hd; exact List.mem_of_mem_drop hd)) g7)
end Go.Proofs.Ytjaaieamlgghhaa
