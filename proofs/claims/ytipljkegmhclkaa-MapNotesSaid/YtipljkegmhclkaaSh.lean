/-
  What the project's shots.Add answers (12.2). Conditions: the meta reads.
-/
import Derived.Test.YtipljkegmhclkaaSi
namespace Go.Proofs.Ytipljkegmhclkaa
open Go.RowKit
set_option linter.unusedVariables false

/-- A meta with one shot more. -/
noncomputable def addM (M : MM) (nm : ByteArray) : MM × Int := if ¬ nameOk nm then (MM0, 1) else if 0 ≤ fndS nm M.S then (MM0, 5) else if 8 ≤ M.S.length then (MM0, 9) else ({ M with S := M.S ++ [(nm, M.s, M.T)] }, 0)
/-- A meta and an error's number that are handed back. -/
def GiveM (w : World) (R : MM × Int) (e : Ending) (w' : World) : Prop := ∃ (x : Mt) (lo hi : Nat), e = .returned (.tuple #[.agg (mtA R.1 x), .int .i64 R.2]) ∧ MetaN w' w.heap.size (Iv lo hi) (Out lo hi) x R.1 ∧ Below w.heap.size w w'
theorem GiveM.zero {w w' : World} (n : Int) {cs rs : Array Value} (h : Cp w w.heap.size cs rs w') : GiveM w (MM0, n) (.returned (.tuple #[.agg #[.int .i64 0, .int .i64 0, .string ByteArray.empty, .slice none 0 0, .slice none 0 0, .slice none 0 0, .slice none 0 0], .int .i64 n])) w' := ⟨Mt0, 0, 0, rfl, MetaN.zero _ _ _ _, h.dat⟩
theorem Cp.zero {w w' : World} {cs : Array Value} (h : Cp w w.heap.size cs #[.int .i64 0, .int .i64 0, .string ByteArray.empty, .slice none 0 0, .slice none 0 0, .slice none 0 0, .slice none 0 0] w') : Cp w w.heap.size cs #[.int .i64 0, .int .i64 0, .string ByteArray.empty, .slice none 0 0, .slice none 0 0, .slice none 0 0, .slice none 0 0] ((((((((w'.setCell ⟨w.heap.size + 1, 0, none⟩ (.int .i64 0)).setCell ⟨w.heap.size + 1, 1, none⟩ (.int .i64 0)).setCell ⟨w.heap.size + 1, 2, none⟩ (.string ⟨#[]⟩)).setCell ⟨w.heap.size + 1, 3, none⟩ (.slice none 0 0)).setCell ⟨w.heap.size + 1, 4, none⟩ (.slice none 0 0)).setCell ⟨w.heap.size + 1, 5, none⟩ (.slice none 0 0)).setCell ⟨w.heap.size + 1, 6, none⟩ (.slice none 0 0))) := h.res (grown7 ..) (h.r.set7 (.int .i64 0) (.int .i64 0) (.string ⟨#[]⟩) (.slice none 0 0) (.slice none 0 0) (.slice none 0 0) (.slice none 0 0))
theorem Cp.end7 {w w' : World} {cs rs : Array Value} (h : Cp w w.heap.size cs rs w') {v0 v1 v2 v3 v4 v5 v6 : Value} {a0 a1 a2 a3 a4 a5 a6 : Value} (hr : rs = #[a0, a1, a2, a3, a4, a5, a6]) : Cp w w.heap.size cs #[v0, v1, v2, v3, v4, v5, v6] ((((((((w'.setCell ⟨w.heap.size + 1, 0, none⟩ v0).setCell ⟨w.heap.size + 1, 1, none⟩ v1).setCell ⟨w.heap.size + 1, 2, none⟩ v2).setCell ⟨w.heap.size + 1, 3, none⟩ v3).setCell ⟨w.heap.size + 1, 4, none⟩ v4).setCell ⟨w.heap.size + 1, 5, none⟩ v5).setCell ⟨w.heap.size + 1, 6, none⟩ v6)) := by
  subst hr
  exact h.res (grown7 ..) (h.r.set7 v0 v1 v2 v3 v4 v5 v6)
set_option maxRecDepth 100000 in
set_option maxHeartbeats 3200000 in
theorem shotsAdd (w : World) (x : Mt) (M : MM) (h : MetaD w x M) (nm : ByteArray) (hnm : nm.size ≤ 9223372036854775807) : Calls Try.prog 8 #[.agg (mtA M x), .string nm] w (GiveM w (addM M nm)) := by
  obtain ⟨RM, hRM⟩ := named (addM M nm)
  rw [hRM.out]
  have HP := Lib.hid (fun W (hb : Below w.heap.size w W) (r : Int) hr => placeOf W x M (h.later hb) nm (r := r) hr)
  have HSH := Lib.hid (fun W (hb : Below w.heap.size w W) => pcopyShot W nm M.s x.a0 x.n0 x.c0 M.T (h.T.later hb))
  have HCM := Lib.hid (fun W (hb : Below w.heap.size w W) => pcopyM W x M (h.later hb))
  have HD := Lib.hid h
  have HNM := Lib.hid hnm
  clear h hnm
  obtain ⟨a0, n0, c0, sa, sn, sc, ma, mn, mc, ca, cn, cc⟩ := x
  obtain ⟨c, s, bk, T, S, B, K⟩ := M
  dsimp only [mtA] at *
  have HC0 := Lib.hid (Cp.first w #[.int .i64 c, .int .i64 s, .string bk, .slice a0 n0 c0, .slice sa sn sc, .slice ma mn mc, .slice ca cn cc] #[.int .i64 0, .int .i64 0, .string ByteArray.empty, .slice none 0 0, .slice none 0 0, .slice none 0 0, .slice none 0 0])
  have hl := HD.out.S.lens
  dsimp only at hl
  by_cases hok : nameOk nm
  · have HN := Lib.hid (fun W => shotsName nm HNM.out (decide_eq_true hok) W)
    obtain ⟨r, hr⟩ := named (fndS nm S)
    have HP1 := Lib.hid (fun W hb => HP.out W hb r hr.out)
    have hRR := hRM.out
    unfold addM at hRR
    rw [if_neg (fun h => h hok)] at hRR
    dsimp only at hRR
    rw [hr.out] at hRR
    by_cases hf : 0 ≤ r
    · rw [if_pos hf] at hRR
      subst hRR
      have hr0 : decide (0 ≤ r) = true := decide_eq_true hf
      clear hf hl HP HCM HSH hok hRM
      go_enter Try.func8, Try.ntmps8
      go_wp2_with (first
        | (go_at_call 28; refine (HN.out _).mono ?_; rintro e w1 ⟨rfl, rfl⟩)
        | (go_at_call 29; refine (HP1.out _ HC0.out.dat).mono ?_; rintro e w2 ⟨rfl, hb⟩; have HC2 := Lib.hid (HC0.out.later hb); obtain ⟨p0, p1, p2, p3, p4, p5, p6⟩ := cells7 HC2.out.r; obtain ⟨q0, q1, q2, q3, q4, q5, q6⟩ := free7 HC2.out.r; clear hb))
      have HF := HC2.out.zero
      exact bodyPost_ret (results_cell_tmp rfl _ _ (w.heap.size + 1) 29 #[.int .i64 0, .int .i64 0, .string ByteArray.empty, .slice none 0 0, .slice none 0 0, .slice none 0 0, .slice none 0 0] (0, 0) _ rfl (.int .i64 5) rfl HF.r Try.underlying29 rfl meta_size) rfl (GiveM.zero 5 HF)
    · rw [if_neg hf] at hRR
      have hr0 : decide (0 ≤ r) = false := decide_eq_false hf
      by_cases h8 : 8 ≤ S.length
      · rw [if_pos h8] at hRR
        subst hRR
        have h8n : decide (8 ≤ (sn : Int)) = true := decide_eq_true (by omega)
        clear hf hl h8 HP HCM HSH hok hRM
        go_enter Try.func8, Try.ntmps8
        go_wp2_with (first
          | (go_at_call 28; refine (HN.out _).mono ?_; rintro e w1 ⟨rfl, rfl⟩)
          | (go_at_call 29; refine (HP1.out _ HC0.out.dat).mono ?_; rintro e w2 ⟨rfl, hb⟩; have HC2 := Lib.hid (HC0.out.later hb); obtain ⟨x0, x1, x2, x3, x4, x5, x6⟩ := cells7 HC2.out.m; obtain ⟨p0, p1, p2, p3, p4, p5, p6⟩ := cells7 HC2.out.r; obtain ⟨q0, q1, q2, q3, q4, q5, q6⟩ := free7 HC2.out.r; clear hb))
        have HF := HC2.out.zero
        exact bodyPost_ret (results_cell_tmp rfl _ _ (w.heap.size + 1) 29 #[.int .i64 0, .int .i64 0, .string ByteArray.empty, .slice none 0 0, .slice none 0 0, .slice none 0 0, .slice none 0 0] (0, 0) _ rfl (.int .i64 9) rfl HF.r Try.underlying29 rfl meta_size) rfl (GiveM.zero 9 HF)
      · rw [if_neg h8] at hRR
        subst hRR
        have h8n : decide (8 ≤ (sn : Int)) = false := decide_eq_false (by omega)
        have H8 : Hid (S.length < 8) := Nat.lt_of_not_le h8
        clear hf h8 hl HP hok hRM
        go_enter Try.func8, Try.ntmps8
        go_wp2_with (first
          | (go_at_call 28; refine (HN.out _).mono ?_; rintro e w1 ⟨rfl, rfl⟩)
          | (go_at_call 29; refine (HP1.out _ HC0.out.dat).mono ?_; rintro e w2 ⟨rfl, hb⟩; have HC2 := Lib.hid (HC0.out.later hb); obtain ⟨x0, x1, x2, x3, x4, x5, x6⟩ := cells7 HC2.out.m; clear hb)
          | (go_at_call 30; refine (HSH.out _ HC2.out.dat).mono ?_; rintro e w3 ⟨ta, tc, rfl, ht, hb⟩; have HC3 := Lib.hid (HC2.out.later hb); have HT3 := Lib.hid ht; have HC3a := Lib.hid (HC3.out.later ((Below.refl _ w3).alloc (Nat.le_refl _) (.cells #[.string nm, .int .i64 s, .slice ta n0 tc] 62))); obtain ⟨y0, y1, y2, y3, y4, y5, y6⟩ := cells7 HC3a.out.m; clear hb ht x0 x1 x2 x3 x4 x5 x6)
          | (go_at_call 31; refine (HCM.out _ HC3a.out.dat).mono ?_; rintro e w4 ⟨⟨ax, nx, cx, sax, snx, scx, max, mnx, mcx, cax, cnx, ccx⟩, H, rfl, hm, hb⟩; have HC4 := Lib.hid (HC3a.out.later hb); obtain ⟨_, _, _, hT4, ⟨ds, hO4, hS4, hE4, h1k, hSo⟩, hB4, hK4⟩ := hm; dsimp only at hT4 hO4 hE4 hB4 hK4 h1k; have HT4 := Lib.hid hT4; have HO4 := Lib.hid (hO4.monoB (base' := w.heap.size) HC3a.out.dat.size); have HS4 := Lib.hid hS4; have HE4 := Lib.hid hE4; have HBM4 := Lib.hid hB4; have HK4 := Lib.hid hK4; have HSO := Lib.hid hSo; have HB4 := Lib.hid hb; have HC4a := Lib.hid ((HC4.out.later ((Below.refl _ w4).alloc (Nat.le_refl _) (.cells #[.int .i64 c, .int .i64 s, .string bk, .slice ax nx cx, .slice sax snx scx, .slice max mnx mcx, .slice cax cnx ccx] 29))).later ((Below.refl _ (w4.alloc (.cells #[.int .i64 c, .int .i64 s, .string bk, .slice ax nx cx, .slice sax snx scx, .slice max mnx mcx, .slice cax cnx ccx] 29))).alloc (Nat.le_refl _) (.cells #[.string nm, .int .i64 s, .slice ta n0 tc] 62))); have HOB := Lib.hid ((Blk.new w4 29 #[.int .i64 c, .int .i64 s, .string bk, .slice ax nx cx, .slice sax snx scx, .slice max mnx mcx, .slice cax cnx ccx]).alloc (.cells #[.string nm, .int .i64 s, .slice ta n0 tc] 62)); have HW5 : Hid (w.heap.size ≤ ((w4.alloc (.cells #[.int .i64 c, .int .i64 s, .string bk, .slice ax nx cx, .slice sax snx scx, .slice max mnx mcx, .slice cax cnx ccx] 29)).alloc (.cells #[.string nm, .int .i64 s, .slice ta n0 tc] 62)).heap.size) := Lib.hid (by have := HC4a.out.size; omega); have HTK := Lib.hid (((Blk.new w3 62 #[.string nm, .int .i64 s, .slice ta n0 tc]).later hb).alloc (.cells #[.int .i64 c, .int .i64 s, .string bk, .slice ax nx cx, .slice sax snx scx, .slice max mnx mcx, .slice cax cnx ccx] 29)); obtain ⟨z0, z1, z2⟩ := cells3 HTK.out; dsimp only [mtA]; clear hb hT4 hO4 hS4 hE4 hB4 hK4 hSo y0 y1 y2 y3 y4 y5 y6)
          | (at_builtin; refine append_lg sh_rowed rfl (.tmp 35) (.tmp 37) rfl w.heap.size _ snx ds rfl ((HO4.out.alloc _).alloc _) (some ⟨w4.heap.size + 1, 0, none⟩) 1 1 [(nm, s, ta, n0, tc, T)] rfl (fun e => by cases e) (one_reads2 w4 _ (nm, s, ta, n0, tc, T) #[.string nm, .int .i64 s, .slice ta n0 tc] _ rfl) (by omega) HW5.out ?_; intro a5 c5 w5 g1 g2 g3; have HO5 := Lib.hid g1; have HG5 := Lib.hid g2; have HC5 := Lib.hid (HC4a.out.row ((HO4.out.alloc (.cells #[.int .i64 c, .int .i64 s, .string bk, .slice ax nx cx, .slice sax snx scx, .slice max mnx mcx, .slice cax cnx ccx] 29)).alloc (.cells #[.string nm, .int .i64 s, .slice ta n0 tc] 62)) (by decide) (Nat.le_refl _) g2); have hne1 : w.heap.size + 1 ≠ w4.heap.size := (by have := HC4.out.size; omega); have hne2 : w4.heap.size ≠ w.heap.size + 1 := (by have := HC4.out.size; omega); have hne3 : w4.heap.size ≠ w.heap.size := (by have := HC4.out.size; omega); have HOB5 := Lib.hid (HOB.out.kept g2 (HOB.out.not_row (by decide) ((HO4.out.alloc (.cells #[.int .i64 c, .int .i64 s, .string bk, .slice ax nx cx, .slice sax snx scx, .slice max mnx mcx, .slice cax cnx ccx] 29)).alloc (.cells #[.string nm, .int .i64 s, .slice ta n0 tc] 62)))); obtain ⟨x0, x1, x2, x3, x4, x5, x6⟩ := cells7 HOB5.out; obtain ⟨f0, f1, f2, f3, f4, f5, f6⟩ := free7 HOB5.out; obtain ⟨p0, p1, p2, p3, p4, p5, p6⟩ := cells7 HC5.out.r; obtain ⟨q0, q1, q2, q3, q4, q5, q6⟩ := free7 HC5.out.r; clear g1 g2 g3))
        have g6 := grownBy_setCell4 w5 w4.heap.size 4 (.slice a5 (snx + 1) c5)
        have hX4 := HC4.out.size
        have HC6 : Cp w w.heap.size #[.int .i64 c, .int .i64 s, .string bk, .slice a0 n0 c0, .slice sa sn sc, .slice ma mn mc, .slice ca cn cc] #[.int .i64 0, .int .i64 0, .string ByteArray.empty, .slice none 0 0, .slice none 0 0, .slice none 0 0, .slice none 0 0] (w5.setCell ⟨w4.heap.size, 4, none⟩ (.slice a5 (snx + 1) c5)) := ⟨HC5.out.m.apart g6 (fun e => hne3 e.symm), HC5.out.r.apart g6 hne1, belowRow HC5.out.dat g6 (by omega) (by have := HC5.out.size; omega)⟩
        have g7 := grown7 (w5.setCell ⟨w4.heap.size, 4, none⟩ (.slice a5 (snx + 1) c5)) (w.heap.size + 1) (.int .i64 c) (.int .i64 s) (.string bk) (.slice ax nx cx) (.slice a5 (snx + 1) c5) (.slice max mnx mcx) (.slice cax cnx ccx)
        have HF := HC6.end7 (v0 := (.int .i64 c)) (v1 := (.int .i64 s)) (v2 := (.string bk)) (v3 := (.slice ax nx cx)) (v4 := (.slice a5 (snx + 1) c5)) (v5 := (.slice max mnx mcx)) (v6 := (.slice cax cnx ccx)) rfl
        have k67 := (HOB5.out.keepL (L := L6) (by decide) g6).trans (HC6.r.keepL (L := L6) (by decide) g7)
        have k45 : KeepL L6 w4 ((w4.alloc (.cells #[.int .i64 c, .int .i64 s, .string bk, .slice ax nx cx, .slice sax snx scx, .slice max mnx mcx, .slice cax cnx ccx] 29)).alloc (.cells #[.string nm, .int .i64 s, .slice ta n0 tc] 62)) := KeepL.later L6 (((Below.refl _ w4).alloc (Nat.le_refl _) (.cells #[.int .i64 c, .int .i64 s, .string bk, .slice ax nx cx, .slice sax snx scx, .slice max mnx mcx, .slice cax cnx ccx] 29)).alloc (by simp) _)
        have k5 : KeepL L5 _ w5 := OwnG.keepL (L := L5) ((HO4.out.alloc (.cells #[.int .i64 c, .int .i64 s, .string bk, .slice ax nx cx, .slice sax snx scx, .slice max mnx mcx, .slice cax cnx ccx] 29)).alloc (.cells #[.string nm, .int .i64 s, .slice ta n0 tc] 62)) (by decide) HG5.out
        have kk := ((k45.weak (L' := L5) (by decide)).trans k5).trans (k67.weak (L' := L5) (by decide))
        have hlo : w.heap.size ≤ (w3.alloc (.cells #[.string nm, .int .i64 s, .slice ta n0 tc] 62)).heap.size := HC3a.out.dat.size
        have hT := (HT4.out.mono (F := _) (G := Iv (w3.alloc (.cells #[.string nm, .int .i64 s, .slice ta n0 tc] 62)).heap.size H) hlo (fun k _ h => h)).keep (L := L5) (by decide) (by decide) kk
        have hS : ∀ d ∈ ds ++ [(nm, s, ta, n0, tc, T)], TabF _ w.heap.size (Out (w3.alloc (.cells #[.string nm, .int .i64 s, .slice ta n0 tc] 62)).heap.size H) d.2.2.1 d.2.2.2.1 d.2.2.2.2.1 (shT d) := fun d hd => by
          rcases List.mem_append.1 hd with hd | hd
          · exact ((HS4.out d hd).mono (G := Out (w3.alloc (.cells #[.string nm, .int .i64 s, .slice ta n0 tc] 62)).heap.size H) hlo (fun k _ h => Or.inr h)).keep (L := L5) (by decide) (by decide) kk
          · obtain rfl : d = (nm, s, ta, n0, tc, T) := by simpa using hd
            have t3 := HT3.out.f.mono (base' := w.heap.size) (G := Out (w3.alloc (.cells #[.string nm, .int .i64 s, .slice ta n0 tc] 62)).heap.size H) HC2.out.dat.size (fun k _ h => Or.inl (by rw [World.size_alloc]; exact Nat.lt_succ_of_lt h.2))
            exact ((t3.later ((Below.refl _ w3).alloc (Nat.le_refl _) (.cells #[.string nm, .int .i64 s, .slice ta n0 tc] 62))).later HB4.out).keep (L := L5) (by decide) (by decide) kk
        have hB := (HBM4.out.mono hlo).keep (L := L5) (by decide) (by decide) kk
        have hK := (HK4.out.mono hlo).keep (L := L5) (by decide) kk
        have hlen9 : snx + 1 ≤ 1000 := by
          have e1 := congrArg List.length HE4.out
          rw [List.length_map, HO4.out.2.1] at e1
          have := H8.out
          omega
        have hR := HO5.out.keep (L := L6) (by decide) k67
        exact bodyPost_ret (results_cell_tmp rfl _ _ (w.heap.size + 1) 29 #[.int .i64 c, .int .i64 s, .string bk, .slice ax nx cx, .slice a5 (snx + 1) c5, .slice max mnx mcx, .slice cax cnx ccx] (0, 0) _ rfl (.int .i64 0) rfl HF.r Try.underlying29 rfl meta_size) rfl ⟨⟨ax, nx, cx, a5, snx + 1, c5, max, mnx, mcx, cax, cnx, ccx⟩, _, H, rfl, ⟨HD.out.hc, HD.out.hs, HD.out.hbk, hT, ⟨_, hR, hS, by rw [List.map_append, HE4.out]; rfl, hlen9, fun d hd => by
          rcases List.mem_append.1 hd with hd | hd
          · exact HSO.out d hd
          · obtain rfl : d = (nm, s, T) := by simpa using hd
            exact ⟨HD.out.hs, HNM.out⟩⟩, hB, hK⟩, HF.dat⟩
  · have HN := Lib.hid (fun W => shotsName nm HNM.out (decide_eq_false hok) W)
    have hRR := hRM.out
    unfold addM at hRR
    rw [if_pos hok] at hRR
    subst hRR
    obtain ⟨p0, p1, p2, p3, p4, p5, p6⟩ := cells7 HC0.out.r
    obtain ⟨q0, q1, q2, q3, q4, q5, q6⟩ := free7 HC0.out.r
    clear hl HP HCM HSH hok hRM
    go_enter Try.func8, Try.ntmps8
    go_wp2_with (first
      | (go_at_call 28; refine (HN.out _).mono ?_; rintro e w1 ⟨rfl, rfl⟩))
    exact bodyPost_ret (results_cell_tmp rfl _ _ (w.heap.size + 1) 29 #[.int .i64 0, .int .i64 0, .string ByteArray.empty, .slice none 0 0, .slice none 0 0, .slice none 0 0, .slice none 0 0] (0, 0) _ rfl (.int .i64 1) rfl HC0.out.r Try.underlying29 rfl meta_size) rfl (GiveM.zero 1 HC0.out)
end Go.Proofs.Ytipljkegmhclkaa
