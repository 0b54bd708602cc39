/-
  What the project's shots.Drop answers (12.2). Conditions: the meta reads.
-/
import Derived.Test.YtipljkegmhclkaaSk
namespace Go.Proofs.Ytipljkegmhclkaa
open Go.RowKit
set_option linter.unusedVariables false

/-- A meta without a shot. -/
noncomputable def dropM (M : MM) (nm : ByteArray) : MM × Int := if fndS nm M.S < 0 then (MM0, 4) else ({ M with S := M.S.take (fndS nm M.S).toNat ++ M.S.drop ((fndS nm M.S).toNat + 1) }, 0)
set_option maxRecDepth 100000 in
set_option maxHeartbeats 3200000 in
theorem shotsDrop (w : World) (x : Mt) (M : MM) (h : MetaD w x M) (nm : ByteArray) : Calls Try.prog 13 #[.agg (mtA M x), .string nm] w (GiveM w (dropM M nm)) := by
  obtain ⟨RM, hRM⟩ := named (dropM M nm)
  rw [hRM.out]
  have HP := Lib.hid (fun W (hb : Below w.heap.size w W) (r : Int) hr => placeOf W x M (h.later hb) nm (r := r) hr)
  have HCM := Lib.hid (fun W (hb : Below w.heap.size w W) => pcopyM W x M (h.later hb))
  have HD := Lib.hid h
  clear h
  obtain ⟨a0, n0, c0, sa, sn, sc, ma, mn, mc, ca, cn, cc⟩ := x
  obtain ⟨c, s, bk, T, S, B, K⟩ := M
  dsimp only [mtA] at *
  have HC0 := Lib.hid (Cp.first w #[.int .i64 c, .int .i64 s, .string bk, .slice a0 n0 c0, .slice sa sn sc, .slice ma mn mc, .slice ca cn cc] #[.int .i64 0, .int .i64 0, .string ByteArray.empty, .slice none 0 0, .slice none 0 0, .slice none 0 0, .slice none 0 0])
  have hl := HD.out.S.lens
  dsimp only at hl
  have hRR := hRM.out
  unfold dropM at hRR
  dsimp only at hRR
  rcases fndS_cases nm S with ⟨hr, _⟩ | ⟨i, d, hr, hi, _, hil, _⟩
  · rw [if_pos (by rw [hr]; omega)] at hRR
    subst hRR
    have HP1 := Lib.hid (fun W hb => HP.out W hb (-1) hr)
    clear hl hr HP HCM hRM
    go_enter Try.func13, Try.ntmps13
    go_wp2_with (first
      | (go_at_call 29; refine (HP1.out _ HC0.out.dat).mono ?_; rintro e w2 ⟨rfl, hb⟩; have HC2 := Lib.hid (HC0.out.later hb); obtain ⟨p0, p1, p2, p3, p4, p5, p6⟩ := cells7 HC2.out.r; obtain ⟨q0, q1, q2, q3, q4, q5, q6⟩ := free7 HC2.out.r; clear hb))
    have HF := HC2.out.zero
    exact bodyPost_ret (results_cell_tmp rfl _ _ (w.heap.size + 1) 29 #[.int .i64 0, .int .i64 0, .string ByteArray.empty, .slice none 0 0, .slice none 0 0, .slice none 0 0, .slice none 0 0] (0, 0) _ rfl (.int .i64 4) rfl HF.r Try.underlying29 rfl meta_size) rfl (GiveM.zero 4 HF)
  · rw [if_neg (by rw [hr]; omega), hr, Int.toNat_natCast] at hRR
    subst hRR
    have HP1 := Lib.hid (fun W hb => HP.out W hb i hr)
    have di : decide ((i : Int) < 0) = false := decide_eq_false (by omega)
    have hi1000 : i < 1000 := by omega
    have HIL := Lib.hid hil
    clear hl hr HP hRM hi hil
    go_enter Try.func13, Try.ntmps13
    go_wp2_with (first
      | (go_at_call 29; refine (HP1.out _ HC0.out.dat).mono ?_; rintro e w2 ⟨rfl, hb⟩; have HC2 := Lib.hid (HC0.out.later hb); obtain ⟨x0, x1, x2, x3, x4, x5, x6⟩ := cells7 HC2.out.m; clear hb)
      | (go_at_call 31; refine (HCM.out _ HC2.out.dat).mono ?_; rintro e w4 ⟨⟨ax, nx, cx, sax, snx, scx, max, mnx, mcx, cax, cnx, ccx⟩, H, rfl, hm, hb⟩; have HC4 := Lib.hid (HC2.out.later hb); obtain ⟨_, _, _, hT4, ⟨ds, hO4, hS4, hE4, h1k, hSo⟩, hB4, hK4⟩ := hm; dsimp only at hT4 hO4 hE4 hB4 hK4 h1k; have HT4 := Lib.hid hT4; have HO4 := Lib.hid (hO4.monoB (base' := w.heap.size) HC2.out.dat.size); have HS4 := Lib.hid hS4; have HE4 := Lib.hid hE4; have HBM4 := Lib.hid hB4; have HK4 := Lib.hid hK4; have HSO := Lib.hid hSo; have HB4 := Lib.hid hb; have HC4a := Lib.hid (HC4.out.later ((Below.refl _ w4).alloc (Nat.le_refl _) (.cells #[.int .i64 c, .int .i64 s, .string bk, .slice ax nx cx, .slice sax snx scx, .slice max mnx mcx, .slice cax cnx ccx] 29))); have HOB := Lib.hid (Blk.new w4 29 #[.int .i64 c, .int .i64 s, .string bk, .slice ax nx cx, .slice sax snx scx, .slice max mnx mcx, .slice cax cnx ccx]); have hsn : i < snx := (by have e1 := congrArg List.length hE4; rw [List.length_map, hO4.2.1] at e1; have := HIL.out; omega); have HDEL := Lib.hid (deleteSh (HO4.out.alloc (.cells #[.int .i64 c, .int .i64 s, .string bk, .slice ax nx cx, .slice sax snx scx, .slice max mnx mcx, .slice cax cnx ccx] 29)) h1k i hsn); dsimp only [mtA]; clear hb hT4 hO4 hS4 hE4 hB4 hK4 hSo x0 x1 x2 x3 x4 x5 x6)
      | (go_at_call 35; refine HDEL.out.mono ?_; rintro e w5 ⟨a5, c5, rfl, g1, g2⟩; have HO5 := Lib.hid g1; have HG5 := Lib.hid g2; have HC5 := Lib.hid (HC4a.out.row (HO4.out.alloc (.cells #[.int .i64 c, .int .i64 s, .string bk, .slice ax nx cx, .slice sax snx scx, .slice max mnx mcx, .slice cax cnx ccx] 29)) (by decide) (Nat.le_refl _) g2); have hne1 : w.heap.size + 1 ≠ w4.heap.size := (by have := HC4.out.size; omega); have hne2 : w4.heap.size ≠ w.heap.size + 1 := (by have := HC4.out.size; omega); have hne3 : w4.heap.size ≠ w.heap.size := (by have := HC4.out.size; omega); have HOB5 := Lib.hid (HOB.out.kept g2 (HOB.out.not_row (by decide) (HO4.out.alloc (.cells #[.int .i64 c, .int .i64 s, .string bk, .slice ax nx cx, .slice sax snx scx, .slice max mnx mcx, .slice cax cnx ccx] 29)))); obtain ⟨x0, x1, x2, x3, x4, x5, x6⟩ := cells7 HOB5.out; obtain ⟨f0, f1, f2, f3, f4, f5, f6⟩ := free7 HOB5.out; obtain ⟨p0, p1, p2, p3, p4, p5, p6⟩ := cells7 HC5.out.r; obtain ⟨q0, q1, q2, q3, q4, q5, q6⟩ := free7 HC5.out.r; clear g1 g2))
    have g6 := grownBy_setCell4 w5 w4.heap.size 4 (.slice a5 (snx - 1) c5)
    have hX4 := HC4.out.size
    have HC6 : Cp w w.heap.size #[.int .i64 c, .int .i64 s, .string bk, .slice a0 n0 c0, .slice sa sn sc, .slice ma mn mc, .slice ca cn cc] #[.int .i64 0, .int .i64 0, .string ByteArray.empty, .slice none 0 0, .slice none 0 0, .slice none 0 0, .slice none 0 0] (w5.setCell ⟨w4.heap.size, 4, none⟩ (.slice a5 (snx - 1) c5)) := ⟨HC5.out.m.apart g6 (fun e => hne3 e.symm), HC5.out.r.apart g6 hne1, belowRow HC5.out.dat g6 (by omega) (by have := HC5.out.size; omega)⟩
    have g7 := grown7 (w5.setCell ⟨w4.heap.size, 4, none⟩ (.slice a5 (snx - 1) c5)) (w.heap.size + 1) (.int .i64 c) (.int .i64 s) (.string bk) (.slice ax nx cx) (.slice a5 (snx - 1) c5) (.slice max mnx mcx) (.slice cax cnx ccx)
    have HF := HC6.end7 (v0 := (.int .i64 c)) (v1 := (.int .i64 s)) (v2 := (.string bk)) (v3 := (.slice ax nx cx)) (v4 := (.slice a5 (snx - 1) c5)) (v5 := (.slice max mnx mcx)) (v6 := (.slice cax cnx ccx)) rfl
    have k67 := (HOB5.out.keepL (L := L6) (by decide) g6).trans (HC6.r.keepL (L := L6) (by decide) g7)
    have k45 : KeepL L6 w4 (w4.alloc (.cells #[.int .i64 c, .int .i64 s, .string bk, .slice ax nx cx, .slice sax snx scx, .slice max mnx mcx, .slice cax cnx ccx] 29)) := KeepL.later L6 ((Below.refl _ w4).alloc (Nat.le_refl _) (.cells #[.int .i64 c, .int .i64 s, .string bk, .slice ax nx cx, .slice sax snx scx, .slice max mnx mcx, .slice cax cnx ccx] 29))
    have k5 : KeepL L5 _ w5 := OwnG.keepL (L := L5) (HO4.out.alloc (.cells #[.int .i64 c, .int .i64 s, .string bk, .slice ax nx cx, .slice sax snx scx, .slice max mnx mcx, .slice cax cnx ccx] 29)) (by decide) HG5.out
    have kk := ((k45.weak (L' := L5) (by decide)).trans k5).trans (k67.weak (L' := L5) (by decide))
    have hlo : w.heap.size ≤ w2.heap.size := HC2.out.dat.size
    have hT := (HT4.out.mono (F := _) (G := Iv w2.heap.size H) hlo (fun k _ h => h)).keep (L := L5) (by decide) (by decide) kk
    have hS : ∀ d ∈ ds.take i ++ ds.drop (i + 1), TabF _ w.heap.size (Out w2.heap.size H) d.2.2.1 d.2.2.2.1 d.2.2.2.2.1 (shT d) := fun d hd => by
      have hd' : d ∈ ds := by
        rcases List.mem_append.1 hd with hd | hd
        · exact List.mem_of_mem_take hd
        · exact List.mem_of_mem_drop hd
      exact ((HS4.out d hd').mono (G := Out w2.heap.size H) hlo (fun k _ h => Or.inr h)).keep (L := L5) (by decide) (by decide) kk
    have hB := (HBM4.out.mono hlo).keep (L := L5) (by decide) (by decide) kk
    have hK := (HK4.out.mono hlo).keep (L := L5) (by decide) kk
    have hR := HO5.out.keep (L := L6) (by decide) k67
    exact bodyPost_ret (results_cell_tmp rfl _ _ (w.heap.size + 1) 29 #[.int .i64 c, .int .i64 s, .string bk, .slice ax nx cx, .slice a5 (snx - 1) c5, .slice max mnx mcx, .slice cax cnx ccx] (0, 0) _ rfl (.int .i64 0) rfl HF.r Try.underlying29 rfl meta_size) rfl ⟨⟨ax, nx, cx, a5, snx - 1, c5, max, mnx, mcx, cax, cnx, ccx⟩, _, H, rfl, ⟨HD.out.hc, HD.out.hs, HD.out.hbk, hT, ⟨_, hR, hS, by rw [List.map_append, List.map_take, List.map_drop, HE4.out], by show snx - 1 ≤ 1000; omega, fun d hd => by
      rcases List.mem_append.1 hd with hd | hd
      · exact HSO.out d (List.mem_of_mem_take hd)
      · exact HSO.out d (List.mem_of_mem_drop hd)⟩, hB, hK⟩, HF.dat⟩
end Go.Proofs.Ytipljkegmhclkaa
