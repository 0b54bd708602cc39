/-
  Proved: 'matryoshkalaw12.ShotBack' returns true for every input: the statement ShotBackSaid as given. Conditions: none beyond the row's own.
-/
import Derived.Test.YtipljkegmhclkaaRows
import Derived.Test.YtipljkegmhclkaaTm
import Derived.Deep.QuietTactic
import Derived.BigQuiet
import Derived.WalkKit
import Derived.ProofKit
import Derived.OpenShut
import Derived.ShutString
import Derived.ChangeOld
import Derived.Below
namespace Go.Proofs.Ytipljkegmhclkaa.shotBack
open Go.ChangeShapes Go.WideShapes Go.ChangeAt Go.RowKit
open Go.ChangeMaps (open_string shut_string)
set_option linter.unusedVariables false

theorem own : ownKnob Try.prog.godebug = none := by kernel_rfl
theorem laidOut : laidOutB Try.prog = true := by kernel_rfl

set_option maxRecDepth 100000 in
set_option maxHeartbeats 16000000 in
theorem walk (mc0 ms0 : Int) (mb0 : ByteArray) (ta0 : Option Addr) (tn0 tc0 : Nat) (sa0 : Option Addr) (sn0 sc0 : Nat) (ba0 : Option Addr) (bn0 bc0 : Nat) (ca0 : Option Addr) (cn0 cc0 : Nat) (a1 : Option Addr) (len1 cap1 : Nat) (a2 : Int) (w : World) (w0 : MetaArg w mc0 ms0 mb0 ta0 tn0 tc0 sa0 sn0 sc0 ba0 bn0 bc0 ca0 cn0 cc0) (w1 : TabArg w a1 len1 cap1) (w2 : (Lit.int .u8 a2).wf = true) :
    Calls Try.prog 3 #[.agg #[.int .i64 mc0, .int .i64 ms0, .string mb0, .slice ta0 tn0 tc0, .slice sa0 sn0 sc0, .slice ba0 bn0 bc0, .slice ca0 cn0 cc0], .agg #[.slice a1 len1 cap1], .int .u8 a2] w fun e w' => e = .returned (.bool true) ∧ Below w.heap.size w w' := by
  have w2' := w2
  clear w2
  have HGR := Lib.hid (fun (W : World) (hb : Below w.heap.size w W) => great_md (w0.later hb))
  have HTB := Lib.hid (blk_next9 w 29 24 #[.int .i64 mc0, .int .i64 ms0, .string mb0, .slice ta0 tn0 tc0, .slice sa0 sn0 sc0, .slice ba0 bn0 bc0, .slice ca0 cn0 cc0] #[.slice a1 len1 cap1])
  have HRT := Lib.hid ((RtS.first w #[.int .i64 mc0, .int .i64 ms0, .string mb0, .slice ta0 tn0 tc0, .slice sa0 sn0 sc0, .slice ba0 bn0 bc0, .slice ca0 cn0 cc0]).later ((Below.refl _ _).alloc (Nat.le_refl _) (.cells #[.slice a1 len1 cap1] 24)))
  have HAW : Hid (∀ W, Below w.heap.size w W → Calls Try.prog 7 #[] W fun e w' => e = .returned (.bool true) ∧ Below w.heap.size w w') := fun W hb => (awake12 W).mono fun e w' h => ⟨h.1, hb.trans (h.2.mono hb.size)⟩
  go_enter Try.func3, Try.ntmps3
  go_wp2_with (first
    | (go_at_call 5; (with_reducible refine (HGR.out _ HRT.out.below).mono ?_); rintro e w2 ⟨G, rfl, h, hg⟩; have HGG := Lib.hid hg; have HB2 := Lib.hid h; replace HTB := Lib.hid ((show Blk _ (w.heap.size + 1) 24 #[.slice a1 len1 cap1] from HTB.out).later h); have HRT := Lib.hid (HRT.out.later h); obtain ⟨m0, m1, m2, m3, m4, m5, m6⟩ := cells7 HRT.out.box; clear h hg; cases G)
    | (go_at_call 7; (with_reducible refine (HAW.out _ HRT.out.below).mono ?_); rintro e w9 ⟨rfl, hb9⟩)
    | (go_at_call 6; obtain ⟨⟨c', s', bk', T, S, B, K⟩, q1, q2, q3, h20, h21, hcn, h500, hMD⟩ := HGG.out (by first | rfl | trivial); dsimp only at q1 q2 q3 h500; subst q1 q2 q3; have HMD := Lib.hid (hMD.later HB2.out); refine (refRight12 _ _ _ HMD.out (by show cn0 ≤ 65536; omega)).mono ?_; rintro e w3 ⟨R, rfl, h, hr⟩; have HMD := Lib.hid (HMD.out.later h); have HRR := Lib.hid hr.1; have hsl := HMD.out.S.lens; replace HTB := Lib.hid ((show Blk _ (w.heap.size + 1) 24 #[.slice a1 len1 cap1] from HTB.out).later h); have HRT := Lib.hid (HRT.out.later h); obtain ⟨m0, m1, m2, m3, m4, m5, m6⟩ := cells7 HRT.out.box; clear h hr hMD; cases R)
    | (go_at_call 8; have HMI := Lib.hid (mild_of (HRR.out (by first | rfl | trivial)) h500); have HRI := Lib.hid (HRR.out (by first | rfl | trivial)); have HS1 := Lib.hid (Below.refl w3.heap.size w3); have HZ : Hid (∀ z, addM ({ c := c', s := s', bk := bk', T := T, S := S, B := B, K := K } : MM) txJ = (MM0, z) → ∀ W, Below w3.heap.size w3 W → Calls Try.prog 8 #[.agg #[.int .i64 c', .int .i64 s', .string bk', .slice ta0 tn0 tc0, .slice sa0 sn0 sc0, .slice ba0 bn0 bc0, .slice ca0 cn0 cc0], .string ⟨#[106, 117, 115, 116, 45, 110, 111, 119]⟩] W fun e w' => ∃ y1t y1tn y1tc y1s y1sn y1sc y1m y1mn y1mc y1k y1kn y1kc, e = .returned (.tuple #[.agg #[.int .i64 0, .int .i64 0, .string ByteArray.empty, .slice y1t y1tn y1tc, .slice y1s y1sn y1sc, .slice y1m y1mn y1mc, .slice y1k y1kn y1kc], .int .i64 z]) ∧ Below w3.heap.size w3 w' ∧ Below W.heap.size W w') := (fun z hz W hs => ((hz ▸ shotsAdd _ ⟨ta0, tn0, tc0, sa0, sn0, sc0, ba0, bn0, bc0, ca0, cn0, cc0⟩ ({ c := c', s := s', bk := bk', T := T, S := S, B := B, K := K } : MM) (HMD.out.later hs) txJ (by decide) : Calls Try.prog 8 #[.agg #[.int .i64 c', .int .i64 s', .string bk', .slice ta0 tn0 tc0, .slice sa0 sn0 sc0, .slice ba0 bn0 bc0, .slice ca0 cn0 cc0], .string ⟨#[106, 117, 115, 116, 45, 110, 111, 119]⟩] W (GiveM W (MM0, z)))).mono fun e w' ⟨⟨y1t, y1tn, y1tc, y1s, y1sn, y1sc, y1m, y1mn, y1mc, y1k, y1kn, y1kc⟩, lo, hi, e1, e2, e3⟩ => ⟨y1t, y1tn, y1tc, y1s, y1sn, y1sc, y1m, y1mn, y1mc, y1k, y1kn, y1kc, e1, hs.trans (e3.mono hs.size), e3⟩); have HY : Hid (addM ({ c := c', s := s', bk := bk', T := T, S := S, B := B, K := K } : MM) txJ = (({ c := c', s := s', bk := bk', T := T, S := S ++ [(txJ, s', T)], B := B, K := K } : MM), 0) → ∀ W, Below w3.heap.size w3 W → Calls Try.prog 8 #[.agg #[.int .i64 c', .int .i64 s', .string bk', .slice ta0 tn0 tc0, .slice sa0 sn0 sc0, .slice ba0 bn0 bc0, .slice ca0 cn0 cc0], .string ⟨#[106, 117, 115, 116, 45, 110, 111, 119]⟩] W fun e w' => ∃ y1t y1tn y1tc y1s y1sn y1sc y1m y1mn y1mc y1k y1kn y1kc, e = .returned (.tuple #[.agg #[.int .i64 c', .int .i64 s', .string bk', .slice y1t y1tn y1tc, .slice y1s y1sn y1sc, .slice y1m y1mn y1mc, .slice y1k y1kn y1kc], .int .i64 0]) ∧ MetaD w' ⟨y1t, y1tn, y1tc, y1s, y1sn, y1sc, y1m, y1mn, y1mc, y1k, y1kn, y1kc⟩ ({ c := c', s := s', bk := bk', T := T, S := S ++ [(txJ, s', T)], B := B, K := K } : MM) ∧ Below w3.heap.size w3 w' ∧ Below W.heap.size W w') := (fun hz W hs => ((hz ▸ shotsAdd _ ⟨ta0, tn0, tc0, sa0, sn0, sc0, ba0, bn0, bc0, ca0, cn0, cc0⟩ ({ c := c', s := s', bk := bk', T := T, S := S, B := B, K := K } : MM) (HMD.out.later hs) txJ (by decide) : Calls Try.prog 8 #[.agg #[.int .i64 c', .int .i64 s', .string bk', .slice ta0 tn0 tc0, .slice sa0 sn0 sc0, .slice ba0 bn0 bc0, .slice ca0 cn0 cc0], .string ⟨#[106, 117, 115, 116, 45, 110, 111, 119]⟩] W (GiveM W (({ c := c', s := s', bk := bk', T := T, S := S ++ [(txJ, s', T)], B := B, K := K } : MM), 0)))).mono fun e w' ⟨⟨y1t, y1tn, y1tc, y1s, y1sn, y1sc, y1m, y1mn, y1mc, y1k, y1kn, y1kc⟩, lo, hi, e1, e2, e3⟩ => ⟨y1t, y1tn, y1tc, y1s, y1sn, y1sc, y1m, y1mn, y1mc, y1k, y1kn, y1kc, e1, e2.d, hs.trans (e3.mono hs.size), e3⟩); rcases addJ_cases ({ c := c', s := s', bk := bk', T := T, S := S, B := B, K := K } : MM) with ⟨z, hz, h5⟩ | ⟨hz, hf, h8⟩; all_goals first | (rcases h5 with rfl | rfl; all_goals ((with_reducible refine (HZ.out _ hz _ HS1.out).mono ?_); rintro e v1 ⟨y1t, y1tn, y1tc, y1s, y1sn, y1sc, y1m, y1mn, y1mc, y1k, y1kn, y1kc, rfl, hs, hb⟩; have HBE := Lib.hid (HRT.out.below.trans (hb.mono HRT.out.below.size)); have HBE2 := Lib.hid (HBE.out.alloc HBE.out.size (.cells #[.int .i64 0, .int .i64 0, .string ByteArray.empty, .slice y1t y1tn y1tc, .slice y1s y1sn y1sc, .slice y1m y1mn y1mc, .slice y1k y1kn y1kc] 29)); clear hs hb)) | ((with_reducible refine (HY.out hz _ HS1.out).mono ?_); rintro e v1 ⟨y1t, y1tn, y1tc, y1s, y1sn, y1sc, y1m, y1mn, y1mc, y1k, y1kn, y1kc, rfl, hD, hs, hb⟩; have HD1 := Lib.hid (hD.later ((Below.refl _ v1).alloc (Nat.le_refl _) (.cells #[.int .i64 c', .int .i64 s', .string bk', .slice y1t y1tn y1tc, .slice y1s y1sn y1sc, .slice y1m y1mn y1mc, .slice y1k y1kn y1kc] 29))); have HK1 : Hid (Blk (v1.alloc (.cells #[.int .i64 c', .int .i64 s', .string bk', .slice y1t y1tn y1tc, .slice y1s y1sn y1sc, .slice y1m y1mn y1mc, .slice y1k y1kn y1kc] 29)) v1.heap.size 29 #[.int .i64 c', .int .i64 s', .string bk', .slice y1t y1tn y1tc, .slice y1s y1sn y1sc, .slice y1m y1mn y1mc, .slice y1k y1kn y1kc]) := Blk.new _ _ _; have HF := Lib.hid hf; have HF8 := Lib.hid h8; have HD0 := Lib.hid hD; have HB31 := Lib.hid hb; have hl1 := Nat.lt_of_lt_of_le HRT.out.box.lt hb.size; clear m0 m1 m2 m3 m4 m5 m6; replace HTB := Lib.hid ((show Blk _ (w.heap.size + 1) 24 #[.slice a1 len1 cap1] from HTB.out).later (hb.alloc hb.size (.cells #[.int .i64 c', .int .i64 s', .string bk', .slice y1t y1tn y1tc, .slice y1s y1sn y1sc, .slice y1m y1mn y1mc, .slice y1k y1kn y1kc] 29))); have HRT := Lib.hid (HRT.out.later (hb.alloc hb.size (.cells #[.int .i64 c', .int .i64 s', .string bk', .slice y1t y1tn y1tc, .slice y1s y1sn y1sc, .slice y1m y1mn y1mc, .slice y1k y1kn y1kc] 29))); obtain ⟨m0, m1, m2, m3, m4, m5, m6⟩ := cells7 HRT.out.box; have hlm := HRT.out.box.lt; have HS2 := Lib.hid (hb.alloc hb.size (.cells #[.int .i64 c', .int .i64 s', .string bk', .slice y1t y1tn y1tc, .slice y1s y1sn y1sc, .slice y1m y1mn y1mc, .slice y1k y1kn y1kc] 29)); have t0 := one_cell9 HTB.out; have hcc : 0 ≤ c' ∧ c' ≤ 6 := HRI.out.c; have b2 := bounds_u8 w2'; obtain ⟨n1, n2, hE1, hE2, hE3, hE4, hE5, hE6⟩ := size_J a2 c' (by omega) hcc; have hc0 := hcc.1; have hc6 := hcc.2; have HN := Lib.hid hE6; have HMD1 := Lib.hid (HMD.out.later (hb.alloc hb.size (.cells #[.int .i64 c', .int .i64 s', .string bk', .slice y1t y1tn y1tc, .slice y1s y1sn y1sc, .slice y1m y1mn y1mc, .slice y1k y1kn y1kc] 29))); clear hD hs hb HZ HY hz hf h8 h500 HS1 hcc hE6 HGG))
    | (go_at_call 10; obtain ⟨R, hR9, hC9⟩ := refRightArg (v1.alloc (.cells #[.int .i64 c', .int .i64 s', .string bk', .slice y1t y1tn y1tc, .slice y1s y1sn y1sc, .slice y1m y1mn y1mc, .slice y1k y1kn y1kc] 29)) a1 len1 cap1 n2 c' w w1 HRT.out.below; refine hC9.mono ?_; rintro e v2 ⟨rfl, hb⟩; have HR9 := Lib.hid hR9; have HV12 := Lib.hid (((Below.refl _ v1).alloc (Nat.le_refl _) (.cells #[.int .i64 c', .int .i64 s', .string bk', .slice y1t y1tn y1tc, .slice y1s y1sn y1sc, .slice y1m y1mn y1mc, .slice y1k y1kn y1kc] 29)).trans (hb.mono (by simp))); have HD2 := Lib.hid (HD1.out.later hb); have HK2 := Lib.hid (HK1.out.later hb); have HM2 := Lib.hid (HMD1.out.later hb); clear m0 m1 m2 m3 m4 m5 m6 t0 hR9 hC9; replace HTB := Lib.hid ((show Blk _ (w.heap.size + 1) 24 #[.slice a1 len1 cap1] from HTB.out).later hb); have HRT := Lib.hid (HRT.out.later hb); obtain ⟨m0, m1, m2, m3, m4, m5, m6⟩ := cells7 HRT.out.box; have t0 := one_cell9 HTB.out; have hlm := HRT.out.box.lt; obtain ⟨x0, x1, x2, x3, x4, x5, x6⟩ := cells7 HK2.out; obtain ⟨f0, f1, f2, f3, f4, f5, f6⟩ := free7 HK2.out; clear hb; cases R)
    | (go_at_call 11; obtain ⟨T', hrt, hTw⟩ := HR9.out True.intro; have hV : Below v1.heap.size v1 ((v2.setCell ⟨v1.heap.size, 3, none⟩ (.slice a1 len1 cap1)).setCell ⟨v1.heap.size, 1, none⟩ (.int .i64 n1)) := (HV12.out.setCell (Nat.le_refl _) _).setCell (Nat.le_refl _) _; have hwV : Below w.heap.size w ((v2.setCell ⟨v1.heap.size, 3, none⟩ (.slice a1 len1 cap1)).setCell ⟨v1.heap.size, 1, none⟩ (.int .i64 n1)) := (HRT.out.below.setCell (Nat.le_of_lt hl1) _).setCell (Nat.le_of_lt hl1) _; have hD3 := HD0.out.later hV; have hDa : MetaD ((v2.setCell ⟨v1.heap.size, 3, none⟩ (.slice a1 len1 cap1)).setCell ⟨v1.heap.size, 1, none⟩ (.int .i64 n1)) ⟨a1, len1, cap1, y1s, y1sn, y1sc, y1m, y1mn, y1mc, y1k, y1kn, y1kc⟩ ({ c := c', s := n1, bk := bk', T := T', S := S ++ [(txJ, s', T)], B := B, K := K } : MM) := ⟨hD3.hc, HN.out.2.1, hD3.hbk, hTw.later hwV, hD3.S, hD3.B, hD3.K⟩; have hRV : RtS w ((v2.setCell ⟨v1.heap.size, 3, none⟩ (.slice a1 len1 cap1)).setCell ⟨v1.heap.size, 1, none⟩ (.int .i64 n1)) #[.int .i64 c', .int .i64 s', .string bk', .slice ta0 tn0 tc0, .slice sa0 sn0 sc0, .slice ba0 bn0 bc0, .slice ca0 cn0 cc0] := ⟨(HRT.out.box.other (Nat.ne_of_lt hl1) _).other (Nat.ne_of_lt hl1) _, hwV⟩; have hsz : n1 ≤ 1073741824 := Int.le_trans HN.out.1.2.1 (by decide); have h9 := shotsBack ((v2.setCell ⟨v1.heap.size, 3, none⟩ (.slice a1 len1 cap1)).setCell ⟨v1.heap.size, 1, none⟩ (.int .i64 n1)) ⟨a1, len1, cap1, y1s, y1sn, y1sc, y1m, y1mn, y1mc, y1k, y1kn, y1kc⟩ ({ c := c', s := n1, bk := bk', T := T', S := S ++ [(txJ, s', T)], B := B, K := K } : MM) hDa (mild_J (M := ({ c := c', s := s', bk := bk', T := T, S := S, B := B, K := K } : MM)) HMI.out T' hsz) txJ; have h8 := back_J (M := ({ c := c', s := s', bk := bk', T := T, S := S, B := B, K := K } : MM)) HF.out T' n1; dsimp only at h8 h9; rw [h8] at h9; have hBK : Calls Try.prog 11 #[.agg #[.int .i64 c', .int .i64 n1, .string bk', .slice a1 len1 cap1, .slice y1s y1sn y1sc, .slice y1m y1mn y1mc, .slice y1k y1kn y1kc], .string ⟨#[106, 117, 115, 116, 45, 110, 111, 119]⟩] ((v2.setCell ⟨v1.heap.size, 3, none⟩ (.slice a1 len1 cap1)).setCell ⟨v1.heap.size, 1, none⟩ (.int .i64 n1)) fun e w' => ∃ y2t y2tn y2tc y2s y2sn y2sc y2m y2mn y2mc y2k y2kn y2kc, e = .returned (.tuple #[.agg #[.int .i64 c', .int .i64 s', .string bk', .slice y2t y2tn y2tc, .slice y2s y2sn y2sc, .slice y2m y2mn y2mc, .slice y2k y2kn y2kc], .int .i64 0]) ∧ MetaD w' ⟨y2t, y2tn, y2tc, y2s, y2sn, y2sc, y2m, y2mn, y2mc, y2k, y2kn, y2kc⟩ (wentM ({ c := c', s := s', bk := bk', T := T, S := S, B := B, K := K } : MM)) ∧ Below ((v2.setCell ⟨v1.heap.size, 3, none⟩ (.slice a1 len1 cap1)).setCell ⟨v1.heap.size, 1, none⟩ (.int .i64 n1)).heap.size ((v2.setCell ⟨v1.heap.size, 3, none⟩ (.slice a1 len1 cap1)).setCell ⟨v1.heap.size, 1, none⟩ (.int .i64 n1)) w' := h9.mono fun e w' ⟨⟨y2t, y2tn, y2tc, y2s, y2sn, y2sc, y2m, y2mn, y2mc, y2k, y2kn, y2kc⟩, lo, hi, e1, e2, e3⟩ => ⟨y2t, y2tn, y2tc, y2s, y2sn, y2sc, y2m, y2mn, y2mc, y2k, y2kn, y2kc, e1, e2.d, e3⟩; clear h8 h9; (with_reducible refine hBK.mono ?_); rintro e v3 ⟨y2t, y2tn, y2tc, y2s, y2sn, y2sc, y2m, y2mn, y2mc, y2k, y2kn, y2kc, rfl, hD, hb⟩; have hbU := hb.alloc hb.size (.cells #[.int .i64 c', .int .i64 s', .string bk', .slice y2t y2tn y2tc, .slice y2s y2sn y2sc, .slice y2m y2mn y2mc, .slice y2k y2kn y2kc] 29); have HDU := Lib.hid (hD.later ((Below.refl _ v3).alloc (Nat.le_refl _) (.cells #[.int .i64 c', .int .i64 s', .string bk', .slice y2t y2tn y2tc, .slice y2s y2sn y2sc, .slice y2m y2mn y2mc, .slice y2k y2kn y2kc] 29))); have HKU : Hid (Blk (v3.alloc (.cells #[.int .i64 c', .int .i64 s', .string bk', .slice y2t y2tn y2tc, .slice y2s y2sn y2sc, .slice y2m y2mn y2mc, .slice y2k y2kn y2kc] 29)) v3.heap.size 29 #[.int .i64 c', .int .i64 s', .string bk', .slice y2t y2tn y2tc, .slice y2s y2sn y2sc, .slice y2m y2mn y2mc, .slice y2k y2kn y2kc]) := Blk.new _ _ _; have HMU := Lib.hid (HMD.out.later ((HB31.out.trans (hV.mono HB31.out.size)).trans (hbU.mono (HB31.out.trans (hV.mono HB31.out.size)).size))); have HRT := Lib.hid (hRV.later hbU); clear m0 m1 m2 m3 m4 m5 m6 x0 x1 x2 x3 x4 x5 x6 f0 f1 f2 f3 f4 f5 f6 t0; obtain ⟨m0, m1, m2, m3, m4, m5, m6⟩ := cells7 HRT.out.box; obtain ⟨x0, x1, x2, x3, x4, x5, x6⟩ := cells7 HKU.out; have hlm := HRT.out.box.lt; obtain ⟨hsn2, hsn3⟩ := sn_J HDU.out.S hsl.1 h20; have HTT : Hid (Calls Try.prog 12 #[.agg #[.slice y2t y2tn y2tc], .agg #[.slice ta0 tn0 tc0]] (v3.alloc (.cells #[.int .i64 c', .int .i64 s', .string bk', .slice y2t y2tn y2tc, .slice y2s y2sn y2sc, .slice y2m y2mn y2mc, .slice y2k y2kn y2kc] 29)) fun e w' => e = .returned (.bool true) ∧ Below (v3.alloc (.cells #[.int .i64 c', .int .i64 s', .string bk', .slice y2t y2tn y2tc, .slice y2s y2sn y2sc, .slice y2m y2mn y2mc, .slice y2k y2kn y2kc] 29)).heap.size (v3.alloc (.cells #[.int .i64 c', .int .i64 s', .string bk', .slice y2t y2tn y2tc, .slice y2s y2sn y2sc, .slice y2m y2mn y2mc, .slice y2k y2kn y2kc] 29)) w') := refTT (R := true) HDU.out.T HMU.out.T (decide_eq_true rfl))
    | (go_at_call 11; have hV : Below v1.heap.size v1 v2 := HV12.out; have hDa : MetaD v2 ⟨y1t, y1tn, y1tc, y1s, y1sn, y1sc, y1m, y1mn, y1mc, y1k, y1kn, y1kc⟩ ({ c := c', s := s', bk := bk', T := T, S := S ++ [(txJ, s', T)], B := B, K := K } : MM) := HD2.out; have hRV : RtS w v2 #[.int .i64 c', .int .i64 s', .string bk', .slice ta0 tn0 tc0, .slice sa0 sn0 sc0, .slice ba0 bn0 bc0, .slice ca0 cn0 cc0] := HRT.out; have hsz : s' ≤ 1073741824 := HMI.out.s; have h9 := shotsBack v2 ⟨y1t, y1tn, y1tc, y1s, y1sn, y1sc, y1m, y1mn, y1mc, y1k, y1kn, y1kc⟩ ({ c := c', s := s', bk := bk', T := T, S := S ++ [(txJ, s', T)], B := B, K := K } : MM) hDa (mild_J (M := ({ c := c', s := s', bk := bk', T := T, S := S, B := B, K := K } : MM)) HMI.out T hsz) txJ; have h8 := back_J (M := ({ c := c', s := s', bk := bk', T := T, S := S, B := B, K := K } : MM)) HF.out T s'; dsimp only at h8 h9; rw [h8] at h9; have hBK : Calls Try.prog 11 #[.agg #[.int .i64 c', .int .i64 s', .string bk', .slice y1t y1tn y1tc, .slice y1s y1sn y1sc, .slice y1m y1mn y1mc, .slice y1k y1kn y1kc], .string ⟨#[106, 117, 115, 116, 45, 110, 111, 119]⟩] v2 fun e w' => ∃ y2t y2tn y2tc y2s y2sn y2sc y2m y2mn y2mc y2k y2kn y2kc, e = .returned (.tuple #[.agg #[.int .i64 c', .int .i64 s', .string bk', .slice y2t y2tn y2tc, .slice y2s y2sn y2sc, .slice y2m y2mn y2mc, .slice y2k y2kn y2kc], .int .i64 0]) ∧ MetaD w' ⟨y2t, y2tn, y2tc, y2s, y2sn, y2sc, y2m, y2mn, y2mc, y2k, y2kn, y2kc⟩ (wentM ({ c := c', s := s', bk := bk', T := T, S := S, B := B, K := K } : MM)) ∧ Below v2.heap.size v2 w' := h9.mono fun e w' ⟨⟨y2t, y2tn, y2tc, y2s, y2sn, y2sc, y2m, y2mn, y2mc, y2k, y2kn, y2kc⟩, lo, hi, e1, e2, e3⟩ => ⟨y2t, y2tn, y2tc, y2s, y2sn, y2sc, y2m, y2mn, y2mc, y2k, y2kn, y2kc, e1, e2.d, e3⟩; clear h8 h9; (with_reducible refine hBK.mono ?_); rintro e v3 ⟨y2t, y2tn, y2tc, y2s, y2sn, y2sc, y2m, y2mn, y2mc, y2k, y2kn, y2kc, rfl, hD, hb⟩; have hbU := hb.alloc hb.size (.cells #[.int .i64 c', .int .i64 s', .string bk', .slice y2t y2tn y2tc, .slice y2s y2sn y2sc, .slice y2m y2mn y2mc, .slice y2k y2kn y2kc] 29); have HDU := Lib.hid (hD.later ((Below.refl _ v3).alloc (Nat.le_refl _) (.cells #[.int .i64 c', .int .i64 s', .string bk', .slice y2t y2tn y2tc, .slice y2s y2sn y2sc, .slice y2m y2mn y2mc, .slice y2k y2kn y2kc] 29))); have HKU : Hid (Blk (v3.alloc (.cells #[.int .i64 c', .int .i64 s', .string bk', .slice y2t y2tn y2tc, .slice y2s y2sn y2sc, .slice y2m y2mn y2mc, .slice y2k y2kn y2kc] 29)) v3.heap.size 29 #[.int .i64 c', .int .i64 s', .string bk', .slice y2t y2tn y2tc, .slice y2s y2sn y2sc, .slice y2m y2mn y2mc, .slice y2k y2kn y2kc]) := Blk.new _ _ _; have HMU := Lib.hid (HMD.out.later ((HB31.out.trans (hV.mono HB31.out.size)).trans (hbU.mono (HB31.out.trans (hV.mono HB31.out.size)).size))); have HRT := Lib.hid (hRV.later hbU); clear m0 m1 m2 m3 m4 m5 m6 x0 x1 x2 x3 x4 x5 x6 f0 f1 f2 f3 f4 f5 f6 t0; obtain ⟨m0, m1, m2, m3, m4, m5, m6⟩ := cells7 HRT.out.box; obtain ⟨x0, x1, x2, x3, x4, x5, x6⟩ := cells7 HKU.out; have hlm := HRT.out.box.lt; obtain ⟨hsn2, hsn3⟩ := sn_J HDU.out.S hsl.1 h20; have HTT : Hid (Calls Try.prog 12 #[.agg #[.slice y2t y2tn y2tc], .agg #[.slice ta0 tn0 tc0]] (v3.alloc (.cells #[.int .i64 c', .int .i64 s', .string bk', .slice y2t y2tn y2tc, .slice y2s y2sn y2sc, .slice y2m y2mn y2mc, .slice y2k y2kn y2kc] 29)) fun e w' => e = .returned (.bool true) ∧ Below (v3.alloc (.cells #[.int .i64 c', .int .i64 s', .string bk', .slice y2t y2tn y2tc, .slice y2s y2sn y2sc, .slice y2m y2mn y2mc, .slice y2k y2kn y2kc] 29)).heap.size (v3.alloc (.cells #[.int .i64 c', .int .i64 s', .string bk', .slice y2t y2tn y2tc, .slice y2s y2sn y2sc, .slice y2m y2mn y2mc, .slice y2k y2kn y2kc] 29)) w') := refTT (R := true) HDU.out.T HMU.out.T (decide_eq_true rfl))
    | (go_at_call 12; (with_reducible refine HTT.out.mono ?_); rintro e v4 ⟨rfl, hb⟩; have HDU := Lib.hid (HDU.out.later hb); have HKU := Lib.hid (HKU.out.later hb); have HMU := Lib.hid (HMU.out.later hb); clear m0 m1 m2 m3 m4 m5 m6 x0 x1 x2 x3 x4 x5 x6 HTT; have HRT := Lib.hid (HRT.out.later hb); obtain ⟨m0, m1, m2, m3, m4, m5, m6⟩ := cells7 HRT.out.box; obtain ⟨x0, x1, x2, x3, x4, x5, x6⟩ := cells7 HKU.out; have hlm := HRT.out.box.lt; clear hb)
    | (go_at_call 6; refine (refRight12 _ _ _ HDU.out (kn_J HDU.out.K HMU.out.K hcn)).mono ?_; rintro e v5 ⟨R5, rfl, hb, hr⟩; obtain rfl : R5 = true := hr.2 (went_right HRI.out HF.out HF8.out); have HDU := Lib.hid (HDU.out.later hb); have HKU := Lib.hid (HKU.out.later hb); have HMU := Lib.hid (HMU.out.later hb); clear m0 m1 m2 m3 m4 m5 m6 x0 x1 x2 x3 x4 x5 x6; have HRT := Lib.hid (HRT.out.later hb); obtain ⟨m0, m1, m2, m3, m4, m5, m6⟩ := cells7 HRT.out.box; obtain ⟨x0, x1, x2, x3, x4, x5, x6⟩ := cells7 HKU.out; have hlm := HRT.out.box.lt; clear hb hr)
    | (go_at_call 9; (with_reducible refine (num12 _ (by unfold I64; omega) _).mono ?_); rintro e w' ⟨rfl, hw⟩; obtain rfl := hw.symm)
    | (go_at_call 7; (with_reducible refine (HAW.out _ HBE2.out).mono ?_); rintro e w9 ⟨rfl, hb9⟩))
  all_goals first
    | (go_ret; exact ⟨rfl, hb9⟩)
    | skip
  · have hym : y2mn ≤ 1000 := HDU.out.B.lens.2
    have HRZ := HRT
    clear m0 m1 m2 m3 m4 m5 m6 x0 x1 x2 x3 x4 x5 x6
    go_loopw [12] (fun i wr => ∃ j : Nat, j ≤ y2mn ∧ i = .int .i64 j ∧ Hid (Below v5.heap.size v5 wr)) (fun i _ => y2mn - (intOf i).toNat)
    case atStart => exact ⟨0, Nat.zero_le _, rfl, Below.refl _ _⟩
    case round =>
      obtain ⟨j, hj, rfl, HB⟩ := hrel
      have HKj := Lib.hid (HKU.out.later HB.out)
      have HDj := Lib.hid (HDU.out.later HB.out)
      obtain ⟨x0, x1, x2, x3, x4, x5, x6⟩ := cells7 HKj.out
      have hlb := HKj.out.lt
      by_cases hlt : j < y2mn
      · obtain ⟨b, off, nm6, on, al, ll, cl, l, hsa, hBj, hbl, _, u0, u1, u2, hs⟩ := HDj.out.B.at j hlt
        (try dsimp only at hsa)
        subst hsa
        have hc0 : 0 ≤ c' := HRI.out.c.1
        have hE2 : IntKind.u64.wrap c' = c' := by have := HRI.out.c; dsimp only at this; rw [IntKind.wrap_u64]; omega
        have hE3 : min c'.toNat 64 = c'.toNat := by have := HRI.out.c; dsimp only at this; omega
        have hsp0 : 0 ≤ s' := HRI.out.s.1
        obtain ⟨n3, hn3⟩ : ∃ n3, s' / 2 ^ c'.toNat = n3 := ⟨_, rfl⟩
        obtain ⟨W1, hW1⟩ := named (wr.alloc (.cells #[.int .i64 0, .int .i64 n3] 40))
        obtain ⟨LB, hLB⟩ := named wr.heap.size
        have hlb' := hLB.out
        have HW : Hid (Below wr.heap.size wr W1) := by rw [← hW1.out]; exact (Below.refl _ wr).alloc (Nat.le_refl _) _
        have HN3 : Hid (Blk W1 LB 40 #[.int .i64 0, .int .i64 n3]) := by rw [← hW1.out, ← hLB.out]; exact Blk.new _ _ _
        obtain ⟨z0, z1, z2, z3, z4, z5, z6⟩ := cells7 (HKj.out.later HW.out)
        have k1 := (HW.out.cell (p := ⟨b, off + j * 3 + 1, none⟩) hbl).trans u1
        have k2 := (HW.out.cell (p := ⟨b, off + j * 3 + 2, none⟩) hbl).trans u2
        have t0 : W1.cell? ⟨LB, 0, none⟩ = some (.int .i64 0) := HN3.out.cell 0
        have t1 : W1.cell? ⟨LB, 1, none⟩ = some (.int .i64 n3) := HN3.out.cell 1
        have HNX := Lib.hid ((HB.out.trans (HW.out.mono HB.out.size)))
        clear u0 u1 u2
        have hj0 : (0 : Int) ≤ j := by omega
        have hj1 : (j : Int) < y2mn := by omega
        cases on with
        | false =>
          clear hs hBj
          go_wp2
          rw [hW1.out]
          clear x0 x1 x2 x3 x4 x5 x6
          go_quiet (fail)
          go_wp2
          go_roundw
          case rel => exact ⟨j + 1, by omega, by go_num, below_drewN9 HNX.out _⟩
          case measure => simp [intOf]; omega
        | true =>
          by_cases hs0 : 0 < s'
          · have hl := went_maps (M := ({ c := c', s := s', bk := bk', T := T, S := S, B := B, K := K } : MM)) HRI.out hs0 hBj
            dsimp only at hl
            rw [hn3] at hl
            subst hl
            obtain ⟨g, o, rfl, rfl, hg, hcl, p0, p1⟩ := sp_one hs
            have q0 := (HW.out.cell (p := ⟨g, o, none⟩) hg).trans p0
            have q1 := (HW.out.cell (p := ⟨g, o + 1, none⟩) hg).trans p1
            have hq := fun w => neq_spn n3 w
            have d0 : decide (0 < s') = true := decide_eq_true hs0
            clear hs hBj p0 p1
            go_wp2
            rw [hW1.out]
            clear x0 x1 x2 x3 x4 x5 x6
            go_quiet (fail)
            go_wp2
            go_roundw
            case rel => exact ⟨j + 1, by omega, by go_num, below_drewN9 HNX.out _⟩
            case measure => simp [intOf]; omega
          · have d0 : decide (0 < s') = false := decide_eq_false hs0
            clear hs hBj
            go_wp2
            rw [hW1.out]
            clear x0 x1 x2 x3 x4 x5 x6
            go_quiet (fail)
            go_wp2
            go_roundw
            case rel => exact ⟨j + 1, by omega, by go_num, below_drewN9 HNX.out _⟩
            case measure => simp [intOf]; omega
      · obtain rfl : j = y2mn := by omega
        have hdl : decide ((j : Int) < j) = false := decide_eq_false (by omega)
        have HRj := Lib.hid (HRZ.out.later HB.out)
        have HDRP : Hid (Calls Try.prog 13 #[.agg #[.int .i64 c', .int .i64 s', .string bk', .slice y2t y2tn y2tc, .slice y2s y2sn y2sc, .slice y2m j y2mc, .slice y2k y2kn y2kc], .string ⟨#[106, 117, 115, 116, 45, 110, 111, 119]⟩] wr fun e w' => ∃ (a3 : Option Addr) (l3 p3 : Nat) (sa9 : Option Addr) (sc9 : Nat) (a5 : Option Addr) (l5 p5 : Nat) (a6 : Option Addr) (l6 p6 : Nat), e = .returned (.tuple #[.agg #[.int .i64 c', .int .i64 s', .string bk', .slice a3 l3 p3, .slice sa9 sn0 sc9, .slice a5 l5 p5, .slice a6 l6 p6], .int .i64 0]) ∧ Below wr.heap.size wr w') :=
          (shotsDropJ wr ⟨y2t, y2tn, y2tc, y2s, y2sn, y2sc, y2m, j, y2mc, y2k, y2kn, y2kc⟩ ({ c := c', s := s', bk := bk', T := T, S := S, B := B, K := K } : MM) HDj.out HF.out hsl.1).mono fun e w' ⟨v3, sa9, sc9, v5, v6, e1, ⟨a3, l3, p3, e3⟩, ⟨a5, l5, p5, e5⟩, ⟨a6, l6, p6, e6⟩, e7⟩ => ⟨a3, l3, p3, sa9, sc9, a5, l5, p5, a6, l6, p6, by rw [e1, e3, e5, e6], e7⟩
        go_wp2_with (first
          | (go_at_call 13; (with_reducible refine HDRP.out.mono ?_); rintro e v6 ⟨a3, l3, p3, sa9, sc9, a5, l5, p5, a6, l6, p6, rfl, hb⟩; have HKV : Hid (Blk (v6.alloc (.cells #[.int .i64 c', .int .i64 s', .string bk', .slice a3 l3 p3, .slice sa9 sn0 sc9, .slice a5 l5 p5, .slice a6 l6 p6] 29)) v6.heap.size 29 #[.int .i64 c', .int .i64 s', .string bk', .slice a3 l3 p3, .slice sa9 sn0 sc9, .slice a5 l5 p5, .slice a6 l6 p6]) := Blk.new _ _ _; have HRV := Lib.hid (HRj.out.later (hb.alloc hb.size (.cells #[.int .i64 c', .int .i64 s', .string bk', .slice a3 l3 p3, .slice sa9 sn0 sc9, .slice a5 l5 p5, .slice a6 l6 p6] 29))); clear x0 x1 x2 x3 x4 x5 x6 hb; obtain ⟨x0, x1, x2, x3, x4, x5, x6⟩ := cells7 HKV.out; obtain ⟨m0, m1, m2, m3, m4, m5, m6⟩ := cells7 HRV.out.box; have hlm := HRV.out.box.lt)
          | (go_at_call 9; (with_reducible refine (num12 _ (by unfold I64; decide) _).mono ?_); rintro e w' ⟨rfl, hw⟩; obtain rfl := hw.symm)
          | (go_at_call 7; (with_reducible refine (HAW.out _ HRV.out.below).mono ?_); rintro e w9 ⟨rfl, hb9⟩))
        go_ret
        exact ⟨rfl, hb9⟩
  · have hym : y2mn ≤ 1000 := HDU.out.B.lens.2
    have HRZ := HRT
    clear m0 m1 m2 m3 m4 m5 m6 x0 x1 x2 x3 x4 x5 x6
    go_loopw [12] (fun i wr => ∃ j : Nat, j ≤ y2mn ∧ i = .int .i64 j ∧ Hid (Below v5.heap.size v5 wr)) (fun i _ => y2mn - (intOf i).toNat)
    case atStart => exact ⟨0, Nat.zero_le _, rfl, Below.refl _ _⟩
    case round =>
      obtain ⟨j, hj, rfl, HB⟩ := hrel
      have HKj := Lib.hid (HKU.out.later HB.out)
      have HDj := Lib.hid (HDU.out.later HB.out)
      obtain ⟨x0, x1, x2, x3, x4, x5, x6⟩ := cells7 HKj.out
      have hlb := HKj.out.lt
      by_cases hlt : j < y2mn
      · obtain ⟨b, off, nm6, on, al, ll, cl, l, hsa, hBj, hbl, _, u0, u1, u2, hs⟩ := HDj.out.B.at j hlt
        (try dsimp only at hsa)
        subst hsa
        have hc0 : 0 ≤ c' := HRI.out.c.1
        have hE2 : IntKind.u64.wrap c' = c' := by have := HRI.out.c; dsimp only at this; rw [IntKind.wrap_u64]; omega
        have hE3 : min c'.toNat 64 = c'.toNat := by have := HRI.out.c; dsimp only at this; omega
        have hsp0 : 0 ≤ s' := HRI.out.s.1
        obtain ⟨n3, hn3⟩ : ∃ n3, s' / 2 ^ c'.toNat = n3 := ⟨_, rfl⟩
        obtain ⟨W1, hW1⟩ := named (wr.alloc (.cells #[.int .i64 0, .int .i64 n3] 40))
        obtain ⟨LB, hLB⟩ := named wr.heap.size
        have hlb' := hLB.out
        have HW : Hid (Below wr.heap.size wr W1) := by rw [← hW1.out]; exact (Below.refl _ wr).alloc (Nat.le_refl _) _
        have HN3 : Hid (Blk W1 LB 40 #[.int .i64 0, .int .i64 n3]) := by rw [← hW1.out, ← hLB.out]; exact Blk.new _ _ _
        obtain ⟨z0, z1, z2, z3, z4, z5, z6⟩ := cells7 (HKj.out.later HW.out)
        have k1 := (HW.out.cell (p := ⟨b, off + j * 3 + 1, none⟩) hbl).trans u1
        have k2 := (HW.out.cell (p := ⟨b, off + j * 3 + 2, none⟩) hbl).trans u2
        have t0 : W1.cell? ⟨LB, 0, none⟩ = some (.int .i64 0) := HN3.out.cell 0
        have t1 : W1.cell? ⟨LB, 1, none⟩ = some (.int .i64 n3) := HN3.out.cell 1
        have HNX := Lib.hid ((HB.out.trans (HW.out.mono HB.out.size)))
        clear u0 u1 u2
        have hj0 : (0 : Int) ≤ j := by omega
        have hj1 : (j : Int) < y2mn := by omega
        cases on with
        | false =>
          clear hs hBj
          go_wp2
          rw [hW1.out]
          clear x0 x1 x2 x3 x4 x5 x6
          go_quiet (fail)
          go_wp2
          go_roundw
          case rel => exact ⟨j + 1, by omega, by go_num, below_drewN9 HNX.out _⟩
          case measure => simp [intOf]; omega
        | true =>
          by_cases hs0 : 0 < s'
          · have hl := went_maps (M := ({ c := c', s := s', bk := bk', T := T, S := S, B := B, K := K } : MM)) HRI.out hs0 hBj
            dsimp only at hl
            rw [hn3] at hl
            subst hl
            obtain ⟨g, o, rfl, rfl, hg, hcl, p0, p1⟩ := sp_one hs
            have q0 := (HW.out.cell (p := ⟨g, o, none⟩) hg).trans p0
            have q1 := (HW.out.cell (p := ⟨g, o + 1, none⟩) hg).trans p1
            have hq := fun w => neq_spn n3 w
            have d0 : decide (0 < s') = true := decide_eq_true hs0
            clear hs hBj p0 p1
            go_wp2
            rw [hW1.out]
            clear x0 x1 x2 x3 x4 x5 x6
            go_quiet (fail)
            go_wp2
            go_roundw
            case rel => exact ⟨j + 1, by omega, by go_num, below_drewN9 HNX.out _⟩
            case measure => simp [intOf]; omega
          · have d0 : decide (0 < s') = false := decide_eq_false hs0
            clear hs hBj
            go_wp2
            rw [hW1.out]
            clear x0 x1 x2 x3 x4 x5 x6
            go_quiet (fail)
            go_wp2
            go_roundw
            case rel => exact ⟨j + 1, by omega, by go_num, below_drewN9 HNX.out _⟩
            case measure => simp [intOf]; omega
      · obtain rfl : j = y2mn := by omega
        have hdl : decide ((j : Int) < j) = false := decide_eq_false (by omega)
        have HRj := Lib.hid (HRZ.out.later HB.out)
        have HDRP : Hid (Calls Try.prog 13 #[.agg #[.int .i64 c', .int .i64 s', .string bk', .slice y2t y2tn y2tc, .slice y2s y2sn y2sc, .slice y2m j y2mc, .slice y2k y2kn y2kc], .string ⟨#[106, 117, 115, 116, 45, 110, 111, 119]⟩] wr fun e w' => ∃ (a3 : Option Addr) (l3 p3 : Nat) (sa9 : Option Addr) (sc9 : Nat) (a5 : Option Addr) (l5 p5 : Nat) (a6 : Option Addr) (l6 p6 : Nat), e = .returned (.tuple #[.agg #[.int .i64 c', .int .i64 s', .string bk', .slice a3 l3 p3, .slice sa9 sn0 sc9, .slice a5 l5 p5, .slice a6 l6 p6], .int .i64 0]) ∧ Below wr.heap.size wr w') :=
          (shotsDropJ wr ⟨y2t, y2tn, y2tc, y2s, y2sn, y2sc, y2m, j, y2mc, y2k, y2kn, y2kc⟩ ({ c := c', s := s', bk := bk', T := T, S := S, B := B, K := K } : MM) HDj.out HF.out hsl.1).mono fun e w' ⟨v3, sa9, sc9, v5, v6, e1, ⟨a3, l3, p3, e3⟩, ⟨a5, l5, p5, e5⟩, ⟨a6, l6, p6, e6⟩, e7⟩ => ⟨a3, l3, p3, sa9, sc9, a5, l5, p5, a6, l6, p6, by rw [e1, e3, e5, e6], e7⟩
        go_wp2_with (first
          | (go_at_call 13; (with_reducible refine HDRP.out.mono ?_); rintro e v6 ⟨a3, l3, p3, sa9, sc9, a5, l5, p5, a6, l6, p6, rfl, hb⟩; have HKV : Hid (Blk (v6.alloc (.cells #[.int .i64 c', .int .i64 s', .string bk', .slice a3 l3 p3, .slice sa9 sn0 sc9, .slice a5 l5 p5, .slice a6 l6 p6] 29)) v6.heap.size 29 #[.int .i64 c', .int .i64 s', .string bk', .slice a3 l3 p3, .slice sa9 sn0 sc9, .slice a5 l5 p5, .slice a6 l6 p6]) := Blk.new _ _ _; have HRV := Lib.hid (HRj.out.later (hb.alloc hb.size (.cells #[.int .i64 c', .int .i64 s', .string bk', .slice a3 l3 p3, .slice sa9 sn0 sc9, .slice a5 l5 p5, .slice a6 l6 p6] 29))); clear x0 x1 x2 x3 x4 x5 x6 hb; obtain ⟨x0, x1, x2, x3, x4, x5, x6⟩ := cells7 HKV.out; obtain ⟨m0, m1, m2, m3, m4, m5, m6⟩ := cells7 HRV.out.box; have hlm := HRV.out.box.lt)
          | (go_at_call 9; (with_reducible refine (num12 _ (by unfold I64; decide) _).mono ?_); rintro e w' ⟨rfl, hw⟩; obtain rfl := hw.symm)
          | (go_at_call 7; (with_reducible refine (HAW.out _ HRV.out.below).mono ?_); rintro e w9 ⟨rfl, hb9⟩))
        go_ret
        exact ⟨rfl, hb9⟩

set_option maxRecDepth 100000 in
theorem lifted (os : Os) (started : os.Started) (H : Type) (enc : TypeId × Value → H) :
    ReturnsInHanded {} Try.checked os 3 .any (Rows.shotBackSpec.pre6 enc Try.prog Try.f3 Rows.shotBackRow.domain false) (Rows.shotBackSpec.post enc Try.prog Try.f3 false true false false) := by
  refine returnsInHanded_of_change (C := Try.checked) own started (by kernel_rfl) Try.func3
    (ChangeSpec.witness6 (enc := enc) (C := Try.checked) false ⟨#[], #[.agg #[.int .i64 0, .int .i64 0, .string ByteArray.empty, .slice none 0 0, .slice none 0 0, .slice none 0 0, .slice none 0 0], .agg #[.slice none 0 0], .int .u8 0], []⟩ 8 (by kernel_rfl) (by kernel_rfl) (by kernel_rfl) (by kernel_rfl)) ?_
  intro W base args ds gs before hval0 hW hcnd _
  have hval : ∀ (j : Nat) t v, Try.f3.params[j]? = some t → args[j]? = some v → Value.okWide Try.prog W .any base t v := hval0
  have hW' := hW
  obtain ⟨p, q, hA0, hV, rfl, hfz, hnd⟩ := hW
  have hA : DataW.TrodAll enc Try.prog W 0 (fun _ => true) true Try.f3.params.toList args.toList ds p := hA0
  rw [Try.params3] at hA hval
  obtain ⟨v0, vs0, d0, ds0, p0, q0, hargs, rfl, rfl, h0, r0⟩ := trodAll_cons hA
  obtain ⟨v1, vs1, d1, ds1, p1, q1, rfl, rfl, rfl, h1, r1⟩ := trodAll_cons r0
  obtain ⟨v2, vs2, d2, ds2, p2, q2, rfl, rfl, rfl, h2, r2⟩ := trodAll_cons r1
  obtain ⟨rfl, rfl, rfl⟩ := trodAll_nil r2
  obtain rfl : args = #[v0, v1, v2] := by cases args; simp_all
  obtain ⟨rfl, rfl⟩ := trodVars_none hV
  have k0 := h0
  have lt0 : ∀ x ∈ p0, x.block < W.heap.size := by obtain ⟨m, hm⟩ := k0; exact DataW.trod_lt m _ _ _ hm
  obtain ⟨mc0, ms0, mb0, ta0, tn0, tc0, sa0, sn0, sc0, ba0, bn0, bc0, ca0, cn0, cc0, rfl, w0⟩ := meta_open (hval 0 29 v0 rfl rfl) h0
  have k1 := h1
  have lt1 : ∀ x ∈ p1, x.block < W.heap.size := by obtain ⟨m, hm⟩ := k1; exact DataW.trod_lt m _ _ _ hm
  obtain ⟨a1, len1, cap1, rfl, w1⟩ := tab_open (hval 1 24 v1 rfl rfl) h1
  have k2 := h2
  have lt2 : ∀ x ∈ p2, x.block < W.heap.size := by obtain ⟨m, hm⟩ := k2; exact DataW.trod_lt m _ _ _ hm
  obtain ⟨a2, rfl, _, _, w2⟩ := open_int Try.underlying5 (hval 2 5 v2 rfl rfl) h2
  clear hA0 hval0
  refine (walk mc0 ms0 mb0 ta0 tn0 tc0 sa0 sn0 sc0 ba0 bn0 bc0 ca0 cn0 cc0 a1 len1 cap1 a2 W w0 w1 w2).mono fun e W' ⟨he, bel⟩ => ?_
  subst he
  exact ⟨_, rfl, _, _, _, [], _, [], hW', trodAll_mk1 (shut_bool Try.underlying4 _), (trodAll_cons_mk (Below.trod laidOut (by kernel_rfl) (of_decide_eq_true (by kernel_rfl)) k0 bel lt0) (trodAll_cons_mk (Below.trod laidOut (by kernel_rfl) (of_decide_eq_true (by kernel_rfl)) k1 bel lt1) (trodAll_cons_mk (Below.trod laidOut (by kernel_rfl) (of_decide_eq_true (by kernel_rfl)) k2 bel lt2) trodAll_mk0))), rfl, bel.frame _, fun h => by cases h⟩

theorem over : Rows.shotBackRow.holds Try.pinned (OpenSpec.ofChange Rows.shotBackSpec) :=
  OpenClaim.holds_of_wide 3 Try.f3 rfl rfl rfl rfl rfl rfl rfl ⟨rfl, rfl, rfl, rfl, rfl⟩ rfl rfl rfl rfl rfl (by kernel_rfl) Try.func3 (by kernel_rfl)
    (of_decide_eq_true (by kernel_rfl)) (by unfold Func.isWrapper; first | (rw [if_pos (by decide +kernel)]; kernel_rfl) | (rw [if_neg (by decide +kernel)]; exact ⟨rfl, rfl⟩))
    (fun os started H enc _ => lifted os started H enc)

/-- The statement. -/
theorem proved : Rows.ShotBackSaid := over
#print axioms proved
end Go.Proofs.Ytipljkegmhclkaa.shotBack
