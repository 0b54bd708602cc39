/-
  Proved: 'matryoshkalaw12.ShotApart' returns true for every input: the statement ShotApartSaid as given. Conditions: none beyond the row's own.
-/
import Derived.Test.YtjaaieamlgghhaaRows
import Derived.Test.YtjaaieamlgghhaaTj
import Derived.WalkKit
import Derived.ProofKit
import Derived.OpenShut
import Derived.ShutString
import Derived.ChangeOld
import Derived.Below
namespace Go.Proofs.Ytjaaieamlgghhaa.shotApart
open Go.ChangeShapes Go.WideShapes Go.ChangeAt Go.RowKit
open Go.ChangeMaps (open_string shut_string)
set_option linter.unusedVariables false

theorem own : ownKnob Try.prog.godebug = none := by kernel_rfl
theorem laidOut : laidOutB Try.prog = true := by kernel_rfl

set_option maxRecDepth 100000 in
set_option maxHeartbeats 16000000 in
theorem walk (mc0 ms0 : Int) (mb0 : ByteArray) (ta0 : Option Addr) (tn0 tc0 : Nat) (sa0 : Option Addr) (sn0 sc0 : Nat) (ba0 : Option Addr) (bn0 bc0 : Nat) (ca0 : Option Addr) (cn0 cc0 : Nat) (w : World) (w0 : MetaArg w mc0 ms0 mb0 ta0 tn0 tc0 sa0 sn0 sc0 ba0 bn0 bc0 ca0 cn0 cc0) :
    Calls Try.prog 5 #[.agg #[.int .i64 mc0, .int .i64 ms0, .string mb0, .slice ta0 tn0 tc0, .slice sa0 sn0 sc0, .slice ba0 bn0 bc0, .slice ca0 cn0 cc0]] w fun e w' => e = .returned (.bool true) ∧ Below w.heap.size w w' := by
  have HGR := Lib.hid (fun (W : World) (hb : Below w.heap.size w W) => great_md (w0.later hb))
  have HRT := Lib.hid (RtS.first w #[.int .i64 mc0, .int .i64 ms0, .string mb0, .slice ta0 tn0 tc0, .slice sa0 sn0 sc0, .slice ba0 bn0 bc0, .slice ca0 cn0 cc0])
  have HAW : Hid (∀ W, Below w.heap.size w W → Calls Try.prog 15 #[] W fun e w' => e = .returned (.bool true) ∧ Below w.heap.size w w') := fun W hb => (awake12 W).mono fun e w' h => ⟨h.1, hb.trans (h.2.mono hb.size)⟩
  go_enter Try.func5, Try.ntmps5
  go_wp2_with (first
    | (go_at_call 13; (with_reducible refine (HGR.out _ HRT.out.below).mono ?_); rintro e w2 ⟨G, rfl, h, hg⟩; have HGG := Lib.hid hg; have HB2 := Lib.hid h; have HRT := Lib.hid (HRT.out.later h); obtain ⟨m0, m1, m2, m3, m4, m5, m6⟩ := cells7 HRT.out.box; clear h hg; cases G)
    | (go_at_call 15; (with_reducible refine (HAW.out _ HRT.out.below).mono ?_); rintro e w9 ⟨rfl, hb9⟩)
    | (go_at_call 14; obtain ⟨⟨c', s', bk', T, S, B, K⟩, q1, q2, q3, h20, h21, hcn, h500, hMD⟩ := HGG.out (by first | rfl | trivial); dsimp only at q1 q2 q3 h500; subst q1 q2 q3; have HMD := Lib.hid (hMD.later HB2.out); refine (refRight12 _ _ _ HMD.out (by show cn0 ≤ 65536; omega)).mono ?_; rintro e w3 ⟨R, rfl, h, hr⟩; have HMD := Lib.hid (HMD.out.later h); have HRR := Lib.hid hr.1; have hsl := HMD.out.S.lens; have HRT := Lib.hid (HRT.out.later h); obtain ⟨m0, m1, m2, m3, m4, m5, m6⟩ := cells7 HRT.out.box; clear h hr hMD; cases R)
    | (go_at_call 16; have HMI := Lib.hid (mild_of (HRR.out (by first | rfl | trivial)) h500); have HRI := Lib.hid (HRR.out (by first | rfl | trivial)); have HS0 := Lib.hid (Below.refl w3.heap.size w3); have HCP : Hid (∀ W, Below w3.heap.size w3 W → Calls Try.prog 16 #[.agg #[.int .i64 c', .int .i64 s', .string bk', .slice ta0 tn0 tc0, .slice sa0 sn0 sc0, .slice ba0 bn0 bc0, .slice ca0 cn0 cc0]] W fun e w' => ∃ y0t y0tn y0tc y0s y0sn y0sc y0m y0mn y0mc y0k y0kn y0kc, e = .returned (.agg #[.int .i64 c', .int .i64 s', .string bk', .slice y0t y0tn y0tc, .slice y0s y0sn y0sc, .slice y0m y0mn y0mc, .slice y0k y0kn y0kc]) ∧ MetaD w' ⟨y0t, y0tn, y0tc, y0s, y0sn, y0sc, y0m, y0mn, y0mc, y0k, y0kn, y0kc⟩ ({ c := c', s := s', bk := bk', T := T, S := S, B := B, K := K } : MM) ∧ Below w3.heap.size w3 w' ∧ Below W.heap.size W w') := (fun W hs => (refCopy W ⟨ta0, tn0, tc0, sa0, sn0, sc0, ba0, bn0, bc0, ca0, cn0, cc0⟩ ({ c := c', s := s', bk := bk', T := T, S := S, B := B, K := K } : MM) (HMD.out.later hs)).mono fun e w' ⟨⟨y0t, y0tn, y0tc, y0s, y0sn, y0sc, y0m, y0mn, y0mc, y0k, y0kn, y0kc⟩, H0, e1, e2, e3⟩ => ⟨y0t, y0tn, y0tc, y0s, y0sn, y0sc, y0m, y0mn, y0mc, y0k, y0kn, y0kc, e1, e2.d, hs.trans (e3.mono hs.size), e3⟩); clear h500; (with_reducible refine (HCP.out _ HS0.out).mono ?_); rintro e v0 ⟨y0t, y0tn, y0tc, y0s, y0sn, y0sc, y0m, y0mn, y0mc, y0k, y0kn, y0kc, rfl, hD, hs, hb⟩; have HD0 := Lib.hid hD; clear m0 m1 m2 m3 m4 m5 m6; have HRT := Lib.hid (HRT.out.later hb); obtain ⟨m0, m1, m2, m3, m4, m5, m6⟩ := cells7 HRT.out.box; have hlm := HRT.out.box.lt; have HS1 := Lib.hid (hs.alloc hs.size (.cells #[.int .i64 c', .int .i64 s', .string bk', .slice y0t y0tn y0tc, .slice y0s y0sn y0sc, .slice y0m y0mn y0mc, .slice y0k y0kn y0kc] 29)); have HV0 := Lib.hid hs; clear hD hs hb HCP)
    | (go_at_call 17; have HZ : Hid (∀ z, addM ({ c := c', s := s', bk := bk', T := T, S := S, B := B, K := K } : MM) txO = (MM0, z) → ∀ W, Below w3.heap.size w3 W → Calls Try.prog 17 #[.agg #[.int .i64 c', .int .i64 s', .string bk', .slice ta0 tn0 tc0, .slice sa0 sn0 sc0, .slice ba0 bn0 bc0, .slice ca0 cn0 cc0], .string ⟨#[111, 110, 101, 45, 109, 111, 114, 101]⟩] W fun e w' => ∃ y1t y1tn y1tc y1s y1sn y1sc y1m y1mn y1mc y1k y1kn y1kc, e = .returned (.tuple #[.agg #[.int .i64 0, .int .i64 0, .string ByteArray.empty, .slice y1t y1tn y1tc, .slice y1s y1sn y1sc, .slice y1m y1mn y1mc, .slice y1k y1kn y1kc], .int .i64 z]) ∧ Below w3.heap.size w3 w' ∧ Below W.heap.size W w') := (fun z hz W hs => ((hz ▸ shotsAdd _ ⟨ta0, tn0, tc0, sa0, sn0, sc0, ba0, bn0, bc0, ca0, cn0, cc0⟩ ({ c := c', s := s', bk := bk', T := T, S := S, B := B, K := K } : MM) (HMD.out.later hs) txO (by decide) : Calls Try.prog 17 #[.agg #[.int .i64 c', .int .i64 s', .string bk', .slice ta0 tn0 tc0, .slice sa0 sn0 sc0, .slice ba0 bn0 bc0, .slice ca0 cn0 cc0], .string ⟨#[111, 110, 101, 45, 109, 111, 114, 101]⟩] W (GiveM W (MM0, z)))).mono fun e w' ⟨⟨y1t, y1tn, y1tc, y1s, y1sn, y1sc, y1m, y1mn, y1mc, y1k, y1kn, y1kc⟩, lo, hi, e1, e2, e3⟩ => ⟨y1t, y1tn, y1tc, y1s, y1sn, y1sc, y1m, y1mn, y1mc, y1k, y1kn, y1kc, e1, hs.trans (e3.mono hs.size), e3⟩); have HY : Hid (addM ({ c := c', s := s', bk := bk', T := T, S := S, B := B, K := K } : MM) txO = (({ c := c', s := s', bk := bk', T := T, S := S ++ [(txO, s', T)], B := B, K := K } : MM), 0) → ∀ W, Below w3.heap.size w3 W → Calls Try.prog 17 #[.agg #[.int .i64 c', .int .i64 s', .string bk', .slice ta0 tn0 tc0, .slice sa0 sn0 sc0, .slice ba0 bn0 bc0, .slice ca0 cn0 cc0], .string ⟨#[111, 110, 101, 45, 109, 111, 114, 101]⟩] W fun e w' => ∃ y1t y1tn y1tc y1s y1sn y1sc y1m y1mn y1mc y1k y1kn y1kc lo hi, e = .returned (.tuple #[.agg #[.int .i64 c', .int .i64 s', .string bk', .slice y1t y1tn y1tc, .slice y1s y1sn y1sc, .slice y1m y1mn y1mc, .slice y1k y1kn y1kc], .int .i64 0]) ∧ MetaN w' W.heap.size (Iv lo hi) (Out lo hi) ⟨y1t, y1tn, y1tc, y1s, y1sn, y1sc, y1m, y1mn, y1mc, y1k, y1kn, y1kc⟩ ({ c := c', s := s', bk := bk', T := T, S := S ++ [(txO, s', T)], B := B, K := K } : MM) ∧ Below w3.heap.size w3 w' ∧ Below W.heap.size W w') := (fun hz W hs => ((hz ▸ shotsAdd _ ⟨ta0, tn0, tc0, sa0, sn0, sc0, ba0, bn0, bc0, ca0, cn0, cc0⟩ ({ c := c', s := s', bk := bk', T := T, S := S, B := B, K := K } : MM) (HMD.out.later hs) txO (by decide) : Calls Try.prog 17 #[.agg #[.int .i64 c', .int .i64 s', .string bk', .slice ta0 tn0 tc0, .slice sa0 sn0 sc0, .slice ba0 bn0 bc0, .slice ca0 cn0 cc0], .string ⟨#[111, 110, 101, 45, 109, 111, 114, 101]⟩] W (GiveM W (({ c := c', s := s', bk := bk', T := T, S := S ++ [(txO, s', T)], B := B, K := K } : MM), 0)))).mono fun e w' ⟨⟨y1t, y1tn, y1tc, y1s, y1sn, y1sc, y1m, y1mn, y1mc, y1k, y1kn, y1kc⟩, lo, hi, e1, e2, e3⟩ => ⟨y1t, y1tn, y1tc, y1s, y1sn, y1sc, y1m, y1mn, y1mc, y1k, y1kn, y1kc, lo, hi, e1, e2, hs.trans (e3.mono hs.size), e3⟩); rcases add_cases ({ c := c', s := s', bk := bk', T := T, S := S, B := B, K := K } : MM) with ⟨z, hz, h5⟩ | ⟨hz, hf⟩; all_goals first | (rcases h5 with rfl | rfl; all_goals ((with_reducible refine (HZ.out _ hz _ HS1.out).mono ?_); rintro e v1 ⟨y1t, y1tn, y1tc, y1s, y1sn, y1sc, y1m, y1mn, y1mc, y1k, y1kn, y1kc, rfl, hs, hb⟩; have HBE := Lib.hid (HRT.out.below.trans ((((Below.refl _ v0).alloc (Nat.le_refl _) (.cells #[.int .i64 c', .int .i64 s', .string bk', .slice y0t y0tn y0tc, .slice y0s y0sn y0sc, .slice y0m y0mn y0mc, .slice y0k y0kn y0kc] 29)).trans (hb.mono (by simp))).mono HRT.out.below.size)); have HBE2 := Lib.hid (HBE.out.alloc HBE.out.size (.cells #[.int .i64 0, .int .i64 0, .string ByteArray.empty, .slice y1t y1tn y1tc, .slice y1s y1sn y1sc, .slice y1m y1mn y1mc, .slice y1k y1kn y1kc] 29)); clear hs hb)) | ((with_reducible refine (HY.out hz _ HS1.out).mono ?_); rintro e v1 ⟨y1t, y1tn, y1tc, y1s, y1sn, y1sc, y1m, y1mn, y1mc, y1k, y1kn, y1kc, lo, hi, rfl, hN, hs, hb⟩; have HAP : Hid (Apa (v0.alloc (.cells #[.int .i64 c', .int .i64 s', .string bk', .slice y0t y0tn y0tc, .slice y0s y0sn y0sc, .slice y0m y0mn y0mc, .slice y0k y0kn y0kc] 29)) v1.heap.size lo hi #[.int .i64 c', .int .i64 s', .string bk', .slice y1t y1tn y1tc, .slice y1s y1sn y1sc, .slice y1m y1mn y1mc, .slice y1k y1kn y1kc] ⟨y1t, y1tn, y1tc, y1s, y1sn, y1sc, y1m, y1mn, y1mc, y1k, y1kn, y1kc⟩ ({ c := c', s := s', bk := bk', T := T, S := S ++ [(txO, s', T)], B := B, K := K } : MM) (v1.alloc (.cells #[.int .i64 c', .int .i64 s', .string bk', .slice y1t y1tn y1tc, .slice y1s y1sn y1sc, .slice y1m y1mn y1mc, .slice y1k y1kn y1kc] 29))) := ⟨⟨_, SameS.refl _, hN.later ((Below.refl _ v1).alloc (Nat.le_refl _) (.cells #[.int .i64 c', .int .i64 s', .string bk', .slice y1t y1tn y1tc, .slice y1s y1sn y1sc, .slice y1m y1mn y1mc, .slice y1k y1kn y1kc] 29))⟩, Blk.new _ _ _, hb.alloc hb.size _⟩; have HF := Lib.hid hf; have HS2 := Lib.hid (hs.alloc hs.size (.cells #[.int .i64 c', .int .i64 s', .string bk', .slice y1t y1tn y1tc, .slice y1s y1sn y1sc, .slice y1m y1mn y1mc, .slice y1k y1kn y1kc] 29)); have HB01 := Lib.hid hb; clear hN hs hb))
    | (go_at_call 27; (with_reducible refine (num12 _ (by unfold I64; omega) _).mono ?_); rintro e w' ⟨rfl, hw⟩; obtain rfl := hw.symm)
    | (go_at_call 15; (with_reducible refine (HAW.out _ HBE2.out).mono ?_); rintro e w9 ⟨rfl, hb9⟩))
  all_goals first
    | (go_ret; exact ⟨rfl, hb9⟩)
    | skip
  have hyn : y1tn ≤ 6000 := by obtain ⟨⟨_, _, hN⟩, _, _⟩ := HAP.out; obtain ⟨_, _, _, h, _⟩ := hN.T; exact h
  go_loopw [6] (fun i wr => ∃ p : Nat, p ≤ y1tn ∧ i = .int .i64 p ∧ Hid (Apa (v0.alloc (.cells #[.int .i64 c', .int .i64 s', .string bk', .slice y0t y0tn y0tc, .slice y0s y0sn y0sc, .slice y0m y0mn y0mc, .slice y0k y0kn y0kc] 29)) v1.heap.size lo hi #[.int .i64 c', .int .i64 s', .string bk', .slice y1t y1tn y1tc, .slice y1s y1sn y1sc, .slice y1m y1mn y1mc, .slice y1k y1kn y1kc] ⟨y1t, y1tn, y1tc, y1s, y1sn, y1sc, y1m, y1mn, y1mc, y1k, y1kn, y1kc⟩ ({ c := c', s := s', bk := bk', T := T, S := S ++ [(txO, s', T)], B := B, K := K } : MM) wr)) (fun i _ => y1tn - (intOf i).toNat)
  case atStart => exact ⟨0, Nat.zero_le _, rfl, HAP.out⟩
  case round =>
    obtain ⟨p, hp, rfl, HP⟩ := hrel
    obtain ⟨p0, p1, p2, p3, p4, p5, p6⟩ := cells7 HP.out.box
    have hlb := HP.out.box.lt
    by_cases hlt : p < y1tn
    · obtain ⟨g, al9, cl9, hag, hc, hlf⟩ := HP.out.leaf p hlt
      (try dsimp only at hag)
      subst hag
      obtain ⟨L, hL⟩ := named (T.getD p []).length
      (try dsimp only at hc hlf)
      rw [hL.out] at hc hlf
      clear hc
      go_wp2
      go_loopw [7] (fun i wr => ∃ q : Nat, q ≤ L ∧ i = .int .i64 q ∧ Hid (Apa (v0.alloc (.cells #[.int .i64 c', .int .i64 s', .string bk', .slice y0t y0tn y0tc, .slice y0s y0sn y0sc, .slice y0m y0mn y0mc, .slice y0k y0kn y0kc] 29)) v1.heap.size lo hi #[.int .i64 c', .int .i64 s', .string bk', .slice (some ⟨g, 0, none⟩) y1tn y1tc, .slice y1s y1sn y1sc, .slice y1m y1mn y1mc, .slice y1k y1kn y1kc] ⟨(some ⟨g, 0, none⟩), y1tn, y1tc, y1s, y1sn, y1sc, y1m, y1mn, y1mc, y1k, y1kn, y1kc⟩ ({ c := c', s := s', bk := bk', T := T, S := S ++ [(txO, s', T)], B := B, K := K } : MM) wr)) (fun i _ => L - (intOf i).toNat)
      case atStart => exact ⟨0, Nat.zero_le _, rfl, HP.out⟩
      case round =>
        clear p0 p1 p2 p3 p4 p5 p6
        obtain ⟨q, hq, rfl, HQ⟩ := hrel
        obtain ⟨p0, p1, p2, p3, p4, p5, p6⟩ := cells7 HQ.out.box
        have hlb := HQ.out.box.lt
        by_cases hltq : q < L
        · obtain ⟨g', gi, cl8, s8, hag, hc, hf9, hs9, hst⟩ := HQ.out.store p q hlt (by (try dsimp only); rw [hL.out]; exact hltq)
          cases hag
          (try dsimp only at hc)
          rw [hL.out] at hc
          have HN := Lib.hid (hst 77 (by omega) (by omega))
          clear hst hL
          go_wp2
          go_roundw
          case rel => exact ⟨q + 1, by omega, by go_num, HN.out⟩
          case measure => simp [intOf]; omega
        · obtain rfl : q = L := by omega
          obtain ⟨g', al8, cl8, hag, hc, _⟩ := HQ.out.leaf p hlt
          cases hag
          (try dsimp only at hc)
          rw [hL.out] at hc
          clear hL
          go_wp2
          go_roundw
          case rel => exact ⟨p + 1, by omega, by go_num, HQ.out⟩
          case measure => simp [intOf]; omega
    · obtain rfl : p = y1tn := by omega
      obtain ⟨T', hS', hN'⟩ := HP.out.ex
      have hb0 : Below v0.heap.size v0 (v0.alloc (.cells #[.int .i64 c', .int .i64 s', .string bk', .slice y0t y0tn y0tc, .slice y0s y0sn y0sc, .slice y0m y0mn y0mc, .slice y0k y0kn y0kc] 29)) := (Below.refl _ v0).alloc (Nat.le_refl _) (.cells #[.int .i64 c', .int .i64 s', .string bk', .slice y0t y0tn y0tc, .slice y0s y0sn y0sc, .slice y0m y0mn y0mc, .slice y0k y0kn y0kc] 29)
      have HB0 := Lib.hid (hb0.trans (HP.out.dat.mono (by simp)))
      have HRW := Lib.hid (HRT.out.later HB0.out)
      have HDW := Lib.hid (HD0.out.later HB0.out)
      have HK0 := Lib.hid ((Blk.new v0 29 #[.int .i64 c', .int .i64 s', .string bk', .slice y0t y0tn y0tc, .slice y0s y0sn y0sc, .slice y0m y0mn y0mc, .slice y0k y0kn y0kc]).later HP.out.dat)
      have HMW : Hid (MetaD wr ⟨ta0, tn0, tc0, sa0, sn0, sc0, ba0, bn0, bc0, ca0, cn0, cc0⟩ ({ c := c', s := s', bk := bk', T := T, S := S, B := B, K := K } : MM)) := HMD.out.later (HV0.out.trans (HB0.out.mono HV0.out.size))
      have HAB := Lib.hid HP.out.box
      have HNW := Lib.hid hN'
      obtain ⟨hfa, hfb⟩ := fnd_added HF.out s' T
      have HFD : Hid (∀ W, Below wr.heap.size wr W → Calls Try.prog 23 #[.agg #[.int .i64 c', .int .i64 s', .string bk', .slice y1t p y1tc, .slice y1s y1sn y1sc, .slice y1m y1mn y1mc, .slice y1k y1kn y1kc], .string ⟨#[111, 110, 101, 45, 109, 111, 114, 101]⟩] W fun e w' => ∃ (al : Option Addr) (ll cl : Nat), e = .returned (.tuple #[.agg #[.string ⟨#[111, 110, 101, 45, 109, 111, 114, 101]⟩, .int .i64 s', .slice al ll cl], .bool true]) ∧ TabN w' W.heap.size al ll cl T ∧ Below W.heap.size W w') := fun W hb => by
        have h9 := shotsFind_yes W ⟨y1t, p, y1tc, y1s, y1sn, y1sc, y1m, y1mn, y1mc, y1k, y1kn, y1kc⟩ _ (HNW.out.d.later hb) txO _ hfa txO s' T hfb
        exact h9
      have HBK : Hid (∀ W, Below wr.heap.size wr W → Calls Try.prog 19 #[.agg #[.int .i64 c', .int .i64 s', .string bk', .slice y1t p y1tc, .slice y1s y1sn y1sc, .slice y1m y1mn y1mc, .slice y1k y1kn y1kc], .string ⟨#[111, 110, 101, 45, 109, 111, 114, 101]⟩] W fun e w' => ∃ y2t y2tn y2tc y2s y2sn y2sc y2m y2mn y2mc y2k y2kn y2kc, e = .returned (.tuple #[.agg #[.int .i64 c', .int .i64 s', .string bk', .slice y2t y2tn y2tc, .slice y2s y2sn y2sc, .slice y2m y2mn y2mc, .slice y2k y2kn y2kc], .int .i64 0]) ∧ Tab w' y2t y2tn y2tc T ∧ Below W.heap.size W w') := fun W hb => by
        have h9 := shotsBack W ⟨y1t, p, y1tc, y1s, y1sn, y1sc, y1m, y1mn, y1mc, y1k, y1kn, y1kc⟩ _ (HNW.out.d.later hb) (mild_added HMI.out txO T') txO
        have h8 := back_added (M := ({ c := c', s := s', bk := bk', T := T, S := S, B := B, K := K } : MM)) HF.out T'
        dsimp only at h8 h9
        rw [h8] at h9
        exact h9.mono fun e w' ⟨⟨y2t, y2tn, y2tc, y2s, y2sn, y2sc, y2m, y2mn, y2mc, y2k, y2kn, y2kc⟩, lo2, hi2, e1, e2, e3⟩ => ⟨y2t, y2tn, y2tc, y2s, y2sn, y2sc, y2m, y2mn, y2mc, y2k, y2kn, y2kc, e1, e2.d.T, e3⟩
      clear hb0 hS' hN' hfa hfb
      obtain ⟨V2, hV2⟩ : ∃ V2, V2 = wr := ⟨wr, rfl⟩
      subst hV2
      go_wp2_with (first
        | (go_at_call 23; (with_reducible refine (HFD.out _ (Below.refl _ _)).mono ?_); rintro e v5 ⟨al, ll, cl, rfl, hT, hb⟩; have HTS := Lib.hid hT; have HB5 := Lib.hid hb; have HK5 := Lib.hid (HK0.out.later hb); have HR5 := Lib.hid (HRW.out.later hb); have HSB : Hid (Blk (v5.alloc (.cells #[.string ⟨#[111, 110, 101, 45, 109, 111, 114, 101]⟩, .int .i64 s', .slice al ll cl] 39)) v5.heap.size 39 #[.string ⟨#[111, 110, 101, 45, 109, 111, 114, 101]⟩, .int .i64 s', .slice al ll cl]) := Blk.new _ _ _; obtain ⟨s0, s1, s2⟩ := cells3 HSB.out; have HAL := Lib.hid ((Below.refl _ v5).alloc (Nat.le_refl _) (.cells #[.string ⟨#[111, 110, 101, 45, 109, 111, 114, 101]⟩, .int .i64 s', .slice al ll cl] 39)); obtain ⟨p0, p1, p2, p3, p4, p5, p6⟩ := cells7 (HK5.out.later HAL.out); obtain ⟨m0, m1, m2, m3, m4, m5, m6⟩ := cells7 (HR5.out.later HAL.out).box; have hT5 : Tab v5 al ll cl T := hT.tab; have hT0 : Tab v5 y0t y0tn y0tc T := (HDW.out.later hb).T; have HTB := Lib.hid (fun W (hb : Below v5.heap.size v5 W) => refTT (R := true) (hT5.later hb) (hT0.later hb) (decide_eq_true rfl)); have HDW5 := Lib.hid (HDW.out.later hb); have HMW5 := Lib.hid (HMW.out.later hb); have HSM : Hid (∀ W, Below v5.heap.size v5 W → Calls Try.prog 26 #[.agg #[.int .i64 c', .int .i64 s', .string bk', .slice ta0 tn0 tc0, .slice sa0 sn0 sc0, .slice ba0 bn0 bc0, .slice ca0 cn0 cc0], .agg #[.int .i64 c', .int .i64 s', .string bk', .slice y0t y0tn y0tc, .slice y0s y0sn y0sc, .slice y0m y0mn y0mc, .slice y0k y0kn y0kc]] W fun e w' => e = .returned (.bool true) ∧ Below W.heap.size W w') := (fun W hb => (by have h9 := sameM HMW5.out HDW5.out hb hb; exact h9)); clear hT hb hT5 hT0)
        | (go_at_call 25; (with_reducible refine (HTB.out _ HAL.out).mono ?_); rintro e v6 ⟨rfl, hb⟩; have HB56 := Lib.hid (HAL.out.trans (hb.mono HAL.out.size)); have HSB6 := Lib.hid (HSB.out.later hb); clear s0 s1 s2 p0 p1 p2 p3 p4 p5 p6 m0 m1 m2 m3 m4 m5 m6; obtain ⟨s0, s1, s2⟩ := cells3 HSB6.out; obtain ⟨p0, p1, p2, p3, p4, p5, p6⟩ := cells7 (HK5.out.later HB56.out); obtain ⟨m0, m1, m2, m3, m4, m5, m6⟩ := cells7 (HR5.out.later HB56.out).box; have hls := HSB6.out.lt; clear hb)
        | (go_at_call 26; (with_reducible refine (HSM.out _ HB56.out).mono ?_); rintro e v7 ⟨rfl, hb⟩; have HB57 := Lib.hid (HB56.out.trans (hb.mono HB56.out.size)); have HSB7 := Lib.hid (HSB6.out.later hb); clear s0 s1 s2 p0 p1 p2 p3 p4 p5 p6 m0 m1 m2 m3 m4 m5 m6 hb; have HAPB : Hid (Apb V2 v5.heap.size (Iv V2.heap.size v5.heap.size) #[.string ⟨#[111, 110, 101, 45, 109, 111, 114, 101]⟩, .int .i64 s', .slice al ll cl] al ll cl T v7) := ⟨⟨T, SameS.refl _, HTS.out.f.later HB57.out⟩, HSB7.out, HB5.out.trans (HB57.out.mono HB5.out.size)⟩; obtain ⟨s0, s1, s2⟩ := cells3 HSB7.out; have hls := HSB7.out.lt))
      have hln6 : ll ≤ 6000 := by obtain ⟨_, _, _, h, _⟩ := HTS.out; exact h
      clear s0 s1 s2
      go_loopw [10] (fun i wr => ∃ p : Nat, p ≤ ll ∧ i = .int .i64 p ∧ Hid (Apb V2 v5.heap.size (Iv V2.heap.size v5.heap.size) #[.string ⟨#[111, 110, 101, 45, 109, 111, 114, 101]⟩, .int .i64 s', .slice al ll cl] al ll cl T wr)) (fun i _ => ll - (intOf i).toNat)
      case atStart => exact ⟨0, Nat.zero_le _, rfl, HAPB.out⟩
      case round =>
        obtain ⟨p, hp, rfl, HP⟩ := hrel
        obtain ⟨r0, r1, r2⟩ := cells3 HP.out.box
        have hlb := HP.out.box.lt
        by_cases hlt : p < ll
        · obtain ⟨g, al9, cl9, hag, hc, hlf⟩ := HP.out.leaf p hlt
          (try dsimp only at hag)
          subst hag
          obtain ⟨L, hL⟩ := named (T.getD p []).length
          (try dsimp only at hc hlf)
          rw [hL.out] at hc hlf
          clear hc
          go_wp2
          go_loopw [11] (fun i wr => ∃ q : Nat, q ≤ L ∧ i = .int .i64 q ∧ Hid (Apb V2 v5.heap.size (Iv V2.heap.size v5.heap.size) #[.string ⟨#[111, 110, 101, 45, 109, 111, 114, 101]⟩, .int .i64 s', .slice (some ⟨g, 0, none⟩) ll cl] (some ⟨g, 0, none⟩) ll cl T wr)) (fun i _ => L - (intOf i).toNat)
          case atStart => exact ⟨0, Nat.zero_le _, rfl, HP.out⟩
          case round =>
            clear r0 r1 r2
            obtain ⟨q, hq, rfl, HQ⟩ := hrel
            obtain ⟨r0, r1, r2⟩ := cells3 HQ.out.box
            have hlb := HQ.out.box.lt
            by_cases hltq : q < L
            · obtain ⟨g', gi, cl8, s8, hag, hc, hf9, hs9, hst⟩ := HQ.out.store p q hlt (by (try dsimp only); rw [hL.out]; exact hltq)
              cases hag
              (try dsimp only at hc)
              rw [hL.out] at hc
              have HN := Lib.hid (hst 78 (by omega) (by omega))
              clear hst hL
              go_wp2
              go_roundw
              case rel => exact ⟨q + 1, by omega, by go_num, HN.out⟩
              case measure => simp [intOf]; omega
            · obtain rfl : q = L := by omega
              obtain ⟨g', al8, cl8, hag, hc, _⟩ := HQ.out.leaf p hlt
              cases hag
              (try dsimp only at hc)
              rw [hL.out] at hc
              clear hL
              go_wp2
              go_roundw
              case rel => exact ⟨p + 1, by omega, by go_num, HQ.out⟩
              case measure => simp [intOf]; omega
        · obtain rfl : p = ll := by omega
          have HW9 := Lib.hid HP.out.dat
          have HKx := Lib.hid (HK0.out.later HW9.out)
          have HDx := Lib.hid (HDW.out.later HW9.out)
          have HAx := Lib.hid (HAB.out.later HW9.out)
          obtain ⟨p0, p1, p2, p3, p4, p5, p6⟩ := cells7 HAx.out
          have hla := HAx.out.lt
          have HBW9 := Lib.hid (HRW.out.below.trans (HW9.out.mono HRW.out.below.size))
          clear HTB HSM
          go_wp2_with (first
            | (go_at_call 19; (with_reducible refine (HBK.out _ HW9.out).mono ?_); rintro e v10 ⟨y2t, y2tn, y2tc, y2s, y2sn, y2sc, y2m, y2mn, y2mc, y2k, y2kn, y2kc, rfl, hT, hb⟩; have HB10 := Lib.hid (hb.alloc hb.size (.cells #[.int .i64 c', .int .i64 s', .string bk', .slice y2t y2tn y2tc, .slice y2s y2sn y2sc, .slice y2m y2mn y2mc, .slice y2k y2kn y2kc] 29)); have HBB : Hid (Blk (v10.alloc (.cells #[.int .i64 c', .int .i64 s', .string bk', .slice y2t y2tn y2tc, .slice y2s y2sn y2sc, .slice y2m y2mn y2mc, .slice y2k y2kn y2kc] 29)) v10.heap.size 29 #[.int .i64 c', .int .i64 s', .string bk', .slice y2t y2tn y2tc, .slice y2s y2sn y2sc, .slice y2m y2mn y2mc, .slice y2k y2kn y2kc]) := Blk.new _ _ _; clear p0 p1 p2 p3 p4 p5 p6; obtain ⟨p0, p1, p2, p3, p4, p5, p6⟩ := cells7 HBB.out; obtain ⟨q0, q1, q2, q3, q4, q5, q6⟩ := cells7 (HKx.out.later HB10.out); have hT2 : Tab (v10.alloc (.cells #[.int .i64 c', .int .i64 s', .string bk', .slice y2t y2tn y2tc, .slice y2s y2sn y2sc, .slice y2m y2mn y2mc, .slice y2k y2kn y2kc] 29)) y2t y2tn y2tc T := hT.later ((Below.refl _ v10).alloc (Nat.le_refl _) (.cells #[.int .i64 c', .int .i64 s', .string bk', .slice y2t y2tn y2tc, .slice y2s y2sn y2sc, .slice y2m y2mn y2mc, .slice y2k y2kn y2kc] 29)); have hT0 : Tab (v10.alloc (.cells #[.int .i64 c', .int .i64 s', .string bk', .slice y2t y2tn y2tc, .slice y2s y2sn y2sc, .slice y2m y2mn y2mc, .slice y2k y2kn y2kc] 29)) y0t y0tn y0tc T := (HDx.out.later HB10.out).T; have HTC := Lib.hid (refTT (R := true) hT2 hT0 (decide_eq_true rfl)); clear hT hb hT2 hT0)
            | (go_at_call 27; (with_reducible refine (num12 _ (by unfold I64; omega) _).mono ?_); rintro e w' ⟨rfl, hw⟩; obtain rfl := hw.symm)
            | (go_at_call 25; (with_reducible refine HTC.out.mono ?_); rintro e v11 ⟨rfl, hb⟩; have HBF := Lib.hid (HBW9.out.trans ((HB10.out.trans (hb.mono HB10.out.size)).mono HBW9.out.size)); clear hb)
            | (go_at_call 15; (with_reducible refine (HAW.out _ HBF.out).mono ?_); rintro e w9 ⟨rfl, hb9⟩))
          go_ret
          exact ⟨rfl, hb9⟩

set_option maxRecDepth 100000 in
theorem lifted (os : Os) (started : os.Started) (H : Type) (enc : TypeId × Value → H) :
    ReturnsInHanded {} Try.checked os 5 .any (Rows.shotApartSpec.pre6 enc Try.prog Try.f5 Rows.shotApartRow.domain false) (Rows.shotApartSpec.post enc Try.prog Try.f5 false true false false) := by
  refine returnsInHanded_of_change (C := Try.checked) own started (by kernel_rfl) Try.func5
    (ChangeSpec.witness6 (enc := enc) (C := Try.checked) false ⟨#[], #[.agg #[.int .i64 0, .int .i64 0, .string ByteArray.empty, .slice none 0 0, .slice none 0 0, .slice none 0 0, .slice none 0 0]], []⟩ 8 (by kernel_rfl) (by kernel_rfl) (by kernel_rfl) (by kernel_rfl)) ?_
  intro W base args ds gs before hval0 hW hcnd _
  have hval : ∀ (j : Nat) t v, Try.f5.params[j]? = some t → args[j]? = some v → Value.okWide Try.prog W .any base t v := hval0
  have hW' := hW
  obtain ⟨p, q, hA0, hV, rfl, hfz, hnd⟩ := hW
  have hA : DataW.TrodAll enc Try.prog W 0 (fun _ => true) true Try.f5.params.toList args.toList ds p := hA0
  rw [Try.params5] at hA hval
  obtain ⟨v0, vs0, d0, ds0, p0, q0, hargs, rfl, rfl, h0, r0⟩ := trodAll_cons hA
  obtain ⟨rfl, rfl, rfl⟩ := trodAll_nil r0
  obtain rfl : args = #[v0] := by cases args; simp_all
  obtain ⟨rfl, rfl⟩ := trodVars_none hV
  have k0 := h0
  have lt0 : ∀ x ∈ p0, x.block < W.heap.size := by obtain ⟨m, hm⟩ := k0; exact DataW.trod_lt m _ _ _ hm
  obtain ⟨mc0, ms0, mb0, ta0, tn0, tc0, sa0, sn0, sc0, ba0, bn0, bc0, ca0, cn0, cc0, rfl, w0⟩ := meta_open (hval 0 29 v0 rfl rfl) h0
  clear hA0 hval0
  refine (walk mc0 ms0 mb0 ta0 tn0 tc0 sa0 sn0 sc0 ba0 bn0 bc0 ca0 cn0 cc0 W w0).mono fun e W' ⟨he, bel⟩ => ?_
  subst he
  exact ⟨_, rfl, _, _, _, [], _, [], hW', trodAll_mk1 (shut_bool Try.underlying4 _), (trodAll_cons_mk (Below.trod laidOut (by kernel_rfl) (of_decide_eq_true (by kernel_rfl)) k0 bel lt0) trodAll_mk0), rfl, bel.frame _, fun h => by cases h⟩

theorem over : Rows.shotApartRow.holds Try.pinned (OpenSpec.ofChange Rows.shotApartSpec) :=
  OpenClaim.holds_of_wide 5 Try.f5 rfl rfl rfl rfl rfl rfl rfl ⟨rfl, rfl, rfl, rfl, rfl⟩ rfl rfl rfl rfl rfl (by kernel_rfl) Try.func5 (by kernel_rfl)
    (of_decide_eq_true (by kernel_rfl)) (by unfold Func.isWrapper; first | (rw [if_pos (by decide +kernel)]; kernel_rfl) | (rw [if_neg (by decide +kernel)]; exact ⟨rfl, rfl⟩))
    (fun os started H enc _ => lifted os started H enc)

/-- The statement. -/
theorem proved : Rows.ShotApartSaid := over
#print axioms proved
end Go.Proofs.Ytjaaieamlgghhaa.shotApart
