/-
  Proved: 'matryoshkalaw14.MetaLong' returns true for every input: the statement MetaLongCardSaid as given. Conditions: none beyond the row's own.
-/
import Derived.Test.YtipljkegmhclkaaDoorRows
import Derived.Test.YtipljkegmhclkaaDoorV8
import Derived.Test.YtipljkegmhclkaaDoorTie
import Derived.Test.YtipljkegmhclkaaDoorCards
import Derived.SevenTiedAt
import Derived.LaidLaws
import Derived.Stop.Joined
import Derived.Test.YtipljkegmhclkaaDoorWz
import Derived.Test.YtipljkegmhclkaaDoorV8
import Derived.Deep.RegionHeld3
import Derived.Deep.QuietTactic
import Derived.BigQuiet
import Derived.WalkKit
import Derived.ProofKit
import Derived.OpenShut
import Derived.ShutString
import Derived.ChangeOld
import Derived.Below
namespace Go.Proofs.YtipljkegmhclkaaDoor.metaLong
open Go.ChangeShapes Go.WideShapes Go.ChangeAt Go.RowKit
open Go.ChangeMaps (open_string shut_string)
set_option linter.unusedVariables false

theorem own : ownKnob Tryd.prog.godebug = none := by kernel_rfl
theorem laidOut : laidOutB Tryd.prog = true := by kernel_rfl

set_option maxRecDepth 100000 in
set_option maxHeartbeats 4000000 in
theorem walk (mc0 ms0 : Int) (mb0 : ByteArray) (ta0 : Option Addr) (tn0 tc0 : Nat) (sa0 : Option Addr) (sn0 sc0 : Nat) (ba0 : Option Addr) (bn0 bc0 : Nat) (ca0 : Option Addr) (cn0 cc0 : Nat) (w : World) (w0 : MetaArg w mc0 ms0 mb0 ta0 tn0 tc0 sa0 sn0 sc0 ba0 bn0 bc0 ca0 cn0 cc0) (HWD : Hid (Wid w)) :
    Calls Tryd.prog 6 #[.agg #[.int .i64 mc0, .int .i64 ms0, .string mb0, .slice ta0 tn0 tc0, .slice sa0 sn0 sc0, .slice ba0 bn0 bc0, .slice ca0 cn0 cc0]] w fun e w' => e = .returned (.bool true) ∧ Below w.heap.size w w' := by
  have HGR := Lib.hid (fun (W : World) (hb : Below w.heap.size w W) => great_md (w0.later hb))
  have HRT := Lib.hid (RtS.first w #[.int .i64 mc0, .int .i64 ms0, .string mb0, .slice ta0 tn0 tc0, .slice sa0 sn0 sc0, .slice ba0 bn0 bc0, .slice ca0 cn0 cc0])
  have HAW : Hid (∀ W, Below w.heap.size w W → Calls Tryd.prog 10 #[] W fun e w' => e = .returned (.bool true) ∧ Below w.heap.size w w') := fun W hb => (awake14 W (HWD.out.later hb)).mono fun e w' h => ⟨h.1, hb.trans (h.2.mono hb.size)⟩
  go_enter Tryd.func6, Tryd.ntmps6
  go_wp2_with (first
    | (go_at_call 9; (with_reducible refine (HGR.out _ HRT.out.below).mono ?_); rintro e w2 ⟨G, rfl, h, hg⟩; have HGG := Lib.hid hg; have HB2 := Lib.hid h; have HRT := Lib.hid (HRT.out.later h); obtain ⟨m0, m1, m2, m3, m4, m5, m6⟩ := cells7 HRT.out.box; clear h hg; cases G)
    | (go_at_call 10; (with_reducible refine (HAW.out _ HRT.out.below).mono ?_); rintro e w9 ⟨rfl, hb9⟩)
    | (go_at_call 14; obtain ⟨⟨c', s', bk', T, S, B, K⟩, q1, q2, q3, h20, h21, hcn, h500, hMD⟩ := HGG.out (by first | rfl | trivial); dsimp only at q1 q2 q3 h500; subst q1 q2 q3; have HMD := Lib.hid (hMD.later HB2.out); refine (refRight12 _ _ _ HMD.out (by show cn0 ≤ 65536; omega)).mono ?_; rintro e w3 ⟨R, rfl, h, hr⟩; have HMD := Lib.hid (HMD.out.later h); have HRR := Lib.hid hr.1; have hsl := HMD.out.S.lens; have HRT3 := Lib.hid (HRT.out.later h); obtain ⟨m0, m1, m2, m3, m4, m5, m6⟩ := cells7 HRT3.out.box; have HRT := HRT3; clear h hr hMD; cases R))
  all_goals first
    | (go_ret; exact ⟨rfl, hb9⟩)
    | skip
  have HR : Hid (RightMt _) := HRR.out (by first | rfl | trivial)
  have hlong := encM_long HR.out (by have := HMD.out.K.1.1; dsimp only at this ⊢; omega)
  have hmax := encM_len HR.out.sml
  have hTl := HMD.out.T.lensX
  have hSl := HMD.out.S.lens
  have hBl := HMD.out.B.lens
  have hKl : K.length = cn0 := HMD.out.K.1.1
  dsimp only at hlong hmax hTl hSl hBl
  rw [hTl.1] at hlong
  have HPU := Lib.hid (fun W (hb : Below w3.heap.size w3 W) => mPut W _ _ (HMD.out.later hb) HR.out (HWD.out.later (HRT3.out.below.trans (hb.mono HRT3.out.below.size))))
  have HLV := Lib.hid (fun W (hb : Below w3.heap.size w3 W) => leaves14 W _ _ _ _ (HMD.out.T.later hb))
  obtain ⟨G, hG⟩ := named (cntT T tn0)
  have hGb : G ≤ 6000 := by have := cntT_le T tn0; have := hG.out; omega
  obtain ⟨NT, hNT⟩ := named (encM { c := c', s := s', bk := bk', T := T, S := S, B := B, K := K }).length
  have HNT := Lib.hid hNT.out
  rw [hNT.out, hG.out] at hlong
  rw [hNT.out] at hmax
  rw [hG.out] at HLV
  obtain ⟨X, hX⟩ := named w.heap.size
  have HBX := Lib.hid HRT3.out.box
  have HBW := Lib.hid HRT3.out.below
  rw [hX.out] at HBX ⊢
  have HKS : Hid (∀ W, Below w3.heap.size w3 W → W.cell? ⟨X, 2, none⟩ = some (.string bk') ∧ W.cell? ⟨X, 3, none⟩ = some (.slice ta0 tn0 tc0)) := fun W h => by
    obtain ⟨p0, p1, p2, p3, p4, p5, p6⟩ := cells7 (HBX.out.later h)
    exact ⟨p2, p3⟩
  have HR0 := Lib.hid (Below.refl w3.heap.size w3)
  have HRD := Lib.hid (Below.refl w3.heap.size w3).drew
  obtain ⟨ZB, hZB⟩ := named bk'.size
  have hbk : ZB ≤ 992700 := by have := hZB.out; omega
  dsimp only [mtA] at HPU
  have HNU := Lib.hid (fun (w : World) => num14 0 (by unfold I64; omega) w)
  clear m0 m1 m2 m3 m4 m5 m6 hNT hG hTl
  go_region_held3 (fun W => W.cell? ⟨X, 2, none⟩ = some (.string bk') ∧ W.cell? ⟨X, 3, none⟩ = some (.slice ta0 tn0 tc0)) (first | with_reducible exact HKS.out _ HR0.out | with_reducible exact HKS.out _ HRD.out | with_reducible exact HKS.out _ HP0.out) (first | (go_at_call 17; (with_reducible refine (HLV.out _ HRD.out).mono ?_); rintro e u0 ⟨rfl, hb⟩; have HP0 := Lib.hid (HRD.out.trans (hb.mono HRD.out.size)); clear hb))
  obtain ⟨M0, hM0⟩ := named (13 + bk'.size + G * 130)
  have hw1 : IntKind.i64.wrap (IntKind.i64.wrap (13 + (bk'.size : Int)) + IntKind.i64.wrap ((G : Int) * 130)) = (M0 : Int) := by
    have e1 : IntKind.i64.wrap (13 + (bk'.size : Int)) = 13 + (bk'.size : Int) := IntWalk.i64_in _ (by omega)
    have e2 : IntKind.i64.wrap ((G : Int) * 130) = (G : Int) * 130 := IntWalk.i64_in _ (by omega)
    rw [e1, e2, IntWalk.i64_in _ (by omega)]
    have := hM0.out
    omega
  simp only [hw1]
  clear hw1
  go_wp2
  obtain ⟨N1, hN1⟩ := named (M0 + (S.flatMap shB).length)
  obtain ⟨N2, hN2⟩ := named (N1 + (B.flatMap bmB).length)
  have hN1b : N1 ≤ 992700 := by have := hM0.out; have := hN1.out; omega
  have hN2b : N2 ≤ 992700 := by have := hM0.out; have := hN1.out; have := hN2.out; omega
  have HN3 : Hid (NT = N2 + 4 * chgs none K) := by have := hM0.out; have := hN1.out; have := hN2.out; rw [Hid]; omega
  clear hlong
  have HD0 : Hid (M0 + ((S.drop 0).flatMap shB).length = N1) := by rw [List.drop_zero]; exact hN1.out
  go_loopw [3, 4] (fun m i wr => ∃ (j t : Nat), j ≤ sn0 ∧ m = .int .i64 t ∧ i = .int .i64 j ∧ Hid (t + ((S.drop j).flatMap shB).length = N1) ∧ Hid (Below w3.heap.size w3 wr)) (fun _ i _ => sn0 - (intOf i).toNat)
  case atStart => exact ⟨0, M0, Nat.zero_le _, rfl, rfl, HD0.out, HP0.out⟩
  case round =>
    obtain ⟨j, t, hj, rfl, rfl, HT, HBj⟩ := hrel
    obtain ⟨m0, m1, m2, m3, m4, m5, m6⟩ := cells7 (HBX.out.later HBj.out)
    have htb : t ≤ 992700 := by have := HT.out; omega
    by_cases hlt : j < sn0
    · obtain ⟨b, off, nm, sz, al, ll, cl, T1, rfl, hSj, hbl, ⟨hsz, hnm⟩, y0, y1, y2, hT1⟩ := (HMD.out.later HBj.out).S.at j hlt
      obtain ⟨k1, k2, k3⟩ := HR.out.sml.S _ (List.mem_of_getElem? hSj)
      have hT2 := hT1.lensX.1
      have hs := shB_long k3
      have HT2 := HT.out
      rw [drop_cons hSj, List.flatMap_cons, List.length_append, hs] at HT2
      dsimp only at k1 k3 HT2 hnm
      rw [hT2] at HT2
      have HLV1 := Lib.hid (fun W (hb : Below wr.heap.size wr W) => leaves14 W _ _ _ _ (hT1.later hb))
      obtain ⟨G1, hG1⟩ := named (cntT T1 ll)
      rw [hG1.out] at HLV1 HT2
      obtain ⟨Z1, hZ1⟩ := named ((S.drop (j + 1)).flatMap shB).length
      rw [hZ1.out] at HT2
      have hG1b : G1 ≤ 10000 := by omega
      have hnb : nm.size ≤ 16 := k1
      have hi0 : (0 : Int) ≤ (j : Int) := by omega
      have hi1 : (j : Int) < (sn0 : Int) := by omega
      have HKX := Lib.hid (HBX.out.later HBj.out)
      have HY : Hid (wr.cell? ⟨b, off + j * 3, none⟩ = some (.string nm) ∧ wr.cell? ⟨b, off + j * 3 + 2, none⟩ = some (.slice al ll cl)) := ⟨y0, y2⟩
      have hbl2 : b < wr.heap.size := hbl
      have HKS1 : Hid (∀ W, Below wr.heap.size wr W → W.cell? ⟨X, 4, none⟩ = some (.slice (some ⟨b, off, none⟩) sn0 sc0) ∧ W.cell? ⟨b, off + j * 3, none⟩ = some (.string nm) ∧ W.cell? ⟨b, off + j * 3 + 2, none⟩ = some (.slice al ll cl)) := fun W h => by
        obtain ⟨p0, p1, p2, p3, p4, p5, p6⟩ := cells7 (HKX.out.later h)
        exact ⟨p4, (h.cell (p := ⟨b, off + j * 3, none⟩) hbl2).trans HY.out.1, (h.cell (p := ⟨b, off + j * 3 + 2, none⟩) hbl2).trans HY.out.2⟩
      have HR1 := Lib.hid (Below.refl wr.heap.size wr)
      have HRD1 := Lib.hid (Below.refl wr.heap.size wr).drew
      clear y0 y1 y2 hs hT1 hT2 hG1 k1 k2 k3 hSj hsz hnm
      go_wp2
      clear m0 m1 m2 m3 m4 m5 m6
      go_region_held3 (fun W => W.cell? ⟨X, 4, none⟩ = some (.slice (some ⟨b, off, none⟩) sn0 sc0) ∧ W.cell? ⟨b, off + j * 3, none⟩ = some (.string nm) ∧ W.cell? ⟨b, off + j * 3 + 2, none⟩ = some (.slice al ll cl)) (first | with_reducible exact HKS1.out _ HR1.out | with_reducible exact HKS1.out _ HRD1.out | with_reducible exact HKS1.out _ HP1.out) (first | (go_at_call 17; (with_reducible refine (HLV1.out _ HRD1.out).mono ?_); rintro e u1 ⟨rfl, hb⟩; have HP1 := Lib.hid (HRD1.out.trans (hb.mono HRD1.out.size)); clear hb))
      have hw1 : IntKind.i64.wrap (IntKind.i64.wrap (IntKind.i64.wrap (IntKind.i64.wrap (IntKind.i64.wrap ((t : Int) + 2) + (nm.size : Int)) + 2) + 2) + IntKind.i64.wrap ((G1 : Int) * 130)) = ((t + (nm.size + 6 + G1 * 130) : Nat) : Int) := by
        rw [IntWalk.i64_in ((t : Int) + 2) (by omega), IntWalk.i64_in ((t : Int) + 2 + nm.size) (by omega), IntWalk.i64_in ((t : Int) + 2 + nm.size + 2) (by omega), IntWalk.i64_in ((t : Int) + 2 + nm.size + 2 + 2) (by omega), IntWalk.i64_in ((G1 : Int) * 130) (by omega), IntWalk.i64_in _ (by omega)]
        omega
      simp only [hw1]
      clear hw1
      go_wp2
      go_roundw
      case rel => exact ⟨j + 1, t + (nm.size + 6 + G1 * 130), by omega, rfl, by go_num, by rw [Hid, hZ1.out]; omega, HBj.out.trans (HP1.out.mono HBj.out.size)⟩
      case measure => simp [intOf]; omega
    · obtain rfl : sn0 = j := by omega
      have hd : S.drop sn0 = [] := List.drop_eq_nil_of_le (by rw [hSl.1]; exact Nat.le_refl _)
      have ht : t = N1 := by have := HT.out; rw [hd] at this; exact this
      have HD1 : Hid (t + ((B.drop 0).flatMap bmB).length = N2) := by rw [List.drop_zero, ht]; exact hN2.out
      have HB1 := HBj
      clear ht hd HT HBj
      go_wp2
      clear m0 m1 m2 m3 m4 m5 m6
      go_loopw [3, 5] (fun m i wr => ∃ (j t : Nat), j ≤ bn0 ∧ m = .int .i64 t ∧ i = .int .i64 j ∧ Hid (t + ((B.drop j).flatMap bmB).length = N2) ∧ Hid (Below w3.heap.size w3 wr)) (fun _ i _ => bn0 - (intOf i).toNat)
      case atStart => exact ⟨0, t, Nat.zero_le _, rfl, rfl, HD1.out, HB1.out⟩
      case round =>
        clear HD1 HB1
        obtain ⟨i, t, hi, rfl, rfl, HT, HBi⟩ := hrel
        obtain ⟨m0, m1, m2, m3, m4, m5, m6⟩ := cells7 (HBX.out.later HBi.out)
        have htb : t ≤ 992700 := by have := HT.out; omega
        by_cases hlt : i < bn0
        · obtain ⟨b, off, nm, on, al, ll, cl, l, rfl, hBi, hbl, hnm, y0, y1, y2, hs1⟩ := (HMD.out.later HBi.out).B.at i hlt
          obtain ⟨k1, k2, k3⟩ := HR.out.sml.B _ (List.mem_of_getElem? hBi)
          have hll : l.length = ll := hs1.1.1
          have HT2 := HT.out
          rw [drop_cons hBi, List.flatMap_cons, List.length_append, bmB_len] at HT2
          dsimp only at k1 k2 HT2
          rw [hll] at HT2 k2
          obtain ⟨Z1, hZ1⟩ := named ((B.drop (i + 1)).flatMap bmB).length
          rw [hZ1.out] at HT2
          have hnb : nm.size ≤ 16 := k1
          have hi0 : (0 : Int) ≤ (i : Int) := by omega
          have hi1 : (i : Int) < (bn0 : Int) := by omega
          clear hs1 hll k1 k3 hBi hnm
          go_wp2
          go_quiet (fail)
          have hw1 : IntKind.i64.wrap (IntKind.i64.wrap (IntKind.i64.wrap (IntKind.i64.wrap (IntKind.i64.wrap ((t : Int) + 2) + (nm.size : Int)) + 1) + 2) + IntKind.i64.wrap (4 * (ll : Int))) = ((t + (2 + nm.size + 1 + 2 + 4 * ll) : Nat) : Int) := by
            rw [IntWalk.i64_in ((t : Int) + 2) (by omega), IntWalk.i64_in ((t : Int) + 2 + nm.size) (by omega), IntWalk.i64_in ((t : Int) + 2 + nm.size + 1) (by omega), IntWalk.i64_in ((t : Int) + 2 + nm.size + 1 + 2) (by omega), IntWalk.i64_in (4 * (ll : Int)) (by omega), IntWalk.i64_in _ (by omega)]
            omega
          try simp only [hw1]
          clear hw1
          go_wp2
          go_roundw
          case rel => exact ⟨i + 1, t + (2 + nm.size + 1 + 2 + 4 * ll), by omega, by go_num, by go_num, by rw [Hid, hZ1.out]; omega, below_dn HBi.out _⟩
          case measure => simp [intOf]; omega
        · obtain rfl : bn0 = i := by omega
          have hd : B.drop bn0 = [] := List.drop_eq_nil_of_le (by rw [hBl.1]; exact Nat.le_refl _)
          have ht : t = N2 := by have := HT.out; rw [hd] at this; exact this
          have HD2 : Hid (t + 4 * chgs (prevK K 0) (K.drop 0) = NT) := by rw [List.drop_zero, ht]; exact HN3.out.symm
          have HB2 := HBi
          clear ht hd HT HBi
          go_wp2
          clear m0 m1 m2 m3 m4 m5 m6
          go_loopw [3, 6] (fun m i wr => ∃ (j t : Nat), j ≤ cn0 ∧ m = .int .i64 t ∧ i = .int .i64 j ∧ Hid (t + 4 * chgs (prevK K j) (K.drop j) = NT) ∧ Hid (Below w3.heap.size w3 wr)) (fun _ i _ => cn0 - (intOf i).toNat)
          case atStart => exact ⟨0, t, Nat.zero_le _, rfl, rfl, HD2.out, HB2.out⟩
          case round =>
            clear HD2 HB2
            obtain ⟨q, t, hq, rfl, rfl, HT, HBq⟩ := hrel
            obtain ⟨m0, m1, m2, m3, m4, m5, m6⟩ := cells7 (HBX.out.later HBq.out)
            have htb : t ≤ 992700 := by have := HT.out; omega
            by_cases hlt : q < cn0
            · obtain ⟨b, off, e1, y0, k0⟩ := iv_cell (HMD.out.later HBq.out).K.1 q hlt
              dsimp only at e1 k0
              subst e1
              have hst := chgs_step k0
              have HT2 := HT.out
              rw [hst] at HT2
              rcases q with _ | p
              · rw [if_neg (fun e => by cases e)] at HT2
                rw [Nat.add_zero] at y0
                have hi1 : (0 : Int) < (cn0 : Int) := by omega
                clear hst k0
                go_wp2
                go_quiet (fail)
                go_wp2
                go_roundw
                case rel => exact ⟨0 + 1, t + 4, by omega, by go_num, by go_num, by rw [Hid]; omega, below_dn HBq.out _⟩
                case measure => simp [intOf]; omega
              · obtain ⟨b', off', e2, y1, k1⟩ := iv_cell (HMD.out.later HBq.out).K.1 p (Nat.lt_of_succ_lt hlt)
                cases e2
                rw [prevK_ge (by omega) k1] at HT2
                obtain ⟨x, hx⟩ := named (ivAt K (p + 1))
                obtain ⟨y, hy⟩ := named (ivAt K p)
                rw [hx.out] at y0 HT2
                rw [hy.out] at y1 HT2
                have hi0 : (0 : Int) ≤ (p : Int) := by omega
                have hi1 : (p : Int) + 1 < (cn0 : Int) := by omega
                have hi2 : (p : Int) < (cn0 : Int) := by omega
                have hn0 : ((p : Int) + 1 == 0) = false := by simp; omega
                clear hst k0 k1 hx hy
                by_cases hxy : x = y
                · subst hxy
                  rw [if_pos rfl] at HT2
                  have hw0 : IntKind.i64.wrap ((p : Int) + 1 - 1) = (p : Int) := by rw [IntWalk.i64_in _ (by omega)]; omega
                  have hw2 : IntKind.i64.wrap (p : Int) = (p : Int) := IntWalk.i64_in _ (by omega)
                  have hw3 : ((p : Int) + 1).toNat = p + 1 := by omega
                  go_wp2
                  go_quiet (fail)
                  clear hw0 hw2 hw3
                  go_wp2
                  go_roundw
                  case rel => exact ⟨p + 1 + 1, t, by omega, rfl, by go_num, by rw [Hid]; omega, below_dn HBq.out _⟩
                  case measure => simp [intOf]; omega
                · rw [if_neg (fun e => hxy (Option.some.inj e).symm)] at HT2
                  have d1 : (x == y) = false := by simp [hxy]
                  have d2 : decide (x = y) = false := decide_eq_false hxy
                  have hw0 : IntKind.i64.wrap ((p : Int) + 1 - 1) = (p : Int) := by rw [IntWalk.i64_in _ (by omega)]; omega
                  have hw2 : IntKind.i64.wrap (p : Int) = (p : Int) := IntWalk.i64_in _ (by omega)
                  have hw3 : ((p : Int) + 1).toNat = p + 1 := by omega
                  go_wp2
                  go_quiet (fail)
                  clear hw0 hw2 hw3
                  go_wp2
                  go_roundw
                  case rel => exact ⟨p + 1 + 1, t + 4, by omega, by go_num, by go_num, by rw [Hid]; omega, below_dn HBq.out _⟩
                  case measure => simp [intOf]; omega
            · obtain rfl : cn0 = q := by omega
              have hd : K.drop cn0 = [] := List.drop_eq_nil_of_le (by rw [hKl]; exact Nat.le_refl _)
              have ht : t = NT := by have := HT.out; rw [hd] at this; exact this
              subst ht
              clear hd HT
              go_wp2_with (first
                | (go_at_call 11; (with_reducible refine (HPU.out _ HBq.out).mono ?_); rintro e u5 hp; obtain ⟨a5, c5, rfl, hB5, hc5, hb⟩ := hp.sized HNT.out; have HB5 := Lib.hid (HBq.out.trans (hb.mono HBq.out.size)); clear hp hB5 hc5 hb)
                | (go_at_call 13; (with_reducible refine (HNU.out _).mono ?_); rintro e w' ⟨rfl, hw⟩; obtain rfl := hw.symm)
                | (go_at_call 10; (with_reducible refine (HAW.out _ (HBW.out.trans (HB5.out.mono HBW.out.size))).mono ?_); rintro e w9 ⟨rfl, hb9⟩))
              go_ret
              exact ⟨rfl, hb9⟩

set_option maxRecDepth 100000 in
theorem lifted (os : Os) (started : os.Started) (H : Type) (enc : TypeId × Value → H) :
    ReturnsInHanded {} Tryd.checked os 6 .any (fun w args => (Rows.metaLongSpec.pre enc Tryd.prog Tryd.f6 [] false w args ∧ laidMetH Tryd.prog laid8 w) ∧ sizedMet enc Tryd.prog Tryd.f6 (OpenSpec.ofChange Rows.metaLongSpec) false w args) (Rows.metaLongSpec.post enc Tryd.prog Tryd.f6 false true false false) := by
  refine returnsInHanded_of_change_and (C := Tryd.checked) (X := fun w _ => laidMetH Tryd.prog laid8 w) (fun _ _ _ hh h => h.of_heap hh) own started (by kernel_rfl) Tryd.func6
    (ChangeSpec.witness_shaped (enc := enc) (C := Tryd.checked) (os := os) (X := fun w _ => laidMetH Tryd.prog laid8 w) false (World.doorLaid Tryd.prog 400 os) #[.agg #[.int .i64 0, .int .i64 0, .string ByteArray.empty, .slice none 0 0, .slice none 0 0, .slice none 0 0, .slice none 0 0]] 8 rfl (World.shaped_of_RefB (by kernel_rfl) (by kernel_rfl)) (by kernel_rfl) (by kernel_rfl) (by kernel_rfl) (door_met os _)) ?_
  intro W base args ds gs before hval0 hW _ _ hL _
  have hval : ∀ (j : Nat) t v, Tryd.f6.params[j]? = some t → args[j]? = some v → Value.okWide Tryd.prog W .any base t v := hval0
  have hW' := hW
  obtain ⟨p, q, hA0, hV, rfl, hfz, hnd⟩ := hW
  have hA : DataW.TrodAll enc Tryd.prog W 0 (fun _ => true) true Tryd.f6.params.toList args.toList ds p := hA0
  rw [Tryd.params6] at hA hval
  obtain ⟨v0, vs0, d0, ds0, p0, q0, hargs, rfl, rfl, h0, r0⟩ := trodAll_cons hA
  obtain ⟨rfl, rfl, rfl⟩ := trodAll_nil r0
  obtain rfl : args = #[v0] := by cases args; simp_all
  obtain ⟨rfl, rfl⟩ := trodVars_none hV
  have k0 := h0
  have lt0 : ∀ x ∈ p0, x.block < W.heap.size := by obtain ⟨m, hm⟩ := k0; exact DataW.trod_lt m _ _ _ hm
  obtain ⟨mc0, ms0, mb0, ta0, tn0, tc0, sa0, sn0, sc0, ba0, bn0, bc0, ca0, cn0, cc0, rfl, w0⟩ := meta_open (hval 0 29 v0 rfl rfl) h0
  clear hA0 hval0
  refine (walk mc0 ms0 mb0 ta0 tn0 tc0 sa0 sn0 sc0 ba0 bn0 bc0 ca0 cn0 cc0 W w0 (Lib.hid (wid_of_laid hL))).mono fun e W' ⟨he, bel⟩ => ?_
  subst he
  exact ⟨_, rfl, _, _, _, [], _, [], hW', trodAll_mk1 (shut_bool Tryd.underlying4 _), (trodAll_cons_mk (Below.trod laidOut (by kernel_rfl) (of_decide_eq_true (by kernel_rfl)) k0 bel lt0) trodAll_mk0), rfl, bel.frame _, fun h => by cases h⟩

theorem over : Rows.metaLongRow.holds Tryd.pinned (OpenSpec.ofChange Rows.metaLongSpec) :=
  OpenClaim.holds_of_wide 6 Tryd.f6 rfl rfl rfl rfl rfl rfl rfl ⟨rfl, rfl, rfl, rfl, rfl⟩ rfl rfl rfl rfl rfl (by kernel_rfl) Tryd.func6 (by kernel_rfl)
    (of_decide_eq_true (by kernel_rfl)) (by unfold Func.isWrapper; first | (rw [if_pos (by decide +kernel)]; kernel_rfl) | (rw [if_neg (by decide +kernel)]; exact ⟨rfl, rfl⟩))
    (fun os started H enc _ => lifted os started H enc)

/-- The statement: the row's card, its listed variable tied to the program's text. -/
theorem proved : Rows.MetaLongCardSaid :=
  Claim7.holds_tied_plain_at .later [] [.data] true (true, "275da512f2cc06ce7f6af8750b33f76edaada38d159a50be4e3561771e72a6e2") false
    over (fun _ h => by cases h) (by kernel_rfl) (fun _ h => by cases h) metaLong_row_tie rfl ⟨rfl, rfl⟩ (by kernel_rfl) rfl
    (fun f fn hf hfn => by
      obtain rfl : f = 6 := Option.some.inj ((show Tryd.prog.funcNamed "matryoshka/matryoshkalaw14.MetaLong" = some 6 by kernel_rfl).symm.trans hf) |>.symm
      obtain rfl : fn = Tryd.f6 := (Option.some.inj (Tryd.func6.symm.trans hfn)).symm
      exact ⟨by kernel_rfl, fun j t ht => by
        rw [Tryd.params6] at ht
        have hm : t ∈ [29] := by simpa using Array.mem_of_getElem? ht
        have hall : ([29].all fun u => !Tryd.prog.wantsStandIn u) = true := by kernel_rfl
        exact (show Tryd.prog.wantsStandIn t = false by simpa using List.all_eq_true.1 hall t hm)⟩)
    (by kernel_rfl)
#print axioms proved
end Go.Proofs.YtipljkegmhclkaaDoor.metaLong
