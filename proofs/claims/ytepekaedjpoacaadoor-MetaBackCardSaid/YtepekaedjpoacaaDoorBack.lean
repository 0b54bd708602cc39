/-
  Proved: 'matryoshkalaw14.MetaBack' returns true for every input: the statement MetaBackCardSaid as given. Conditions: none beyond the row's own.
-/
import Derived.Test.YtepekaedjpoacaaDoorRows
import Derived.Test.YtepekaedjpoacaaDoorV8
import Derived.Test.YtepekaedjpoacaaDoorTie
import Derived.Test.YtepekaedjpoacaaDoorCards
import Derived.SevenTiedAt
import Derived.LaidLaws
import Derived.Stop.Joined
import Derived.Test.YtepekaedjpoacaaDoorXd
import Derived.Test.YtepekaedjpoacaaDoorWz
import Derived.Test.YtepekaedjpoacaaDoorSq
import Derived.WalkKit
import Derived.ProofKit
import Derived.OpenShut
import Derived.ShutString
import Derived.ChangeOld
import Derived.Below
namespace Go.Proofs.YtepekaedjpoacaaDoor.metaBack
open Go.ChangeShapes Go.WideShapes Go.ChangeAt Go.RowKit
open Go.ChangeMaps (open_string shut_string)
set_option linter.unusedVariables false

theorem own : ownKnob Tryd.prog.godebug = none := by kernel_rfl
theorem laidOut : laidOutB Tryd.prog = true := by kernel_rfl

set_option maxRecDepth 100000 in
set_option maxHeartbeats 4000000 in
theorem walk (mc0 ms0 : Int) (mb0 : ByteArray) (ta0 : Option Addr) (tn0 tc0 : Nat) (sa0 : Option Addr) (sn0 sc0 : Nat) (ba0 : Option Addr) (bn0 bc0 : Nat) (ca0 : Option Addr) (cn0 cc0 : Nat) (w : World) (w0 : MetaArg w mc0 ms0 mb0 ta0 tn0 tc0 sa0 sn0 sc0 ba0 bn0 bc0 ca0 cn0 cc0) (HWD : Hid (Wid w)) :
    Calls Tryd.prog 4 #[.agg #[.int .i64 mc0, .int .i64 ms0, .string mb0, .slice ta0 tn0 tc0, .slice sa0 sn0 sc0, .slice ba0 bn0 bc0, .slice ca0 cn0 cc0]] w fun e w' => e = .returned (.bool true) ∧ Below w.heap.size w w' := by
  have HGR := Lib.hid (fun (W : World) (hb : Below w.heap.size w W) => great_md (w0.later hb))
  have HRT := Lib.hid (RtS.first w #[.int .i64 mc0, .int .i64 ms0, .string mb0, .slice ta0 tn0 tc0, .slice sa0 sn0 sc0, .slice ba0 bn0 bc0, .slice ca0 cn0 cc0])
  have HAW : Hid (∀ W, Below w.heap.size w W → Calls Tryd.prog 9 #[] W fun e w' => e = .returned (.bool true) ∧ Below w.heap.size w w') := fun W hb => (awake14 W (HWD.out.later hb)).mono fun e w' h => ⟨h.1, hb.trans (h.2.mono hb.size)⟩
  have HN0 := Lib.hid (fun W => num14 0 (by unfold I64; omega) W)
  go_enter Tryd.func4, Tryd.ntmps4
  go_wp2_with (first
    | (go_at_call 8; (with_reducible refine (HGR.out _ HRT.out.below).mono ?_); rintro e w2 ⟨G, rfl, h, hg⟩; have HGG := Lib.hid hg; have HB2 := Lib.hid h; have HRT := Lib.hid (HRT.out.later h); obtain ⟨m0, m1, m2, m3, m4, m5, m6⟩ := cells7 HRT.out.box; clear h hg; cases G)
    | (go_at_call 13; obtain ⟨⟨c', s', bk', T, S, B, K⟩, q1, q2, q3, h20, h21, hcn, h500, hMD⟩ := HGG.out (by first | rfl | trivial); dsimp only at q1 q2 q3 h500; subst q1 q2 q3; have HMD := Lib.hid (hMD.later HB2.out); have HRA := refRight12 _ _ _ HMD.out (by show cn0 ≤ 65536; omega); dsimp only [mtA] at HRA; (with_reducible refine HRA.mono ?_); clear HRA; rintro e w3 ⟨R, rfl, h, hr⟩; have HMD := Lib.hid (HMD.out.later h); have HRR := Lib.hid hr.1; have HRT3 := Lib.hid (HRT.out.later h); clear m0 m1 m2 m3 m4 m5 m6; obtain ⟨m0, m1, m2, m3, m4, m5, m6⟩ := cells7 HRT3.out.box; clear h hr hMD; cases R)
    | (go_at_call 9; first | ((with_reducible refine (HAW.out _ HRT3.out.below).mono ?_); rintro e w9 ⟨rfl, hb9⟩) | ((with_reducible refine (HAW.out _ HRT.out.below).mono ?_); rintro e w9 ⟨rfl, hb9⟩))
    | (go_at_call 10; obtain ⟨NL, hNL⟩ := named (encM { c := c', s := s', bk := bk', T := T, S := S, B := B, K := K }).length; have HPU := put_own14 _ _ _ HMD.out (HRR.out (by first | rfl | trivial)) (HWD.out.later HRT3.out.below) hNL.out; dsimp only [mtA] at HPU; (with_reducible refine HPU.mono ?_); clear HPU; rintro e w4 ⟨pa, pc, rfl, hB, hcap, hb⟩; have HBY := Lib.hid hB; have HCP := Lib.hid hcap; have HRT4 := Lib.hid (HRT3.out.later hb); have HMD4 := Lib.hid (HMD.out.later hb); have HR1 := Lib.hid (HRR.out (by first | rfl | trivial)); clear m0 m1 m2 m3 m4 m5 m6; obtain ⟨m0, m1, m2, m3, m4, m5, m6⟩ := cells7 HRT4.out.box; clear hB hcap hb hNL)
    | (go_at_call 14; (with_reducible refine (get_back14 HBY.out HCP.out.2 (HWD.out.later HRT4.out.below) HR1.out HMD.out.en).mono ?_); rintro e w5 ⟨⟨na, nl, nc, nsa, nsn, nsc, nma, nmn, nmc, nca, ncn, ncc⟩, rfl, hN, hb⟩; have HN5 := Lib.hid hN; have HRT5 := Lib.hid (HRT4.out.later hb); have HBB := Lib.hid hb; have HMD5 := Lib.hid (HMD4.out.later hb); have HS5 := Lib.hid (Spo.first hN (hb) #[.int .i64 c', .int .i64 s', .string bk', .slice na nl nc, .slice nsa nsn nsc, .slice nma nmn nmc, .slice nca ncn ncc]); have HA5 := Lib.hid ((Below.refl w5.heap.size w5).alloc (Nat.le_refl _) (.cells #[.int .i64 c', .int .i64 s', .string bk', .slice na nl nc, .slice nsa nsn nsc, .slice nma nmn nmc, .slice nca ncn ncc] 29)); have HM6 := Lib.hid (HMD5.out.later HA5.out); have HN6 := Lib.hid (hN.d.later HA5.out); clear m0 m1 m2 m3 m4 m5 m6; obtain ⟨m0, m1, m2, m3, m4, m5, m6⟩ := cells7 (HRT5.out.later HA5.out).box; obtain ⟨n0, n1, n2, n3, n4, n5, n6⟩ := cells7 HS5.out.box; dsimp only [mtA]; clear hN hb)
    | (go_at_call 12; (with_reducible refine (HN0.out _).mono ?_); rintro e w' ⟨rfl, hw⟩; obtain rfl := hw.symm)
    | (go_at_call 15; have HSA := refSame HM6.out HN6.out (R := true) (by simp); dsimp only [mtA] at HSA; (with_reducible refine HSA.mono ?_); clear HSA; rintro e w6 ⟨rfl, hb⟩; have HS6 := Lib.hid (HS5.out.later hb); clear hb m0 m1 m2 m3 m4 m5 m6 n0 n1 n2 n3 n4 n5 n6))
  all_goals first
    | (go_ret; exact ⟨rfl, hb9⟩)
    | skip
  go_loopw [8] (fun i wr => ∃ j : Nat, j ≤ nl ∧ i = .int .i64 j ∧ Hid (Spo w4 w5.heap.size #[.int .i64 c', .int .i64 s', .string bk', .slice na nl nc, .slice nsa nsn nsc, .slice nma nmn nmc, .slice nca ncn ncc] na nl nc nca ncn ncc wr)) (fun i _ => nl - (intOf i).toNat)
  case atStart => exact ⟨0, Nat.zero_le _, rfl, HS6⟩
  case round =>
    clear HS6 HS5 HM6 HN6 HN5
    obtain ⟨j, hj, rfl, HSj⟩ := hrel
    obtain ⟨hnb1, hnb2⟩ := HSj.out.nb
    obtain ⟨n0, n1, n2, n3, n4, n5, n6⟩ := cells7 HSj.out.box
    by_cases hlt : j < nl
    · obtain ⟨g, al, ll, cl, hna, hcj, hll⟩ := HSj.out.at j hlt
      have HCj := Lib.hid hcj
      subst hna
      have hi0 : (0 : Int) ≤ (j : Int) := by omega
      have hi1 : (j : Int) < (nl : Int) := by omega
      clear hcj
      go_wp2
      clear n0 n1 n2 n3 n4 n5 n6
      go_loopw [9] (fun i wr => ∃ q : Nat, q ≤ ll ∧ i = .int .i64 q ∧ Hid (Spo w4 w5.heap.size #[.int .i64 c', .int .i64 s', .string bk', .slice (some ⟨g, 0, none⟩) nl nc, .slice nsa nsn nsc, .slice nma nmn nmc, .slice nca ncn ncc] (some ⟨g, 0, none⟩) nl nc nca ncn ncc wr) ∧ Hid (wr.cell? ⟨g, j, none⟩ = some (.slice al ll cl))) (fun i _ => ll - (intOf i).toNat)
      case atStart => exact ⟨0, Nat.zero_le _, rfl, HSj, HCj⟩
      case round =>
        clear HSj HCj
        obtain ⟨q, hq, rfl, HSq, HCq⟩ := hrel
        obtain ⟨n0, n1, n2, n3, n4, n5, n6⟩ := cells7 HSq.out.box
        have hcq := HCq.out
        by_cases hlt2 : q < ll
        · obtain ⟨b, hal, ⟨v, hv⟩, hfr, hS, hC⟩ := HSq.out.kind j hlt rfl HCq.out q hlt2
          subst hal
          have HSn := Lib.hid hS
          have HCn := Lib.hid hC
          have hk0 : (0 : Int) ≤ (q : Int) := by omega
          have hk1 : (q : Int) < (ll : Int) := by omega
          clear hS hC
          go_wp2
          go_roundw
          case rel => exact ⟨q + 1, by omega, by go_num, HSn, HCn⟩
          case measure => simp [intOf]; omega
        · obtain rfl : ll = q := by omega
          go_wp2
          go_roundw
          case rel => exact ⟨j + 1, by omega, by go_num, HSq⟩
          case measure => simp [intOf]; omega
    · obtain rfl : nl = j := by omega
      go_wp2
      clear n0 n1 n2 n3 n4 n5 n6
      go_loopw [10] (fun i wr => ∃ j : Nat, j ≤ ncn ∧ i = .int .i64 j ∧ Hid (Spo w4 w5.heap.size #[.int .i64 c', .int .i64 s', .string bk', .slice na nl nc, .slice nsa nsn nsc, .slice nma nmn nmc, .slice nca ncn ncc] na nl nc nca ncn ncc wr)) (fun i _ => ncn - (intOf i).toNat)
      case atStart => exact ⟨0, Nat.zero_le _, rfl, HSj⟩
      case round =>
        clear HSj
        obtain ⟨q, hq, rfl, HSq⟩ := hrel
        obtain ⟨n0, n1, n2, n3, n4, n5, n6⟩ := cells7 HSq.out.box
        by_cases hlt2 : q < ncn
        · obtain ⟨b, hal, ⟨v, hv⟩, hfr, hS⟩ := HSq.out.count q hlt2
          subst hal
          have HSn := Lib.hid hS
          have hk0 : (0 : Int) ≤ (q : Int) := by omega
          have hk1 : (q : Int) < (ncn : Int) := by omega
          clear hS
          go_wp2
          go_roundw
          case rel => exact ⟨q + 1, by omega, by go_num, HSn⟩
          case measure => simp [intOf]; omega
        · obtain rfl : ncn = q := by omega
          have HRT8 := Lib.hid (HRT4.out.later HSq.out.low)
          have HBY8 := Lib.hid (HBY.out.later HSq.out.low)
          have HMD8 := Lib.hid (HMD4.out.later HSq.out.low)
          go_wp2_with (first
            | (go_at_call 14; (with_reducible refine (get_back14 HBY8.out HCP.out.2 (HWD.out.later HRT8.out.below) HR1.out HMD.out.en).mono ?_); rintro e w8 ⟨⟨ya, yl, yc, ysa, ysn, ysc, yma, ymn, ymc, yca, ycn, ycc⟩, rfl, hN, hb⟩; have HA8 := Lib.hid ((Below.refl w8.heap.size w8).alloc (Nat.le_refl _) (.cells #[.int .i64 c', .int .i64 s', .string bk', .slice ya yl yc, .slice ysa ysn ysc, .slice yma ymn ymc, .slice yca ycn ycc] 29)); have HM9 := Lib.hid ((HMD8.out.later hb).later HA8.out); have HN9 := Lib.hid (hN.d.later HA8.out); have HRT9 := Lib.hid ((HRT8.out.later hb).later HA8.out); clear n0 n1 n2 n3 n4 n5 n6; obtain ⟨m0, m1, m2, m3, m4, m5, m6⟩ := cells7 HRT9.out.box; obtain ⟨n0, n1, n2, n3, n4, n5, n6⟩ := cells7 (Blk.new w8 29 #[.int .i64 c', .int .i64 s', .string bk', .slice ya yl yc, .slice ysa ysn ysc, .slice yma ymn ymc, .slice yca ycn ycc]); dsimp only [mtA]; clear hN hb)
            | (go_at_call 12; (with_reducible refine (HN0.out _).mono ?_); rintro e w' ⟨rfl, hw⟩; obtain rfl := hw.symm)
            | (go_at_call 15; have HSA := refSame HM9.out HN9.out (R := true) (by simp); dsimp only [mtA] at HSA; (with_reducible refine HSA.mono ?_); clear HSA; rintro e w10 ⟨rfl, hb⟩; have HRT10 := Lib.hid (HRT9.out.later hb); clear hb)
            | (go_at_call 9; (with_reducible refine (HAW.out _ HRT10.out.below).mono ?_); rintro e w9 ⟨rfl, hb9⟩))
          go_ret
          exact ⟨rfl, hb9⟩

set_option maxRecDepth 100000 in
theorem lifted (os : Os) (started : os.Started) (H : Type) (enc : TypeId × Value → H) :
    ReturnsInHanded {} Tryd.checked os 4 .any (fun w args => (Rows.metaBackSpec.pre enc Tryd.prog Tryd.f4 [] false w args ∧ laidMetH Tryd.prog laid8 w) ∧ sizedMet enc Tryd.prog Tryd.f4 (OpenSpec.ofChange Rows.metaBackSpec) false w args) (Rows.metaBackSpec.post enc Tryd.prog Tryd.f4 false true false false) := by
  refine returnsInHanded_of_change_and (C := Tryd.checked) (X := fun w _ => laidMetH Tryd.prog laid8 w) (fun _ _ _ hh h => h.of_heap hh) own started (by kernel_rfl) Tryd.func4
    (ChangeSpec.witness_shaped (enc := enc) (C := Tryd.checked) (os := os) (X := fun w _ => laidMetH Tryd.prog laid8 w) false (World.doorLaid Tryd.prog 400 os) #[.agg #[.int .i64 0, .int .i64 0, .string ByteArray.empty, .slice none 0 0, .slice none 0 0, .slice none 0 0, .slice none 0 0]] 8 rfl (World.shaped_of_RefB (by kernel_rfl) (by kernel_rfl)) (by kernel_rfl) (by kernel_rfl) (by kernel_rfl) (door_met os _)) ?_
  intro W base args ds gs before hval0 hW _ _ hL _
  have hval : ∀ (j : Nat) t v, Tryd.f4.params[j]? = some t → args[j]? = some v → Value.okWide Tryd.prog W .any base t v := hval0
  have hW' := hW
  obtain ⟨p, q, hA0, hV, rfl, hfz, hnd⟩ := hW
  have hA : DataW.TrodAll enc Tryd.prog W 0 (fun _ => true) true Tryd.f4.params.toList args.toList ds p := hA0
  rw [Tryd.params4] at hA hval
  obtain ⟨v0, vs0, d0, ds0, p0, q0, hargs, rfl, rfl, h0, r0⟩ := trodAll_cons hA
  obtain ⟨rfl, rfl, rfl⟩ := trodAll_nil r0
  obtain rfl : args = #[v0] := by cases args; simp_all
  obtain ⟨rfl, rfl⟩ := trodVars_none hV
  have k0 := h0
  have lt0 : ∀ x ∈ p0, x.block < W.heap.size := by obtain ⟨m, hm⟩ := k0; exact DataW.trod_lt m _ _ _ hm
  obtain ⟨mc0, ms0, mb0, ta0, tn0, tc0, sa0, sn0, sc0, ba0, bn0, bc0, ca0, cn0, cc0, rfl, w0⟩ := meta_open (hval 0 29 v0 rfl rfl) h0
  clear hA0 hval0
  refine (walk mc0 ms0 mb0 ta0 tn0 tc0 sa0 sn0 sc0 ba0 bn0 bc0 ca0 cn0 cc0 W w0 (Lib.hid (wid_of_laid hL))).mono fun e W' ⟨he, bel⟩ => ?_
  subst he
  exact ⟨_, rfl, _, _, _, [], _, [], hW', trodAll_mk1 (shut_bool Tryd.underlying4 _), (trodAll_cons_mk (Below.trod laidOut (by kernel_rfl) (of_decide_eq_true (by kernel_rfl)) k0 bel lt0) trodAll_mk0), rfl, bel.frame _, fun h => by cases h⟩

theorem over : Rows.metaBackRow.holds Tryd.pinned (OpenSpec.ofChange Rows.metaBackSpec) :=
  OpenClaim.holds_of_wide 4 Tryd.f4 rfl rfl rfl rfl rfl rfl rfl ⟨rfl, rfl, rfl, rfl, rfl⟩ rfl rfl rfl rfl rfl (by kernel_rfl) Tryd.func4 (by kernel_rfl)
    (of_decide_eq_true (by kernel_rfl)) (by unfold Func.isWrapper; first | (rw [if_pos (by decide +kernel)]; kernel_rfl) | (rw [if_neg (by decide +kernel)]; exact ⟨rfl, rfl⟩))
    (fun os started H enc _ => lifted os started H enc)

/-- The statement: the row's card, its listed variable tied to the program's text. -/
theorem proved : Rows.MetaBackCardSaid :=
  Claim7.holds_tied_plain_at .later [] [.data] true (true, "9249da03e8cd02eaf585d81111062a7b5d9f4e426ada74f5d76df224373ff76a") false
    over (fun _ h => by cases h) (by kernel_rfl) (fun _ h => by cases h) metaBack_row_tie rfl ⟨rfl, rfl⟩ (by kernel_rfl) rfl
    (fun f fn hf hfn => by
      obtain rfl : f = 4 := Option.some.inj ((show Tryd.prog.funcNamed "matryoshka/matryoshkalaw14.MetaBack" = some 4 by kernel_rfl).symm.trans hf) |>.symm
      obtain rfl : fn = Tryd.f4 := (Option.some.inj (Tryd.func4.symm.trans hfn)).symm
      exact ⟨by kernel_rfl, fun j t ht => by
        rw [Tryd.params4] at ht
        have hm : t ∈ [29] := by simpa using Array.mem_of_getElem? ht
        have hall : ([29].all fun u => !Tryd.prog.wantsStandIn u) = true := by kernel_rfl
        exact (show Tryd.prog.wantsStandIn t = false by simpa using List.all_eq_true.1 hall t hm)⟩)
    (by kernel_rfl)
#print axioms proved
end Go.Proofs.YtepekaedjpoacaaDoor.metaBack
