/-
  Proved: 'matryoshkalaw14.MetaRuns' returns true for every input: the statement MetaRunsCardSaid as given. Conditions: none beyond the row's own.
-/
import Derived.Test.YtdffgnpldapciaaDoorRows
import Derived.Test.YtdffgnpldapciaaDoorV8
import Derived.Test.YtdffgnpldapciaaDoorTie
import Derived.Test.YtdffgnpldapciaaDoorCards
import Derived.SevenTiedAt
import Derived.LaidLaws
import Derived.Stop.Joined
import Derived.Test.YtdffgnpldapciaaDoorYz
import Derived.Test.YtdffgnpldapciaaDoorSq
import Derived.WalkKit
import Derived.ProofKit
import Derived.OpenShut
import Derived.ShutString
import Derived.ChangeOld
import Derived.Below
namespace Go.Proofs.YtdffgnpldapciaaDoor.metaRuns
open Go.ChangeShapes Go.WideShapes Go.ChangeAt Go.RowKit
open Go.ChangeMaps (open_string shut_string)
set_option linter.unusedVariables false

theorem own : ownKnob Tryd.prog.godebug = none := by kernel_rfl
theorem laidOut : laidOutB Tryd.prog = true := by kernel_rfl

set_option maxRecDepth 100000 in
set_option maxHeartbeats 4000000 in
theorem walk (a0 : Int) (a1 : Int) (a2 : Bool) (w : World) (w0 : (Lit.int .u16 a0).wf = true) (w1 : (Lit.int .u16 a1).wf = true) (HWD : Hid (Wid w)) :
    Calls Tryd.prog 6 #[.int .u16 a0, .int .u16 a1, .bool a2] w fun e w' => e = .returned (.bool true) ∧ Below w.heap.size w w' := by
  have b0 := bounds_u16 w0
  have b1 := bounds_u16 w1
  obtain ⟨k, hk⟩ : ∃ k : Nat, 1 + a0 = (k : Int) := ⟨(1 + a0).toNat, by omega⟩
  have hk1 : 1 ≤ k := by omega
  have hk2 : k ≤ 65536 := by omega
  have hw1 : IntKind.i64.wrap (1 + IntKind.i64.wrap a0) = (k : Int) := by rw [IntWalk.i64_in a0 (by omega), IntWalk.i64_in _ (by omega), hk]
  have hw2 : IntKind.i64.wrap (1 + a0) = (k : Int) := by rw [IntWalk.i64_in _ (by omega), hk]
  have hmk := (make_rep w w.heap.size k (by omega) (Nat.le_refl _) a1).1
  have hr1 := (make_rep w w.heap.size k (by omega) (Nat.le_refl _) a1).2
  have HB1 := Lib.hid ((Below.refl w.heap.size w).alloc (Nat.le_refl _) (.cells (zerosK k) 3))
  obtain ⟨W1, hW1⟩ : ∃ W, w.alloc (.cells (zerosK k) 3) = W := ⟨_, rfl⟩
  have hs1 : W1.heap.size = w.heap.size + 1 := by rw [← hW1, World.size_alloc]
  rw [hW1] at hmk hr1 HB1
  obtain ⟨Y, hY⟩ := named w.heap.size
  rw [hY.out] at hmk hr1 hs1
  have HRP := Lib.hid hr1
  have HBL := Lib.hid (Blk.new W1 29 #[.int .i64 0, .int .i64 0, .string ⟨#[]⟩, .slice none 0 0, .slice none 0 0, .slice none 0 0, .slice (some ⟨Y, 0, none⟩) k k])
  have HR2 := Lib.hid (hr1.kept (grown_below ((Below.refl _ W1).alloc (Nat.le_refl _) (.cells #[.int .i64 0, .int .i64 0, .string ⟨#[]⟩, .slice none 0 0, .slice none 0 0, .slice none 0 0, .slice (some ⟨Y, 0, none⟩) k k] 29)) none) (fun e => by cases e))
  have HB2 := Lib.hid (HB1.out.alloc HB1.out.size (.cells #[.int .i64 0, .int .i64 0, .string ⟨#[]⟩, .slice none 0 0, .slice none 0 0, .slice none 0 0, .slice (some ⟨Y, 0, none⟩) k k] 29))
  rw [hs1] at HBL
  have HN0 := Lib.hid (fun W => num14 0 (by unfold I64; omega) W)
  have HN1 := Lib.hid (fun W => num14 1 (by unfold I64; omega) W)
  clear hr1 hk
  go_enter Tryd.func6, Tryd.ntmps6
  go_wp2
  go_loopw [9] (fun i wr => ∃ j : Nat, j ≤ k ∧ i = .int .i64 j ∧ Hid (Rep wr Y Y k j a1) ∧ Hid (Blk wr (Y + 1) 29 #[.int .i64 0, .int .i64 0, .string ⟨#[]⟩, .slice none 0 0, .slice none 0 0, .slice none 0 0, .slice (some ⟨Y, 0, none⟩) k k]) ∧ Hid (Below Y w wr)) (fun i _ => k - (intOf i).toNat)
  case atStart => exact ⟨0, Nat.zero_le _, rfl, HR2.out, HBL.out, by have := HB2.out; rw [hY.out] at this; exact this⟩
  case round =>
    obtain ⟨j, hj, rfl, HRj, HBj, HWj⟩ := hrel
    obtain ⟨m0, m1, m2, m3, m4, m5, m6⟩ := cells7 HBj.out
    by_cases hlt : j < k
    · have hi0 : (0 : Int) ≤ (j : Int) := by omega
      have hi1 : (j : Int) < (k : Int) := by omega
      obtain ⟨v, hv⟩ := HRj.out.reads j hlt
      have hf := HRj.out.free j
      have HN := Lib.hid (HRj.out.next hlt)
      go_wp2
      go_roundw
      case rel => exact ⟨j + 1, by omega, by go_num, HN.out, HBj.out.other (by omega) _, HWj.out.setCell (Nat.le_refl _) _⟩
      case measure => simp [intOf]; omega
    · obtain rfl : k = j := by omega
      have HIK := Lib.hid (mc_own (HRj.out.d (by omega)))
      have HRG := Lib.hid (mc_right (K := List.replicate k a1) (by rw [List.length_replicate]; exact hk2) (fun q hq => by rw [List.eq_of_mem_replicate hq]; omega))
      have hNL := (mc_len (List.replicate k a1)).trans (congrArg (13 + ·) (runs_rep hk1 hk2))
      obtain ⟨NL, hNL2⟩ := named (13 + 4 * ((k + 65534) / 65535))
      rw [hNL2.out] at hNL
      have HWr : Hid (Wid wr) := HWD.out.later (by rw [hY.out]; exact HWj.out)
      have HPU := put_own14 _ _ _ HIK.out.d HRG.out HWr.out hNL
      dsimp only [mtA, MCt] at HPU
      have HPU := Lib.hid HPU
      have hne : ((NL : Int) != 13 + 4 * (((k : Int) + 65534) / 65535)) = false := by
        rw [bne_eq_false_iff_eq]
        have := hNL2.out
        omega
      have HYL : Hid (Y ≤ w.heap.size) := Nat.le_of_eq hY.out.symm
      clear hNL
      go_wp2_with (first
        | (go_at_call 10; (with_reducible refine HPU.out.mono ?_); rintro e w4 ⟨pa, pc, rfl, hB, hcap, hb⟩; have HBY : Hid (Bytes w4 pa NL (encM (MCt (List.replicate k a1)))) := hB; have HCP := Lib.hid hcap; have HB4 := Lib.hid hb; have HWD4 := Lib.hid (HWr.out.later hb); have HBL4 := Lib.hid (HBj.out.later hb); clear m0 m1 m2 m3 m4 m5 m6 hB hcap hb HPU; obtain ⟨m0, m1, m2, m3, m4, m5, m6⟩ := cells7 HBL4.out)
        | (go_at_call 14; (with_reducible refine (get_back14 HBY.out HCP.out.2 HWD4.out HRG.out HIK.out.d.en).mono ?_); rintro e w5 ⟨⟨na, nl, nc, nsa, nsn, nsc, nma, nmn, nmc, nca, ncn, ncc⟩, rfl, hN, hb⟩; have HA5 := Lib.hid ((Below.refl w5.heap.size w5).alloc (Nat.le_refl _) (.cells #[.int .i64 0, .int .i64 0, .string ⟨#[]⟩, .slice na nl nc, .slice nsa nsn nsc, .slice nma nmn nmc, .slice nca ncn ncc] 29)); have HN6 := Lib.hid (hN.d.later HA5.out); have HM6 := Lib.hid (((HIK.out.d.later HB4.out).later hb).later HA5.out); have HB5 := Lib.hid (hb.alloc hb.size (.cells #[.int .i64 0, .int .i64 0, .string ⟨#[]⟩, .slice na nl nc, .slice nsa nsn nsc, .slice nma nmn nmc, .slice nca ncn ncc] 29)); have HBL5 := Lib.hid ((HBL4.out.later hb).later HA5.out); clear m0 m1 m2 m3 m4 m5 m6 hN hb; obtain ⟨m0, m1, m2, m3, m4, m5, m6⟩ := cells7 HBL5.out; obtain ⟨n0, n1, n2, n3, n4, n5, n6⟩ := cells7 (Blk.new w5 29 #[.int .i64 0, .int .i64 0, .string ⟨#[]⟩, .slice na nl nc, .slice nsa nsn nsc, .slice nma nmn nmc, .slice nca ncn ncc]); dsimp only [mtA, MCt])
        | (go_at_call 12; (with_reducible refine (HN0.out _).mono ?_); rintro e w' ⟨rfl, hw⟩; obtain rfl := hw.symm)
        | (go_at_call 15; have HSA := refSame HN6.out HM6.out (R := true) (by simp); dsimp only [mtA, MCt] at HSA; (with_reducible refine HSA.mono ?_); clear HSA; rintro e w6 ⟨rfl, hb⟩; have HB6 := Lib.hid (HB5.out.trans (hb.mono HB5.out.size)); have HBL6 := Lib.hid (HBL5.out.later hb); clear hb m0 m1 m2 m3 m4 m5 m6 n0 n1 n2 n3 n4 n5 n6; obtain ⟨m0, m1, m2, m3, m4, m5, m6⟩ := cells7 HBL6.out))
      have HLT := Lib.hid HBL6.out.lt
      have hmk2 : (Instr.makeSlice 27 (.int .i64 65537) (.int .i64 65537)).run Tryd.prog w6 = .ok (.slice (some ⟨w6.heap.size, 0, none⟩) 65537 65537) (w6.alloc (.cells (zerosK 65537) 3)) := (make_rep w6 0 65537 (by omega) (Nat.zero_le _) 0).1
      have hmz := (make_rep (w6.setCell ⟨Y + 1, 6, none⟩ (.slice (some ⟨w6.heap.size, 0, none⟩) 65537 65537)) 0 65537 (by omega) (Nat.zero_le _) 0).2
      rw [World.size_setCell] at hmz
      have HMZ := Lib.hid hmz
      clear hmz
      have HBLZ := Lib.hid ((HBL6.out.set 6 (.slice (some ⟨w6.heap.size, 0, none⟩) 65537 65537)).alloc (.cells (zerosK 65537) 3))
      have HW6 := Lib.hid ((HWj.out.trans (HB4.out.mono (Nat.le_trans HYL.out HWj.out.size))).trans (HB6.out.mono (by have h1 := HWj.out.size; have h2 := HB4.out.size; have h3 := HYL.out; omega)))
      have HW7 := Lib.hid ((HW6.out.setCell (p := ⟨Y + 1, 6, none⟩) (Nat.le_succ _) (.slice (some ⟨w6.heap.size, 0, none⟩) 65537 65537)).alloc (by rw [World.size_setCell]; have h1 := HW6.out.size; have h2 := HYL.out; omega) (.cells (zerosK 65537) 3))
      have HWC : Hid (∀ W W' : World, Below Y w W → Below W.heap.size W W' → Below Y w W') := fun W W' h1 h2 => h1.trans (h2.mono (Nat.le_trans HYL.out h1.size))
      have HPN := mPut_no _ _ _ (mc_own HMZ.out.d0).d (mc_long (by rw [List.length_replicate]; omega))
      dsimp only [mtA, MCt] at HPN
      have HPN := Lib.hid HPN
      clear m0 m1 m2 m3 m4 m5 m6
      obtain ⟨m0, m1, m2, m3, m4, m5, m6⟩ := cells7 HBLZ.out
      have hf := HBL6.out.free 6
      obtain ⟨n0, n1, n2, n3, n4, n5, n6⟩ := cells7 HBL6.out
      have hlt6 := HLT.out
      rw [hmk2]
      go_simp
      go_wp2_with (first
        | (go_at_call 10; first
          | ((with_reducible refine HPN.out.mono ?_); rintro e w8 ⟨pa8, pc8, rfl, hB, hcap, hb⟩; have HW8 := Lib.hid (HWC.out _ _ HW7.out hb); have HBL8 := Lib.hid (HBLZ.out.later hb); clear hB hcap hb HPN m0 m1 m2 m3 m4 m5 m6 n0 n1 n2 n3 n4 n5 n6 hlt6 hf; obtain ⟨m0, m1, m2, m3, m4, m5, m6⟩ := cells7 HBL8.out; have hlt8 := HBL8.out.lt; have hf8 := HBL8.out.free 6; have hoi := one_int14 (w8.setCell ⟨Y + 1, 6, none⟩ (.slice (some ⟨w8.heap.size, 0, none⟩) 1 1)) 0 65536 (Nat.zero_le _); rw [World.size_setCell] at hoi; have HP9 := mPut_no _ _ _ (mc_own hoi).d mc_great; dsimp only [mtA, MCt] at HP9; have HP9 := Lib.hid HP9; clear hoi)
          | ((with_reducible refine HP9.out.mono ?_); rintro e w10 ⟨pa10, pc10, rfl, hB, hcap, hb⟩; have HW10 := Lib.hid (HWC.out _ _ ((HW8.out.setCell (p := ⟨Y + 1, 6, none⟩) (Nat.le_succ _) (.slice (some ⟨w8.heap.size, 0, none⟩) 1 1)).alloc (by rw [World.size_setCell]; exact Nat.le_trans HYL.out HW8.out.size) (.cells #[.int .i64 65536] 3)) hb); clear hB hcap hb HP9 m0 m1 m2 m3 m4 m5 m6 hlt8 hf8))
        | (go_at_call 9; (with_reducible refine (awake14 _ (HWD.out.later (by rw [hY.out]; exact HW10.out))).mono ?_); rintro e w9 ⟨rfl, hb9⟩; have HZ := Lib.hid (HWC.out _ _ HW10.out hb9); clear hb9)
        | (go_at_call 12; first | ((with_reducible refine (HN0.out _).mono ?_); rintro e w' ⟨rfl, hw⟩; obtain rfl := hw.symm) | ((with_reducible refine (HN1.out _).mono ?_); rintro e w' ⟨rfl, hw⟩; obtain rfl := hw.symm)))
      go_ret
      exact ⟨rfl, by rw [hY.out]; exact HZ.out⟩

set_option maxRecDepth 100000 in
theorem lifted (os : Os) (started : os.Started) (H : Type) (enc : TypeId × Value → H) :
    ReturnsInHanded {} Tryd.checked os 6 .any (fun w args => (Rows.metaRunsSpec.pre enc Tryd.prog Tryd.f6 [] false w args ∧ laidMetH Tryd.prog laid8 w) ∧ sizedMet enc Tryd.prog Tryd.f6 (OpenSpec.ofChange Rows.metaRunsSpec) false w args) (Rows.metaRunsSpec.post enc Tryd.prog Tryd.f6 false true false false) := by
  refine returnsInHanded_of_change_and (C := Tryd.checked) (X := fun w _ => laidMetH Tryd.prog laid8 w) (fun _ _ _ hh h => h.of_heap hh) own started (by kernel_rfl) Tryd.func6
    (ChangeSpec.witness_shaped (enc := enc) (C := Tryd.checked) (os := os) (X := fun w _ => laidMetH Tryd.prog laid8 w) false (World.doorLaid Tryd.prog 400 os) #[.int .u16 0, .int .u16 0, .bool false] 8 rfl (World.shaped_of_RefB (by kernel_rfl) (by kernel_rfl)) (by kernel_rfl) (by kernel_rfl) (by kernel_rfl) (door_met os _)) ?_
  intro W base args ds gs before hval0 hW _ _ hL _
  have hval : ∀ (j : Nat) t v, Tryd.f6.params[j]? = some t → args[j]? = some v → Value.okWide Tryd.prog W .any base t v := hval0
  have hW' := hW
  obtain ⟨p, q, hA0, hV, rfl, hfz, hnd⟩ := hW
  have hA : DataW.TrodAll enc Tryd.prog W 0 (fun _ => true) true Tryd.f6.params.toList args.toList ds p := hA0
  rw [Tryd.params6] at hA hval
  obtain ⟨v0, vs0, d0, ds0, p0, q0, hargs, rfl, rfl, h0, r0⟩ := trodAll_cons hA
  obtain ⟨v1, vs1, d1, ds1, p1, q1, rfl, rfl, rfl, h1, r1⟩ := trodAll_cons r0
  obtain ⟨v2, vs2, d2, ds2, p2, q2, rfl, rfl, rfl, h2, r2⟩ := trodAll_cons r1
  obtain ⟨rfl, rfl, rfl⟩ := trodAll_nil r2
  obtain rfl : args = #[v0, v1, v2] := by cases args; simp_all
  obtain ⟨rfl, rfl⟩ := trodVars_none hV
  have k0 := h0
  have lt0 : ∀ x ∈ p0, x.block < W.heap.size := by obtain ⟨m, hm⟩ := k0; exact DataW.trod_lt m _ _ _ hm
  obtain ⟨a0, rfl, _, _, w0⟩ := open_int Tryd.underlying48 (hval 0 48 v0 rfl rfl) h0
  have k1 := h1
  have lt1 : ∀ x ∈ p1, x.block < W.heap.size := by obtain ⟨m, hm⟩ := k1; exact DataW.trod_lt m _ _ _ hm
  obtain ⟨a1, rfl, _, _, w1⟩ := open_int Tryd.underlying48 (hval 1 48 v1 rfl rfl) h1
  have k2 := h2
  have lt2 : ∀ x ∈ p2, x.block < W.heap.size := by obtain ⟨m, hm⟩ := k2; exact DataW.trod_lt m _ _ _ hm
  obtain ⟨a2, rfl, _, _⟩ := open_bool Tryd.underlying4 (hval 2 4 v2 rfl rfl) h2
  clear hA0 hval0
  refine (walk a0 a1 a2 W w0 w1 (Lib.hid (wid_of_laid hL))).mono fun e W' ⟨he, bel⟩ => ?_
  subst he
  exact ⟨_, rfl, _, _, _, [], _, [], hW', trodAll_mk1 (shut_bool Tryd.underlying4 _), (trodAll_cons_mk (Below.trod laidOut (by kernel_rfl) (of_decide_eq_true (by kernel_rfl)) k0 bel lt0) (trodAll_cons_mk (Below.trod laidOut (by kernel_rfl) (of_decide_eq_true (by kernel_rfl)) k1 bel lt1) (trodAll_cons_mk (Below.trod laidOut (by kernel_rfl) (of_decide_eq_true (by kernel_rfl)) k2 bel lt2) trodAll_mk0))), rfl, bel.frame _, fun h => by cases h⟩

theorem over : Rows.metaRunsRow.holds Tryd.pinned (OpenSpec.ofChange Rows.metaRunsSpec) :=
  OpenClaim.holds_of_wide 6 Tryd.f6 rfl rfl rfl rfl rfl rfl rfl ⟨rfl, rfl, rfl, rfl, rfl⟩ rfl rfl rfl rfl rfl (by kernel_rfl) Tryd.func6 (by kernel_rfl)
    (of_decide_eq_true (by kernel_rfl)) (by unfold Func.isWrapper; first | (rw [if_pos (by decide +kernel)]; kernel_rfl) | (rw [if_neg (by decide +kernel)]; exact ⟨rfl, rfl⟩))
    (fun os started H enc _ => lifted os started H enc)

/-- The statement: the row's card, its listed variable tied to the program's text. -/
theorem proved : Rows.MetaRunsCardSaid :=
  Claim7.holds_tied_plain_at .later [] [.data] true (true, "9249da03e8cd02eaf585d81111062a7b5d9f4e426ada74f5d76df224373ff76a") false
    over (fun _ h => by cases h) (by kernel_rfl) (fun _ h => by cases h) metaRuns_row_tie rfl ⟨rfl, rfl⟩ (by kernel_rfl) rfl
    (fun f fn hf hfn => by
      obtain rfl : f = 6 := Option.some.inj ((show Tryd.prog.funcNamed "matryoshka/matryoshkalaw14.MetaRuns" = some 6 by kernel_rfl).symm.trans hf) |>.symm
      obtain rfl : fn = Tryd.f6 := (Option.some.inj (Tryd.func6.symm.trans hfn)).symm
      exact ⟨by kernel_rfl, fun j t ht => by
        rw [Tryd.params6] at ht
        have hm : t ∈ [48, 48, 4] := by simpa using Array.mem_of_getElem? ht
        have hall : ([48, 48, 4].all fun u => !Tryd.prog.wantsStandIn u) = true := by kernel_rfl
        exact (show Tryd.prog.wantsStandIn t = false by simpa using List.all_eq_true.1 hall t hm)⟩)
    (by kernel_rfl)
#print axioms proved
end Go.Proofs.YtdffgnpldapciaaDoor.metaRuns
