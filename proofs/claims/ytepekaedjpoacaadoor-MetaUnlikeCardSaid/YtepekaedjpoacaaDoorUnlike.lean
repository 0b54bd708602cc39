/-
  Proved: 'matryoshkalaw14.MetaUnlike' returns true for every two inputs: the statement MetaUnlikeCardSaid as given. Conditions: none beyond the row's own.
-/
import Derived.Test.YtepekaedjpoacaaDoorRows
import Derived.Test.YtepekaedjpoacaaDoorV8
import Derived.Test.YtepekaedjpoacaaDoorTie
import Derived.Test.YtepekaedjpoacaaDoorCards
import Derived.SevenTiedAt
import Derived.LaidLaws
import Derived.Stop.Joined
import Derived.Test.YtepekaedjpoacaaDoorXz
import Derived.Test.YtepekaedjpoacaaDoorSq
import Derived.Test.YtepekaedjpoacaaDoorV8
import Derived.Deep.RegionHeld3
import Derived.WalkKit
import Derived.ProofKit
import Derived.OpenShut
import Derived.ShutString
import Derived.ChangeOld
import Derived.Below
namespace Go.Proofs.YtepekaedjpoacaaDoor.metaUnlike
open Go.ChangeShapes Go.WideShapes Go.ChangeAt Go.RowKit
open Go.ChangeMaps (open_string shut_string)
set_option linter.unusedVariables false

theorem own : ownKnob Tryd.prog.godebug = none := by kernel_rfl
theorem laidOut : laidOutB Tryd.prog = true := by kernel_rfl

set_option maxRecDepth 100000 in
set_option maxHeartbeats 4000000 in
theorem walk (mc0 ms0 : Int) (mb0 : ByteArray) (ta0 : Option Addr) (tn0 tc0 : Nat) (sa0 : Option Addr) (sn0 sc0 : Nat) (ba0 : Option Addr) (bn0 bc0 : Nat) (ca0 : Option Addr) (cn0 cc0 : Nat) (mc1 ms1 : Int) (mb1 : ByteArray) (ta1 : Option Addr) (tn1 tc1 : Nat) (sa1 : Option Addr) (sn1 sc1 : Nat) (ba1 : Option Addr) (bn1 bc1 : Nat) (ca1 : Option Addr) (cn1 cc1 : Nat) (w : World) (w0 : MetaArg w mc0 ms0 mb0 ta0 tn0 tc0 sa0 sn0 sc0 ba0 bn0 bc0 ca0 cn0 cc0) (w1 : MetaArg w mc1 ms1 mb1 ta1 tn1 tc1 sa1 sn1 sc1 ba1 bn1 bc1 ca1 cn1 cc1) (HWD : Hid (Wid w)) :
    Calls Tryd.prog 7 #[.agg #[.int .i64 mc0, .int .i64 ms0, .string mb0, .slice ta0 tn0 tc0, .slice sa0 sn0 sc0, .slice ba0 bn0 bc0, .slice ca0 cn0 cc0], .agg #[.int .i64 mc1, .int .i64 ms1, .string mb1, .slice ta1 tn1 tc1, .slice sa1 sn1 sc1, .slice ba1 bn1 bc1, .slice ca1 cn1 cc1]] w fun e w' => e = .returned (.bool true) ∧ Below w.heap.size w w' := by
  have HGR0 := Lib.hid (fun (W : World) (hb : Below w.heap.size w W) => great_md (w0.later hb))
  have HGR1 := Lib.hid (fun (W : World) (hb : Below w.heap.size w W) => great_md (w1.later hb))
  have HT := Lib.hid (Two14.first w #[.int .i64 mc0, .int .i64 ms0, .string mb0, .slice ta0 tn0 tc0, .slice sa0 sn0 sc0, .slice ba0 bn0 bc0, .slice ca0 cn0 cc0] #[.int .i64 mc1, .int .i64 ms1, .string mb1, .slice ta1 tn1 tc1, .slice sa1 sn1 sc1, .slice ba1 bn1 bc1, .slice ca1 cn1 cc1])
  have HAW : Hid (∀ W, Below w.heap.size w W → Calls Tryd.prog 9 #[] W fun e w' => e = .returned (.bool true) ∧ Below w.heap.size w w') := fun W hb => (awake14 W (HWD.out.later hb)).mono fun e w' h => ⟨h.1, hb.trans (h.2.mono hb.size)⟩
  have HNU := Lib.hid (fun W => num14 0 (by unfold I64; omega) W)
  go_enter Tryd.func7, Tryd.ntmps7
  go_wp2_with (first
    | (go_at_call 8; (with_reducible refine (HGR0.out _ HT.out.below).mono ?_); rintro e w2 ⟨G, rfl, h, hg⟩; have HG0 := Lib.hid hg; have HB2 := Lib.hid h; have HT2 := Lib.hid (HT.out.later h); obtain ⟨m0, m1, m2, m3, m4, m5, m6⟩ := cells7 HT2.out.1; obtain ⟨n0, n1, n2, n3, n4, n5, n6⟩ := cells7 HT2.out.2.1; clear h hg; cases G)
    | (go_at_call 8; (with_reducible refine (HGR1.out _ HT2.out.below).mono ?_); rintro e w3 ⟨G, rfl, h, hg⟩; have HG1 := Lib.hid hg; have HB3 := Lib.hid h; have HT3 := Lib.hid (HT2.out.later h); clear m0 m1 m2 m3 m4 m5 m6 n0 n1 n2 n3 n4 n5 n6; obtain ⟨m0, m1, m2, m3, m4, m5, m6⟩ := cells7 HT3.out.1; obtain ⟨n0, n1, n2, n3, n4, n5, n6⟩ := cells7 HT3.out.2.1; clear h hg; cases G)
    | (go_at_call 13; obtain ⟨⟨c', s', bk', T, S, B, K⟩, q1, q2, q3, h20, h21, hcn, h500, hMD⟩ := HG0.out (by first | rfl | trivial); dsimp only at q1 q2 q3 h500; subst q1 q2 q3; have HM0 := Lib.hid ((hMD.later HB2.out).later HB3.out); have HRA := refRight12 _ _ _ HM0.out (by show cn0 ≤ 65536; omega); dsimp only [mtA] at HRA; (with_reducible refine HRA.mono ?_); clear HRA; rintro e w4 ⟨R, rfl, h, hr⟩; have HM4 := Lib.hid (HM0.out.later h); have HB4 := Lib.hid h; have HR0 := Lib.hid hr.1; have HT4 := Lib.hid (HT3.out.later h); clear m0 m1 m2 m3 m4 m5 m6 n0 n1 n2 n3 n4 n5 n6; obtain ⟨m0, m1, m2, m3, m4, m5, m6⟩ := cells7 HT4.out.1; obtain ⟨n0, n1, n2, n3, n4, n5, n6⟩ := cells7 HT4.out.2.1; clear h hr hMD; cases R)
    | (go_at_call 13; obtain ⟨⟨c1', s1', bk1', T1, S1, B1, K1⟩, q1, q2, q3, h20', h21', hcn', h500', hMD⟩ := HG1.out (by first | rfl | trivial); dsimp only at q1 q2 q3 h500'; subst q1 q2 q3; have HN4 := Lib.hid ((hMD.later HB3.out).later HB4.out); have HRA := refRight12 _ _ _ HN4.out (by show cn1 ≤ 65536; omega); dsimp only [mtA] at HRA; (with_reducible refine HRA.mono ?_); clear HRA; rintro e w5 ⟨R, rfl, h, hr⟩; have HM5 := Lib.hid (HM4.out.later h); have HN5 := Lib.hid (HN4.out.later h); have HR1 := Lib.hid hr.1; have HT5 := Lib.hid (HT4.out.later h); clear m0 m1 m2 m3 m4 m5 m6 n0 n1 n2 n3 n4 n5 n6; obtain ⟨m0, m1, m2, m3, m4, m5, m6⟩ := cells7 HT5.out.1; obtain ⟨n0, n1, n2, n3, n4, n5, n6⟩ := cells7 HT5.out.2.1; clear h hr hMD; cases R)
    | (go_at_call 9; first | ((with_reducible refine (HAW.out _ HT5.out.below).mono ?_); rintro e w9 ⟨rfl, hb9⟩) | ((with_reducible refine (HAW.out _ HT4.out.below).mono ?_); rintro e w9 ⟨rfl, hb9⟩) | ((with_reducible refine (HAW.out _ HT3.out.below).mono ?_); rintro e w9 ⟨rfl, hb9⟩) | ((with_reducible refine (HAW.out _ HT2.out.below).mono ?_); rintro e w9 ⟨rfl, hb9⟩))
    | (go_at_call 10; have HPU := mPut _ _ _ HM5.out (HR0.out (by first | rfl | trivial)) (HWD.out.later HT5.out.below); dsimp only [mtA] at HPU; (with_reducible refine HPU.mono ?_); clear HPU; intro e w6 hp; obtain ⟨LA, hLA⟩ := named (encM { c := c', s := s', bk := bk', T := T, S := S, B := B, K := K }); rw [hLA.out] at hp; obtain ⟨NA, hNA⟩ := named LA.length; obtain ⟨xa, ya, rfl, hB, _, hb⟩ := hp.sized hNA.out; have HLA := Lib.hid hLA.out; have HY6 := Lib.hid hB; have HM6 := Lib.hid (HM5.out.later hb); have HN6 := Lib.hid (HN5.out.later hb); have HT6 := Lib.hid (HT5.out.later hb); clear m0 m1 m2 m3 m4 m5 m6 n0 n1 n2 n3 n4 n5 n6; obtain ⟨m0, m1, m2, m3, m4, m5, m6⟩ := cells7 HT6.out.1; obtain ⟨n0, n1, n2, n3, n4, n5, n6⟩ := cells7 HT6.out.2.1; clear hp hB hb hLA hNA)
    | (go_at_call 10; have HPU := mPut _ _ _ HN6.out (HR1.out (by first | rfl | trivial)) (HWD.out.later HT6.out.below); dsimp only [mtA] at HPU; (with_reducible refine HPU.mono ?_); clear HPU; intro e w7 hp; obtain ⟨LB, hLB⟩ := named (encM { c := c1', s := s1', bk := bk1', T := T1, S := S1, B := B1, K := K1 }); rw [hLB.out] at hp; obtain ⟨NB, hNB⟩ := named LB.length; obtain ⟨xb, yb, rfl, hB, _, hb⟩ := hp.sized hNB.out; have HLB := Lib.hid hLB.out; have HY7 := Lib.hid (HY6.out.later hb); have HZ7 := Lib.hid hB; have HM7 := Lib.hid (HM6.out.later hb); have HN7 := Lib.hid (HN6.out.later hb); have HT7 := Lib.hid (HT6.out.later hb); clear m0 m1 m2 m3 m4 m5 m6 n0 n1 n2 n3 n4 n5 n6; clear hp hB hb hLB hNB)
    | (go_at_call 12; (with_reducible refine (HNU.out _).mono ?_); rintro e w' ⟨rfl, hw⟩; obtain rfl := hw.symm))
  all_goals first
    | (go_ret; exact ⟨rfl, hb9⟩)
    | skip
  have hub := un_both (HR0.out (by first | rfl | trivial)) (HR1.out (by first | rfl | trivial)) HM7.out.en HN7.out.en (by rw [HLA.out]; exact HY7.out.small.2) (by rw [HLB.out]; exact HZ7.out.small.2)
  rw [HLA.out, HLB.out] at hub
  obtain ⟨R, hR, hcmp⟩ := hub
  have HRS := Lib.hid (fun W (hb : Below w7.heap.size w7 W) => refSame (HM7.out.later hb) (HN7.out.later hb) hR)
  dsimp only [mtA] at HRS
  have HK1 := Lib.hid (fun W (hb : Below w7.heap.size w7 W) => conv_str (HY7.out.later hb) ya)
  have HK2 := Lib.hid (fun W (hb : Below w7.heap.size w7 W) => conv_str (HZ7.out.later hb) yb)
  obtain ⟨UA, hUA⟩ := named (strOfNums LA)
  obtain ⟨UB, hUB⟩ := named (strOfNums LB)
  rw [hUA.out, hUB.out] at hcmp
  rw [hUA.out] at HK1
  rw [hUB.out] at HK2
  clear hR hUA hUB
  obtain ⟨X, hX⟩ := named w.heap.size
  obtain ⟨Y, hY⟩ := named (w.heap.size + 1)
  have HBW := Lib.hid HT7.out.below
  have HKS : Hid (∀ W, Below w7.heap.size w7 W → ((convert 32 9 (.slice xa NA ya)).run Tryd.prog W = .ok (.string UA) W ∧ (convert 32 9 (.slice xb NB yb)).run Tryd.prog W = .ok (.string UB) W) ∧ (W.cell? ⟨X, 0, none⟩ = some (.int .i64 c') ∧ W.cell? ⟨X, 1, none⟩ = some (.int .i64 s') ∧ W.cell? ⟨X, 2, none⟩ = some (.string bk') ∧ W.cell? ⟨X, 3, none⟩ = some (.slice ta0 tn0 tc0) ∧ W.cell? ⟨X, 4, none⟩ = some (.slice sa0 sn0 sc0) ∧ W.cell? ⟨X, 5, none⟩ = some (.slice ba0 bn0 bc0) ∧ W.cell? ⟨X, 6, none⟩ = some (.slice ca0 cn0 cc0)) ∧ (W.cell? ⟨Y, 0, none⟩ = some (.int .i64 c1') ∧ W.cell? ⟨Y, 1, none⟩ = some (.int .i64 s1') ∧ W.cell? ⟨Y, 2, none⟩ = some (.string bk1') ∧ W.cell? ⟨Y, 3, none⟩ = some (.slice ta1 tn1 tc1) ∧ W.cell? ⟨Y, 4, none⟩ = some (.slice sa1 sn1 sc1) ∧ W.cell? ⟨Y, 5, none⟩ = some (.slice ba1 bn1 bc1) ∧ W.cell? ⟨Y, 6, none⟩ = some (.slice ca1 cn1 cc1))) := fun W hb => ⟨⟨HK1.out W hb, HK2.out W hb⟩, by rw [← hX.out]; exact cells7 (HT7.out.later hb).1, by rw [← hY.out]; exact cells7 (HT7.out.later hb).2.1⟩
  have HAX : Hid (∀ W, Below w7.heap.size w7 W → Calls Tryd.prog 9 #[] W fun e w' => e = .returned (.bool true) ∧ Below w7.heap.size w7 w') := fun W hb => (awake14 W (HWD.out.later (HBW.out.trans (hb.mono HBW.out.size)))).mono fun e w' h => ⟨h.1, hb.trans (h.2.mono hb.size)⟩
  have HRX : Hid (∀ W, Below w7.heap.size w7 W → Calls Tryd.prog 15 #[.agg #[.int .i64 c', .int .i64 s', .string bk', .slice ta0 tn0 tc0, .slice sa0 sn0 sc0, .slice ba0 bn0 bc0, .slice ca0 cn0 cc0], .agg #[.int .i64 c1', .int .i64 s1', .string bk1', .slice ta1 tn1 tc1, .slice sa1 sn1 sc1, .slice ba1 bn1 bc1, .slice ca1 cn1 cc1]] W fun e w' => e = .returned (.bool R) ∧ Below w7.heap.size w7 w') := fun W hb => (HRS.out W hb).mono fun e w' h => ⟨h.1, hb.trans (h.2.mono hb.size)⟩
  have HR0 := Lib.hid (Below.refl w7.heap.size w7)
  have HRD := Lib.hid (Below.refl w7.heap.size w7).drew
  have hXX := hX.out
  have hYY := hY.out
  rw [hXX] at hYY
  clear HRS HK1 HK2 hY
  cases R
  all_goals
    rw [hXX]
    try rw [hYY]
    clear hX
    go_region_held3 (fun W => ((convert 32 9 (.slice xa NA ya)).run Tryd.prog W = .ok (.string UA) W ∧ (convert 32 9 (.slice xb NB yb)).run Tryd.prog W = .ok (.string UB) W) ∧ (W.cell? ⟨X, 0, none⟩ = some (.int .i64 c') ∧ W.cell? ⟨X, 1, none⟩ = some (.int .i64 s') ∧ W.cell? ⟨X, 2, none⟩ = some (.string bk') ∧ W.cell? ⟨X, 3, none⟩ = some (.slice ta0 tn0 tc0) ∧ W.cell? ⟨X, 4, none⟩ = some (.slice sa0 sn0 sc0) ∧ W.cell? ⟨X, 5, none⟩ = some (.slice ba0 bn0 bc0) ∧ W.cell? ⟨X, 6, none⟩ = some (.slice ca0 cn0 cc0)) ∧ (W.cell? ⟨Y, 0, none⟩ = some (.int .i64 c1') ∧ W.cell? ⟨Y, 1, none⟩ = some (.int .i64 s1') ∧ W.cell? ⟨Y, 2, none⟩ = some (.string bk1') ∧ W.cell? ⟨Y, 3, none⟩ = some (.slice ta1 tn1 tc1) ∧ W.cell? ⟨Y, 4, none⟩ = some (.slice sa1 sn1 sc1) ∧ W.cell? ⟨Y, 5, none⟩ = some (.slice ba1 bn1 bc1) ∧ W.cell? ⟨Y, 6, none⟩ = some (.slice ca1 cn1 cc1))) (first | with_reducible exact HKS.out _ HR0.out | with_reducible exact HKS.out _ HRD.out | with_reducible exact HKS.out _ HP1.out | with_reducible exact HKS.out _ HP9.out) (first
      | (go_at_call 12; (with_reducible refine (HNU.out _).mono ?_); rintro e w' ⟨rfl, hw⟩; obtain rfl := hw.symm)
      | (go_at_call 15; (with_reducible refine (HRX.out _ HRD.out).mono ?_); rintro e u1 ⟨rfl, hb⟩; have HP1 := Lib.hid hb; clear hb)
      | (go_at_call 9; (with_reducible refine (HAX.out _ HP1.out).mono ?_); rintro e u9 ⟨rfl, hb⟩; have HP9 := Lib.hid hb; clear hb))
    go_wp2
    go_ret
    exact ⟨rfl, HBW.out.trans (HP9.out.mono HBW.out.size)⟩

set_option maxRecDepth 100000 in
theorem lifted (os : Os) (started : os.Started) (H : Type) (enc : TypeId × Value → H) :
    ReturnsInHanded {} Tryd.checked os 7 .any (fun w args => (Rows.metaUnlikeSpec.pre enc Tryd.prog Tryd.f7 [] false w args ∧ laidMetH Tryd.prog laid8 w) ∧ sizedMet enc Tryd.prog Tryd.f7 (OpenSpec.ofChange Rows.metaUnlikeSpec) false w args) (Rows.metaUnlikeSpec.post enc Tryd.prog Tryd.f7 false true false false) := by
  refine returnsInHanded_of_change_and (C := Tryd.checked) (X := fun w _ => laidMetH Tryd.prog laid8 w) (fun _ _ _ hh h => h.of_heap hh) own started (by kernel_rfl) Tryd.func7
    (ChangeSpec.witness_shaped (enc := enc) (C := Tryd.checked) (os := os) (X := fun w _ => laidMetH Tryd.prog laid8 w) false (World.doorLaid Tryd.prog 400 os) #[.agg #[.int .i64 0, .int .i64 0, .string ByteArray.empty, .slice none 0 0, .slice none 0 0, .slice none 0 0, .slice none 0 0], .agg #[.int .i64 0, .int .i64 0, .string ByteArray.empty, .slice none 0 0, .slice none 0 0, .slice none 0 0, .slice none 0 0]] 8 rfl (World.shaped_of_RefB (by kernel_rfl) (by kernel_rfl)) (by kernel_rfl) (by kernel_rfl) (by kernel_rfl) (door_met os _)) ?_
  intro W base args ds gs before hval0 hW _ _ hL _
  have hval : ∀ (j : Nat) t v, Tryd.f7.params[j]? = some t → args[j]? = some v → Value.okWide Tryd.prog W .any base t v := hval0
  have hW' := hW
  obtain ⟨p, q, hA0, hV, rfl, hfz, hnd⟩ := hW
  have hA : DataW.TrodAll enc Tryd.prog W 0 (fun _ => true) true Tryd.f7.params.toList args.toList ds p := hA0
  rw [Tryd.params7] at hA hval
  obtain ⟨v0, vs0, d0, ds0, p0, q0, hargs, rfl, rfl, h0, r0⟩ := trodAll_cons hA
  obtain ⟨v1, vs1, d1, ds1, p1, q1, rfl, rfl, rfl, h1, r1⟩ := trodAll_cons r0
  obtain ⟨rfl, rfl, rfl⟩ := trodAll_nil r1
  obtain rfl : args = #[v0, v1] := by cases args; simp_all
  obtain ⟨rfl, rfl⟩ := trodVars_none hV
  have k0 := h0
  have lt0 : ∀ x ∈ p0, x.block < W.heap.size := by obtain ⟨m, hm⟩ := k0; exact DataW.trod_lt m _ _ _ hm
  obtain ⟨mc0, ms0, mb0, ta0, tn0, tc0, sa0, sn0, sc0, ba0, bn0, bc0, ca0, cn0, cc0, rfl, w0⟩ := meta_open (hval 0 29 v0 rfl rfl) h0
  have k1 := h1
  have lt1 : ∀ x ∈ p1, x.block < W.heap.size := by obtain ⟨m, hm⟩ := k1; exact DataW.trod_lt m _ _ _ hm
  obtain ⟨mc1, ms1, mb1, ta1, tn1, tc1, sa1, sn1, sc1, ba1, bn1, bc1, ca1, cn1, cc1, rfl, w1⟩ := meta_open (hval 1 29 v1 rfl rfl) h1
  clear hA0 hval0
  refine (walk mc0 ms0 mb0 ta0 tn0 tc0 sa0 sn0 sc0 ba0 bn0 bc0 ca0 cn0 cc0 mc1 ms1 mb1 ta1 tn1 tc1 sa1 sn1 sc1 ba1 bn1 bc1 ca1 cn1 cc1 W w0 w1 (Lib.hid (wid_of_laid hL))).mono fun e W' ⟨he, bel⟩ => ?_
  subst he
  exact ⟨_, rfl, _, _, _, [], _, [], hW', trodAll_mk1 (shut_bool Tryd.underlying4 _), (trodAll_cons_mk (Below.trod laidOut (by kernel_rfl) (of_decide_eq_true (by kernel_rfl)) k0 bel lt0) (trodAll_cons_mk (Below.trod laidOut (by kernel_rfl) (of_decide_eq_true (by kernel_rfl)) k1 bel lt1) trodAll_mk0)), rfl, bel.frame _, fun h => by cases h⟩

theorem over : Rows.metaUnlikeRow.holds Tryd.pinned (OpenSpec.ofChange Rows.metaUnlikeSpec) :=
  OpenClaim.holds_of_wide 7 Tryd.f7 rfl rfl rfl rfl rfl rfl rfl ⟨rfl, rfl, rfl, rfl, rfl⟩ rfl rfl rfl rfl rfl (by kernel_rfl) Tryd.func7 (by kernel_rfl)
    (of_decide_eq_true (by kernel_rfl)) (by unfold Func.isWrapper; first | (rw [if_pos (by decide +kernel)]; kernel_rfl) | (rw [if_neg (by decide +kernel)]; exact ⟨rfl, rfl⟩))
    (fun os started H enc _ => lifted os started H enc)

/-- The statement: the row's card, its listed variable tied to the program's text. -/
theorem proved : Rows.MetaUnlikeCardSaid :=
  Claim7.holds_tied_plain_at .later [] [.data] true (true, "9249da03e8cd02eaf585d81111062a7b5d9f4e426ada74f5d76df224373ff76a") false
    over (fun _ h => by cases h) (by kernel_rfl) (fun _ h => by cases h) metaUnlike_row_tie rfl ⟨rfl, rfl⟩ (by kernel_rfl) rfl
    (fun f fn hf hfn => by
      obtain rfl : f = 7 := Option.some.inj ((show Tryd.prog.funcNamed "matryoshka/matryoshkalaw14.MetaUnlike" = some 7 by kernel_rfl).symm.trans hf) |>.symm
      obtain rfl : fn = Tryd.f7 := (Option.some.inj (Tryd.func7.symm.trans hfn)).symm
      exact ⟨by kernel_rfl, fun j t ht => by
        rw [Tryd.params7] at ht
        have hm : t ∈ [29, 29] := by simpa using Array.mem_of_getElem? ht
        have hall : ([29, 29].all fun u => !Tryd.prog.wantsStandIn u) = true := by kernel_rfl
        exact (show Tryd.prog.wantsStandIn t = false by simpa using List.all_eq_true.1 hall t hm)⟩)
    (by kernel_rfl)
#print axioms proved
end Go.Proofs.YtepekaedjpoacaaDoor.metaUnlike
