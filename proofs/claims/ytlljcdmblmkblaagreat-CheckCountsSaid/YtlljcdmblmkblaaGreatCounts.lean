/-
  Proved: 'matryoshkalaw15.CheckCounts' returns true for every input (any place, any number, any start), and each argument reads afterwards as before: the statement CheckCountsSaid as given. Conditions: none beyond the row's own.
-/
import Derived.Test.YtlljcdmblmkblaaGreatRows
import Derived.Test.YtlljcdmblmkblaaGreatCl
import Derived.Deep.RegionHeld3
import Derived.WalkKit
import Derived.ProofKit
import Derived.OpenShut
import Derived.ShutString
import Derived.ChangeOld
import Derived.Below
namespace Go.Proofs.YtlljcdmblmkblaaGreat.checkCounts
open Go.ChangeShapes Go.WideShapes Go.ChangeAt Go.RowKit
open Go.ChangeMaps (open_string shut_string)
set_option linter.unusedVariables false

theorem own : ownKnob Tryz.prog.godebug = none := by kernel_rfl
theorem laidOut : laidOutB Tryz.prog = true := by kernel_rfl

set_option maxRecDepth 100000 in
set_option maxHeartbeats 4000000 in
theorem walk (a0 : Int) (a1 : Int) (a2 : Int) (w : World) (w0 : (Lit.int .u8 a0).wf = true) (w1 : (Lit.int .i8 a1).wf = true) (w2 : (Lit.int .u8 a2).wf = true) :
    Calls Tryz.prog 8 #[.int .u8 a0, .int .i8 a1, .int .u8 a2] w fun e w' => e = .returned (.bool true) ∧ Below w.heap.size w w' := by
  have hb0 := byte_of_wf w0
  have hb2 := byte_of_wf w2
  have hby := i8_of_wf w1
  obtain ⟨A0, rfl⟩ : ∃ A : Nat, a0 = A := ⟨a0.toNat, by omega⟩
  obtain ⟨A2, rfl⟩ : ∃ A : Nat, a2 = A := ⟨a2.toNat, by omega⟩
  obtain ⟨x, hx⟩ := named (2 + A2 % 30)
  have hx2 : 2 ≤ x ∧ x ≤ 31 := by have := hx.out; omega
  obtain ⟨p, hp⟩ := named (A0 % 40)
  have hp4 : p < 40 := by have := hp.out; omega
  have r1 : wrap64 (A0 : Int) = (A0 : Int) := by unfold wrap64; omega
  have r2 : (A0 : Int) % 40 = (p : Int) := by have := hp.out; omega
  have r3 : wrap64 a1 = a1 := by unfold wrap64; omega
  have q2 : wrap64 (A2 : Int) = (A2 : Int) := by unfold wrap64; omega
  have q4 : (2 : Int) + (A2 : Int) % 30 = (x : Int) := by have := hx.out; omega
  have HFI : Hid (∀ W, Calls Tryz.prog 24 #[.int .i64 40] W fun e w' => ∃ (a : Option Addr) (c : Nat), e = .returned (.slice a 640 c) ∧ Own w' W.heap.size (.slice a 640 c) 640 (fileL 40) ∧ Below W.heap.size W w') := fun W => file15 W 40 (by omega)
  obtain ⟨fl, hfl⟩ := named (fileL 40)
  rw [hfl.out] at HFI
  go_enter Tryz.func8, Tryz.ntmps8
  go_wp2_with (first
    | (go_at_call 24; (with_reducible refine (HFI.out _).mono ?_); rintro e w1 ⟨fa, fc, rfl, hO, hb⟩; have HF1 := Lib.hid hO; have HB1 := Lib.hid hb; clear hO hb))
  have HFB := Lib.hid HF1.out.bytes.1
  have hcap := HF1.out.capOk
  have hnil := HF1.out.bytes.2
  obtain ⟨I1, hI1⟩ := named (x * 16)
  obtain ⟨I2, hI2⟩ := named (x * 16 + 64)
  have hI : I1 ≤ I2 ∧ I2 ≤ 640 := by have := hI1.out; have := hI2.out; omega
  obtain ⟨sa, sc, hsl, hsB, _, _⟩ := slice_mid15 HFB.out hcap hnil I1 I2 hI.1 hI.2
  have h64 : I2 - I1 = 64 := by have := hI1.out; have := hI2.out; omega
  have hcc : (fl.drop I1).take (I2 - I1) = contC x := by rw [h64, ← hfl.out, ← hI1.out]; rfl
  rw [hcc] at hsB
  rw [h64] at hsl hsB
  obtain ⟨m, hm⟩ := named (moreOf 0 (contC x))
  have hml : m < 4294967296 := by rw [← hm.out]; exact moreOf_lt (by decide) hsB.2.1.lt
  have HSB := Lib.hid hsB
  have q5 : (16 : Int) * (x : Int) = (I1 : Int) := by have := hI1.out; omega
  have q6 : IntKind.i64.wrap ((16 : Int) * (x : Int)) = (I1 : Int) := by rw [q5]; exact IntWalk.i64_in _ (by omega)
  have q7 : IntKind.i64.wrap ((I1 : Int) + 64) = (I2 : Int) := by rw [show (I1 : Int) + 64 = (I2 : Int) by have := hI1.out; have := hI2.out; omega]; exact IntWalk.i64_in _ (by omega)
  have q8 : (I1 : Int) + 64 = (I2 : Int) := by have := hI1.out; have := hI2.out; omega
  have q9 : IntKind.i64.wrap (I1 : Int) = (I1 : Int) := IntWalk.i64_in _ (by omega)
  have q10 : IntKind.i64.wrap (I2 : Int) = (I2 : Int) := IntWalk.i64_in _ (by omega)
  have HM0 := Lib.hid (Blk.new w1 41 #[.int .i64 2, .int .i64 4, .string ⟨#[]⟩, .slice none 0 0, .slice none 0 0, .slice none 0 0, .slice none 0 0])
  have hd := (Below.refl (w1.alloc (.cells #[.int .i64 2, .int .i64 4, .string ⟨#[]⟩, .slice none 0 0, .slice none 0 0, .slice none 0 0, .slice none 0 0] 41)).heap.size (w1.alloc (.cells #[.int .i64 2, .int .i64 4, .string ⟨#[]⟩, .slice none 0 0, .slice none 0 0, .slice none 0 0, .slice none 0 0] 41))).drew
  have HMd := Lib.hid (HM0.out.later hd)
  have ha := (Below.refl w1.heap.size w1).alloc (Nat.le_refl _) (.cells #[.int .i64 2, .int .i64 4, .string ⟨#[]⟩, .slice none 0 0, .slice none 0 0, .slice none 0 0, .slice none 0 0] 41)
  have HWd := Lib.hid (ha.trans (hd.mono ha.size))
  have HEO : Hid (EnOk (2, (x : Int), 4, 0, (m : Int))) := eC_ok hx2 hml
  have HST : Hid (setT [] 0 (2, (x : Int), 4, 0, (m : Int)) = tE (eC x m)) := setT_one (e := eC x m) rfl (eC_may hx2)
  obtain ⟨t0, t1, t2, t3, t4, t5, t6⟩ := cellsG HMd.out
  clear hd ha hcc hsB
  refine wp_region_held_drew (S := fun _ => True) (by kernel_rfl) (True.intro) (fun hHeld => ?_)
  refine wpAnyH_take (i := 0) (oi := _) (v := ?vq1) rfl (by kernel_rfl) (by kernel_rfl) (by kernel_rfl) (fun _ _ _ h => h) (Or.inl ⟨by rfl, ?hyq1⟩) (by assumption) ?restq1
  case hyq1 => (intro wz hSw; (try dsimp only at hSw); go_simp; try with_reducible rfl)
  (try simp only [List.getElem_toArray, List.getElem_cons_zero, Act.put, List.setIfInBounds_toArray, List.set_cons_zero, List.set_cons_succ])
  refine wpAnyH_take (i := 2) (oi := _) (v := ?vq2) rfl (by kernel_rfl) (by kernel_rfl) (by kernel_rfl) (fun _ _ _ h => h) (Or.inl ⟨by rfl, ?hyq2⟩) (by assumption) ?restq2
  case hyq2 => (intro wz hSw; (try dsimp only at hSw); go_simp; try with_reducible rfl)
  (try simp only [List.getElem_toArray, List.getElem_cons_zero, List.getElem_cons_succ, Act.put, List.setIfInBounds_toArray, List.set_cons_zero, List.set_cons_succ])
  refine wpAnyH_take (i := 3) (oi := _) (v := ?vq3) rfl (by kernel_rfl) (by kernel_rfl) (by kernel_rfl) (fun _ _ _ h => h) (Or.inl ⟨by rfl, ?hyq3⟩) (by assumption) ?restq3
  case hyq3 => (intro wz hSw; (try dsimp only at hSw); go_simp; try with_reducible rfl)
  (try simp only [List.getElem_toArray, List.getElem_cons_zero, List.getElem_cons_succ, Act.put, List.setIfInBounds_toArray, List.set_cons_zero, List.set_cons_succ])
  refine wpAnyH_take (i := 4) (oi := _) (v := ?vq4) rfl (by kernel_rfl) (by kernel_rfl) (by kernel_rfl) (fun _ _ _ h => h) (Or.inl ⟨by rfl, ?hyq4⟩) (by assumption) ?restq4
  case hyq4 => (intro wz hSw; (try dsimp only at hSw); go_simp; try with_reducible rfl)
  (try simp only [List.getElem_toArray, List.getElem_cons_zero, List.getElem_cons_succ, Act.put, List.setIfInBounds_toArray, List.set_cons_zero, List.set_cons_succ])
  refine wpAnyH_take (i := 5) (oi := _) (v := ?vq5) rfl (by kernel_rfl) (by kernel_rfl) (by kernel_rfl) (fun _ _ _ h => h) (Or.inl ⟨by rfl, ?hyq5⟩) (by assumption) ?restq5
  case hyq5 => (intro wz hSw; (try dsimp only at hSw); go_simp; try with_reducible rfl)
  (try simp only [List.getElem_toArray, List.getElem_cons_zero, List.getElem_cons_succ, Act.put, List.setIfInBounds_toArray, List.set_cons_zero, List.set_cons_succ])
  refine wpAnyH_take (i := 6) (oi := _) (v := ?vq6) rfl (by kernel_rfl) (by kernel_rfl) (by kernel_rfl) (fun _ _ _ h => h) (Or.inl ⟨by rfl, ?hyq6⟩) (by assumption) ?restq6
  case hyq6 => (intro wz hSw; (try dsimp only at hSw); go_simp; try with_reducible rfl)
  (try simp only [List.getElem_toArray, List.getElem_cons_zero, List.getElem_cons_succ, Act.put, List.setIfInBounds_toArray, List.set_cons_zero, List.set_cons_succ])
  refine wpAnyH_take (i := 7) (oi := _) (v := ?vq7) rfl (by kernel_rfl) (by kernel_rfl) (by kernel_rfl) (fun _ _ _ h => h) (Or.inl ⟨by rfl, ?hyq7⟩) (by assumption) ?restq7
  case hyq7 => (intro wz hSw; (try dsimp only at hSw); go_simp; try with_reducible rfl)
  (try simp only [List.getElem_toArray, List.getElem_cons_zero, List.getElem_cons_succ, Act.put, List.setIfInBounds_toArray, List.set_cons_zero, List.set_cons_succ])
  refine wpAnyH_take (i := 8) (oi := _) (v := ?vq8) rfl (by kernel_rfl) (by kernel_rfl) (by kernel_rfl) (fun _ _ _ h => h) (Or.inl ⟨by rfl, ?hyq8⟩) (by assumption) ?restq8
  case hyq8 => (intro wz hSw; (try dsimp only at hSw); go_simp; try with_reducible rfl)
  (try simp only [List.getElem_toArray, List.getElem_cons_zero, List.getElem_cons_succ, Act.put, List.setIfInBounds_toArray, List.set_cons_zero, List.set_cons_succ])
  refine wpAnyH_take (i := 9) (oi := _) (v := ?vq9) rfl (by kernel_rfl) (by kernel_rfl) (by kernel_rfl) (fun _ _ _ h => h) (Or.inl ⟨by rfl, ?hyq9⟩) (by assumption) ?restq9
  case hyq9 => (intro wz hSw; (try dsimp only at hSw); go_simp; try with_reducible rfl)
  (try simp only [List.getElem_toArray, List.getElem_cons_zero, List.getElem_cons_succ, Act.put, List.setIfInBounds_toArray, List.set_cons_zero, List.set_cons_succ])
  refine wpAnyH_ready (rs := [1, 10]) (by kernel_rfl) (by simp) ?_
  refine (AllReadyH.cons (o := _) rfl (fun K hK => ?_) (AllReadyH.cons (o := _) rfl (fun K hK => ?_) AllReadyH.nil))
  · rw [if_pos (by rfl)]
    go_simp
    refine hK.out _ _ (True.intro) (fun hHeld => ?_)
    clear hK K
    (try simp only [List.getElem_toArray, List.getElem_cons_zero, List.getElem_cons_succ, Act.put, List.setIfInBounds_toArray, List.set_cons_zero, List.set_cons_succ])
    refine wpAnyH_ready (rs := [10]) (by kernel_rfl) (by simp) ?_
    refine (AllReadyH.cons (o := _) rfl (fun K hK => ?_) AllReadyH.nil)
    rw [if_pos (by rfl)]
    go_simp
    (go_at_call 23; (refine (refSum_any _ _ _ (contC x) _ (HSB.out.later HWd.out)).mono ?_); rintro e w3 ⟨rfl, hw⟩; obtain rfl := hw; rw [hm.out])
    (try dsimp only)
    refine hK.out _ _ (True.intro) (fun hHeld => ?_)
    clear hK K
    (try simp only [List.getElem_toArray, List.getElem_cons_zero, List.getElem_cons_succ, Act.put, List.setIfInBounds_toArray, List.set_cons_zero, List.set_cons_succ])
    refine wpAnyH_take (i := 11) (oi := _) (v := ?vq10) rfl (by kernel_rfl) (by kernel_rfl) (by kernel_rfl) (fun _ _ _ h => h) (Or.inl ⟨by rfl, ?hyq10⟩) (by assumption) ?restq10
    case hyq10 => (intro wz hSw; (try dsimp only at hSw); go_simp; try with_reducible rfl)
    (try simp only [List.getElem_toArray, List.getElem_cons_zero, List.getElem_cons_succ, Act.put, List.setIfInBounds_toArray, List.set_cons_zero, List.set_cons_succ])
    refine wpAnyH_ready (rs := [12]) (by kernel_rfl) (by simp) ?_
    refine (AllReadyH.cons (o := _) rfl (fun K hK => ?_) AllReadyH.nil)
    rw [if_pos (by rfl)]
    go_simp
    (go_at_call 25; (refine (refSet9 _ none 0 0 [] 0 2 (x : Int) 4 0 (m : Int) (Tab.nil _) (by unfold I64; omega) HEO.out).mono ?_); rintro e w4 ⟨ta, tl, tc, rfl, hT, hb⟩; rw [HST.out] at hT; have HT4 := Lib.hid hT; have HM4 := Lib.hid (HMd.out.later hb); have HW4 := Lib.hid (HWd.out.trans (hb.mono HWd.out.size)); obtain ⟨u0, u1, u2, u3, u4, u5, u6⟩ := cellsG HM4.out; have uf := HM4.out.free 3; clear hT hb)
    (try dsimp only)
    refine hK.out _ _ (True.intro) (fun hHeld => ?_)
    clear hK K
    (try simp only [List.getElem_toArray, List.getElem_cons_zero, List.getElem_cons_succ, Act.put, List.setIfInBounds_toArray, List.set_cons_zero, List.set_cons_succ])
    refine wpAnyH_take (i := 13) (oi := _) (v := ?vq11) rfl (by kernel_rfl) (by kernel_rfl) (by kernel_rfl) (fun _ _ _ h => h) (Or.inl ⟨by rfl, ?hyq11⟩) (by assumption) ?restq11
    case hyq11 => (intro wz hSw; (try dsimp only at hSw); go_simp; try with_reducible rfl)
    (try simp only [List.getElem_toArray, List.getElem_cons_zero, List.getElem_cons_succ, Act.put, List.setIfInBounds_toArray, List.set_cons_zero, List.set_cons_succ])
    refine wpAnyH_ready (rs := [14]) (by kernel_rfl) (by simp) ?_
    refine (AllReadyH.cons (o := _) rfl (fun K hK => ?_) AllReadyH.nil)
    rw [if_pos (by rfl)]
    go_simp
    refine hK.out _ _ (True.intro) (fun hHeld => ?_)
    clear hK K
    (try simp only [List.getElem_toArray, List.getElem_cons_zero, List.getElem_cons_succ, Act.put, List.setIfInBounds_toArray, List.set_cons_zero, List.set_cons_succ])
    refine wpAnyH_done (by kernel_rfl) ?_ _
    have HM9 := Lib.hid (HM4.out.set 3 (.slice ta tl tc))
    have hT9 := HT4.out.low (X := w1.heap.size) (by show w1.heap.size < (w1.alloc (.cells #[.int .i64 2, .int .i64 4, .string ⟨#[]⟩, .slice none 0 0, .slice none 0 0, .slice none 0 0, .slice none 0 0] 41)).heap.size; rw [World.size_alloc]; omega) (grownBy_setCell4 w4 w1.heap.size 3 (.slice ta tl tc))
    have HW9 := Lib.hid (HW4.out.setCell (p := ⟨w1.heap.size, 3, none⟩) (Nat.le_refl _) (.slice ta tl tc))
    have hfbb := HF1.out.bytes.1
    have HFW := Lib.hid (fun W (hb : Below w1.heap.size w1 W) => hfbb.later hb)
    have hbad := bad_C hx2
    have hf0 := faults_C hx2
    rw [hm.out, hfl.out] at hbad
    rw [hm.out, hfl.out] at hf0
    obtain ⟨T, hT⟩ := named (tE (eC x m))
    obtain ⟨KK, hKK⟩ := named (cntT (tE (eC x m)) 40)
    have hkl : KK.length = 40 := by rw [← hKK.out]; exact cntT_len _ _
    have HKS : Hid (∀ k ∈ KK, 0 ≤ k ∧ k ≤ 2) := by rw [Hid, ← hKK.out]; exact cntT_small hx2
    have HRC : Hid (∀ (K : List Int), K.length ≤ 65536 → (∀ k ∈ K, 0 ≤ k ∧ k ≤ 65535) → RightMt ⟨2, 4, ⟨#[]⟩, T, [], [], K⟩) := fun K h1 h2 => by rw [← hT.out]; exact right_C hx2 h1 h2
    have HMM : Hid (mendM fl 40 2 4 ⟨#[]⟩ T [] = ⟨2, 4, ⟨#[]⟩, T, [], [], KK⟩) := by
      unfold mendM
      rw [Hid, ← hT.out, hbad, zerosT_nil, hKK.out]
    have HF0 : Hid (faultsM fl 40 2 T KK = []) := by rw [Hid, ← hT.out, ← hKK.out]; exact hf0
    have HF1C : Hid (∀ (p : Nat) (v u : Int), p < 40 → KK.getD p 0 = u → faultsM fl 40 2 T (KK.set p v) = cfAt v u p) := fun p v u hp hu => by
      have h := faults_C1 (x := x) hx2 hp (v := v) (u := u) (by rw [hm.out, hKK.out]; exact hu)
      rw [hm.out, hfl.out, hKK.out, hT.out] at h
      exact h
    rw [hT.out] at hT9
    have HD9 := Lib.hid (metaD_of hT9.tab (C := 2) (Z := 4) (by unfold I64; omega) (by unfold I64; omega))
    have HME := Lib.hid (mend15 _ fa 640 fc fl (HFW.out _ HW9.out) hcap hnil (by omega) _ 2 4 ⟨#[]⟩ T [] [] HD9.out (HRC.out [] (by simp) (by simp)) (KN := 40) rfl)
    rw [HMM.out] at HME
    have HFA := Lib.hid (fun W (hb : Below w1.heap.size w1 W) (y : Mt) (K : List Int) (hD : MetaD W y ⟨2, 4, ⟨#[]⟩, T, [], [], K⟩) (hR : RightMt ⟨2, 4, ⟨#[]⟩, T, [], [], K⟩) => faults15 W fa 640 fc fl (HFW.out W hb) hcap hnil (by omega) y 2 4 ⟨#[]⟩ T [] K hD hR (KN := 40) rfl)
    dsimp only [mtA] at HME HFA
    obtain ⟨u, hu⟩ := named (KK.getD p 0)
    have hu2 : 0 ≤ u ∧ u ≤ 2 := by rw [← hu.out]; exact getD_small HKS.out p
    obtain ⟨v, hv⟩ := named (if (0 : Int) < u + a1 then u + a1 else 0)
    have hv2 : 0 ≤ v ∧ v ≤ 129 := by rw [← hv.out]; exact max_bd hu2 hby
    have hmax : ∀ w' : World, (Builtin.max_ #[3, 3] 3 #[.int .i64 0, .int .i64 (u + a1)]).run Tryz.prog w' = .ok (.int .i64 v) w' := fun w' => by rw [← hv.out]; exact max_run _ w'
    have HRv := Lib.hid (HRC.out (KK.set p v) (by rw [List.length_set, hkl]; decide) (set_small HKS.out hv2 p))
    have HCF := Lib.hid (HF1C.out p v u hp4 hu.out)
    have HRK := Lib.hid (HRC.out KK (by rw [hkl]; decide) (fun k hk => ⟨(HKS.out k hk).1, Int.le_trans (HKS.out k hk).2 (by decide)⟩))
    have hs91 := HW9.out.size
    obtain ⟨c0, c1, c2, c3, c4, c5, c6⟩ := cellsG HM9.out
    clear hT9 hbad hf0 hfbb t0 t1 t2 t3 t4 t5 t6 u0 u1 u2 u3 u4 u5 u6 uf hsl q5 q6 q7 q8 q9 q10
    go_wp2_with (first
      | (go_at_call 16; (with_reducible refine HME.out.mono ?_); rintro e w10 ⟨⟨na, nn, nc, nsa, nsn, nsc, nma, nmn, nmc, ka, kn, kc⟩, rfl, hN, hb⟩; have hkn : kn = 40 := (by have h1 := hN.K.1.2.1; dsimp only at h1; omega); subst hkn; have HN10 := Lib.hid hN; have HW10 := Lib.hid (HW9.out.trans (hb.mono HW9.out.size)); have HX10 := Lib.hid (Blk.new w10 41 #[.int .i64 2, .int .i64 4, .string ⟨#[]⟩, .slice na nn nc, .slice nsa nsn nsc, .slice nma nmn nmc, .slice ka 40 kc]); obtain ⟨d0, d1, d2, d3, d4, d5, d6⟩ := cellsG HX10.out; clear hN hb c0 c1 c2 c3 c4 c5 c6; dsimp only [mtA])
      | (go_at_call 13; (with_reducible refine (num15 _ _).mono ?_); rintro e w3 ⟨rfl, hw⟩; obtain rfl := hw.symm)
      | (go_at_call 20; have hA := (Below.refl w10.heap.size w10).alloc (Nat.le_refl _) (.cells #[.int .i64 2, .int .i64 4, .string ⟨#[]⟩, .slice na nn nc, .slice nsa nsn nsc, .slice nma nmn nmc, .slice ka 40 kc] 41); have hC := HFA.out _ (HW10.out.trans (hA.mono HW10.out.size)) _ KK (HN10.out.later hA).d HRK.out; rw [HF0.out] at hC; (with_reducible refine hC.mono ?_); rintro e w12 ⟨la, LN, lc, rfl, hO, hb⟩; obtain rfl : LN = 0 := hO.2.1.symm; have hN12 := (HN10.out.later hA).later hb; have hX12 := HX10.out.later hb; have hW12 := (HW10.out.trans (hA.mono HW10.out.size)).trans (hb.mono (Nat.le_trans HW10.out.size hA.size)); obtain ⟨kb, hka, hcu, hfz, hbase, hcv, hN13, hbx⟩ := hN12.setCount p hp4 v; dsimp only at hka; subst hka; rw [hu.out] at hcu; have HX13 := Lib.hid (hbx _ _ hX12); have HN13 := Lib.hid hN13; have HW13 := Lib.hid (hW12.setCell (p := ⟨kb, p, none⟩) (Nat.le_trans hs91 hbase) (.int .i64 v)); clear d0 d1 d2 d3 d4 d5 d6 hO hb hC hA hN12 hW12 hN13 hbx hbase; obtain ⟨d0, d1, d2, d3, d4, d5, d6⟩ := cellsG hX12; obtain ⟨e0, e1, e2, e3, e4, e5, e6⟩ := cellsG HX13.out))
    have hC2 := HFA.out _ HW13.out _ (KK.set p v) HN13.out.d HRv.out
    rw [HCF.out] at hC2
    dsimp only at hC2
    have hgf := guard_fl
    rcases Int.lt_trichotomy v u with h | h | h
    · have hcf := cfAt_lt h p
      have hne : (v == u) = false := beq_false_of_ne (Int.ne_of_lt h)
      have hgt : ¬ u < v := Int.not_lt.2 (Int.le_of_lt h)
      rw [hcf] at hC2
      have heq := fun wz => eql_flt_same 2 (p : Int) 0 wz
      have HC2 := Lib.hid hC2
      clear hC2 hcf
      go_wp2_with (first
        | (go_at_call 20; (with_reducible refine HC2.out.mono ?_); rintro e w14 ⟨la2, LN2, lc2, rfl, hO, hb⟩; obtain ⟨rfl, lb, lo, rfl, l0, l1, l2⟩ := one_fault hO; have hcv14 := World.grownBy.cell (grown_below hb none) hcv (fun e => by cases e); have hX14 := HX13.out.later hb; have HW14 := Lib.hid (HW13.out.trans (hb.mono HW13.out.size)); clear d0 d1 d2 d3 d4 d5 d6 e0 e1 e2 e3 e4 e5 e6 hO hb hcu hcv hfz; obtain ⟨d0, d1, d2, d3, d4, d5, d6⟩ := cellsG hX14)
        | (go_at_call 10; (with_reducible refine (awake15 _).mono ?_); rintro e w15 ⟨rfl, hb⟩; have HW15 := Lib.hid (HW14.out.trans (hb.mono HW14.out.size)); clear hb))
      go_ret
      exact ⟨rfl, HB1.out.trans (HW15.out.mono HB1.out.size)⟩
    · have hcf := cfAt_eq h p
      have hne : (v == u) = true := by rw [h]; exact beq_self_eq_true u
      rw [hcf] at hC2
      skip
      have HC2 := Lib.hid hC2
      clear hC2 hcf
      go_wp2_with (first
        | (go_at_call 20; (with_reducible refine HC2.out.mono ?_); rintro e w14 ⟨la2, LN2, lc2, rfl, hO, hb⟩; obtain rfl : LN2 = 0 := hO.2.1.symm; have hcv14 := World.grownBy.cell (grown_below hb none) hcv (fun e => by cases e); have hX14 := HX13.out.later hb; have HW14 := Lib.hid (HW13.out.trans (hb.mono HW13.out.size)); clear d0 d1 d2 d3 d4 d5 d6 e0 e1 e2 e3 e4 e5 e6 hO hb hcu hcv hfz; obtain ⟨d0, d1, d2, d3, d4, d5, d6⟩ := cellsG hX14)
        | (go_at_call 10; (with_reducible refine (awake15 _).mono ?_); rintro e w15 ⟨rfl, hb⟩; have HW15 := Lib.hid (HW14.out.trans (hb.mono HW14.out.size)); clear hb))
      go_ret
      exact ⟨rfl, HB1.out.trans (HW15.out.mono HB1.out.size)⟩
    · have hcf := cfAt_gt h p
      have hne : (v == u) = false := beq_false_of_ne (Int.ne_of_gt h)
      rw [hcf] at hC2
      have heq := fun wz => eql_flt_same 3 (p : Int) 0 wz
      have HC2 := Lib.hid hC2
      clear hC2 hcf
      go_wp2_with (first
        | (go_at_call 20; (with_reducible refine HC2.out.mono ?_); rintro e w14 ⟨la2, LN2, lc2, rfl, hO, hb⟩; obtain ⟨rfl, lb, lo, rfl, l0, l1, l2⟩ := one_fault hO; have hcv14 := World.grownBy.cell (grown_below hb none) hcv (fun e => by cases e); have hX14 := HX13.out.later hb; have HW14 := Lib.hid (HW13.out.trans (hb.mono HW13.out.size)); clear d0 d1 d2 d3 d4 d5 d6 e0 e1 e2 e3 e4 e5 e6 hO hb hcu hcv hfz; obtain ⟨d0, d1, d2, d3, d4, d5, d6⟩ := cellsG hX14)
        | (go_at_call 10; (with_reducible refine (awake15 _).mono ?_); rintro e w15 ⟨rfl, hb⟩; have HW15 := Lib.hid (HW14.out.trans (hb.mono HW14.out.size)); clear hb))
      go_ret
      exact ⟨rfl, HB1.out.trans (HW15.out.mono HB1.out.size)⟩
  · rw [if_pos (by rfl)]
    go_simp
    (go_at_call 23; (refine (refSum_any _ _ _ (contC x) _ (HSB.out.later HWd.out)).mono ?_); rintro e w3 ⟨rfl, hw⟩; obtain rfl := hw; rw [hm.out])
    (try dsimp only)
    refine hK.out _ _ (True.intro) (fun hHeld => ?_)
    clear hK K
    (try simp only [List.getElem_toArray, List.getElem_cons_zero, List.getElem_cons_succ, Act.put, List.setIfInBounds_toArray, List.set_cons_zero, List.set_cons_succ])
    refine wpAnyH_take (i := 11) (oi := _) (v := ?vq12) rfl (by kernel_rfl) (by kernel_rfl) (by kernel_rfl) (fun _ _ _ h => h) (Or.inl ⟨by rfl, ?hyq12⟩) (by assumption) ?restq12
    case hyq12 => (intro wz hSw; (try dsimp only at hSw); go_simp; try with_reducible rfl)
    (try simp only [List.getElem_toArray, List.getElem_cons_zero, List.getElem_cons_succ, Act.put, List.setIfInBounds_toArray, List.set_cons_zero, List.set_cons_succ])
    refine wpAnyH_ready (rs := [1]) (by kernel_rfl) (by simp) ?_
    refine (AllReadyH.cons (o := _) rfl (fun K hK => ?_) AllReadyH.nil)
    rw [if_pos (by rfl)]
    go_simp
    refine hK.out _ _ (True.intro) (fun hHeld => ?_)
    clear hK K
    (try simp only [List.getElem_toArray, List.getElem_cons_zero, List.getElem_cons_succ, Act.put, List.setIfInBounds_toArray, List.set_cons_zero, List.set_cons_succ])
    refine wpAnyH_ready (rs := [12]) (by kernel_rfl) (by simp) ?_
    refine (AllReadyH.cons (o := _) rfl (fun K hK => ?_) AllReadyH.nil)
    rw [if_pos (by rfl)]
    go_simp
    (go_at_call 25; (refine (refSet9 _ none 0 0 [] 0 2 (x : Int) 4 0 (m : Int) (Tab.nil _) (by unfold I64; omega) HEO.out).mono ?_); rintro e w4 ⟨ta, tl, tc, rfl, hT, hb⟩; rw [HST.out] at hT; have HT4 := Lib.hid hT; have HM4 := Lib.hid (HMd.out.later hb); have HW4 := Lib.hid (HWd.out.trans (hb.mono HWd.out.size)); obtain ⟨u0, u1, u2, u3, u4, u5, u6⟩ := cellsG HM4.out; have uf := HM4.out.free 3; clear hT hb)
    (try dsimp only)
    refine hK.out _ _ (True.intro) (fun hHeld => ?_)
    clear hK K
    (try simp only [List.getElem_toArray, List.getElem_cons_zero, List.getElem_cons_succ, Act.put, List.setIfInBounds_toArray, List.set_cons_zero, List.set_cons_succ])
    refine wpAnyH_take (i := 13) (oi := _) (v := ?vq13) rfl (by kernel_rfl) (by kernel_rfl) (by kernel_rfl) (fun _ _ _ h => h) (Or.inl ⟨by rfl, ?hyq13⟩) (by assumption) ?restq13
    case hyq13 => (intro wz hSw; (try dsimp only at hSw); go_simp; try with_reducible rfl)
    (try simp only [List.getElem_toArray, List.getElem_cons_zero, List.getElem_cons_succ, Act.put, List.setIfInBounds_toArray, List.set_cons_zero, List.set_cons_succ])
    refine wpAnyH_ready (rs := [14]) (by kernel_rfl) (by simp) ?_
    refine (AllReadyH.cons (o := _) rfl (fun K hK => ?_) AllReadyH.nil)
    rw [if_pos (by rfl)]
    go_simp
    refine hK.out _ _ (True.intro) (fun hHeld => ?_)
    clear hK K
    (try simp only [List.getElem_toArray, List.getElem_cons_zero, List.getElem_cons_succ, Act.put, List.setIfInBounds_toArray, List.set_cons_zero, List.set_cons_succ])
    refine wpAnyH_done (by kernel_rfl) ?_ _
    have HM9 := Lib.hid (HM4.out.set 3 (.slice ta tl tc))
    have hT9 := HT4.out.low (X := w1.heap.size) (by show w1.heap.size < (w1.alloc (.cells #[.int .i64 2, .int .i64 4, .string ⟨#[]⟩, .slice none 0 0, .slice none 0 0, .slice none 0 0, .slice none 0 0] 41)).heap.size; rw [World.size_alloc]; omega) (grownBy_setCell4 w4 w1.heap.size 3 (.slice ta tl tc))
    have HW9 := Lib.hid (HW4.out.setCell (p := ⟨w1.heap.size, 3, none⟩) (Nat.le_refl _) (.slice ta tl tc))
    have hfbb := HF1.out.bytes.1
    have HFW := Lib.hid (fun W (hb : Below w1.heap.size w1 W) => hfbb.later hb)
    have hbad := bad_C hx2
    have hf0 := faults_C hx2
    rw [hm.out, hfl.out] at hbad
    rw [hm.out, hfl.out] at hf0
    obtain ⟨T, hT⟩ := named (tE (eC x m))
    obtain ⟨KK, hKK⟩ := named (cntT (tE (eC x m)) 40)
    have hkl : KK.length = 40 := by rw [← hKK.out]; exact cntT_len _ _
    have HKS : Hid (∀ k ∈ KK, 0 ≤ k ∧ k ≤ 2) := by rw [Hid, ← hKK.out]; exact cntT_small hx2
    have HRC : Hid (∀ (K : List Int), K.length ≤ 65536 → (∀ k ∈ K, 0 ≤ k ∧ k ≤ 65535) → RightMt ⟨2, 4, ⟨#[]⟩, T, [], [], K⟩) := fun K h1 h2 => by rw [← hT.out]; exact right_C hx2 h1 h2
    have HMM : Hid (mendM fl 40 2 4 ⟨#[]⟩ T [] = ⟨2, 4, ⟨#[]⟩, T, [], [], KK⟩) := by
      unfold mendM
      rw [Hid, ← hT.out, hbad, zerosT_nil, hKK.out]
    have HF0 : Hid (faultsM fl 40 2 T KK = []) := by rw [Hid, ← hT.out, ← hKK.out]; exact hf0
    have HF1C : Hid (∀ (p : Nat) (v u : Int), p < 40 → KK.getD p 0 = u → faultsM fl 40 2 T (KK.set p v) = cfAt v u p) := fun p v u hp hu => by
      have h := faults_C1 (x := x) hx2 hp (v := v) (u := u) (by rw [hm.out, hKK.out]; exact hu)
      rw [hm.out, hfl.out, hKK.out, hT.out] at h
      exact h
    rw [hT.out] at hT9
    have HD9 := Lib.hid (metaD_of hT9.tab (C := 2) (Z := 4) (by unfold I64; omega) (by unfold I64; omega))
    have HME := Lib.hid (mend15 _ fa 640 fc fl (HFW.out _ HW9.out) hcap hnil (by omega) _ 2 4 ⟨#[]⟩ T [] [] HD9.out (HRC.out [] (by simp) (by simp)) (KN := 40) rfl)
    rw [HMM.out] at HME
    have HFA := Lib.hid (fun W (hb : Below w1.heap.size w1 W) (y : Mt) (K : List Int) (hD : MetaD W y ⟨2, 4, ⟨#[]⟩, T, [], [], K⟩) (hR : RightMt ⟨2, 4, ⟨#[]⟩, T, [], [], K⟩) => faults15 W fa 640 fc fl (HFW.out W hb) hcap hnil (by omega) y 2 4 ⟨#[]⟩ T [] K hD hR (KN := 40) rfl)
    dsimp only [mtA] at HME HFA
    obtain ⟨u, hu⟩ := named (KK.getD p 0)
    have hu2 : 0 ≤ u ∧ u ≤ 2 := by rw [← hu.out]; exact getD_small HKS.out p
    obtain ⟨v, hv⟩ := named (if (0 : Int) < u + a1 then u + a1 else 0)
    have hv2 : 0 ≤ v ∧ v ≤ 129 := by rw [← hv.out]; exact max_bd hu2 hby
    have hmax : ∀ w' : World, (Builtin.max_ #[3, 3] 3 #[.int .i64 0, .int .i64 (u + a1)]).run Tryz.prog w' = .ok (.int .i64 v) w' := fun w' => by rw [← hv.out]; exact max_run _ w'
    have HRv := Lib.hid (HRC.out (KK.set p v) (by rw [List.length_set, hkl]; decide) (set_small HKS.out hv2 p))
    have HCF := Lib.hid (HF1C.out p v u hp4 hu.out)
    have HRK := Lib.hid (HRC.out KK (by rw [hkl]; decide) (fun k hk => ⟨(HKS.out k hk).1, Int.le_trans (HKS.out k hk).2 (by decide)⟩))
    have hs91 := HW9.out.size
    obtain ⟨c0, c1, c2, c3, c4, c5, c6⟩ := cellsG HM9.out
    clear hT9 hbad hf0 hfbb t0 t1 t2 t3 t4 t5 t6 u0 u1 u2 u3 u4 u5 u6 uf hsl q5 q6 q7 q8 q9 q10
    go_wp2_with (first
      | (go_at_call 16; (with_reducible refine HME.out.mono ?_); rintro e w10 ⟨⟨na, nn, nc, nsa, nsn, nsc, nma, nmn, nmc, ka, kn, kc⟩, rfl, hN, hb⟩; have hkn : kn = 40 := (by have h1 := hN.K.1.2.1; dsimp only at h1; omega); subst hkn; have HN10 := Lib.hid hN; have HW10 := Lib.hid (HW9.out.trans (hb.mono HW9.out.size)); have HX10 := Lib.hid (Blk.new w10 41 #[.int .i64 2, .int .i64 4, .string ⟨#[]⟩, .slice na nn nc, .slice nsa nsn nsc, .slice nma nmn nmc, .slice ka 40 kc]); obtain ⟨d0, d1, d2, d3, d4, d5, d6⟩ := cellsG HX10.out; clear hN hb c0 c1 c2 c3 c4 c5 c6; dsimp only [mtA])
      | (go_at_call 13; (with_reducible refine (num15 _ _).mono ?_); rintro e w3 ⟨rfl, hw⟩; obtain rfl := hw.symm)
      | (go_at_call 20; have hA := (Below.refl w10.heap.size w10).alloc (Nat.le_refl _) (.cells #[.int .i64 2, .int .i64 4, .string ⟨#[]⟩, .slice na nn nc, .slice nsa nsn nsc, .slice nma nmn nmc, .slice ka 40 kc] 41); have hC := HFA.out _ (HW10.out.trans (hA.mono HW10.out.size)) _ KK (HN10.out.later hA).d HRK.out; rw [HF0.out] at hC; (with_reducible refine hC.mono ?_); rintro e w12 ⟨la, LN, lc, rfl, hO, hb⟩; obtain rfl : LN = 0 := hO.2.1.symm; have hN12 := (HN10.out.later hA).later hb; have hX12 := HX10.out.later hb; have hW12 := (HW10.out.trans (hA.mono HW10.out.size)).trans (hb.mono (Nat.le_trans HW10.out.size hA.size)); obtain ⟨kb, hka, hcu, hfz, hbase, hcv, hN13, hbx⟩ := hN12.setCount p hp4 v; dsimp only at hka; subst hka; rw [hu.out] at hcu; have HX13 := Lib.hid (hbx _ _ hX12); have HN13 := Lib.hid hN13; have HW13 := Lib.hid (hW12.setCell (p := ⟨kb, p, none⟩) (Nat.le_trans hs91 hbase) (.int .i64 v)); clear d0 d1 d2 d3 d4 d5 d6 hO hb hC hA hN12 hW12 hN13 hbx hbase; obtain ⟨d0, d1, d2, d3, d4, d5, d6⟩ := cellsG hX12; obtain ⟨e0, e1, e2, e3, e4, e5, e6⟩ := cellsG HX13.out))
    have hC2 := HFA.out _ HW13.out _ (KK.set p v) HN13.out.d HRv.out
    rw [HCF.out] at hC2
    dsimp only at hC2
    have hgf := guard_fl
    rcases Int.lt_trichotomy v u with h | h | h
    · have hcf := cfAt_lt h p
      have hne : (v == u) = false := beq_false_of_ne (Int.ne_of_lt h)
      have hgt : ¬ u < v := Int.not_lt.2 (Int.le_of_lt h)
      rw [hcf] at hC2
      have heq := fun wz => eql_flt_same 2 (p : Int) 0 wz
      have HC2 := Lib.hid hC2
      clear hC2 hcf
      go_wp2_with (first
        | (go_at_call 20; (with_reducible refine HC2.out.mono ?_); rintro e w14 ⟨la2, LN2, lc2, rfl, hO, hb⟩; obtain ⟨rfl, lb, lo, rfl, l0, l1, l2⟩ := one_fault hO; have hcv14 := World.grownBy.cell (grown_below hb none) hcv (fun e => by cases e); have hX14 := HX13.out.later hb; have HW14 := Lib.hid (HW13.out.trans (hb.mono HW13.out.size)); clear d0 d1 d2 d3 d4 d5 d6 e0 e1 e2 e3 e4 e5 e6 hO hb hcu hcv hfz; obtain ⟨d0, d1, d2, d3, d4, d5, d6⟩ := cellsG hX14)
        | (go_at_call 10; (with_reducible refine (awake15 _).mono ?_); rintro e w15 ⟨rfl, hb⟩; have HW15 := Lib.hid (HW14.out.trans (hb.mono HW14.out.size)); clear hb))
      go_ret
      exact ⟨rfl, HB1.out.trans (HW15.out.mono HB1.out.size)⟩
    · have hcf := cfAt_eq h p
      have hne : (v == u) = true := by rw [h]; exact beq_self_eq_true u
      rw [hcf] at hC2
      skip
      have HC2 := Lib.hid hC2
      clear hC2 hcf
      go_wp2_with (first
        | (go_at_call 20; (with_reducible refine HC2.out.mono ?_); rintro e w14 ⟨la2, LN2, lc2, rfl, hO, hb⟩; obtain rfl : LN2 = 0 := hO.2.1.symm; have hcv14 := World.grownBy.cell (grown_below hb none) hcv (fun e => by cases e); have hX14 := HX13.out.later hb; have HW14 := Lib.hid (HW13.out.trans (hb.mono HW13.out.size)); clear d0 d1 d2 d3 d4 d5 d6 e0 e1 e2 e3 e4 e5 e6 hO hb hcu hcv hfz; obtain ⟨d0, d1, d2, d3, d4, d5, d6⟩ := cellsG hX14)
        | (go_at_call 10; (with_reducible refine (awake15 _).mono ?_); rintro e w15 ⟨rfl, hb⟩; have HW15 := Lib.hid (HW14.out.trans (hb.mono HW14.out.size)); clear hb))
      go_ret
      exact ⟨rfl, HB1.out.trans (HW15.out.mono HB1.out.size)⟩
    · have hcf := cfAt_gt h p
      have hne : (v == u) = false := beq_false_of_ne (Int.ne_of_gt h)
      rw [hcf] at hC2
      have heq := fun wz => eql_flt_same 3 (p : Int) 0 wz
      have HC2 := Lib.hid hC2
      clear hC2 hcf
      go_wp2_with (first
        | (go_at_call 20; (with_reducible refine HC2.out.mono ?_); rintro e w14 ⟨la2, LN2, lc2, rfl, hO, hb⟩; obtain ⟨rfl, lb, lo, rfl, l0, l1, l2⟩ := one_fault hO; have hcv14 := World.grownBy.cell (grown_below hb none) hcv (fun e => by cases e); have hX14 := HX13.out.later hb; have HW14 := Lib.hid (HW13.out.trans (hb.mono HW13.out.size)); clear d0 d1 d2 d3 d4 d5 d6 e0 e1 e2 e3 e4 e5 e6 hO hb hcu hcv hfz; obtain ⟨d0, d1, d2, d3, d4, d5, d6⟩ := cellsG hX14)
        | (go_at_call 10; (with_reducible refine (awake15 _).mono ?_); rintro e w15 ⟨rfl, hb⟩; have HW15 := Lib.hid (HW14.out.trans (hb.mono HW14.out.size)); clear hb))
      go_ret
      exact ⟨rfl, HB1.out.trans (HW15.out.mono HB1.out.size)⟩

set_option maxRecDepth 100000 in
theorem lifted (os : Os) (started : os.Started) (H : Type) (enc : TypeId × Value → H) :
    ReturnsInHanded {} Tryz.checked os 8 .any (Rows.checkCountsSpec.pre6 enc Tryz.prog Tryz.f8 Rows.checkCountsRow.domain false) (Rows.checkCountsSpec.post enc Tryz.prog Tryz.f8 false true false false) := by
  refine returnsInHanded_of_change (C := Tryz.checked) own started (by kernel_rfl) Tryz.func8
    (ChangeSpec.witness6 (enc := enc) (C := Tryz.checked) false ⟨#[], #[.int .u8 0, .int .i8 0, .int .u8 0], []⟩ 8 (by kernel_rfl) (by kernel_rfl) (by kernel_rfl) (by kernel_rfl)) ?_
  intro W base args ds gs before hval0 hW hcnd _
  have hval : ∀ (j : Nat) t v, Tryz.f8.params[j]? = some t → args[j]? = some v → Value.okWide Tryz.prog W .any base t v := hval0
  have hW' := hW
  obtain ⟨p, q, hA0, hV, rfl, hfz, hnd⟩ := hW
  have hA : DataW.TrodAll enc Tryz.prog W 0 (fun _ => true) true Tryz.f8.params.toList args.toList ds p := hA0
  rw [Tryz.params8] at hA hval
  obtain ⟨v0, vs0, d0, ds0, p0, q0, hargs, rfl, rfl, h0, r0⟩ := trodAll_cons hA
  obtain ⟨v1, vs1, d1, ds1, p1, q1, rfl, rfl, rfl, h1, r1⟩ := trodAll_cons r0
  obtain ⟨v2, vs2, d2, ds2, p2, q2, rfl, rfl, rfl, h2, r2⟩ := trodAll_cons r1
  obtain ⟨rfl, rfl, rfl⟩ := trodAll_nil r2
  obtain rfl : args = #[v0, v1, v2] := by cases args; simp_all
  obtain ⟨rfl, rfl⟩ := trodVars_none hV
  have k0 := h0
  have lt0 : ∀ x ∈ p0, x.block < W.heap.size := by obtain ⟨m, hm⟩ := k0; exact DataW.trod_lt m _ _ _ hm
  obtain ⟨a0, rfl, _, _, w0⟩ := open_int Tryz.underlying5 (hval 0 5 v0 rfl rfl) h0
  have k1 := h1
  have lt1 : ∀ x ∈ p1, x.block < W.heap.size := by obtain ⟨m, hm⟩ := k1; exact DataW.trod_lt m _ _ _ hm
  obtain ⟨a1, rfl, _, _, w1⟩ := open_int Tryz.underlying66 (hval 1 66 v1 rfl rfl) h1
  have k2 := h2
  have lt2 : ∀ x ∈ p2, x.block < W.heap.size := by obtain ⟨m, hm⟩ := k2; exact DataW.trod_lt m _ _ _ hm
  obtain ⟨a2, rfl, _, _, w2⟩ := open_int Tryz.underlying5 (hval 2 5 v2 rfl rfl) h2
  clear hA0 hval0
  refine (walk a0 a1 a2 W w0 w1 w2).mono fun e W' ⟨he, bel⟩ => ?_
  subst he
  exact ⟨_, rfl, _, _, _, [], _, [], hW', trodAll_mk1 (shut_bool Tryz.underlying4 _), (trodAll_cons_mk (Below.trod laidOut (by kernel_rfl) (of_decide_eq_true (by kernel_rfl)) k0 bel lt0) (trodAll_cons_mk (Below.trod laidOut (by kernel_rfl) (of_decide_eq_true (by kernel_rfl)) k1 bel lt1) (trodAll_cons_mk (Below.trod laidOut (by kernel_rfl) (of_decide_eq_true (by kernel_rfl)) k2 bel lt2) trodAll_mk0))), rfl, bel.frame _, fun h => by cases h⟩

theorem over : Rows.checkCountsRow.holds Tryz.pinned (OpenSpec.ofChange Rows.checkCountsSpec) :=
  OpenClaim.holds_of_wide 8 Tryz.f8 rfl rfl rfl rfl rfl rfl rfl ⟨rfl, rfl, rfl, rfl, rfl⟩ rfl rfl rfl rfl rfl (by kernel_rfl) Tryz.func8 (by kernel_rfl)
    (of_decide_eq_true (by kernel_rfl)) (by unfold Func.isWrapper; first | (rw [if_pos (by decide +kernel)]; kernel_rfl) | (rw [if_neg (by decide +kernel)]; exact ⟨rfl, rfl⟩))
    (fun os started H enc _ => lifted os started H enc)

/-- The statement. -/
theorem proved : Rows.CheckCountsSaid := over
#print axioms proved
end Go.Proofs.YtlljcdmblmkblaaGreat.checkCounts
