/-
  Proved: 'matryoshkalaw9.CountEachs' returns true for every input, and each argument reads afterwards as before: the statement CountEachsSaid as given. Conditions: none beyond the row's own.
-/
import Derived.Test.YtidknkhkblloaaaRows
import Derived.Test.YtidknkhkblloaaaV0
import Derived.Deep.RegionHeld3
import Derived.Deep.QuietTactic
import Derived.BigQuiet
import Derived.WalkKit
import Derived.ProofKit
import Derived.OpenShut
import Derived.ShutString
import Derived.ChangeOld
import Derived.Below
namespace Go.Proofs.Ytidknkhkblloaaa.countEachs
open Go.ChangeShapes Go.WideShapes Go.ChangeAt Go.RowKit
open Go.ChangeMaps (open_string shut_string)
set_option linter.unusedVariables false

theorem own : ownKnob Try.prog.godebug = none := by kernel_rfl
theorem laidOut : laidOutB Try.prog = true := by kernel_rfl

set_option maxRecDepth 100000 in
set_option maxHeartbeats 4000000 in
theorem walk (mc0 ms0 : Int) (mb0 : ByteArray) (ta0 : Option Addr) (tn0 tc0 : Nat) (sa0 : Option Addr) (sn0 sc0 : Nat) (ba0 : Option Addr) (bn0 bc0 : Nat) (ca0 : Option Addr) (cn0 cc0 : Nat) (w : World) (w0 : MetaArg w mc0 ms0 mb0 ta0 tn0 tc0 sa0 sn0 sc0 ba0 bn0 bc0 ca0 cn0 cc0) :
    Calls Try.prog 4 #[.agg #[.int .i64 mc0, .int .i64 ms0, .string mb0, .slice ta0 tn0 tc0, .slice sa0 sn0 sc0, .slice ba0 bn0 bc0, .slice ca0 cn0 cc0]] w fun e w' => e = .returned (.bool true) ∧ Below w.heap.size w w' := by
  have HRT0 := Lib.hid (RtS.first w (mtC mc0 ms0 mb0 ta0 tn0 tc0 sa0 sn0 sc0 (.slice ba0 bn0 bc0) (.slice ca0 cn0 cc0)))
  have HGR := Lib.hid (great_meta (w0.later HRT0.out.below))
  clear w0
  go_enter Try.func4, Try.ntmps4
  go_wp2_with (first
    | (go_at_call 11; refine HGR.out.mono ?_; rintro e w1 ⟨G, rfl, g, hs⟩; have HRT := Lib.hid (HRT0.out.later g); obtain ⟨m0, m1, m2, m3, m4, m5, m6⟩ := mt_cells HRT.out.box; have HSM := Lib.hid hs; have HG1 := Lib.hid g; clear g hs; cases G)
    | (go_at_call 13; refine (awake0 _).mono ?_; rintro e w9 ⟨rfl, g⟩; have HRT := Lib.hid (HRT.out.later g); clear g)
    | (go_at_call 12; obtain ⟨T, S, gm, f, hm⟩ := HSM.out (by first | rfl | trivial); refine (right_meta (hm.later HG1.out)).mono ?_; rintro e w2 ⟨B, rfl, g, hr⟩; have HRT := Lib.hid (HRT.out.later g); obtain ⟨m0, m1, m2, m3, m4, m5, m6⟩ := mt_cells HRT.out.box; have HMS := Lib.hid ((hm.later HG1.out).later g); have HRX := Lib.hid hr; clear g hr hm; cases B))
  all_goals first | (go_ret; exact ⟨rfl, HRT.out.below⟩) | skip
  have HX : Hid (RightX T S) := (HRX.out (by first | rfl | trivial)).1
  have HRT := Lib.hid (HRT.out.later (Below.refl _ _).drew)
  have HMS := Lib.hid (HMS.out.later (Below.refl _ _).drew)
  refine wp_region_held_drew (S := fun w' => w'.cell? ⟨w.heap.size, 0, none⟩ = some (.int .i64 mc0) ∧ w'.cell? ⟨w.heap.size, 1, none⟩ = some (.int .i64 ms0) ∧ w'.cell? ⟨w.heap.size, 2, none⟩ = some (.string mb0) ∧ w'.cell? ⟨w.heap.size, 3, none⟩ = some (.slice ta0 tn0 tc0) ∧ w'.cell? ⟨w.heap.size, 4, none⟩ = some (.slice sa0 sn0 sc0) ∧ w'.cell? ⟨w.heap.size, 5, none⟩ = some (.slice ba0 bn0 bc0) ∧ w'.cell? ⟨w.heap.size, 6, none⟩ = some (.slice ca0 cn0 cc0)) (by kernel_rfl) (by exact mt_cells HRT.out.box) (fun hHeld => ?_)
  refine wpAnyH_take (i := 0) (oi := _) (v := ?va0) rfl (by kernel_rfl) (by kernel_rfl) (by kernel_rfl) (fun _ _ _ h => h) (Or.inl ⟨by rfl, ?hya0⟩) (by assumption) ?resta0
  case hya0 => (intro wz hSw; (try dsimp only at hSw); go_simp; try with_reducible rfl)
  (try simp only [List.getElem_toArray, List.getElem_cons_zero, Act.put, List.setIfInBounds_toArray, List.set_cons_zero, List.set_cons_succ])
  refine wpAnyH_take (i := 2) (oi := _) (v := ?va2) rfl (by kernel_rfl) (by kernel_rfl) (by kernel_rfl) (fun _ _ _ h => h) (Or.inl ⟨by rfl, ?hya2⟩) (by assumption) ?resta2
  case hya2 => (intro wz hSw; (try dsimp only at hSw); go_simp; try with_reducible rfl)
  (try simp only [List.getElem_toArray, List.getElem_cons_zero, List.getElem_cons_succ, Act.put, List.setIfInBounds_toArray, List.set_cons_zero, List.set_cons_succ])
  refine wpAnyH_ready (rs := [1]) (by kernel_rfl) (by simp) ?_
  refine AllReadyH.cons (o := _) rfl (fun K hK => ?_) AllReadyH.nil
  rw [if_pos (by rfl)]
  go_simp
  (go_at_call 17; refine (refEach_m (sc := sc0) (mc := bc0) (cc := cc0) HMS.out HX.out).mono ?_; rintro e w3 ⟨a1, N1, c1, rfl, hO1, hN1, g⟩; have HRT := Lib.hid (HRT.out.later g); have HMS := Lib.hid (HMS.out.later g); have HL1 := Lib.hid (hO1.reads ln_rowed).1; have HN1 := Lib.hid hO1.2.1; clear g hO1)
  dsimp only
  refine hK.out _ _ (by exact mt_cells HRT.out.box) (fun hHeld => ?_)
  clear hK K
  (try simp only [List.getElem_toArray, List.getElem_cons_zero, List.getElem_cons_succ, Act.put, List.setIfInBounds_toArray, List.set_cons_zero, List.set_cons_succ])
  refine wpAnyH_ready (rs := [3]) (by kernel_rfl) (by simp) ?_
  refine AllReadyH.cons (o := _) rfl (fun K hK => ?_) AllReadyH.nil
  rw [if_pos (by rfl)]
  go_simp
  (go_at_call 18; refine (each_m (sc := sc0) (mc := bc0) (cc := cc0) HMS.out HX.out).mono ?_; rintro e w4 ⟨a2, N2, c2, rfl, hO2, g⟩; have HRT := Lib.hid (HRT.out.later g); have HL1 := Lib.hid (HL1.out.later g); have HL2 := Lib.hid (hO2.reads ln_rowed).1; have HN2 := Lib.hid hO2.2.1; clear g hO2)
  dsimp only
  refine hK.out _ _ (by exact mt_cells HRT.out.box) (fun hHeld => ?_)
  clear hK K
  (try simp only [List.getElem_toArray, List.getElem_cons_zero, List.getElem_cons_succ, Act.put, List.setIfInBounds_toArray, List.set_cons_zero, List.set_cons_succ])
  refine wpAnyH_take (i := 4) (oi := _) (v := ?va4) rfl (by kernel_rfl) (by kernel_rfl) (by kernel_rfl) (fun _ _ _ h => h) (Or.inl ⟨by rfl, ?hya4⟩) (by assumption) ?resta4
  case hya4 => (intro wz hSw; (try dsimp only at hSw); go_simp; try with_reducible rfl)
  (try simp only [List.getElem_toArray, List.getElem_cons_zero, List.getElem_cons_succ, Act.put, List.setIfInBounds_toArray, List.set_cons_zero, List.set_cons_succ])
  refine wpAnyH_take (i := 5) (oi := _) (v := ?va5) rfl (by kernel_rfl) (by kernel_rfl) (by kernel_rfl) (fun _ _ _ h => h) (Or.inl ⟨by rfl, ?hya5⟩) (by assumption) ?resta5
  case hya5 => (intro wz hSw; (try dsimp only at hSw); go_simp; try with_reducible rfl)
  (try simp only [List.getElem_toArray, List.getElem_cons_zero, List.getElem_cons_succ, Act.put, List.setIfInBounds_toArray, List.set_cons_zero, List.set_cons_succ])
  refine wpAnyH_done (by kernel_rfl) ?_ _
  obtain rfl : N1 = N2 := HN1.out.symm.trans HN2.out
  obtain ⟨LL, hLL⟩ := named (allLines T (S.map shT))
  rw [hLL.out] at HL1 HL2 HN1
  go_wp2
  go_loopw [5] (fun i wr => ∃ j : Nat, j ≤ N1 ∧ i = .int .i64 j ∧ Hid (Reads lnV wr a1 N1 LL) ∧ Hid (Reads lnV wr a2 N1 LL) ∧ Hid (Below w.heap.size w wr)) (fun i _ => N1 - (intOf i).toNat)
  case atStart => exact ⟨0, Nat.zero_le _, rfl, HL1.out, HL2.out, HRT.out.below⟩
  case round =>
    obtain ⟨j, hj, rfl, HL1, HL2, HB⟩ := hrel
    by_cases hlt : j < N1
    · obtain ⟨b1, o1, sh, cl, k, st, ct, z, m, rfl, hx, x1, x2, x3, x4, x5, x6, x7⟩ := ln_at HL1.out j hlt
      obtain ⟨b2, o2, sh', cl', k', st', ct', z', m', rfl, hy, y1, y2, y3, y4, y5, y6, y7⟩ := ln_at HL2.out j hlt
      rw [hx] at hy
      cases hy
      have HB9 := Lib.hid (fun n => below_drewN9 HB.out n)
      have HL19 : Hid (∀ n, Reads lnV (wr.drewN n) (some ⟨b1, o1, none⟩) N1 LL) := fun n => HL1.out
      have HL29 : Hid (∀ n, Reads lnV (wr.drewN n) (some ⟨b2, o2, none⟩) N1 LL) := fun n => HL2.out
      go_wp2
      go_quiet (fail)
      go_wp2
      go_roundw
      case rel => exact ⟨j + 1, by omega, by go_num, HL19.out _, HL29.out _, HB9.out _⟩
      case measure => simp [intOf]; omega
    · obtain rfl : j = N1 := by omega
      go_wp2_with (go_at_call 13; refine (awake0 _).mono ?_; rintro e w9 ⟨rfl, g⟩; have HB := Lib.hid (HB.out.trans (g.mono HB.out.size)); clear g)
      go_ret
      exact ⟨rfl, HB.out⟩

set_option maxRecDepth 100000 in
theorem lifted (os : Os) (started : os.Started) (H : Type) (enc : TypeId × Value → H) :
    ReturnsInHanded {} Try.checked os 4 .any (Rows.countEachsSpec.pre6 enc Try.prog Try.f4 Rows.countEachsRow.domain false) (Rows.countEachsSpec.post enc Try.prog Try.f4 false true false false) := by
  refine returnsInHanded_of_change (C := Try.checked) own started (by kernel_rfl) Try.func4
    (ChangeSpec.witness6 (enc := enc) (C := Try.checked) false ⟨#[], #[.agg #[.int .i64 0, .int .i64 0, .string ByteArray.empty, .slice none 0 0, .slice none 0 0, .slice none 0 0, .slice none 0 0]], []⟩ 8 (by kernel_rfl) (by kernel_rfl) (by kernel_rfl) (by kernel_rfl)) ?_
  intro W base args ds gs before hval0 hW hcnd _
  have hval : ∀ (j : Nat) t v, Try.f4.params[j]? = some t → args[j]? = some v → Value.okWide Try.prog W .any base t v := hval0
  have hW' := hW
  obtain ⟨p, q, hA0, hV, rfl, hfz, hnd⟩ := hW
  have hA : DataW.TrodAll enc Try.prog W 0 (fun _ => true) true Try.f4.params.toList args.toList ds p := hA0
  rw [Try.params4] at hA hval
  obtain ⟨v0, vs0, d0, ds0, p0, q0, hargs, rfl, rfl, h0, r0⟩ := trodAll_cons hA
  obtain ⟨rfl, rfl, rfl⟩ := trodAll_nil r0
  obtain rfl : args = #[v0] := by cases args; simp_all
  obtain ⟨rfl, rfl⟩ := trodVars_none hV
  have k0 := h0
  have lt0 : ∀ x ∈ p0, x.block < W.heap.size := by obtain ⟨m, hm⟩ := k0; exact DataW.trod_lt m _ _ _ hm
  obtain ⟨mc0, ms0, mb0, ta0, tn0, tc0, sa0, sn0, sc0, ba0, bn0, bc0, ca0, cn0, cc0, rfl, w0⟩ := meta_open (hval 0 29 v0 rfl rfl) h0
  clear hA0 hval0
  refine (walk mc0 ms0 mb0 ta0 tn0 tc0 sa0 sn0 sc0 ba0 bn0 bc0 ca0 cn0 cc0 W w0).mono fun e W' ⟨he, bel⟩ => ?_
  subst he
  exact ⟨_, rfl, _, _, _, [], _, [], hW', trodAll_mk1 (shut_bool Try.underlying4 _), (trodAll_cons_mk (Below.trod laidOut (by kernel_rfl) (of_decide_eq_true (by kernel_rfl)) k0 bel lt0) trodAll_mk0), rfl, bel.frame _, fun h => by cases h⟩

theorem over : Rows.countEachsRow.holds Try.pinned (OpenSpec.ofChange Rows.countEachsSpec) :=
  OpenClaim.holds_of_wide 4 Try.f4 rfl rfl rfl rfl rfl rfl rfl ⟨rfl, rfl, rfl, rfl, rfl⟩ rfl rfl rfl rfl rfl (by kernel_rfl) Try.func4 (by kernel_rfl)
    (of_decide_eq_true (by kernel_rfl)) (by unfold Func.isWrapper; first | (rw [if_pos (by decide +kernel)]; kernel_rfl) | (rw [if_neg (by decide +kernel)]; exact ⟨rfl, rfl⟩))
    (fun os started H enc _ => lifted os started H enc)

/-- The statement. -/
theorem proved : Rows.CountEachsSaid := over
#print axioms proved
end Go.Proofs.Ytidknkhkblloaaa.countEachs
