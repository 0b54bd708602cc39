/-
  Proved: 'matryoshkalaw13.MapSizes' returns true for every input: the statement MapSizesSaid as given. Conditions: none beyond the row's own.
-/
import Derived.Test.YtjaaieamlgghhaaRows
import Derived.Test.YtjaaieamlgghhaaUp
import Derived.WalkKit
import Derived.ProofKit
import Derived.OpenShut
import Derived.ShutString
import Derived.ChangeOld
import Derived.Below
namespace Go.Proofs.Ytjaaieamlgghhaa.mapSizes
open Go.ChangeShapes Go.WideShapes Go.ChangeAt Go.RowKit
open Go.ChangeMaps (open_string shut_string)
set_option linter.unusedVariables false

theorem own : ownKnob Try.prog.godebug = none := by kernel_rfl
theorem laidOut : laidOutB Try.prog = true := by kernel_rfl

set_option maxRecDepth 100000 in
set_option maxHeartbeats 4000000 in
theorem walk (a0 : Int) (a1 : Int) (a2 : Int) (a3 : Bool) (w : World) (w0 : (Lit.int .u8 a0).wf = true) (w1 : (Lit.int .u8 a1).wf = true) (w2 : (Lit.int .u8 a2).wf = true) :
    Calls Try.prog 10 #[.int .u8 a0, .int .u8 a1, .int .u8 a2, .bool a3] w fun e w' => e = .returned (.bool true) ∧ Below w.heap.size w w' := by
  have b0 := bounds_u8 w0
  have b1 := bounds_u8 w1
  have b2 := bounds_u8 w2
  have hb9 := And.intro b0 (And.intro b1 b2)
  have HNU := Lib.hid (fun (w : World) => num13 0 (by unfold I64; omega) w)
  have HIN : Hid (∀ n : Int, 0 ≤ n ∧ n < 300 → (a3 = true → hasB (norm (sL a0 a1 a2 a3)) n = decide ((a0 ≤ n ∧ n < 260 ∧ n < a2) ∨ (a1 ≤ n ∧ n < a2))) ∧ (a3 = false → hasB (norm (sL a0 a1 a2 a3)) n = decide (a0 ≤ n ∧ n < 260 ∧ n < a2))) := fun n hn => ⟨fun h => by subst h; exact sL_t a0 a1 a2 (by omega) (by omega) (by omega) n hn, fun h => by subst h; exact sL_f a0 a1 a2 (by omega) (by omega) (by omega) n hn⟩
  have HF : Hid (0 ≤ a0 ∧ a0 ≤ 255) := by show _ ∧ _; omega
  have HS : Hid (0 ≤ a1 ∧ a1 ≤ 255) := by show _ ∧ _; omega
  have HT : Hid (0 ≤ a2 ∧ a2 ≤ 255) := by show _ ∧ _; omega
  go_enter Try.func10, Try.ntmps10
  go_wp2_with (first
    | (go_at_call 32; (with_reducible refine (awAdd13 _).mono ?_); rintro e w1 ⟨a1', c1, rfl, hm, hb1⟩; have HM1 := Lib.hid hm; have HB1 := Lib.hid hb1; clear hm hb1)
    | (go_at_call 43; (with_reducible refine (HNU.out _).mono ?_); rintro e w' ⟨rfl, hw⟩; obtain rfl := hw.symm)
    | (go_at_call 44; (with_reducible refine (sz_touch _ _ _ _ HF.out HM1.out).mono ?_); rintro e w2 ⟨a2', c2, rfl, hm, hb⟩; have HM2 := Lib.hid hm; have HB2 := Lib.hid (HB1.out.trans (hb.mono HB1.out.size)); clear hm hb)
    | (go_at_call 36; (with_reducible refine (sz_turn _ _ _ _ _ HM2.out).mono ?_); rintro e w3 ⟨a3', c3, rfl, hm, hb⟩; have HM3 := Lib.hid hm; have HB3 := Lib.hid (HB2.out.trans (hb.mono HB2.out.size)); clear hm hb)
    | (go_at_call 45; (with_reducible refine (sz_size _ _ _ _ _ _ _ HS.out HT.out HM3.out).mono ?_); rintro e w4 ⟨b, off, al, cl, c4, rfl, hlb, x2, hsp, hb⟩; have HX2 := Lib.hid x2; have HLB := Lib.hid hlb; have HSP := Lib.hid hsp; have HB4 := Lib.hid (HB3.out.trans (hb.mono HB3.out.size)); clear x2 hlb hsp hb))
  go_loopw [12] (fun i wr => ∃ j : Nat, j ≤ 300 ∧ i = .int .i64 j ∧ Hid (Below w4.heap.size w4 wr)) (fun i _ => 300 - (intOf i).toNat)
  case atStart => exact ⟨0, Nat.zero_le _, rfl, Below.refl _ _⟩
  case round =>
    obtain ⟨j, hj, rfl, HBj⟩ := hrel
    by_cases hlt : j < 300
    · have hin := HIN.out j (by omega)
      obtain ⟨R, hR⟩ := named (hasB (norm (sL a0 a1 a2 a3)) j)
      rw [hR.out] at hin
      have HH := Lib.hid (refHas_any al _ cl _ (j : Int) wr (HSP.out.later HBj.out).1 HSP.out.2.1.1 HSP.out.2.2.1)
      rw [hR.out] at HH
      have x2 := (HBj.out.cell (p := ⟨b, off + 2, none⟩) HLB.out).trans HX2.out
      obtain ⟨N, hN⟩ := named (sL a0 a1 a2 a3).length
      rw [hN.out] at HH x2
      clear hR hN
      cases a3
      all_goals
        first | replace hin := hin.2 rfl | replace hin := hin.1 rfl
        by_cases c1 : a0 ≤ (j : Int) <;> by_cases c2 : (j : Int) < 260 <;> by_cases c3 : a2 ≤ (j : Int) <;> by_cases c4 : a1 ≤ (j : Int)
        all_goals try (exfalso; omega)
        all_goals
          first | have d1 := decide_eq_false c1 | have d1 := decide_eq_true c1
          first | have d2 := decide_eq_false c2 | have d2 := decide_eq_true c2
          first | have d3 := decide_eq_false c3 | have d3 := decide_eq_true c3
          first | have d4 := decide_eq_false c4 | have d4 := decide_eq_true c4
          first
            | (have d5 : decide ((j : Int) < a2) = true := decide_eq_true (by omega))
            | (have d5 : decide ((j : Int) < a2) = false := decide_eq_false (by omega))
          first
            | (have hr : R = true := hin.trans (decide_eq_true (by omega)))
            | (have hr : R = false := hin.trans (decide_eq_false (by omega)))
          subst hr
          clear hin
          go_wp2_with (go_at_call 47; refine HH.out.mono ?_; rintro e w5 ⟨rfl, hb⟩; have HB5 := Lib.hid (HBj.out.trans (hb.mono HBj.out.size)); clear hb)
          go_roundw
          case rel => exact ⟨j + 1, by omega, by go_num, HB5.out⟩
          case measure => simp [intOf]; omega
    · obtain rfl : j = 300 := by omega
      go_wp2_with (first
        | (go_at_call 43; (with_reducible refine (HNU.out _).mono ?_); rintro e w' ⟨rfl, hw⟩; obtain rfl := hw.symm)
        | (go_at_call 30; (with_reducible refine (awake13 _).mono ?_); rintro e w9 ⟨rfl, hb⟩; have HB9 := Lib.hid (HB4.out.trans ((HBj.out.trans (hb.mono HBj.out.size)).mono HB4.out.size)); clear hb))
      go_ret
      exact ⟨rfl, HB9.out⟩

set_option maxRecDepth 100000 in
theorem lifted (os : Os) (started : os.Started) (H : Type) (enc : TypeId × Value → H) :
    ReturnsInHanded {} Try.checked os 10 .any (Rows.mapSizesSpec.pre6 enc Try.prog Try.f10 Rows.mapSizesRow.domain false) (Rows.mapSizesSpec.post enc Try.prog Try.f10 false true false false) := by
  refine returnsInHanded_of_change (C := Try.checked) own started (by kernel_rfl) Try.func10
    (ChangeSpec.witness6 (enc := enc) (C := Try.checked) false ⟨#[], #[.int .u8 0, .int .u8 0, .int .u8 0, .bool false], []⟩ 8 (by kernel_rfl) (by kernel_rfl) (by kernel_rfl) (by kernel_rfl)) ?_
  intro W base args ds gs before hval0 hW hcnd _
  have hval : ∀ (j : Nat) t v, Try.f10.params[j]? = some t → args[j]? = some v → Value.okWide Try.prog W .any base t v := hval0
  have hW' := hW
  obtain ⟨p, q, hA0, hV, rfl, hfz, hnd⟩ := hW
  have hA : DataW.TrodAll enc Try.prog W 0 (fun _ => true) true Try.f10.params.toList args.toList ds p := hA0
  rw [Try.params10] at hA hval
  obtain ⟨v0, vs0, d0, ds0, p0, q0, hargs, rfl, rfl, h0, r0⟩ := trodAll_cons hA
  obtain ⟨v1, vs1, d1, ds1, p1, q1, rfl, rfl, rfl, h1, r1⟩ := trodAll_cons r0
  obtain ⟨v2, vs2, d2, ds2, p2, q2, rfl, rfl, rfl, h2, r2⟩ := trodAll_cons r1
  obtain ⟨v3, vs3, d3, ds3, p3, q3, rfl, rfl, rfl, h3, r3⟩ := trodAll_cons r2
  obtain ⟨rfl, rfl, rfl⟩ := trodAll_nil r3
  obtain rfl : args = #[v0, v1, v2, v3] := by cases args; simp_all
  obtain ⟨rfl, rfl⟩ := trodVars_none hV
  have k0 := h0
  have lt0 : ∀ x ∈ p0, x.block < W.heap.size := by obtain ⟨m, hm⟩ := k0; exact DataW.trod_lt m _ _ _ hm
  obtain ⟨a0, rfl, _, _, w0⟩ := open_int Try.underlying5 (hval 0 5 v0 rfl rfl) h0
  have k1 := h1
  have lt1 : ∀ x ∈ p1, x.block < W.heap.size := by obtain ⟨m, hm⟩ := k1; exact DataW.trod_lt m _ _ _ hm
  obtain ⟨a1, rfl, _, _, w1⟩ := open_int Try.underlying5 (hval 1 5 v1 rfl rfl) h1
  have k2 := h2
  have lt2 : ∀ x ∈ p2, x.block < W.heap.size := by obtain ⟨m, hm⟩ := k2; exact DataW.trod_lt m _ _ _ hm
  obtain ⟨a2, rfl, _, _, w2⟩ := open_int Try.underlying5 (hval 2 5 v2 rfl rfl) h2
  have k3 := h3
  have lt3 : ∀ x ∈ p3, x.block < W.heap.size := by obtain ⟨m, hm⟩ := k3; exact DataW.trod_lt m _ _ _ hm
  obtain ⟨a3, rfl, _, _⟩ := open_bool Try.underlying4 (hval 3 4 v3 rfl rfl) h3
  clear hA0 hval0
  refine (walk a0 a1 a2 a3 W w0 w1 w2).mono fun e W' ⟨he, bel⟩ => ?_
  subst he
  exact ⟨_, rfl, _, _, _, [], _, [], hW', trodAll_mk1 (shut_bool Try.underlying4 _), (trodAll_cons_mk (Below.trod laidOut (by kernel_rfl) (of_decide_eq_true (by kernel_rfl)) k0 bel lt0) (trodAll_cons_mk (Below.trod laidOut (by kernel_rfl) (of_decide_eq_true (by kernel_rfl)) k1 bel lt1) (trodAll_cons_mk (Below.trod laidOut (by kernel_rfl) (of_decide_eq_true (by kernel_rfl)) k2 bel lt2) (trodAll_cons_mk (Below.trod laidOut (by kernel_rfl) (of_decide_eq_true (by kernel_rfl)) k3 bel lt3) trodAll_mk0)))), rfl, bel.frame _, fun h => by cases h⟩

theorem over : Rows.mapSizesRow.holds Try.pinned (OpenSpec.ofChange Rows.mapSizesSpec) :=
  OpenClaim.holds_of_wide 10 Try.f10 rfl rfl rfl rfl rfl rfl rfl ⟨rfl, rfl, rfl, rfl, rfl⟩ rfl rfl rfl rfl rfl (by kernel_rfl) Try.func10 (by kernel_rfl)
    (of_decide_eq_true (by kernel_rfl)) (by unfold Func.isWrapper; first | (rw [if_pos (by decide +kernel)]; kernel_rfl) | (rw [if_neg (by decide +kernel)]; exact ⟨rfl, rfl⟩))
    (fun os started H enc _ => lifted os started H enc)

/-- The statement. -/
theorem proved : Rows.MapSizesSaid := over
#print axioms proved
end Go.Proofs.Ytjaaieamlgghhaa.mapSizes
