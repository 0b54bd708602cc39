/-
  Proved: 'matryoshkalaw13.MapTouches' returns true for every input: the statement MapTouchesSaid as given. Conditions: none beyond the row's own.
-/
import Derived.Test.YtjaaieamlgghhaaRows
import Derived.Test.YtjaaieamlgghhaaVa
import Derived.Deep.RegionHeld3
import Derived.WalkKit
import Derived.ProofKit
import Derived.OpenShut
import Derived.ShutString
import Derived.ChangeOld
import Derived.Below
namespace Go.Proofs.Ytjaaieamlgghhaa.mapTouches
open Go.ChangeShapes Go.WideShapes Go.ChangeAt Go.RowKit
open Go.ChangeMaps (open_string shut_string)
set_option linter.unusedVariables false

theorem own : ownKnob Try.prog.godebug = none := by kernel_rfl
theorem laidOut : laidOutB Try.prog = true := by kernel_rfl

set_option maxRecDepth 100000 in
set_option maxHeartbeats 4000000 in
theorem walk (a0 : Option Addr) (len0 cap0 : Nat) (f1 t1 : Int) (a2 : Int) (a3 : Int) (w : World) (w0 : BmsArg w a0 len0 cap0) (w1 : (Lit.int .i64 f1).wf = true ∧ (Lit.int .i64 t1).wf = true) (w2 : (Lit.int .i64 a2).wf = true) (w3 : (Lit.int .i64 a3).wf = true) :
    Calls Try.prog 8 #[.slice a0 len0 cap0, .agg #[.int .i64 f1, .int .i64 t1], .int .i64 a2, .int .i64 a3] w fun e w' => e = .returned (.bool true) ∧ Below w.heap.size w w' := by
  have bf := bounds_i64 w1.1
  have bt := bounds_i64 w1.2
  have b2 := bounds_i64 w2
  have b3 := bounds_i64 w3
  have HI : Hid ((I64 f1 ∧ I64 t1) ∧ I64 a2 ∧ I64 a3) := by refine ⟨⟨?_, ?_⟩, ?_, ?_⟩ <;> (unfold I64; omega)
  have HLT := Lib.hid (fun (W : World) (hb : Below w.heap.size w W) => let13 W a0 len0 cap0 (w0.later hb))
  have HAW : Hid (∀ W, Below w.heap.size w W → Calls Try.prog 30 #[] W fun e w' => e = .returned (.bool true) ∧ Below w.heap.size w w') := fun W hb => (awake13 W).mono fun e w' h => ⟨h.1, hb.trans (h.2.mono hb.size)⟩
  have HX : Hid (Blk (w.alloc (.cells #[.int .i64 f1, .int .i64 t1] 50)) w.heap.size 50 #[.int .i64 f1, .int .i64 t1]) := Blk.new _ _ _
  have HB0 := Lib.hid ((Below.refl w.heap.size w).alloc (Nat.le_refl _) (.cells #[.int .i64 f1, .int .i64 t1] 50))
  obtain ⟨z0, z1⟩ : (w.alloc (.cells #[.int .i64 f1, .int .i64 t1] 50)).cell? ⟨w.heap.size, 0, none⟩ = some (.int .i64 f1) ∧ (w.alloc (.cells #[.int .i64 f1, .int .i64 t1] 50)).cell? ⟨w.heap.size, 1, none⟩ = some (.int .i64 t1) := ⟨HX.out.cell 0, HX.out.cell 1⟩
  clear bf bt b2 b3
  go_enter Try.func8, Try.ntmps8
  go_wp2_with (first
    | (go_at_call 29; (with_reducible refine (HLT.out _ HB0.out).mono ?_); rintro e w2 ⟨G, rfl, h, hg⟩; have HGG := Lib.hid hg; have HB2 := Lib.hid (HB0.out.trans (h.mono HB0.out.size)); have HB22 := Lib.hid h; have HX2 := Lib.hid (HX.out.later h); clear h hg z0 z1; cases G)
    | (go_at_call 30; (with_reducible refine (HAW.out _ HB2.out).mono ?_); rintro e w9 ⟨rfl, hb9⟩)
    | (go_at_call 31; (with_reducible obtain ⟨B, hlt⟩ := Lt.of (HGG.out (by first | rfl | trivial))); have HL2 := Lib.hid (hlt.later HB22.out); (with_reducible refine HL2.out.none.mono ?_); rintro e w3 ⟨ax3, c3, rfl, hN, hb⟩; have HD3 := Lib.hid hN.d; have HB3 := Lib.hid (HB2.out.trans (hb.mono HB2.out.size)); have HX3 := Lib.hid (HX2.out.later hb); have HL3 := Lib.hid (HL2.out.later hb); clear hlt hN hb))
  all_goals first
    | (go_ret; exact ⟨rfl, hb9⟩)
    | skip
  have HTP : Hid (∀ W, Below w3.heap.size w3 W → Calls Try.prog 44 #[.slice a0 len0 cap0, .agg #[.int .i64 f1, .int .i64 t1]] W fun e w' => ∃ (a : Option Addr) (c : Nat), e = .returned (.slice a len0 c) ∧ BmsD w' a len0 c (B.map (touchF (f1, t1))) ∧ Below w3.heap.size w3 w' ∧ Below W.heap.size W w') := fun W hs => ((HL3.out.later hs).touchP _ _ HI.out.1.1 HI.out.1.2).mono fun e w' ⟨a, c, e1, e2, e3⟩ => ⟨a, c, e1, e2.d, hs.trans (e3.mono hs.size), e3⟩
  have HTR : Hid (∀ W, Below w3.heap.size w3 W → Calls Try.prog 31 #[.slice a0 len0 cap0, .agg #[.int .i64 f1, .int .i64 t1]] W fun e w' => ∃ (a : Option Addr) (c : Nat), e = .returned (.slice a len0 c) ∧ BmsD w' a len0 c (B.map (touchF (f1, t1))) ∧ Below w3.heap.size w3 w' ∧ Below W.heap.size W w') := fun W hs => ((HL3.out.later hs).touchR _ _).mono fun e w' ⟨a, c, e1, e2, e3⟩ => ⟨a, c, e1, e2.d, hs.trans (e3.mono hs.size), e3⟩
  have HSP : Hid (∀ W, Below w3.heap.size w3 W → Calls Try.prog 45 #[.slice a0 len0 cap0, .int .i64 a2, .int .i64 a3] W fun e w' => ∃ (a : Option Addr) (c : Nat), e = .returned (.slice a len0 c) ∧ BmsD w' a len0 c (sizeB B a2 a3) ∧ Below w3.heap.size w3 w' ∧ Below W.heap.size W w') := fun W hs => ((HL3.out.later hs).sizeP _ _ HI.out.2.1 HI.out.2.2).mono fun e w' ⟨a, c, e1, e2, e3⟩ => ⟨a, c, e1, e2.d, hs.trans (e3.mono hs.size), e3⟩
  have HSR : Hid (∀ W, Below w3.heap.size w3 W → Calls Try.prog 46 #[.slice a0 len0 cap0, .int .i64 a2, .int .i64 a3] W fun e w' => ∃ (a : Option Addr) (c : Nat), e = .returned (.slice a len0 c) ∧ BmsD w' a len0 c (sizeB B a2 a3) ∧ Below w3.heap.size w3 w' ∧ Below W.heap.size W w') := fun W hs => ((HL3.out.later hs).sizeR _ _ HI.out.2.1 HI.out.2.2).mono fun e w' ⟨a, c, e1, e2, e3⟩ => ⟨a, c, e1, e2.d, hs.trans (e3.mono hs.size), e3⟩
  have HKX : Hid (∀ W, Below w3.heap.size w3 W → W.cell? ⟨w.heap.size, 0, none⟩ = some (.int .i64 f1) ∧ W.cell? ⟨w.heap.size, 1, none⟩ = some (.int .i64 t1)) := fun W hs => ⟨(HX3.out.later hs).cell 0, (HX3.out.later hs).cell 1⟩
  have HS3 := Lib.hid (Below.refl w3.heap.size w3).drew
  have HS0 := Lib.hid (Below.refl w3.heap.size w3)
  go_region_held3 (fun W => W.cell? ⟨w.heap.size, 0, none⟩ = some (.int .i64 f1) ∧ W.cell? ⟨w.heap.size, 1, none⟩ = some (.int .i64 t1)) (first | assumption | with_reducible exact HKX.out _ HS0.out | with_reducible exact HKX.out _ HS3.out | with_reducible exact HKX.out _ HS4.out | with_reducible exact HKX.out _ HS5.out | with_reducible exact HKX.out _ HS6.out | with_reducible exact HKX.out _ HS7.out | with_reducible exact HKX.out _ HS8.out | with_reducible exact HKX.out _ HS10.out | with_reducible exact HKX.out _ HS11.out | with_reducible exact HKX.out _ HS12.out) (first
    | (go_at_call 44; (with_reducible refine (HTP.out _ HS3.out).mono ?_); rintro e w4 ⟨a4, c4, rfl, hD, hs, hb⟩; have HD4 := Lib.hid hD; have HS4 := Lib.hid hs; clear hD hs hb)
    | (go_at_call 31; (with_reducible refine (HTR.out _ HS4.out).mono ?_); rintro e w5 ⟨a5, c5, rfl, hD, hs, hb⟩; have HD5 := Lib.hid hD; have HS5 := Lib.hid hs; have HD4 := Lib.hid (HD4.out.later hb); clear hD hs hb)
    | (go_at_call 42; (with_reducible refine (mapsSame HD4.out HD5.out (Below.refl _ _) (Below.refl _ _)).mono ?_); rintro e w6 ⟨rfl, hb⟩; have HS6 := Lib.hid (HS5.out.trans (hb.mono HS5.out.size)); clear HD5 HD4 hb)
    | (go_at_call 45; (with_reducible refine (HSP.out _ HS6.out).mono ?_); rintro e w7 ⟨a7, c7, rfl, hD, hs, hb⟩; have HD7 := Lib.hid hD; have HS7 := Lib.hid hs; clear hD hs hb)
    | (go_at_call 46; (with_reducible refine (HSR.out _ HS7.out).mono ?_); rintro e w8 ⟨a8, c8, rfl, hD, hs, hb⟩; have HD8 := Lib.hid hD; have HS8 := Lib.hid hs; have HD7 := Lib.hid (HD7.out.later hb); clear hD hs hb)
    | (go_at_call 42; (with_reducible refine (mapsSame HD7.out HD8.out (Below.refl _ _) (Below.refl _ _)).mono ?_); rintro e w10 ⟨rfl, hb⟩; have HS10 := Lib.hid (HS8.out.trans (hb.mono HS8.out.size)); clear HD7 HD8 hb)
    | (go_at_call 42; (with_reducible refine (mapsSame HL3.out.d HD3.out HS10.out HS10.out).mono ?_); rintro e w11 ⟨rfl, hb⟩; have HS11 := Lib.hid (HS10.out.trans (hb.mono HS10.out.size)); have HB11 := Lib.hid (HB3.out.trans (HS11.out.mono HB3.out.size)); clear HD3 hb)
    | (go_at_call 30; (with_reducible refine (awake13 _).mono ?_); rintro e w12 ⟨rfl, hb⟩; have HS12 := Lib.hid (HS11.out.trans (hb.mono HS11.out.size)); have HB12 := Lib.hid (HB11.out.trans (hb.mono HB11.out.size)); clear hb))
  go_wp2
  go_ret
  exact ⟨rfl, HB12.out⟩

set_option maxRecDepth 100000 in
theorem lifted (os : Os) (started : os.Started) (H : Type) (enc : TypeId × Value → H) :
    ReturnsInHanded {} Try.checked os 8 .any (Rows.mapTouchesSpec.pre6 enc Try.prog Try.f8 Rows.mapTouchesRow.domain false) (Rows.mapTouchesSpec.post enc Try.prog Try.f8 false true false false) := by
  refine returnsInHanded_of_change (C := Try.checked) own started (by kernel_rfl) Try.func8
    (ChangeSpec.witness6 (enc := enc) (C := Try.checked) false ⟨#[], #[.slice none 0 0, .agg #[.int .i64 0, .int .i64 0], .int .i64 0, .int .i64 0], []⟩ 8 (by kernel_rfl) (by kernel_rfl) (by kernel_rfl) (by kernel_rfl)) ?_
  intro W base args ds gs before hval0 hW hcnd _
  have hval : ∀ (j : Nat) t v, Try.f8.params[j]? = some t → args[j]? = some v → Value.okWide Try.prog W .any base t v := hval0
  have hW' := hW
  obtain ⟨p, q, hA0, hV, rfl, hfz, hnd⟩ := hW
  have hA : DataW.TrodAll enc Try.prog W 0 (fun _ => true) true Try.f8.params.toList args.toList ds p := hA0
  rw [Try.params8] at hA hval
  obtain ⟨v0, vs0, d0, ds0, p0, q0, hargs, rfl, rfl, h0, r0⟩ := trodAll_cons hA
  obtain ⟨v1, vs1, d1, ds1, p1, q1, rfl, rfl, rfl, h1, r1⟩ := trodAll_cons r0
  obtain ⟨v2, vs2, d2, ds2, p2, q2, rfl, rfl, rfl, h2, r2⟩ := trodAll_cons r1
  obtain ⟨v3, vs3, d3, ds3, p3, q3, rfl, rfl, rfl, h3, r3⟩ := trodAll_cons r2
  obtain ⟨rfl, rfl, rfl⟩ := trodAll_nil r3
  obtain rfl : args = #[v0, v1, v2, v3] := by cases args; simp_all
  obtain ⟨rfl, rfl⟩ := trodVars_none hV
  have k0 := h0
  have lt0 : ∀ x ∈ p0, x.block < W.heap.size := by obtain ⟨m, hm⟩ := k0; exact DataW.trod_lt m _ _ _ hm
  obtain ⟨a0, len0, cap0, rfl⟩ := okWide_slice Try.underlying26 (hval 0 26 v0 rfl rfl)
  have w0 := bms_open h0
  have k1 := h1
  have lt1 : ∀ x ∈ p1, x.block < W.heap.size := by obtain ⟨m, hm⟩ := k1; exact DataW.trod_lt m _ _ _ hm
  obtain ⟨f1, t1, rfl, w1⟩ := span_open (hval 1 50 v1 rfl rfl) h1
  have k2 := h2
  have lt2 : ∀ x ∈ p2, x.block < W.heap.size := by obtain ⟨m, hm⟩ := k2; exact DataW.trod_lt m _ _ _ hm
  obtain ⟨a2, rfl, _, _, w2⟩ := open_int Try.underlying3 (hval 2 3 v2 rfl rfl) h2
  have k3 := h3
  have lt3 : ∀ x ∈ p3, x.block < W.heap.size := by obtain ⟨m, hm⟩ := k3; exact DataW.trod_lt m _ _ _ hm
  obtain ⟨a3, rfl, _, _, w3⟩ := open_int Try.underlying3 (hval 3 3 v3 rfl rfl) h3
  clear hA0 hval0
  refine (walk a0 len0 cap0 f1 t1 a2 a3 W w0 w1 w2 w3).mono fun e W' ⟨he, bel⟩ => ?_
  subst he
  exact ⟨_, rfl, _, _, _, [], _, [], hW', trodAll_mk1 (shut_bool Try.underlying4 _), (trodAll_cons_mk (Below.trod laidOut (by kernel_rfl) (of_decide_eq_true (by kernel_rfl)) k0 bel lt0) (trodAll_cons_mk (Below.trod laidOut (by kernel_rfl) (of_decide_eq_true (by kernel_rfl)) k1 bel lt1) (trodAll_cons_mk (Below.trod laidOut (by kernel_rfl) (of_decide_eq_true (by kernel_rfl)) k2 bel lt2) (trodAll_cons_mk (Below.trod laidOut (by kernel_rfl) (of_decide_eq_true (by kernel_rfl)) k3 bel lt3) trodAll_mk0)))), rfl, bel.frame _, fun h => by cases h⟩

theorem over : Rows.mapTouchesRow.holds Try.pinned (OpenSpec.ofChange Rows.mapTouchesSpec) :=
  OpenClaim.holds_of_wide 8 Try.f8 rfl rfl rfl rfl rfl rfl rfl ⟨rfl, rfl, rfl, rfl, rfl⟩ rfl rfl rfl rfl rfl (by kernel_rfl) Try.func8 (by kernel_rfl)
    (of_decide_eq_true (by kernel_rfl)) (by unfold Func.isWrapper; first | (rw [if_pos (by decide +kernel)]; kernel_rfl) | (rw [if_neg (by decide +kernel)]; exact ⟨rfl, rfl⟩))
    (fun os started H enc _ => lifted os started H enc)

/-- The statement. -/
theorem proved : Rows.MapTouchesSaid := over
#print axioms proved
end Go.Proofs.Ytjaaieamlgghhaa.mapTouches
