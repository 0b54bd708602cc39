/-
  Proved: 'matryoshkalaw6.SlotPuts' returns true for every input (any slot), and the argument reads afterwards as before: the statement SlotPutsSaid as given. Conditions: none beyond the row's own.
-/
import Derived.Test.YtpjlnanalielmaaRows
import Derived.Test.YtpjlnanalielmaaO7
import Derived.WalkKit
import Derived.ProofKit
import Derived.OpenShut
import Derived.ShutString
import Derived.ChangeOld
import Derived.Below
namespace Go.Proofs.Ytpjlnanalielmaa.slotPuts
open Go.ChangeShapes Go.WideShapes Go.ChangeAt Go.RowKit
open Go.ChangeMaps (open_string shut_string)
set_option linter.unusedVariables false

theorem own : ownKnob Try.prog.godebug = none := by kernel_rfl
theorem laidOut : laidOutB Try.prog = true := by kernel_rfl

set_option maxRecDepth 100000 in
set_option maxHeartbeats 4000000 in
theorem walk (q0 s0 c0 m0 : Int) (w : World) (w0 : SlOk (q0, s0, c0, m0)) :
    Calls Try.prog 3 #[.agg #[.int .i64 q0, .int .i64 s0, .int .i64 c0, .int .u32 m0]] w fun e w' => e = .returned (.bool true) ∧ Below w.heap.size w w' := by
  obtain ⟨L, err, hf, hr, _⟩ := slot_both w0
  obtain ⟨K, HK⟩ := named L.length
  have HF := Lib.hid hf
  have HR := Lib.hid hr
  have HX0 := Lib.hid (Blk.new w 24 #[.int .i64 q0, .int .i64 s0, .int .i64 c0, .int .u32 m0])
  have HG0 : Hid (Below w.heap.size w (w.alloc (.cells #[.int .i64 q0, .int .i64 s0, .int .i64 c0, .int .u32 m0] 24))) := (Below.refl _ _).alloc (Nat.le_refl _) _
  clear hf hr w0
  go_enter Try.func3, Try.ntmps3
  go_wp2_with (first
    | (go_at_call 11; go_in)
    | (go_at_call 9; (with_reducible refine (HF.out _).mono ?_); rintro e w1 hp; obtain ⟨x1, y1, rfl, hB, _, hb⟩ := hp.sized HK.out; have HB1 := Lib.hid hB; have HX1 := Lib.hid (HX0.out.later hb); obtain ⟨k0, k1, k2, k3⟩ := cells4 HX1.out; have HG1 := Lib.hid (HG0.out.trans (hb.mono HG0.out.size)); clear hp hB hb)
    | (go_at_call 10; (with_reducible refine (HR.out _).mono ?_); rintro e w2 hp; obtain ⟨x2, y2, rfl, hB, _, hb⟩ := hp.sized HK.out; have hcv1 := conv_str (HB1.out.later hb) y1; have hcv2 := conv_str hB y2; have HG2 := Lib.hid (HG1.out.trans (hb.mono HG1.out.size)); clear hp hB hb)
    | (go_at_call 12; refine (awake_any7 _).mono ?_; rintro e w3 ⟨rfl, hb⟩; have HZ := Lib.hid (HG2.out.trans (hb.mono HG2.out.size)); clear hb))
  go_ret
  exact ⟨rfl, HZ.out⟩

set_option maxRecDepth 100000 in
theorem lifted (os : Os) (started : os.Started) (H : Type) (enc : TypeId × Value → H) :
    ReturnsInHanded {} Try.checked os 3 .any (Rows.slotPutsSpec.pre6 enc Try.prog Try.f3 Rows.slotPutsRow.domain false) (Rows.slotPutsSpec.post enc Try.prog Try.f3 false true false false) := by
  refine returnsInHanded_of_change (C := Try.checked) own started (by kernel_rfl) Try.func3
    (ChangeSpec.witness6 (enc := enc) (C := Try.checked) false ⟨#[], #[.agg #[.int .i64 0, .int .i64 0, .int .i64 0, .int .u32 0]], []⟩ 8 (by kernel_rfl) (by kernel_rfl) (by kernel_rfl) (by kernel_rfl)) ?_
  intro W base args ds gs before hval0 hW hcnd _
  have hval : ∀ (j : Nat) t v, Try.f3.params[j]? = some t → args[j]? = some v → Value.okWide Try.prog W .any base t v := hval0
  have hW' := hW
  obtain ⟨p, q, hA0, hV, rfl, hfz, hnd⟩ := hW
  have hA : DataW.TrodAll enc Try.prog W 0 (fun _ => true) true Try.f3.params.toList args.toList ds p := hA0
  rw [Try.params3] at hA hval
  obtain ⟨v0, vs0, d0, ds0, p0, q0, hargs, rfl, rfl, h0, r0⟩ := trodAll_cons hA
  obtain ⟨rfl, rfl, rfl⟩ := trodAll_nil r0
  obtain rfl : args = #[v0] := by cases args; simp_all
  obtain ⟨rfl, rfl⟩ := trodVars_none hV
  have k0 := h0
  have lt0 : ∀ x ∈ p0, x.block < W.heap.size := by obtain ⟨m, hm⟩ := k0; exact DataW.trod_lt m _ _ _ hm
  obtain ⟨q0, s0, c0, m0, rfl, w0⟩ := slot_open (hval 0 24 v0 rfl rfl) h0
  clear hA0 hval0
  refine (walk q0 s0 c0 m0 W w0).mono fun e W' ⟨he, bel⟩ => ?_
  subst he
  exact ⟨_, rfl, _, _, _, [], _, [], hW', trodAll_mk1 (shut_bool Try.underlying4 _), (trodAll_cons_mk (Below.trod laidOut (by kernel_rfl) (of_decide_eq_true (by kernel_rfl)) k0 bel lt0) trodAll_mk0), rfl, bel.frame _, fun h => by cases h⟩

theorem over : Rows.slotPutsRow.holds Try.pinned (OpenSpec.ofChange Rows.slotPutsSpec) :=
  OpenClaim.holds_of_wide 3 Try.f3 rfl rfl rfl rfl rfl rfl rfl ⟨rfl, rfl, rfl, rfl, rfl⟩ rfl rfl rfl rfl rfl (by kernel_rfl) Try.func3 (by kernel_rfl)
    (of_decide_eq_true (by kernel_rfl)) (by unfold Func.isWrapper; first | (rw [if_pos (by decide +kernel)]; kernel_rfl) | (rw [if_neg (by decide +kernel)]; exact ⟨rfl, rfl⟩))
    (fun os started H enc _ => lifted os started H enc)

/-- The statement. -/
theorem proved : Rows.SlotPutsSaid := over
#print axioms proved
end Go.Proofs.Ytpjlnanalielmaa.slotPuts
