/-
  Proved: 'matryoshkalaw4.SpanSplits' returns true for every input, and each argument reads afterwards as before: the statement SpanSplitsSaid as given. Conditions: none beyond the row's own.
-/
import Derived.Test.YtdnkldcmefcmbaaRows
import Derived.Test.YtdnkldcmefcmbaaW4
import Derived.WalkKit
import Derived.ProofKit
import Derived.OpenShut
import Derived.ShutString
import Derived.ChangeOld
import Derived.Below
namespace Go.Proofs.Ytdnkldcmefcmbaa.spanSplits
open Go.ChangeShapes Go.WideShapes Go.ChangeAt Go.RowKit
open Go.ChangeMaps (open_string shut_string)
set_option linter.unusedVariables false

theorem own : ownKnob Try.prog.godebug = none := by kernel_rfl
theorem laidOut : laidOutB Try.prog = true := by kernel_rfl

set_option maxRecDepth 20000 in
set_option maxHeartbeats 4000000 in
theorem walk (a0 : Int) (a1 : Int) (a2 : Int) (w : World) (w0 : (Lit.int .i64 a0).wf = true) (w1 : (Lit.int .i64 a1).wf = true) (w2 : (Lit.int .i64 a2).wf = true) :
    Calls Try.prog 4 #[.int .i64 a0, .int .i64 a1, .int .i64 a2] w fun e w' => e = .returned (.bool true) ∧ Below w.heap.size w w' := by
  have HF := Lib.hid (fun w => spanSplit_any a0 a1 a2 w (i64_wf w0) (i64_wf w1) (i64_wf w2))
  have HR := Lib.hid (fun w => refSplit_any a0 a1 a2 w)
  obtain ⟨L, HL⟩ := named (splitL a0 a1 a2).1
  obtain ⟨err, HE⟩ := named (splitL a0 a1 a2).2
  rw [HL.out, HE.out] at HF HR
  obtain ⟨K, HK⟩ := named L.length
  have HP : Hid (∀ (x1 x2 : Option Addr) (n1 n2 c1 c2 : Nat) (w : World), Pieces w x1 n1 L → Pieces w x2 n2 L → Calls Try.prog 25 #[.slice x1 n1 c1, .slice x2 n2 c2] w fun e w' => e = .returned (.bool true) ∧ Below w.heap.size w w') := fun x1 x2 n1 n2 c1 c2 w h1 h2 => by
    have := refPieces_any x1 x2 n1 n2 c1 c2 L L w h1 h2
    rw [decide_eq_true rfl] at this
    exact this
  clear w0 w1 w2 HL HE
  go_enter Try.func4, Try.ntmps4
  go_wp2_with (first
    | (go_at_call 26; go_in)
    | (go_at_call 23; refine (HF.out _).mono ?_; rintro e w1 hp; obtain ⟨x1, c1, rfl, hB, _, hb⟩ := hp.named HK.out; have HB1 := Lib.hid hB; have HG1 := Lib.hid hb; clear hp hB hb)
    | (go_at_call 24; refine (HR.out _).mono ?_; rintro e w2 hp; obtain ⟨x2, c2, rfl, hB, _, hb⟩ := hp.named HK.out; have HB2 := Lib.hid hB; have HB12 := Lib.hid (HB1.out.later hb); have HG2 := Lib.hid (HG1.out.trans (hb.mono HG1.out.size)); clear hp hB hb)
    | (go_at_call 25; refine (HP.out _ _ _ _ _ _ _ HB12.out HB2.out).mono ?_; rintro e w3 ⟨rfl, hb⟩; have HG3 := Lib.hid (HG2.out.trans (hb.mono HG2.out.size)); clear hb)
    | (go_at_call 11; refine (awake_any _).mono ?_; rintro e w4 ⟨rfl, hb⟩; have HZ := Lib.hid (HG3.out.trans (hb.mono HG3.out.size)); clear hb))
  go_ret
  exact ⟨rfl, HZ.out⟩

set_option maxRecDepth 100000 in
theorem lifted (os : Os) (started : os.Started) (H : Type) (enc : TypeId × Value → H) :
    ReturnsInHanded {} Try.checked os 4 .any (Rows.spanSplitsSpec.pre6 enc Try.prog Try.f4 Rows.spanSplitsRow.domain false) (Rows.spanSplitsSpec.post enc Try.prog Try.f4 false true false false) := by
  refine returnsInHanded_of_change (C := Try.checked) own started (by kernel_rfl) Try.func4
    (ChangeSpec.witness6 (enc := enc) (C := Try.checked) false ⟨#[], #[.int .i64 0, .int .i64 0, .int .i64 0], []⟩ 8 (by kernel_rfl) (by kernel_rfl) (by kernel_rfl) (by kernel_rfl)) ?_
  intro W base args ds gs before hval0 hW hcnd _
  have hval : ∀ (j : Nat) t v, Try.f4.params[j]? = some t → args[j]? = some v → Value.okWide Try.prog W .any base t v := hval0
  have hW' := hW
  obtain ⟨p, q, hA0, hV, rfl, hfz, hnd⟩ := hW
  have hA : DataW.TrodAll enc Try.prog W 0 (fun _ => true) true Try.f4.params.toList args.toList ds p := hA0
  rw [Try.params4] at hA hval
  obtain ⟨v0, vs0, d0, ds0, p0, q0, hargs, rfl, rfl, h0, r0⟩ := trodAll_cons hA
  obtain ⟨v1, vs1, d1, ds1, p1, q1, rfl, rfl, rfl, h1, r1⟩ := trodAll_cons r0
  obtain ⟨v2, vs2, d2, ds2, p2, q2, rfl, rfl, rfl, h2, r2⟩ := trodAll_cons r1
  obtain ⟨rfl, rfl, rfl⟩ := trodAll_nil r2
  obtain rfl : args = #[v0, v1, v2] := by cases args; simp_all
  obtain ⟨rfl, rfl⟩ := trodVars_none hV
  have k0 := h0
  have lt0 : ∀ x ∈ p0, x.block < W.heap.size := by obtain ⟨m, hm⟩ := k0; exact DataW.trod_lt m _ _ _ hm
  obtain ⟨a0, rfl, _, _, w0⟩ := open_int Try.underlying3 (hval 0 3 v0 rfl rfl) h0
  have k1 := h1
  have lt1 : ∀ x ∈ p1, x.block < W.heap.size := by obtain ⟨m, hm⟩ := k1; exact DataW.trod_lt m _ _ _ hm
  obtain ⟨a1, rfl, _, _, w1⟩ := open_int Try.underlying3 (hval 1 3 v1 rfl rfl) h1
  have k2 := h2
  have lt2 : ∀ x ∈ p2, x.block < W.heap.size := by obtain ⟨m, hm⟩ := k2; exact DataW.trod_lt m _ _ _ hm
  obtain ⟨a2, rfl, _, _, w2⟩ := open_int Try.underlying3 (hval 2 3 v2 rfl rfl) h2
  clear hA0 hval0
  refine (walk a0 a1 a2 W w0 w1 w2).mono fun e W' ⟨he, bel⟩ => ?_
  subst he
  exact ⟨_, rfl, _, _, _, [], _, [], hW', trodAll_mk1 (shut_bool Try.underlying4 _), (trodAll_cons_mk (Below.trod laidOut (by kernel_rfl) (of_decide_eq_true (by kernel_rfl)) k0 bel lt0) (trodAll_cons_mk (Below.trod laidOut (by kernel_rfl) (of_decide_eq_true (by kernel_rfl)) k1 bel lt1) (trodAll_cons_mk (Below.trod laidOut (by kernel_rfl) (of_decide_eq_true (by kernel_rfl)) k2 bel lt2) trodAll_mk0))), rfl, bel.frame _, fun h => by cases h⟩

theorem over : Rows.spanSplitsRow.holds Try.pinned (OpenSpec.ofChange Rows.spanSplitsSpec) :=
  OpenClaim.holds_of_wide 4 Try.f4 rfl rfl rfl rfl rfl rfl rfl ⟨rfl, rfl, rfl, rfl, rfl⟩ rfl rfl rfl rfl rfl (by kernel_rfl) Try.func4 (by kernel_rfl)
    (of_decide_eq_true (by kernel_rfl)) (by unfold Func.isWrapper; first | (rw [if_pos (by decide +kernel)]; kernel_rfl) | (rw [if_neg (by decide +kernel)]; exact ⟨rfl, rfl⟩))
    (fun os started H enc _ => lifted os started H enc)

/-- The statement. -/
theorem proved : Rows.SpanSplitsSaid := over
#print axioms proved
end Go.Proofs.Ytdnkldcmefcmbaa.spanSplits
