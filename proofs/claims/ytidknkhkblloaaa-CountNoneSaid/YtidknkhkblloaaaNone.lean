/-
  Proved: 'matryoshkalaw9.CountNone' returns true for every input, and each argument reads afterwards as before: the statement CountNoneSaid as given. Conditions: none beyond the row's own.
-/
import Derived.Test.YtidknkhkblloaaaRows
import Derived.Test.YtidknkhkblloaaaW0
import Derived.WalkKit
import Derived.ProofKit
import Derived.OpenShut
import Derived.ShutString
import Derived.ChangeOld
import Derived.Below
namespace Go.Proofs.Ytidknkhkblloaaa.countNone
open Go.ChangeShapes Go.WideShapes Go.ChangeAt Go.RowKit
open Go.ChangeMaps (open_string shut_string)
set_option linter.unusedVariables false

theorem own : ownKnob Try.prog.godebug = none := by kernel_rfl
theorem laidOut : laidOutB Try.prog = true := by kernel_rfl

theorem no_less (N : Nat) : FreeP (fun _ => 0) 0 (-(N : Int)) 0 100 0 false := Or.inr ⟨rfl, rfl, Or.inl (by omega)⟩
theorem no_ahead (F : Nat) : FreeP (fun _ => 0) 0 1 (-1 - (F : Int)) 100 0 false := Or.inr ⟨rfl, rfl, Or.inr (Or.inl (by omega))⟩
theorem yes_there (N F : Nat) : FreeP (fun _ => 0) 0 (1 + (N : Int)) F ((N : Int) + F + 1) F true :=
  Or.inl ⟨rfl, by omega, by omega, by omega, fun k _ _ h => by omega, fun t h1 h2 => by omega⟩
theorem no_room (N F : Nat) : FreeP (fun _ => 0) 0 (1 + (N : Int)) F ((N : Int) + F) 0 false := Or.inr ⟨rfl, rfl, Or.inr (Or.inr fun t h1 h2 => by omega)⟩

set_option maxRecDepth 100000 in
set_option maxHeartbeats 4000000 in
theorem walk (a0 : Int) (a1 : Int) (w : World) (w0 : (Lit.int .u8 a0).wf = true) (w1 : (Lit.int .u8 a1).wf = true) :
    Calls Try.prog 10 #[.int .u8 a0, .int .u8 a1] w fun e w' => e = .returned (.bool true) ∧ Below w.heap.size w w' := by
  have b0 := bounds_u8 w0
  have b1 := bounds_u8 w1
  obtain ⟨N, rfl⟩ : ∃ N : Nat, a0 = N := ⟨a0.toNat, by omega⟩
  obtain ⟨F, rfl⟩ : ∃ F : Nat, a1 = F := ⟨a1.toNat, by omega⟩
  have F1 := Lib.hid (fun w => free_is (cap := 0) (IntsR.nil w none (fun _ => 0)) (by unfold I64; omega) (by unfold I64; omega) (by unfold I64; omega) (no_less N))
  have F2 := Lib.hid (fun w => free_is (cap := 0) (IntsR.nil w none (fun _ => 0)) (by unfold I64; omega) (by unfold I64; omega) (by unfold I64; omega) (no_ahead F))
  have F3 := Lib.hid (fun w => free_is (cap := 0) (IntsR.nil w none (fun _ => 0)) (by unfold I64; omega) (by unfold I64; omega) (by unfold I64; omega) (yes_there N F))
  have F4 := Lib.hid (fun w => free_is (cap := 0) (IntsR.nil w none (fun _ => 0)) (by unfold I64; omega) (by unfold I64; omega) (by unfold I64; omega) (no_room N F))
  go_enter Try.func10, Try.ntmps10
  go_wp2_with (first
    | (go_at_call 19; first
        | ((with_reducible refine (F1.out _).mono ?_); rintro e w1 ⟨rfl, rfl⟩)
        | ((with_reducible refine (F2.out _).mono ?_); rintro e w1 ⟨rfl, rfl⟩)
        | ((with_reducible refine (F3.out _).mono ?_); rintro e w1 ⟨rfl, rfl⟩)
        | ((with_reducible refine (F4.out _).mono ?_); rintro e w1 ⟨rfl, rfl⟩))
    | (go_at_call 13; refine (awake0 _).mono ?_; rintro e w5 ⟨rfl, hb5⟩))
  go_ret
  exact ⟨rfl, hb5⟩

set_option maxRecDepth 100000 in
theorem lifted (os : Os) (started : os.Started) (H : Type) (enc : TypeId × Value → H) :
    ReturnsInHanded {} Try.checked os 10 .any (Rows.countNoneSpec.pre6 enc Try.prog Try.f10 Rows.countNoneRow.domain false) (Rows.countNoneSpec.post enc Try.prog Try.f10 false true false false) := by
  refine returnsInHanded_of_change (C := Try.checked) own started (by kernel_rfl) Try.func10
    (ChangeSpec.witness6 (enc := enc) (C := Try.checked) false ⟨#[], #[.int .u8 0, .int .u8 0], []⟩ 8 (by kernel_rfl) (by kernel_rfl) (by kernel_rfl) (by kernel_rfl)) ?_
  intro W base args ds gs before hval0 hW hcnd _
  have hval : ∀ (j : Nat) t v, Try.f10.params[j]? = some t → args[j]? = some v → Value.okWide Try.prog W .any base t v := hval0
  have hW' := hW
  obtain ⟨p, q, hA0, hV, rfl, hfz, hnd⟩ := hW
  have hA : DataW.TrodAll enc Try.prog W 0 (fun _ => true) true Try.f10.params.toList args.toList ds p := hA0
  rw [Try.params10] at hA hval
  obtain ⟨v0, vs0, d0, ds0, p0, q0, hargs, rfl, rfl, h0, r0⟩ := trodAll_cons hA
  obtain ⟨v1, vs1, d1, ds1, p1, q1, rfl, rfl, rfl, h1, r1⟩ := trodAll_cons r0
  obtain ⟨rfl, rfl, rfl⟩ := trodAll_nil r1
  obtain rfl : args = #[v0, v1] := by cases args; simp_all
  obtain ⟨rfl, rfl⟩ := trodVars_none hV
  have k0 := h0
  have lt0 : ∀ x ∈ p0, x.block < W.heap.size := by obtain ⟨m, hm⟩ := k0; exact DataW.trod_lt m _ _ _ hm
  obtain ⟨a0, rfl, _, _, w0⟩ := open_int Try.underlying5 (hval 0 5 v0 rfl rfl) h0
  have k1 := h1
  have lt1 : ∀ x ∈ p1, x.block < W.heap.size := by obtain ⟨m, hm⟩ := k1; exact DataW.trod_lt m _ _ _ hm
  obtain ⟨a1, rfl, _, _, w1⟩ := open_int Try.underlying5 (hval 1 5 v1 rfl rfl) h1
  clear hA0 hval0
  refine (walk a0 a1 W w0 w1).mono fun e W' ⟨he, bel⟩ => ?_
  subst he
  exact ⟨_, rfl, _, _, _, [], _, [], hW', trodAll_mk1 (shut_bool Try.underlying4 _), (trodAll_cons_mk (Below.trod laidOut (by kernel_rfl) (of_decide_eq_true (by kernel_rfl)) k0 bel lt0) (trodAll_cons_mk (Below.trod laidOut (by kernel_rfl) (of_decide_eq_true (by kernel_rfl)) k1 bel lt1) trodAll_mk0)), rfl, bel.frame _, fun h => by cases h⟩

theorem over : Rows.countNoneRow.holds Try.pinned (OpenSpec.ofChange Rows.countNoneSpec) :=
  OpenClaim.holds_of_wide 10 Try.f10 rfl rfl rfl rfl rfl rfl rfl ⟨rfl, rfl, rfl, rfl, rfl⟩ rfl rfl rfl rfl rfl (by kernel_rfl) Try.func10 (by kernel_rfl)
    (of_decide_eq_true (by kernel_rfl)) (by unfold Func.isWrapper; first | (rw [if_pos (by decide +kernel)]; kernel_rfl) | (rw [if_neg (by decide +kernel)]; exact ⟨rfl, rfl⟩))
    (fun os started H enc _ => lifted os started H enc)

/-- The statement. -/
theorem proved : Rows.CountNoneSaid := over
#print axioms proved
end Go.Proofs.Ytidknkhkblloaaa.countNone
