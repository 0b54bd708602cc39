/-
  Proved: 'matryoshkalaw2.FieldWide' returns true for every input, and each argument reads afterwards as before: the statement FieldWideSaid as given. Conditions: none beyond the row's own.
-/
import Derived.Test.YtdehplankddfgaaRows
import Derived.Test.YtdehplankddfgaaW2
import Derived.WalkKit
import Derived.ProofKit
import Derived.OpenShut
import Derived.ShutString
import Derived.ChangeOld
import Derived.Below
namespace Go.Proofs.Ytdehplankddfgaa.fieldWide
open Go.ChangeShapes Go.WideShapes Go.ChangeAt Go.RowKit
open Go.ChangeMaps (open_string shut_string)
set_option linter.unusedVariables false      -- a walk need not use every 'w<i>' (that an integer argument fits its kind)

theorem own : ownKnob Try.prog.godebug = none := by kernel_rfl

theorem wide_fit (v m : Nat) (hm : m < 8) (M : Nat) (hM : M = v % 2 ^ (8 * m)) (V : Nat) (h : bits .or .u64 (IntKind.u64.wrap ((2 : Int) ^ (8 * m))) (M : Int) = (V : Int)) : Fit64 V := by
  have hp := pow_small hm
  have h1 : 0 < 2 ^ (8 * m) := Nat.two_pow_pos _
  have e1 : IntKind.u64.wrap ((2 : Int) ^ (8 * m)) = ((2 ^ (8 * m) : Nat) : Int) := by rw [pow_int, IntKind.wrap_u64]; omega
  have hlt : M < 2 ^ (8 * m) := by rw [hM]; exact Nat.mod_lt _ h1
  have hj : 2 ^ (8 * m) ||| M = 2 ^ (8 * m) + M := nat_join (8 * m) _ _ (Nat.mod_self _) hlt
  rw [e1, u64_or_nat _ _ (by omega) (by omega), hj] at h
  unfold Fit64
  omega

set_option maxHeartbeats 1600000 in
theorem walk (a0 : Int) (a1 : Int) (a2 : Bool) (w0 : (Lit.int .u8 a0).wf = true) (w1 : (Lit.int .u64 a1).wf = true) (w : World) :
    Calls Try.prog 8 #[.int .u8 a0, .int .u64 a1, .bool a2] w fun e w' => e = .returned (.bool true) ∧ Below w.heap.size w w' := by
  obtain ⟨v, rfl, hv⟩ := dword_of_wf w1
  have h0 := byte_of_wf w0
  obtain ⟨m, hm, hm1, hm2⟩ : ∃ m : Nat, 1 + a0 % 7 = (m : Int) ∧ 1 ≤ m ∧ m < 8 := ⟨(1 + a0 % 7).toNat, by omega, by omega, by omega⟩
  clear w0 w1
  obtain ⟨M, hM, _, hM2⟩ := mask_of v m hv hm2
  obtain ⟨V, hV, hf1, hf2⟩ := wide_of v m hv hm2 M hM2
  have hVV : Fit64 V := wide_fit v m hm2 M hM2 V hV
  obtain ⟨K, HK⟩ := named ([7] ++ numB a2 (m + 1) V).length
  have hK : ((K : Int) == (m : Int) + 2) = true := by
    have := HK.out
    rw [List.length_append, numB_len] at this
    simp at this ⊢
    omega
  have P1 : ∀ (sl : Value) (w : World), Calls Try.prog 11 #[sl, .int .i64 m, .bool a2, .int .u64 V] w (PutPost w [] 6) := fun sl w => fieldPut_range sl m V a2 w hm1 hVV hf1
  have P2 : ∀ (w : World), Calls Try.prog 11 #[.slice (some ⟨w.heap.size, 0, none⟩) 1 1, .int .i64 ((m : Int) + 1), .bool a2, .int .u64 V] (w.alloc (.cells #[.int .u8 7] 5)) (PutPost (w.alloc (.cells #[.int .u8 7] 5)) ([7] ++ numB a2 (m + 1) V) 0) := fun w => fieldPut_ok _ 1 1 (m + 1) V [7] a2 _ (one_byte w 7 (by omega)) (fun e => by cases e) (by omega) (by omega) (by omega) hVV hf2
  have P3 : ∀ (w : World), Calls Try.prog 11 #[.slice none 0 0, .int .i64 0, .bool a2, .int .u64 0] w (PutPost w [] 1) := fun w => fieldPut_arg _ 0 a2 _ w (by omega)
  have P4 : ∀ (w : World), Calls Try.prog 11 #[.slice none 0 0, .int .i64 9, .bool a2, .int .u64 0] w (PutPost w [] 1) := fun w => fieldPut_arg _ 9 a2 _ w (by omega)
  have Q1 := Lib.hid P1
  have Q2 := Lib.hid P2
  have Q3 := Lib.hid P3
  have Q4 := Lib.hid P4
  clear P1 P2 P3 P4 hv hM2 hf1 hf2 hVV
  go_enter Try.func8, Try.ntmps8
  go_wp2_with (first
    | (go_at_call 13; go_in)
    | (go_at_call 11; ((with_reducible refine (Q1.out _ _).mono ?_); rintro e w1 hp; obtain ⟨a6, c6, rfl, _, _, hb⟩ := hp.named (n := 0) rfl; have HG1 := Lib.hid (((Below.refl w.heap.size w).alloc (Nat.le_refl _) _).trans (hb.mono (by simp))); clear hp hb))
    | (go_at_call 11; ((with_reducible refine (Q2.out _).mono ?_); rintro e w2 hp; obtain ⟨a7, c7, rfl, _, _, hb⟩ := hp.named HK.out; have HG2 := Lib.hid ((HG1.out.alloc HG1.out.size _).trans (hb.mono (Nat.le_trans HG1.out.size (by simp)))); clear hp hb))
    | (go_at_call 11; ((with_reducible refine (Q3.out _).mono ?_); rintro e w3 hp; obtain ⟨a8, c8, rfl, _, _, hb⟩ := hp.named (n := 0) rfl; have HG3 := Lib.hid (HG2.out.trans (hb.mono HG2.out.size)); clear hp hb))
    | (go_at_call 11; ((with_reducible refine (Q4.out _).mono ?_); rintro e w4 hp; obtain ⟨a9, c9, rfl, _, _, hb⟩ := hp.named (n := 0) rfl; have HG4 := Lib.hid (HG3.out.trans (hb.mono HG3.out.size)); clear hp hb))
    | (go_at_call 10; refine (awake_any _).mono ?_; rintro e w5 ⟨rfl, hb⟩; have HZ := Lib.hid (HG4.out.trans (hb.mono HG4.out.size)); clear hb))
  go_ret
  exact ⟨rfl, HZ.out⟩

set_option maxRecDepth 100000 in
theorem lifted (os : Os) (started : os.Started) (H : Type) (enc : TypeId × Value → H) :
    ReturnsInHanded {} Try.checked os 8 .any (Rows.fieldWideSpec.pre6 enc Try.prog Try.f8 Rows.fieldWideRow.domain false) (Rows.fieldWideSpec.post enc Try.prog Try.f8 false true false false) := by
  refine returnsInHanded_of_change (C := Try.checked) own started (by kernel_rfl) Try.func8
    (ChangeSpec.witness6 (enc := enc) (C := Try.checked) false ⟨#[], #[.int .u8 0, .int .u64 0, .bool false], []⟩ 8 (by kernel_rfl) (by kernel_rfl) (by kernel_rfl) (by kernel_rfl)) ?_
  intro W base args ds gs before hval0 hW hcnd _
  have hval : ∀ (j : Nat) t v, Try.f8.params[j]? = some t → args[j]? = some v → Value.okWide Try.prog W .any base t v := hval0
  have hW' := hW
  obtain ⟨p, q, hA0, hV, rfl, hfz, hnd⟩ := hW
  have hA : DataW.TrodAll enc Try.prog W 0 (fun _ => true) true Try.f8.params.toList args.toList ds p := hA0
  rw [Try.params8] at hA hval
  obtain ⟨v0, vs0, d0, ds0, p0, q0, hargs, rfl, rfl, h0, r0⟩ := trodAll_cons hA
  obtain ⟨v1, vs1, d1, ds1, p1, q1, rfl, rfl, rfl, h1, r1⟩ := trodAll_cons r0
  obtain ⟨v2, vs2, d2, ds2, p2, q2, rfl, rfl, rfl, h2, r2⟩ := trodAll_cons r1
  obtain ⟨rfl, rfl, rfl⟩ := trodAll_nil r2
  obtain rfl : args = #[v0, v1, v2] := by cases args; simp_all
  obtain ⟨rfl, rfl⟩ := trodVars_none hV
  obtain ⟨a0, rfl, rfl, rfl, w0⟩ := open_int Try.underlying5 (hval 0 5 v0 rfl rfl) h0
  obtain ⟨a1, rfl, rfl, rfl, w1⟩ := open_int Try.underlying23 (hval 1 23 v1 rfl rfl) h1
  obtain ⟨a2, rfl, rfl, rfl⟩ := open_bool Try.underlying4 (hval 2 4 v2 rfl rfl) h2
  clear hA0 hval0
  simp only [List.append_nil] at hW'
  refine (walk a0 a1 a2 w0 w1 W).mono fun e W' ⟨he, hg⟩ => ?_
  subst he
  exact ⟨_, rfl, _, _, _, [], [], [], hW', trodAll_mk1 (shut_bool Try.underlying4 _), (trodAll_cons_mk (shut_int Try.underlying5 w0) (trodAll_cons_mk (shut_int Try.underlying23 w1) (trodAll_cons_mk (shut_bool Try.underlying4 _) trodAll_mk0))), rfl, hg.frame _, fun h => by cases h⟩

theorem over : Rows.fieldWideRow.holds Try.pinned (OpenSpec.ofChange Rows.fieldWideSpec) :=
  OpenClaim.holds_of_wide 8 Try.f8 rfl rfl rfl rfl rfl rfl rfl ⟨rfl, rfl, rfl, rfl, rfl⟩ rfl rfl rfl rfl rfl (by kernel_rfl) Try.func8 (by kernel_rfl)
    (of_decide_eq_true (by kernel_rfl)) (by unfold Func.isWrapper; first | (rw [if_pos (by decide +kernel)]; kernel_rfl) | (rw [if_neg (by decide +kernel)]; exact ⟨rfl, rfl⟩))
    (fun os started H enc _ => lifted os started H enc)

/-- The statement. -/
theorem proved : Rows.FieldWideSaid := over
#print axioms proved
end Go.Proofs.Ytdehplankddfgaa.fieldWide
