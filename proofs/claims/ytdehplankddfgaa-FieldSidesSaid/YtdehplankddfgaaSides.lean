/-
  Proved: 'matryoshkalaw2.FieldSides' returns true for every input, and each argument reads afterwards as before: the statement FieldSidesSaid as given. Conditions: none beyond the row's own.
-/
import Derived.Test.YtdehplankddfgaaRows
import Derived.Test.YtdehplankddfgaaW2
import Derived.WalkKit
import Derived.ProofKit
import Derived.OpenShut
import Derived.ShutString
import Derived.ChangeOld
import Derived.Below
namespace Go.Proofs.Ytdehplankddfgaa.fieldSides
open Go.ChangeShapes Go.WideShapes Go.ChangeAt Go.RowKit
open Go.ChangeMaps (open_string shut_string)
set_option linter.unusedVariables false      -- a walk need not use every 'w<i>' (that an integer argument fits its kind)

theorem own : ownKnob Try.prog.godebug = none := by kernel_rfl

set_option maxHeartbeats 1600000 in
theorem walk (a0 : Int) (a1 : Int) (w0 : (Lit.int .u8 a0).wf = true) (w1 : (Lit.int .u64 a1).wf = true) (w : World) :
    Calls Try.prog 7 #[.int .u8 a0, .int .u64 a1] w fun e w' => e = .returned (.bool true) ∧ Below w.heap.size w w' := by
  obtain ⟨v, rfl, hv⟩ := dword_of_wf w1
  have h0 := byte_of_wf w0
  obtain ⟨m, hm, hm1, hm2⟩ : ∃ m : Nat, 1 + a0 % 8 = (m : Int) ∧ 1 ≤ m ∧ m ≤ 8 := ⟨(1 + a0 % 8).toNat, by omega, by omega, by omega⟩
  clear w0 w1
  have hsplit : (m < 8 ∧ ∃ V : Nat, bits .and .u64 (v : Int) (IntKind.u64.wrap (IntKind.u64.wrap ((2 : Int) ^ (8 * m)) - 1)) = (V : Int) ∧ fitsIn m V = true ∧ Fit64 V) ∨ (8 ≤ m ∧ ∃ V : Nat, v = V ∧ fitsIn m V = true ∧ Fit64 V) := by
    by_cases h8 : m < 8
    · obtain ⟨V, h1, h2, h3⟩ := mask_of v m hv h8
      exact Or.inl ⟨h8, V, h1, h2, by rw [h3]; exact Nat.lt_of_le_of_lt (Nat.mod_le _ _) hv⟩
    · exact Or.inr ⟨by omega, v, rfl, by unfold fitsIn; simp; omega, hv⟩
  clear hv
  rcases hsplit with ⟨h8, V, hV, hfit, hv⟩ | ⟨h8, V, rfl, hfit, hv⟩
  all_goals
    have P1 := Lib.hid (fun w => fieldPut_ok none 0 0 m _ [] true w (none_bytes w) (fun _ => rfl) (by omega) hm1 hm2 hv hfit)
    have P2 := Lib.hid (fun w => fieldPut_ok none 0 0 m _ [] false w (none_bytes w) (fun _ => rfl) (by omega) hm1 hm2 hv hfit)
    have HL1 := fun v => numB_len true m v
    have HL2 := fun v => numB_len false m v
    have HA1 := fun v => numB_at true m v
    have HA2 := fun v => numB_at false m v
    have L1 := Lib.hid HL1
    have L2 := Lib.hid HL2
    have A1 := Lib.hid HA1
    have A2 := Lib.hid HA2
    clear hfit hv HL1 HL2 HA1 HA2
    go_enter Try.func7, Try.ntmps7
    go_wp2_with (first
      | (go_at_call 13; go_in)
      | (go_at_call 11; ((with_reducible refine (P1.out _).mono ?_); rintro e w1 hp; obtain ⟨a6, c6, rfl, hB, _, hb⟩ := hp.named (n := m) (L1.out _); obtain ⟨b6, o6, rfl⟩ := hB.lies (by omega); have HB6 := Lib.hid hB; have HG6 := Lib.hid hb; clear hp hB hb))
      | (go_at_call 11; ((with_reducible refine (P2.out _).mono ?_); rintro e w2 hp; obtain ⟨a8, c8, rfl, hB, _, hb⟩ := hp.named (n := m) (L2.out _); obtain ⟨b8, o8, rfl⟩ := hB.lies (by omega); have HB8 := Lib.hid hB; have HB7 := Lib.hid (HB6.out.later hb); have HG8 := Lib.hid (HG6.out.trans (hb.mono HG6.out.size)); clear hp hB hb)))
    go_loopw [10] (fun i wr => ∃ j : Nat, j ≤ m ∧ i = .int .i64 j ∧ Hid (Below w2.heap.size w2 wr)) (fun i _ => m - (intOf i).toNat)
    case atStart => exact ⟨0, Nat.zero_le _, rfl, Below.refl _ _⟩
    case round =>
      obtain ⟨j, hj, rfl, HGr⟩ := hrel
      by_cases hlt : j < m
      · obtain ⟨q, hq, hq2⟩ : ∃ q : Nat, (m : Int) - 1 - (j : Int) = (q : Int) ∧ Hid (q = m - 1 - j) := ⟨m - 1 - j, by omega, rfl⟩
        have hq3 : q < m := by have := hq2.out; omega
        have d6 := (HB7.out.later HGr.out).cellAt j hlt
        have d8 := (HB8.out.later HGr.out).cellAt q hq3
        rw [List.nil_append, A1.out _ j hlt, if_pos trivial, ← hq2.out] at d6
        rw [List.nil_append, A2.out _ q hq3, if_neg (by simp)] at d8
        go_wp2
        go_region
        go_wp2
        go_roundw
        case rel => exact ⟨j + 1, by omega, by go_num, HGr.out.drew⟩
        case measure => simp [intOf]; omega
      · go_wp2_with (go_at_call 10; refine (awake_any _).mono ?_; rintro e w5 ⟨rfl, hb⟩; have HZ := Lib.hid ((HG8.out.trans (HGr.out.mono HG8.out.size)).trans (hb.mono (Nat.le_trans HG8.out.size HGr.out.size))); clear hb)
        go_ret
        exact ⟨rfl, HZ.out⟩

set_option maxRecDepth 100000 in
theorem lifted (os : Os) (started : os.Started) (H : Type) (enc : TypeId × Value → H) :
    ReturnsInHanded {} Try.checked os 7 .any (Rows.fieldSidesSpec.pre6 enc Try.prog Try.f7 Rows.fieldSidesRow.domain false) (Rows.fieldSidesSpec.post enc Try.prog Try.f7 false true false false) := by
  refine returnsInHanded_of_change (C := Try.checked) own started (by kernel_rfl) Try.func7
    (ChangeSpec.witness6 (enc := enc) (C := Try.checked) false ⟨#[], #[.int .u8 0, .int .u64 0], []⟩ 8 (by kernel_rfl) (by kernel_rfl) (by kernel_rfl) (by kernel_rfl)) ?_
  intro W base args ds gs before hval0 hW hcnd _
  have hval : ∀ (j : Nat) t v, Try.f7.params[j]? = some t → args[j]? = some v → Value.okWide Try.prog W .any base t v := hval0
  have hW' := hW
  obtain ⟨p, q, hA0, hV, rfl, hfz, hnd⟩ := hW
  have hA : DataW.TrodAll enc Try.prog W 0 (fun _ => true) true Try.f7.params.toList args.toList ds p := hA0
  rw [Try.params7] at hA hval
  obtain ⟨v0, vs0, d0, ds0, p0, q0, hargs, rfl, rfl, h0, r0⟩ := trodAll_cons hA
  obtain ⟨v1, vs1, d1, ds1, p1, q1, rfl, rfl, rfl, h1, r1⟩ := trodAll_cons r0
  obtain ⟨rfl, rfl, rfl⟩ := trodAll_nil r1
  obtain rfl : args = #[v0, v1] := by cases args; simp_all
  obtain ⟨rfl, rfl⟩ := trodVars_none hV
  obtain ⟨a0, rfl, rfl, rfl, w0⟩ := open_int Try.underlying5 (hval 0 5 v0 rfl rfl) h0
  obtain ⟨a1, rfl, rfl, rfl, w1⟩ := open_int Try.underlying23 (hval 1 23 v1 rfl rfl) h1
  clear hA0 hval0
  simp only [List.append_nil] at hW'
  refine (walk a0 a1 w0 w1 W).mono fun e W' ⟨he, hg⟩ => ?_
  subst he
  exact ⟨_, rfl, _, _, _, [], [], [], hW', trodAll_mk1 (shut_bool Try.underlying4 _), (trodAll_cons_mk (shut_int Try.underlying5 w0) (trodAll_cons_mk (shut_int Try.underlying23 w1) trodAll_mk0)), rfl, hg.frame _, fun h => by cases h⟩

theorem over : Rows.fieldSidesRow.holds Try.pinned (OpenSpec.ofChange Rows.fieldSidesSpec) :=
  OpenClaim.holds_of_wide 7 Try.f7 rfl rfl rfl rfl rfl rfl rfl ⟨rfl, rfl, rfl, rfl, rfl⟩ rfl rfl rfl rfl rfl (by kernel_rfl) Try.func7 (by kernel_rfl)
    (of_decide_eq_true (by kernel_rfl)) (by unfold Func.isWrapper; first | (rw [if_pos (by decide +kernel)]; kernel_rfl) | (rw [if_neg (by decide +kernel)]; exact ⟨rfl, rfl⟩))
    (fun os started H enc _ => lifted os started H enc)

/-- The statement. -/
theorem proved : Rows.FieldSidesSaid := over
#print axioms proved
end Go.Proofs.Ytdehplankddfgaa.fieldSides
