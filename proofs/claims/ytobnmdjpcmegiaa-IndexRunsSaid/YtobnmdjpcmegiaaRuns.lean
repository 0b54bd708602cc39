/-
  Proved: 'matryoshkalaw11.IndexRuns' returns true for every input (any acts), and the argument reads afterwards as before: the statement IndexRunsSaid as given. Conditions: none beyond the row's own.
-/
import Derived.Test.YtobnmdjpcmegiaaRows
import Derived.Test.YtobnmdjpcmegiaaKp
import Derived.WalkKit
import Derived.ProofKit
import Derived.OpenShut
import Derived.ShutString
import Derived.ChangeOld
import Derived.Below
namespace Go.Proofs.Ytobnmdjpcmegiaa.indexRuns
open Go.ChangeShapes Go.WideShapes Go.ChangeAt Go.RowKit
open Go.ChangeMaps (open_string shut_string)
set_option linter.unusedVariables false

theorem own : ownKnob Try.prog.godebug = none := by kernel_rfl
theorem laidOut : laidOutB Try.prog = true := by kernel_rfl

set_option maxRecDepth 100000 in
set_option maxHeartbeats 4000000 in
theorem walk (a0 : Option Addr) (len0 cap0 : Nat) (z0 : Nat → AcA) (w : World) (w0 : ActsIn w a0 len0 z0) :
    Calls Try.prog 3 #[.slice a0 len0 cap0] w fun e w' => e = .returned (.bool true) ∧ Below w.heap.size w w' := by
  have HW := Lib.hid w0
  have HHV := Lib.hid (heavy_any cap0 w0 (Below.refl _ _))
  unfold HeavyQ at HHV
  obtain ⟨B, hB⟩ := named w.heap.size
  have hBB := hB.out
  have HNEW := Lib.hid (new_any (w0 := w) (w := w) (Below.refl _ _))
  rw [hBB] at HNEW
  clear w0
  go_enter Try.func3, Try.ntmps3
  go_wp2_with (first
    | (go_at_call 8; refine HHV.out.mono ?_; rintro e w1 ⟨hx, hww⟩; obtain rfl := hww.symm; clear hww; rcases hx with rfl | ⟨rfl, hn, hs⟩)
    | (go_at_call 9; refine (awake_any _).mono ?_; rintro e w2 ⟨rfl, hb⟩; have HB := Lib.hid hb; clear hb)
    | (go_at_call 10; refine HNEW.out.mono ?_; rintro e w1 ⟨rfl, ⟨S, g1, g2⟩, g3⟩; have HX1 := Lib.hid g1; clear g1 g2 g3))
  · go_ret
    exact ⟨rfl, HB.out⟩
  · have HD := duo_new HX1.out
    obtain ⟨R, hR⟩ := named w1.heap.size
    have hRR := hR.out
    rw [hRR] at HD ⊢
    have HS := Lib.hid hs
    clear hs
    go_loopw [5] (fun i wr => ∃ (j : Nat) (L : List Pr) (S' : Nat → Prop), j ≤ len0 ∧ i = .int .i64 j ∧ Hid (Duo w B R L L S' wr)) (fun i _ => len0 - (intOf i).toNat)
    case atStart => exact ⟨0, [], _, Nat.zero_le _, rfl, HD.choose_spec⟩
    case round =>
      obtain ⟨j, L, S', hj, rfl, HDU⟩ := hrel
      clear HD
      by_cases hlt : j < len0
      · obtain ⟨l, hl⟩ := (HW.out.bytes j hlt).bytes (by have := HS.out j hlt; omega)
        obtain ⟨b, off, rfl, e0, e1, e2, e3, e4, e5, e6⟩ := HW.out.at HDU.out.below j hlt
        obtain ⟨⟨d', ⟨aj, lj, cj⟩, k', s', m', z', g'⟩, hG⟩ : ∃ q, Hid (z0 j = q) := ⟨_, rfl⟩
        rw [hG.out] at e0 e1 e2 e3 e4 e5 e6 hl
        dsimp only at e0 e1 e2 e3 e4 e5 e6 hl
        have HACT := Lib.hid (act_any HDU.out cj hl d' k' s' m' z' g')
        unfold ActQ at HACT
        clear hl
        go_wp2_with (go_at_call 11; refine HACT.out.mono ?_; rintro e w3 ⟨rfl, S3, g1, g2⟩; have HD3 := Lib.hid g1; clear g1 g2)
        go_roundw
        case rel => exact ⟨j + 1, _, S3, by omega, by go_num, HD3.out⟩
        case measure => simp [intOf]; omega
      · obtain rfl : j = len0 := by omega
        go_wp2_with (go_at_call 9; refine (awake_any _).mono ?_; rintro e w2 ⟨rfl, hb⟩; have HB := Lib.hid hb; clear hb)
        go_ret
        exact ⟨rfl, HDU.out.below.trans (HB.out.mono HDU.out.below.size)⟩

set_option maxRecDepth 100000 in
theorem lifted (os : Os) (started : os.Started) (H : Type) (enc : TypeId × Value → H) :
    ReturnsInHanded {} Try.checked os 3 .any (Rows.indexRunsSpec.pre6 enc Try.prog Try.f3 Rows.indexRunsRow.domain false) (Rows.indexRunsSpec.post enc Try.prog Try.f3 false true false false) := by
  refine returnsInHanded_of_change (C := Try.checked) own started (by kernel_rfl) Try.func3
    (ChangeSpec.witness6 (enc := enc) (C := Try.checked) false ⟨#[], #[.slice none 0 0], []⟩ 8 (by kernel_rfl) (by kernel_rfl) (by kernel_rfl) (by kernel_rfl)) ?_
  intro W base args ds gs before hval0 hW hcnd _
  have hval : ∀ (j : Nat) t v, Try.f3.params[j]? = some t → args[j]? = some v → Value.okWide Try.prog W .any base t v := hval0
  have hW' := hW
  obtain ⟨p, q, hA0, hV, rfl, hfz, hnd⟩ := hW
  have hA : DataW.TrodAll enc Try.prog W 0 (fun _ => true) true Try.f3.params.toList args.toList ds p := hA0
  rw [Try.params3] at hA hval
  obtain ⟨v0, vs0, d0, ds0, p0, q0, hargs, rfl, rfl, h0, r0⟩ := trodAll_cons hA
  obtain ⟨rfl, rfl, rfl⟩ := trodAll_nil r0
  obtain rfl : args = #[v0] := by cases args; simp_all
  obtain ⟨rfl, rfl⟩ := trodVars_none hV
  have k0 := h0
  have lt0 : ∀ x ∈ p0, x.block < W.heap.size := by obtain ⟨m, hm⟩ := k0; exact DataW.trod_lt m _ _ _ hm
  obtain ⟨a0, len0, cap0, rfl⟩ := okWide_slice Try.underlying22 (hval 0 22 v0 rfl rfl)
  obtain ⟨z0, w0⟩ := acts_open h0
  clear hA0 hval0
  refine (walk a0 len0 cap0 z0 W w0).mono fun e W' ⟨he, bel⟩ => ?_
  subst he
  exact ⟨_, rfl, _, _, _, [], _, [], hW', trodAll_mk1 (shut_bool Try.underlying4 _), (trodAll_cons_mk (Below.trod laidOut (by kernel_rfl) (of_decide_eq_true (by kernel_rfl)) k0 bel lt0) trodAll_mk0), rfl, bel.frame _, fun h => by cases h⟩

theorem over : Rows.indexRunsRow.holds Try.pinned (OpenSpec.ofChange Rows.indexRunsSpec) :=
  OpenClaim.holds_of_wide 3 Try.f3 rfl rfl rfl rfl rfl rfl rfl ⟨rfl, rfl, rfl, rfl, rfl⟩ rfl rfl rfl rfl rfl (by kernel_rfl) Try.func3 (by kernel_rfl)
    (of_decide_eq_true (by kernel_rfl)) (by unfold Func.isWrapper; first | (rw [if_pos (by decide +kernel)]; kernel_rfl) | (rw [if_neg (by decide +kernel)]; exact ⟨rfl, rfl⟩))
    (fun os started H enc _ => lifted os started H enc)

/-- The statement. -/
theorem proved : Rows.IndexRunsSaid := over
#print axioms proved
end Go.Proofs.Ytobnmdjpcmegiaa.indexRuns
