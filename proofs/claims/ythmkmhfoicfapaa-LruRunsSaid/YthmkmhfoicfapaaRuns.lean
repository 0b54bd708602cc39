/-
  Proved: 'matryoshkalaw10.LruRuns' returns true for every input (any room, any acts), and the argument reads afterwards as before: the statement LruRunsSaid as given. Conditions: none beyond the row's own.
-/
import Derived.Test.YthmkmhfoicfapaaRows
import Derived.Test.YthmkmhfoicfapaaRq
import Derived.WalkKit
import Derived.ProofKit
import Derived.OpenShut
import Derived.ShutString
import Derived.ChangeOld
import Derived.Below
namespace Go.Proofs.Ythmkmhfoicfapaa.lruRuns
open Go.ChangeShapes Go.WideShapes Go.ChangeAt Go.RowKit
open Go.ChangeMaps (open_string shut_string)
set_option linter.unusedVariables false

theorem own : ownKnob Try.prog.godebug = none := by kernel_rfl
theorem laidOut : laidOutB Try.prog = true := by kernel_rfl

set_option maxRecDepth 100000 in
set_option maxHeartbeats 4000000 in
theorem walk (a0 : Int) (a1 : Option Addr) (len1 cap1 : Nat) (z1 : Nat → AcA) (w : World) (w0 : (Lit.int .i64 a0).wf = true) (w1 : ActsIn w a1 len1 z1) :
    Calls Try.prog 3 #[.int .i64 a0, .slice a1 len1 cap1] w fun e w' => e = .returned (.bool true) ∧ Below w.heap.size w w' := by
  have HW := Lib.hid w1
  have HHV := Lib.hid (heavy_any cap1 w1 (Below.refl _ _))
  unfold HeavyQ at HHV
  clear w0 w1
  by_cases hok : 1 ≤ a0 ∧ a0 ≤ 1024
  · have HN1 := Lib.hid (fun w => new_ok a0 w hok.1 hok.2)
    have HN2 := Lib.hid (fun w => rNew_ok a0 w hok.1 hok.2)
    have HOK := Lib.hid hok
    unfold NewOk at HN1
    clear hok
    go_enter Try.func3, Try.ntmps3
    go_wp2_with (first
      | (go_at_call 10; refine HHV.out.mono ?_; rintro e w1 ⟨hx, hww⟩; obtain rfl := hww.symm; clear hww; rcases hx with rfl | ⟨rfl, hn, hs⟩)
      | (go_at_call 11; refine (awake_any _).mono ?_; rintro e w2 ⟨rfl, hb⟩; have HB := Lib.hid hb; clear hb)
      | (go_at_call 12; refine (HN1.out _).mono ?_; rintro e w2 ⟨p, S, rfl, g1⟩; have HX1 := Lib.hid g1; clear g1)
      | (go_at_call 14; refine (num_any 0 _).mono ?_; rintro e w' ⟨rfl, hww⟩; obtain rfl := hww.symm; clear hww)
      | (go_at_call 13; obtain ⟨R, hR⟩ := named w2.heap.size; refine (HN2.out w2).mono ?_; rw [hR.out]; rintro e w3 ⟨rfl, hww⟩; have hD := bo_new HX1.out HOK.out.1; rw [← hww, hR.out] at hD; have HD := Lib.hid hD; clear hww hR hD))
    · go_ret
      exact ⟨rfl, HB.out⟩
    · have HS := Lib.hid hs
      clear hs
      go_loopw [9] (fun i wr => ∃ (j : Nat) (C : Lru) (D : RC) (S' : Nat → Prop), j ≤ len1 ∧ i = .int .i64 j ∧ Hid (Tw w p R j C D S' wr)) (fun i _ => len1 - (intOf i).toNat)
      case atStart => exact ⟨0, _, _, _, Nat.zero_le _, rfl, ⟨HD.out.choose_spec, sim_new _, Nat.zero_le _, Nat.zero_le _⟩⟩
      case round =>
        obtain ⟨j, C, D, S', hj, rfl, HDU⟩ := hrel
        clear HD
        by_cases hlt : j < len1
        · obtain ⟨hba, hkr⟩ := HW.out.bytes j hlt
          have hnil := hba.nil
          obtain ⟨l, hl⟩ := hba.bytes (by have := HS.out j hlt; omega)
          have hs2 := HS.out j hlt
          obtain ⟨b, off, rfl, e0, e1, e2, e3, e4⟩ := HW.out.at HDU.out.bo.below j hlt
          obtain ⟨⟨d', k', f', ⟨aj, lj, cj⟩, dd'⟩, hG⟩ : ∃ q, Hid (z1 j = q) := ⟨_, rfl⟩
          rw [hG.out] at e0 e1 e2 e3 e4 hl hnil hs2 hkr
          dsimp only at e0 e1 e2 e3 e4 hl hnil hs2 hkr
          have HACT := Lib.hid (act_any HDU.out (by omega) cj hl hnil hs2 k' hkr f' dd' d')
          unfold ActQ at HACT
          clear hl hba hnil hs2 hkr
          go_wp2_with (go_at_call 15; refine HACT.out.mono ?_; rintro e w3 ⟨rfl, C3, D3, S3, g1, g2⟩; have HD3 := Lib.hid g1; clear g1 g2)
          go_roundw
          case rel => exact ⟨j + 1, C3, D3, S3, by omega, by go_num, HD3.out⟩
          case measure => simp [intOf]; omega
        · obtain rfl : j = len1 := by omega
          go_wp2_with (go_at_call 11; refine (awake_any _).mono ?_; rintro e w2 ⟨rfl, hb⟩; have HB := Lib.hid hb; clear hb)
          go_ret
          exact ⟨rfl, HDU.out.bo.below.trans (HB.out.mono HDU.out.bo.below.size)⟩
  · have hno : a0 < 1 ∨ 1024 < a0 := by omega
    have HN1 := Lib.hid (fun w => new_no a0 w hno)
    have HN2 := Lib.hid (fun w => rNew_no a0 w hno)
    clear hok hno
    go_enter Try.func3, Try.ntmps3
    go_wp2_with (first
      | (go_at_call 10; refine HHV.out.mono ?_; rintro e w1 ⟨hx, hww⟩; obtain rfl := hww.symm; clear hww; rcases hx with rfl | ⟨rfl, hn, hs⟩)
      | (go_at_call 11; refine (awake_any _).mono ?_; rintro e w2 ⟨rfl, hb⟩; have HB := Lib.hid hb; clear hb)
      | (go_at_call 12; refine (HN1.out _).mono ?_; rintro e w' ⟨rfl, hww⟩; obtain rfl := hww.symm; clear hww)
      | (go_at_call 14; refine (num_any 1 _).mono ?_; rintro e w' ⟨rfl, hww⟩; obtain rfl := hww.symm; clear hww)
      | (go_at_call 13; refine (HN2.out _).mono ?_; rintro e w' ⟨rfl, hww⟩; obtain rfl := hww.symm; clear hww))
    all_goals first
      | (go_ret; exact ⟨rfl, HB.out⟩)
      | skip
    go_loopw [9] (fun i wr => w = wr ∧ i = .int .i64 0) (fun _ _ => 0)
    case atStart => exact ⟨rfl, rfl⟩
    case round =>
      obtain ⟨rfl, rfl⟩ := hrel
      go_wp2_with (go_at_call 11; refine (awake_any _).mono ?_; rintro e w2 ⟨rfl, hb⟩; have HB := Lib.hid hb; clear hb)
      go_ret
      exact ⟨rfl, HB.out⟩

set_option maxRecDepth 100000 in
theorem lifted (os : Os) (started : os.Started) (H : Type) (enc : TypeId × Value → H) :
    ReturnsInHanded {} Try.checked os 3 .any (Rows.lruRunsSpec.pre6 enc Try.prog Try.f3 Rows.lruRunsRow.domain false) (Rows.lruRunsSpec.post enc Try.prog Try.f3 false true false false) := by
  refine returnsInHanded_of_change (C := Try.checked) own started (by kernel_rfl) Try.func3
    (ChangeSpec.witness6 (enc := enc) (C := Try.checked) false ⟨#[], #[.int .i64 0, .slice none 0 0], []⟩ 8 (by kernel_rfl) (by kernel_rfl) (by kernel_rfl) (by kernel_rfl)) ?_
  intro W base args ds gs before hval0 hW hcnd _
  have hval : ∀ (j : Nat) t v, Try.f3.params[j]? = some t → args[j]? = some v → Value.okWide Try.prog W .any base t v := hval0
  have hW' := hW
  obtain ⟨p, q, hA0, hV, rfl, hfz, hnd⟩ := hW
  have hA : DataW.TrodAll enc Try.prog W 0 (fun _ => true) true Try.f3.params.toList args.toList ds p := hA0
  rw [Try.params3] at hA hval
  obtain ⟨v0, vs0, d0, ds0, p0, q0, hargs, rfl, rfl, h0, r0⟩ := trodAll_cons hA
  obtain ⟨v1, vs1, d1, ds1, p1, q1, rfl, rfl, rfl, h1, r1⟩ := trodAll_cons r0
  obtain ⟨rfl, rfl, rfl⟩ := trodAll_nil r1
  obtain rfl : args = #[v0, v1] := by cases args; simp_all
  obtain ⟨rfl, rfl⟩ := trodVars_none hV
  have k0 := h0
  have lt0 : ∀ x ∈ p0, x.block < W.heap.size := by obtain ⟨m, hm⟩ := k0; exact DataW.trod_lt m _ _ _ hm
  obtain ⟨a0, rfl, _, _, w0⟩ := open_int Try.underlying3 (hval 0 3 v0 rfl rfl) h0
  have k1 := h1
  have lt1 : ∀ x ∈ p1, x.block < W.heap.size := by obtain ⟨m, hm⟩ := k1; exact DataW.trod_lt m _ _ _ hm
  obtain ⟨a1, len1, cap1, rfl⟩ := okWide_slice Try.underlying22 (hval 1 22 v1 rfl rfl)
  obtain ⟨z1, w1⟩ := acts_open h1
  clear hA0 hval0
  refine (walk a0 a1 len1 cap1 z1 W w0 w1).mono fun e W' ⟨he, bel⟩ => ?_
  subst he
  exact ⟨_, rfl, _, _, _, [], _, [], hW', trodAll_mk1 (shut_bool Try.underlying4 _), (trodAll_cons_mk (Below.trod laidOut (by kernel_rfl) (of_decide_eq_true (by kernel_rfl)) k0 bel lt0) (trodAll_cons_mk (Below.trod laidOut (by kernel_rfl) (of_decide_eq_true (by kernel_rfl)) k1 bel lt1) trodAll_mk0)), rfl, bel.frame _, fun h => by cases h⟩

theorem over : Rows.lruRunsRow.holds Try.pinned (OpenSpec.ofChange Rows.lruRunsSpec) :=
  OpenClaim.holds_of_wide 3 Try.f3 rfl rfl rfl rfl rfl rfl rfl ⟨rfl, rfl, rfl, rfl, rfl⟩ rfl rfl rfl rfl rfl (by kernel_rfl) Try.func3 (by kernel_rfl)
    (of_decide_eq_true (by kernel_rfl)) (by unfold Func.isWrapper; first | (rw [if_pos (by decide +kernel)]; kernel_rfl) | (rw [if_neg (by decide +kernel)]; exact ⟨rfl, rfl⟩))
    (fun os started H enc _ => lifted os started H enc)

/-- The statement. -/
theorem proved : Rows.LruRunsSaid := over
#print axioms proved
end Go.Proofs.Ythmkmhfoicfapaa.lruRuns
