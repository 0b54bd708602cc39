/-
  Proved: 'matryoshkalaw3.LzRuns' returns true for every input, and each argument reads afterwards as before: the statement LzRunsSaid as given. Conditions: none beyond the row's own.
-/
import Derived.Test.YtlkpedknhjgdiaaRows
import Derived.Test.YtlkpedknhjgdiaaS3
import Derived.WalkKit
import Derived.ProofKit
import Derived.OpenShut
import Derived.ShutString
import Derived.ChangeOld
import Derived.Below
namespace Go.Proofs.Ytlkpedknhjgdiaa.lzRuns
open Go.ChangeShapes Go.WideShapes Go.ChangeAt Go.RowKit
open Go.ChangeMaps (open_string shut_string)
set_option linter.unusedVariables false      -- a walk need not use every 'w<i>' (that an integer argument fits its kind)

theorem own : ownKnob Try.prog.godebug = none := by kernel_rfl

theorem set_rep (c : Int) (j k : Nat) (h : j < k) : (List.replicate j c ++ noughts (k - j)).set j c = List.replicate (j + 1) c ++ noughts (k - (j + 1)) := by
  obtain ⟨r, hr⟩ : ∃ r, k - j = r + 1 := ⟨k - j - 1, by omega⟩
  rw [hr, show k - (j + 1) = r by omega]
  unfold noughts
  rw [List.replicate_succ, List.set_append, if_neg (by simp)]
  simp
  rw [show List.replicate (j + 1) c = List.replicate j c ++ [c] from List.replicate_succ']
  simp

set_option maxHeartbeats 1600000 in
theorem walk (a0 : Int) (a1 : Int) (w0 : (Lit.int .u8 a0).wf = true) (w1 : (Lit.int .u16 a1).wf = true) (w : World) :
    Calls Try.prog 6 #[.int .u8 a0, .int .u16 a1] w fun e w' => e = .returned (.bool true) ∧ Below w.heap.size w w' := by
  have hc := byte_of_wf w0
  have hn := bounds_u16 w1
  obtain ⟨k, hk, hk1, hk2⟩ : ∃ k : Nat, 1001 + a1 % 9000 = (k : Int) ∧ 1000 < k ∧ k ≤ 10001 := ⟨(1001 + a1 % 9000).toNat, by omega, by omega, by omega⟩
  obtain ⟨P, N, hP, hrun⟩ := pack_runs a0 k hc hk1 (by omega)
  have HPK := Lib.hid hP.pack
  have HPL := Lib.hid hP.size
  have hL : (List.replicate k a0).length = k := List.length_replicate
  have HU1 := Lib.hid (hP.unpack hL k (by omega) (by omega) (Nat.le_refl _))
  have HL := Lib.hid hL
  clear w0 w1 hP hL
  go_enter Try.func6, Try.ntmps6
  go_wp2_with (first
    | (at_make; refine make_bytes rfl (.tmp 15) (.tmp 15) rfl w.heap.size k rfl rfl (by omega) (Nat.le_refl _) ?_; intro w1 h1 h2; have HO := Lib.hid h1; have HG := Lib.hid h2; clear h1 h2))
  go_loopw [7] (fun i wr => ∃ j : Nat, j ≤ k ∧ i = .int .i64 j ∧ Hid (Own wr w.heap.size (.slice (some ⟨w.heap.size, 0, none⟩) k k) k (List.replicate j a0 ++ noughts (k - j))) ∧ Hid (Below w.heap.size w wr)) (fun i _ => k - (intOf i).toNat)
  case atStart => exact ⟨0, Nat.zero_le _, rfl, by rw [Nat.sub_zero]; exact HO.out, HG.out⟩
  case round =>
    obtain ⟨j, hj, rfl, HOj, HGj⟩ := hrel
    clear HO HG
    by_cases hlt : j < k
    · obtain ⟨u, hcell⟩ : ∃ u, wr.cell? ⟨w.heap.size, j, none⟩ = some u := ⟨_, HOj.out.cell j hlt⟩
      have hfree := HOj.out.free j
      have HS := Lib.hid (HOj.out.put j a0 hc)
      have HGS := Lib.hid (HGj.out.setCell (p := ⟨w.heap.size, j, none⟩) (Nat.le_refl _) (.int .u8 a0))
      go_wp2
      go_roundw
      case rel => exact ⟨j + 1, by omega, by go_num, by have e := HS.out; rw [set_rep a0 j k hlt] at e; exact e, HGS.out⟩
      case measure => simp [intOf]; omega
    · obtain rfl : j = k := by omega
      have hO := HOj.out
      rw [Nat.sub_self, show noughts 0 = [] from rfl, List.append_nil] at hO
      have HB := Lib.hid hO.bytes.1
      go_wp2_with (first
        | (go_at_call 14; go_in)
        | (go_at_call 15; ((refine (HPK.out _ _ _ HB.out (Nat.le_refl _) (fun e => by cases e)).mono ?_); rintro e w1 hp; obtain ⟨x1, c1, rfl, hx, hn, hb⟩ := hp.named HPL.out; have HU := Lib.hid (HU1.out x1 c1 _ hx hn); have HB1 := Lib.hid (HB.out.later hb); have HG1 := Lib.hid (HGj.out.trans (hb.mono HGj.out.size)); clear hp hx hn hb))
        | (go_at_call 12; ((with_reducible refine HU.out.mono ?_); rintro e w2 hp; obtain ⟨x2, c2, rfl, hx, _, hb⟩ := hp.named HL.out; have HG2 := Lib.hid (HG1.out.trans (hb.mono HG1.out.size)); have hcv1 := conv_str hx c2; have hcv2 := conv_str (HB1.out.later hb) j; clear hp hx hb))
        | (go_at_call 11; refine (awake_any _).mono ?_; rintro e w5 ⟨rfl, hb⟩; have HZ := Lib.hid (HG2.out.trans (hb.mono HG2.out.size)); clear hb))
      go_ret
      exact ⟨rfl, HZ.out⟩

set_option maxRecDepth 100000 in
theorem lifted (os : Os) (started : os.Started) (H : Type) (enc : TypeId × Value → H) :
    ReturnsInHanded {} Try.checked os 6 .any (Rows.lzRunsSpec.pre6 enc Try.prog Try.f6 Rows.lzRunsRow.domain false) (Rows.lzRunsSpec.post enc Try.prog Try.f6 false true false false) := by
  refine returnsInHanded_of_change (C := Try.checked) own started (by kernel_rfl) Try.func6
    (ChangeSpec.witness6 (enc := enc) (C := Try.checked) false ⟨#[], #[.int .u8 0, .int .u16 0], []⟩ 8 (by kernel_rfl) (by kernel_rfl) (by kernel_rfl) (by kernel_rfl)) ?_
  intro W base args ds gs before hval0 hW hcnd _
  have hval : ∀ (j : Nat) t v, Try.f6.params[j]? = some t → args[j]? = some v → Value.okWide Try.prog W .any base t v := hval0
  have hW' := hW
  obtain ⟨p, q, hA0, hV, rfl, hfz, hnd⟩ := hW
  have hA : DataW.TrodAll enc Try.prog W 0 (fun _ => true) true Try.f6.params.toList args.toList ds p := hA0
  rw [Try.params6] at hA hval
  obtain ⟨v0, vs0, d0, ds0, p0, q0, hargs, rfl, rfl, h0, r0⟩ := trodAll_cons hA
  obtain ⟨v1, vs1, d1, ds1, p1, q1, rfl, rfl, rfl, h1, r1⟩ := trodAll_cons r0
  obtain ⟨rfl, rfl, rfl⟩ := trodAll_nil r1
  obtain rfl : args = #[v0, v1] := by cases args; simp_all
  obtain ⟨rfl, rfl⟩ := trodVars_none hV
  obtain ⟨a0, rfl, rfl, rfl, w0⟩ := open_int Try.underlying5 (hval 0 5 v0 rfl rfl) h0
  obtain ⟨a1, rfl, rfl, rfl, w1⟩ := open_int Try.underlying33 (hval 1 33 v1 rfl rfl) h1
  clear hA0 hval0
  simp only [List.append_nil] at hW'
  refine (walk a0 a1 w0 w1 W).mono fun e W' ⟨he, hg⟩ => ?_
  subst he
  exact ⟨_, rfl, _, _, _, [], [], [], hW', trodAll_mk1 (shut_bool Try.underlying4 _), (trodAll_cons_mk (shut_int Try.underlying5 w0) (trodAll_cons_mk (shut_int Try.underlying33 w1) trodAll_mk0)), rfl, hg.frame _, fun h => by cases h⟩

theorem over : Rows.lzRunsRow.holds Try.pinned (OpenSpec.ofChange Rows.lzRunsSpec) :=
  OpenClaim.holds_of_wide 6 Try.f6 rfl rfl rfl rfl rfl rfl rfl ⟨rfl, rfl, rfl, rfl, rfl⟩ rfl rfl rfl rfl rfl (by kernel_rfl) Try.func6 (by kernel_rfl)
    (of_decide_eq_true (by kernel_rfl)) (by unfold Func.isWrapper; first | (rw [if_pos (by decide +kernel)]; kernel_rfl) | (rw [if_neg (by decide +kernel)]; exact ⟨rfl, rfl⟩))
    (fun os started H enc _ => lifted os started H enc)

/-- The statement. -/
theorem proved : Rows.LzRunsSaid := over
#print axioms proved
end Go.Proofs.Ytlkpedknhjgdiaa.lzRuns
