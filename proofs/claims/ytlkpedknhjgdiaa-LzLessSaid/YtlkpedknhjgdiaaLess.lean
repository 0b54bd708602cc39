/-
  Proved: 'matryoshkalaw3.LzLess' returns true for every input, and each argument reads afterwards as before: the statement LzLessSaid as given. Conditions: none beyond the row's own.
-/
import Derived.Test.YtlkpedknhjgdiaaRows
import Derived.Test.YtlkpedknhjgdiaaS3
import Derived.WalkKit
import Derived.ProofKit
import Derived.OpenShut
import Derived.ShutString
import Derived.ChangeOld
import Derived.Below
namespace Go.Proofs.Ytlkpedknhjgdiaa.lzLess
open Go.ChangeShapes Go.WideShapes Go.ChangeAt Go.RowKit
open Go.ChangeMaps (open_string shut_string)
set_option linter.unusedVariables false

theorem own : ownKnob Try.prog.godebug = none := by kernel_rfl
theorem laidOut : laidOutB Try.prog = true := by kernel_rfl

/-- A slice of integers that came in: nil, or a row of cells. -/
def IsRow (k : IntKind) (w : World) (a : Option Addr) (len cap : Nat) (zs : List Int) : Prop :=
  (a = none ∧ len = 0 ∧ cap = 0 ∧ zs = []) ∨
  ∃ x, a = some x ∧ len ≤ cap ∧ cap ≤ maxLen ∧ zs.length = cap ∧ (∀ i, i < zs.length → w.cell? (x.add i) = some (.int k (zs.getD i 0))) ∧ ∀ n ∈ zs, (Lit.int k n).wf = true

set_option maxHeartbeats 1600000 in
theorem walk (a0 : Option Addr) (len0 cap0 : Nat) (z0 : List Int) (w : World) (w0 : IsRow .u8 w a0 len0 cap0 z0) :
    Calls Try.prog 5 #[.slice a0 len0 cap0] w fun e w' => e = .returned (.bool true) ∧ Below w.heap.size w w' := by
  by_cases h0 : len0 = 0
  · subst h0
    clear w0
    go_enter Try.func5, Try.ntmps5
    go_wp2_with (go_at_call 11; refine (awake_any _).mono ?_; rintro e w1 ⟨rfl, hb⟩; have HB := Lib.hid hb; clear hb)
    go_ret
    exact ⟨rfl, HB.out⟩
  have hne : ((len0 : Int) == 0) = false := by simp; omega
  by_cases hbig : 5000 < len0
  · clear w0
    go_enter Try.func5, Try.ntmps5
    go_wp2_with (go_at_call 11; refine (awake_any _).mono ?_; rintro e w1 ⟨rfl, hb⟩; have HB := Lib.hid hb; clear hb)
    go_ret
    exact ⟨rfl, HB.out⟩
  obtain ⟨l, hB, hcp, hnl⟩ := arg_of w0 (by omega)
  obtain ⟨P, N, hP⟩ := pack_gets l len0 hB.1 hB.small.2 (by omega)
  have HPK := Lib.hid (fun w h => hP.pack a0 cap0 w h hcp hnl)
  have HPL := Lib.hid hP.size
  obtain ⟨m, hm, hm2⟩ : ∃ m : Nat, (len0 : Int) - 1 = (m : Int) ∧ m < len0 := ⟨len0 - 1, by omega, by omega⟩
  obtain ⟨k, hk, hk2, hk3⟩ : ∃ k : Nat, (len0 : Int) + 5 = (k : Int) ∧ len0 ≤ k ∧ k ≤ 30000 := ⟨len0 + 5, by omega, by omega, by omega⟩
  have HU1 := Lib.hid (hP.less hB.1 m (by omega) hm2)
  have HU2 := Lib.hid (hP.unpack hB.1 k hk3 (by omega) hk2)
  have HB := Lib.hid hB
  have HL := Lib.hid hB.1
  clear hB hcp hnl w0 hP
  go_enter Try.func5, Try.ntmps5
  go_wp2_with (first
    | (go_at_call 14; go_in)
    | (go_at_call 15; ((with_reducible refine (HPK.out _ HB.out).mono ?_); rintro e w1 hp; obtain ⟨x1, c1, rfl, hx, hn, hb⟩ := hp.named HPL.out; have HU := Lib.hid (HU1.out x1 c1 _ hx hn); have HG1 := Lib.hid hb; clear hp hx hn hb))
    | (go_at_call 12; ((with_reducible refine HU.out.mono ?_); rintro e w2 hp; obtain ⟨x2, c2, rfl, _, _, hb⟩ := hp.named (n := 0) rfl; have HG2 := Lib.hid (HG1.out.trans (hb.mono HG1.out.size)); clear hp hb))
    | (go_at_call 15; ((with_reducible refine (HPK.out _ (HB.out.later HG2.out)).mono ?_); rintro e w3 hp; obtain ⟨x3, c3, rfl, hx, hn, hb⟩ := hp.named HPL.out; have HV := Lib.hid (HU2.out x3 c3 _ hx hn); have HG3 := Lib.hid (HG2.out.trans (hb.mono HG2.out.size)); clear hp hx hn hb))
    | (go_at_call 12; ((with_reducible refine HV.out.mono ?_); rintro e w4 hp; obtain ⟨x4, c4, rfl, hx4, _, hb⟩ := hp.named HL.out; have HG4 := Lib.hid (HG3.out.trans (hb.mono HG3.out.size)); have hcv1 := conv_str hx4 c4; have hcv2 := conv_str (HB.out.later HG4.out) cap0; clear hp hx4 hb))
    | (go_at_call 11; refine (awake_any _).mono ?_; rintro e w5 ⟨rfl, hb⟩; have HZ := Lib.hid (HG4.out.trans (hb.mono HG4.out.size)); clear hb))
  go_ret
  exact ⟨rfl, HZ.out⟩

set_option maxRecDepth 100000 in
theorem lifted (os : Os) (started : os.Started) (H : Type) (enc : TypeId × Value → H) :
    ReturnsInHanded {} Try.checked os 5 .any (Rows.lzLessSpec.pre6 enc Try.prog Try.f5 Rows.lzLessRow.domain false) (Rows.lzLessSpec.post enc Try.prog Try.f5 false true false false) := by
  refine returnsInHanded_of_change (C := Try.checked) own started (by kernel_rfl) Try.func5
    (ChangeSpec.witness6 (enc := enc) (C := Try.checked) false ⟨#[], #[.slice none 0 0], []⟩ 8 (by kernel_rfl) (by kernel_rfl) (by kernel_rfl) (by kernel_rfl)) ?_
  intro W base args ds gs before hval0 hW hcnd _
  have hval : ∀ (j : Nat) t v, Try.f5.params[j]? = some t → args[j]? = some v → Value.okWide Try.prog W .any base t v := hval0
  have hW' := hW
  obtain ⟨p, q, hA0, hV, rfl, hfz, hnd⟩ := hW
  have hA : DataW.TrodAll enc Try.prog W 0 (fun _ => true) true Try.f5.params.toList args.toList ds p := hA0
  rw [Try.params5] at hA hval
  obtain ⟨v0, vs0, d0, ds0, p0, q0, hargs, rfl, rfl, h0, r0⟩ := trodAll_cons hA
  obtain ⟨rfl, rfl, rfl⟩ := trodAll_nil r0
  obtain rfl : args = #[v0] := by cases args; simp_all
  obtain ⟨rfl, rfl⟩ := trodVars_none hV
  obtain ⟨a0, len0, cap0, rfl⟩ := okWide_slice Try.underlying22 (hval 0 22 v0 rfl rfl)
  have k0 := h0
  have lt0 : ∀ x ∈ p0, x.block < W.heap.size := by obtain ⟨m, hm⟩ := k0; exact DataW.trod_lt m _ _ _ hm
  obtain ⟨z0, w0⟩ : ∃ zs, IsRow .u8 W a0 len0 cap0 zs := by
    obtain ⟨fuel, hf⟩ := h0
    rcases open_ints Try.underlying22 Try.underlying5 (by kernel_rfl) hf with ⟨hcs, _⟩ | ⟨x, l, c, zs, hcs, _, hl, hm, hz, _, hcell, hwz⟩
    · simp [Value.cells] at hcs
      obtain ⟨rfl, rfl, rfl⟩ := hcs
      exact ⟨[], .inl ⟨rfl, rfl, rfl, rfl⟩⟩
    · simp [Value.cells] at hcs
      obtain ⟨rfl, rfl, rfl⟩ := hcs
      exact ⟨zs, .inr ⟨_, rfl, hl, hm, by simpa using hz, hcell, hwz⟩⟩
  clear hA0 hval0
  refine (walk a0 len0 cap0 z0 W w0).mono fun e W' ⟨he, bel⟩ => ?_
  subst he
  exact ⟨_, rfl, _, _, _, [], _, [], hW', trodAll_mk1 (shut_bool Try.underlying4 _), (trodAll_cons_mk (Below.trod laidOut (by kernel_rfl) (of_decide_eq_true (by kernel_rfl)) k0 bel lt0) trodAll_mk0), rfl, bel.frame _, fun h => by cases h⟩

theorem over : Rows.lzLessRow.holds Try.pinned (OpenSpec.ofChange Rows.lzLessSpec) :=
  OpenClaim.holds_of_wide 5 Try.f5 rfl rfl rfl rfl rfl rfl rfl ⟨rfl, rfl, rfl, rfl, rfl⟩ rfl rfl rfl rfl rfl (by kernel_rfl) Try.func5 (by kernel_rfl)
    (of_decide_eq_true (by kernel_rfl)) (by unfold Func.isWrapper; first | (rw [if_pos (by decide +kernel)]; kernel_rfl) | (rw [if_neg (by decide +kernel)]; exact ⟨rfl, rfl⟩))
    (fun os started H enc _ => lifted os started H enc)

/-- The statement. -/
theorem proved : Rows.LzLessSaid := over
#print axioms proved
end Go.Proofs.Ytlkpedknhjgdiaa.lzLess
