/-
  Proved: 'matryoshkalaw3.LzCuts' returns true for every input, and each argument reads afterwards as before: the statement LzCutsSaid as given. Conditions: none beyond the row's own.
-/
import Derived.Test.YtlkpedknhjgdiaaRows
import Derived.Deep.RegionHeld3
import Derived.Test.YtlkpedknhjgdiaaS3
import Derived.WalkKit
import Derived.ProofKit
import Derived.OpenShut
import Derived.ShutString
import Derived.ChangeOld
import Derived.Below
namespace Go.Proofs.Ytlkpedknhjgdiaa.lzCuts
open Go.ChangeShapes Go.WideShapes Go.ChangeAt Go.RowKit
open Go.ChangeMaps (open_string shut_string)
set_option linter.unusedVariables false

theorem own : ownKnob Try.prog.godebug = none := by kernel_rfl
theorem laidOut : laidOutB Try.prog = true := by kernel_rfl

/-- A slice of integers that came in: nil, or a row of cells. -/
def IsRow (k : IntKind) (w : World) (a : Option Addr) (len cap : Nat) (zs : List Int) : Prop :=
  (a = none ∧ len = 0 ∧ cap = 0 ∧ zs = []) ∨
  ∃ x, a = some x ∧ len ≤ cap ∧ cap ≤ maxLen ∧ zs.length = cap ∧ (∀ i, i < zs.length → w.cell? (x.add i) = some (.int k (zs.getD i 0))) ∧ ∀ n ∈ zs, (Lit.int k n).wf = true

/-- What stands at the end: both read on, nothing that was there has turned. -/
def Ends (w0 : World) (b x y : Option Addr) (n k : Nat) (l l2 : List Int) (w : World) : Prop := Below w0.heap.size w0 w ∧ Bytes w b n l ∧ Bytes w x k l2 ∧ Bytes w y k l2
theorem Ends.later {w0 : World} {b x y : Option Addr} {n k : Nat} {l l2 : List Int} {w w' : World} (h : Ends w0 b x y n k l l2 w) (hb : Below w.heap.size w w') : Ends w0 b x y n k l l2 w' :=
  ⟨h.1.trans (hb.mono h.1.size), h.2.1.later hb, h.2.2.1.later hb, h.2.2.2.later hb⟩
theorem Ends.drew {w0 : World} {b x y : Option Addr} {n k : Nat} {l l2 : List Int} {w : World} (h : Ends w0 b x y n k l l2 w) : Ends w0 b x y n k l l2 w.drew := h.later (Below.refl _ _).drew
theorem Ends.all {w0 : World} {b x y : Option Addr} {n k : Nat} {l l2 : List Int} {w : World} {S : ByteArray} (hs : strOfNums l2 = S) {c0 c1 : Nat} (h : Ends w0 b x y n k l l2 w) :
    (convert 22 9 (.slice x k c0)).run Try.prog w = .ok (.string S) w ∧ (convert 22 9 (.slice y k c1)).run Try.prog w = .ok (.string S) w ∧ Ends w0 b x y n k l l2 w := by
  subst hs
  exact ⟨conv_str h.2.2.1 c0, conv_str h.2.2.2 c1, h⟩
theorem Ends.awakeC {w0 : World} {b x y : Option Addr} {n k : Nat} {l l2 : List Int} {w : World} {q1 q2 : Prop} (h : q1 ∧ q2 ∧ Ends w0 b x y n k l l2 w) : Calls Try.prog 11 #[] w fun e w' => e = .returned (.bool true) ∧ Ends w0 b x y n k l l2 w' :=
  (awake_any w).mono fun _ _ ⟨he, hb⟩ => ⟨he, h.2.2.later hb⟩
theorem Ends.belowC {w0 : World} {b x y : Option Addr} {n k : Nat} {l l2 : List Int} {w : World} {q1 q2 : Prop} (h : q1 ∧ q2 ∧ Ends w0 b x y n k l l2 w) : Below w0.heap.size w0 w := h.2.2.1

set_option maxHeartbeats 1600000 in
theorem walk (a0 : Option Addr) (len0 cap0 : Nat) (z0 : List Int) (a1 : Int) (w : World) (w0 : IsRow .u8 w a0 len0 cap0 z0) (w1 : (Lit.int .i64 a1).wf = true) :
    Calls Try.prog 7 #[.slice a0 len0 cap0, .int .i64 a1] w fun e w' => e = .returned (.bool true) ∧ Below w.heap.size w w' := by
  by_cases hbig : 3000 < len0
  · clear w0 w1
    go_enter Try.func7, Try.ntmps7
    go_wp2_with (go_at_call 11; refine (awake_any _).mono ?_; rintro e w1 ⟨rfl, hb⟩; have HB := Lib.hid hb; clear hb)
    go_ret
    exact ⟨rfl, HB.out⟩
  obtain ⟨l, hB, hcp, hnl⟩ := arg_of w0 (by omega)
  obtain ⟨P, N, hP⟩ := pack_gets l len0 hB.1 hB.small.2 (by omega)
  have HPK := Lib.hid (fun w h => hP.pack a0 cap0 w h hcp hnl)
  have HPL := Lib.hid hP.size
  have hbd := hP.bound
  have hpos := hP.pos
  have hat := bounds_i64 w1
  have hnz : ((N : Int) == 0) = false := by simp; omega
  obtain ⟨A, hA, hA2⟩ : ∃ A : Nat, IntKind.u64.wrap a1 = (A : Int) ∧ A < 18446744073709551616 := ⟨(IntKind.u64.wrap a1).toNat, by rw [IntKind.wrap_u64]; omega, by rw [IntKind.wrap_u64]; omega⟩
  obtain ⟨K, hK, hK2⟩ : ∃ K : Nat, ((A : Int) % (N : Int)) = (K : Int) ∧ K < N := ⟨A % N, (Int.natCast_emod A N).symm, Nat.mod_lt _ hpos⟩
  obtain ⟨y, err, hye, hcall⟩ := hP.cut (by omega) K (by omega)
  have HB := Lib.hid hB
  have HC := Lib.hid hcall
  rcases hye with ⟨rfl, hpre⟩ | ⟨rfl, rfl⟩
  · obtain ⟨M, HM⟩ := named y.length
    have hM : M ≤ len0 := by rw [← HM.out, ← hB.1]; exact hpre.length_le
    obtain ⟨x0, hsl0, hx0, _⟩ := slice_front hB hcp hnl M hM
    have hy : l.take M = y := by rw [← HM.out]; exact (List.prefix_iff_eq_take.1 hpre).symm
    rw [hy] at hx0
    have HX0 := Lib.hid hx0
    obtain ⟨SY, HSY⟩ := named (strOfNums y)
    clear hB hcp hnl w0 w1 hP hcall hat hpre hx0 hy
    go_enter Try.func7, Try.ntmps7
    go_wp2_with (first
      | (go_at_call 14; go_in)
      | (go_at_call 15; ((with_reducible refine (HPK.out _ HB.out).mono ?_); rintro e w1 hp; obtain ⟨x1, c1, rfl, hx, hn, hb⟩ := hp.named HPL.out; obtain ⟨x2, hsl, hx2, hn2⟩ := slice_front hx hn.2 hn.1 K (by omega); have HU := Lib.hid (HC.out x2 c1 _ hx2 hn2 (by omega)); have HG1 := Lib.hid hb; clear hp hx hx2 hn hn2 hb))
      | (go_at_call 12; ((with_reducible refine HU.out.mono ?_); rintro e w2 hp; obtain ⟨x3, c3, rfl, hx3, _, hb⟩ := hp.named HM.out; have HE2 : Hid (Ends w a0 x0 x3 len0 M l y w2) := ⟨HG1.out.trans (hb.mono HG1.out.size), HB.out.later (HG1.out.trans (hb.mono HG1.out.size)), HX0.out.later (HG1.out.trans (hb.mono HG1.out.size)), hx3⟩; clear hp hx3 hb)))
    have hE := HE2.out
    clear HU HB HC HX0 HE2 HPK HPL
    go_region_held3 (fun w' => (convert 22 9 (.slice x0 M cap0)).run Try.prog w' = .ok (.string SY) w' ∧ (convert 22 9 (.slice x3 M c3)).run Try.prog w' = .ok (.string SY) w' ∧ Ends w a0 x0 x3 len0 M l y w') (first | exact Ends.all HSY.out (by assumption) | exact Ends.all HSY.out (Ends.drew (by assumption)))
      (first
        | (go_at_call 14; refine (num_any _ _).mono ?_; rintro e w' ⟨rfl, rfl⟩)
        | (go_at_call 11; refine (Ends.awakeC (by assumption)).mono ?_; rintro e w' ⟨rfl, hb⟩))
    go_wp2
    go_ret
    exact ⟨rfl, Ends.belowC (by assumption)⟩
  · clear hB hcp hnl w0 w1 hP hcall hat
    go_enter Try.func7, Try.ntmps7
    go_wp2_with (first
      | (go_at_call 14; go_in)
      | (go_at_call 15; ((with_reducible refine (HPK.out _ HB.out).mono ?_); rintro e w1 hp; obtain ⟨x1, c1, rfl, hx, hn, hb⟩ := hp.named HPL.out; obtain ⟨x2, hsl, hx2, hn2⟩ := slice_front hx hn.2 hn.1 K (by omega); have HU := Lib.hid (HC.out x2 c1 _ hx2 hn2 (by omega)); have HG1 := Lib.hid hb; clear hp hx hx2 hn hn2 hb))
      | (go_at_call 12; ((with_reducible refine HU.out.mono ?_); rintro e w2 hp; obtain ⟨x3, c3, rfl, _, _, hb⟩ := hp.named (n := 0) rfl; have HG2 := Lib.hid (HG1.out.trans (hb.mono HG1.out.size)); clear hp hb))
      | (go_at_call 11; refine (awake_any _).mono ?_; rintro e w3 ⟨rfl, hb⟩; have HZ := Lib.hid (HG2.out.trans (hb.mono HG2.out.size)); clear hb))
    go_ret
    exact ⟨rfl, HZ.out⟩

set_option maxRecDepth 100000 in
theorem lifted (os : Os) (started : os.Started) (H : Type) (enc : TypeId × Value → H) :
    ReturnsInHanded {} Try.checked os 7 .any (Rows.lzCutsSpec.pre6 enc Try.prog Try.f7 Rows.lzCutsRow.domain false) (Rows.lzCutsSpec.post enc Try.prog Try.f7 false true false false) := by
  refine returnsInHanded_of_change (C := Try.checked) own started (by kernel_rfl) Try.func7
    (ChangeSpec.witness6 (enc := enc) (C := Try.checked) false ⟨#[], #[.slice none 0 0, .int .i64 0], []⟩ 8 (by kernel_rfl) (by kernel_rfl) (by kernel_rfl) (by kernel_rfl)) ?_
  intro W base args ds gs before hval0 hW hcnd _
  have hval : ∀ (j : Nat) t v, Try.f7.params[j]? = some t → args[j]? = some v → Value.okWide Try.prog W .any base t v := hval0
  have hW' := hW
  obtain ⟨p, q, hA0, hV, rfl, hfz, hnd⟩ := hW
  have hA : DataW.TrodAll enc Try.prog W 0 (fun _ => true) true Try.f7.params.toList args.toList ds p := hA0
  rw [Try.params7] at hA hval
  obtain ⟨v0, vs0, d0, ds0, p0, q0, hargs, rfl, rfl, h0, r0⟩ := trodAll_cons hA
  obtain ⟨v1, vs1, d1, ds1, p1, q1, rfl, rfl, rfl, h1, r1⟩ := trodAll_cons r0
  obtain ⟨rfl, rfl, rfl⟩ := trodAll_nil r1
  obtain rfl : args = #[v0, v1] := by cases args; simp_all
  obtain ⟨rfl, rfl⟩ := trodVars_none hV
  obtain ⟨a0, len0, cap0, rfl⟩ := okWide_slice Try.underlying22 (hval 0 22 v0 rfl rfl)
  have k0 := h0
  have lt0 : ∀ x ∈ p0, x.block < W.heap.size := by obtain ⟨m, hm⟩ := k0; exact DataW.trod_lt m _ _ _ hm
  obtain ⟨z0, w0⟩ : ∃ zs, IsRow .u8 W a0 len0 cap0 zs := by
    obtain ⟨fuel, hf⟩ := h0
    rcases open_ints Try.underlying22 Try.underlying5 (by kernel_rfl) hf with ⟨hcs, _⟩ | ⟨x, l, c, zs, hcs, _, hl, hm, hz, _, hcell, hwz⟩
    · simp [Value.cells] at hcs
      obtain ⟨rfl, rfl, rfl⟩ := hcs
      exact ⟨[], .inl ⟨rfl, rfl, rfl, rfl⟩⟩
    · simp [Value.cells] at hcs
      obtain ⟨rfl, rfl, rfl⟩ := hcs
      exact ⟨zs, .inr ⟨_, rfl, hl, hm, by simpa using hz, hcell, hwz⟩⟩
  obtain ⟨a1, rfl, rfl, rfl, w1⟩ := open_int Try.underlying3 (hval 1 3 v1 rfl rfl) h1
  clear hA0 hval0
  refine (walk a0 len0 cap0 z0 a1 W w0 w1).mono fun e W' ⟨he, bel⟩ => ?_
  subst he
  exact ⟨_, rfl, _, _, _, [], _, [], hW', trodAll_mk1 (shut_bool Try.underlying4 _), (trodAll_cons_mk (Below.trod laidOut (by kernel_rfl) (of_decide_eq_true (by kernel_rfl)) k0 bel lt0) (trodAll_cons_mk (shut_int Try.underlying3 w1) trodAll_mk0)), rfl, bel.frame _, fun h => by cases h⟩

theorem over : Rows.lzCutsRow.holds Try.pinned (OpenSpec.ofChange Rows.lzCutsSpec) :=
  OpenClaim.holds_of_wide 7 Try.f7 rfl rfl rfl rfl rfl rfl rfl ⟨rfl, rfl, rfl, rfl, rfl⟩ rfl rfl rfl rfl rfl (by kernel_rfl) Try.func7 (by kernel_rfl)
    (of_decide_eq_true (by kernel_rfl)) (by unfold Func.isWrapper; first | (rw [if_pos (by decide +kernel)]; kernel_rfl) | (rw [if_neg (by decide +kernel)]; exact ⟨rfl, rfl⟩))
    (fun os started H enc _ => lifted os started H enc)

/-- The statement. -/
theorem proved : Rows.LzCutsSaid := over
#print axioms proved
end Go.Proofs.Ytlkpedknhjgdiaa.lzCuts
