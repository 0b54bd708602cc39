/-
  Proved: 'matryoshkalaw4.SpanSets' returns true for every input, and each argument reads afterwards as before: the statement SpanSetsSaid as given. Conditions: none beyond the row's own.
-/
import Derived.Test.YtdnkldcmefcmbaaRows
import Derived.Test.YtdnkldcmefcmbaaW4
import Derived.Test.YtdnkldcmefcmbaaU4
import Derived.Deep.RegionHeld3
import Derived.WalkKit
import Derived.ProofKit
import Derived.OpenShut
import Derived.ShutString
import Derived.ChangeOld
import Derived.Below
namespace Go.Proofs.Ytdnkldcmefcmbaa.spanSets
open Go.ChangeShapes Go.WideShapes Go.ChangeAt Go.RowKit
open Go.ChangeMaps (open_string shut_string)
set_option linter.unusedVariables false

theorem own : ownKnob Try.prog.godebug = none := by kernel_rfl
theorem laidOut : laidOutB Try.prog = true := by kernel_rfl

/-- What is held while the calls are made: the list and its copy read on, the span lies in its block, nothing that was there has turned. -/
def Sets (w0 : World) (a xw : Option Addr) (len B : Nat) (l : List Sp) (f t : Int) (w : World) : Prop := Below w0.heap.size w0 w ∧ Spans w a len l ∧ Spans w xw len l ∧ w.cell? ⟨B, 0, none⟩ = some (.int .i64 f) ∧ w.cell? ⟨B, 1, none⟩ = some (.int .i64 t)
theorem Sets.later {w0 w w' : World} {a xw : Option Addr} {len B : Nat} {l : List Sp} {f t : Int} (h : Sets w0 a xw len B l f t w) (hb : Below w.heap.size w w') : Sets w0 a xw len B l f t w' := by
  obtain ⟨h1, h2, h3, h4, h5⟩ := h
  exact ⟨h1.trans (hb.mono h1.size), h2.later hb, h3.later hb, (hb.cell (block_lt_of_cell h4)).trans h4, (hb.cell (block_lt_of_cell h5)).trans h5⟩
theorem Sets.drew {w0 w : World} {a xw : Option Addr} {len B : Nat} {l : List Sp} {f t : Int} (h : Sets w0 a xw len B l f t w) : Sets w0 a xw len B l f t w.drew := h.later (Below.refl _ _).drew
theorem Sets.all {w0 w : World} {a xw : Option Addr} {len B : Nat} {l : List Sp} {f t : Int} (h : Sets w0 a xw len B l f t w) : w.cell? ⟨B, 0, none⟩ = some (.int .i64 f) ∧ w.cell? ⟨B, 1, none⟩ = some (.int .i64 t) ∧ Sets w0 a xw len B l f t w := ⟨h.2.2.2.1, h.2.2.2.2, h⟩
theorem Sets.val {w0 w : World} {a xw : Option Addr} {len B : Nat} {l : List Sp} {f t : Int} {q1 q2 : Prop} {v : Value} {fn : FuncId} {args : Array Value} (hc : ∀ w, Spans w a len l → Calls Try.prog fn args w fun e w' => e = .returned v ∧ Below w.heap.size w w') (h : q1 ∧ q2 ∧ Sets w0 a xw len B l f t w) :
    Calls Try.prog fn args w fun e w' => e = .returned v ∧ Sets w0 a xw len B l f t w' := (hc w h.2.2.2.1).mono fun _ _ ⟨he, hb⟩ => ⟨he, h.2.2.later hb⟩
theorem Sets.made {w0 w : World} {a xw : Option Addr} {len B K : Nat} {l L : List Sp} {f t : Int} {q1 q2 : Prop} {fn : FuncId} {args : Array Value} (hK : L.length = K) (hc : ∀ w, Spans w a len l → Calls Try.prog fn args w (SpPost w L)) (h : q1 ∧ q2 ∧ Sets w0 a xw len B l f t w) :
    Calls Try.prog fn args w fun e w' => ∃ x c, e = .returned (.slice x K c) ∧ Spans w' x K L ∧ Below w.heap.size w w' ∧ Sets w0 a xw len B l f t w' := (hc w h.2.2.2.1).mono fun _ _ hp => by
  obtain ⟨x, c, rfl, hx, _, hb⟩ := hp.named hK
  exact ⟨x, c, rfl, hx, hb, h.2.2.later hb⟩
theorem Sets.same {w0 w : World} {a xw x y : Option Addr} {len B K c d : Nat} {l L : List Sp} {f t : Int} {q1 q2 : Prop} (hx : Spans w x K L) (hy : Spans w y K L) (h : q1 ∧ q2 ∧ Sets w0 a xw len B l f t w) :
    Calls Try.prog 14 #[.slice x K c, .slice y K d] w fun e w' => e = .returned (.bool true) ∧ Sets w0 a xw len B l f t w' :=
  (refSpans_any x y K K c d L L w hx hy).mono fun _ _ ⟨he, hb⟩ => ⟨by rw [he, decide_eq_true rfl], h.2.2.later hb⟩
theorem Sets.args {w0 w : World} {a xw : Option Addr} {len B c d : Nat} {l : List Sp} {f t : Int} {q1 q2 : Prop} (h : q1 ∧ q2 ∧ Sets w0 a xw len B l f t w) :
    Calls Try.prog 14 #[.slice a len c, .slice xw len d] w fun e w' => e = .returned (.bool true) ∧ Below w0.heap.size w0 w' :=
  (refSpans_any a xw len len c d l l w h.2.2.2.1 h.2.2.2.2.1).mono fun _ _ ⟨he, hb⟩ => ⟨by rw [he, decide_eq_true rfl], h.2.2.1.trans (hb.mono h.2.2.1.size)⟩
theorem Sets.get {w0 w : World} {a xw : Option Addr} {len B : Nat} {l : List Sp} {f t : Int} {q1 q2 : Prop} (h : q1 ∧ q2 ∧ Sets w0 a xw len B l f t w) : Sets w0 a xw len B l f t w := h.2.2

set_option maxRecDepth 20000 in
set_option maxHeartbeats 4000000 in
theorem walk (a0 : Option Addr) (len0 cap0 : Nat) (z0 : List Sp) (f1 t1 : Int) (a2 : Int) (w : World) (w0 : IsSpans w a0 len0 cap0 z0) (w1 : (Lit.int .i64 f1).wf = true ∧ (Lit.int .i64 t1).wf = true) (w2 : (Lit.int .i64 a2).wf = true) :
    Calls Try.prog 3 #[.slice a0 len0 cap0, .agg #[.int .i64 f1, .int .i64 t1], .int .i64 a2] w fun e w' => e = .returned (.bool true) ∧ Below w.heap.size w w' := by
  by_cases hbig : 500 < len0
  · clear w0 w1 w2
    go_enter Try.func3, Try.ntmps3
    go_wp2_with (go_at_call 11; refine (awake_any _).mono ?_; rintro e w1 ⟨rfl, hb⟩; have HB := Lib.hid (((Below.refl w.heap.size w).alloc (Nat.le_refl _) _).trans (hb.mono (by simp))); clear hb)
    go_ret
    exact ⟨rfl, HB.out⟩
  obtain ⟨l, hB, hcp, hnl, hfw⟩ := spans_arg w0 (by omega)
  have hfit := fit_of hB.1 hfw
  have hf1 := i64_wf w1.1
  have hf2 := i64_wf w1.2
  have hn := i64_wf w2
  obtain ⟨R, HRN⟩ := named (decide (Rt (-1) l))
  have HR1 := Lib.hid (fun w h => spanRight_any a0 len0 cap0 l w h hcp hnl (by omega) hfit R HRN.out)
  have HR2 := Lib.hid (fun w h => refRight_any a0 len0 cap0 l w h (by omega) R HRN.out)
  have HA1 := Lib.hid (fun w h => spanAdd_any a0 len0 cap0 l f1 t1 w h hcp hnl (by omega) hfit hf1 hf2)
  have HA2 := Lib.hid (fun w h => refAdd_any a0 len0 cap0 l f1 t1 w h hnl (by omega))
  have HS1 := Lib.hid (fun w h => spanSub_any a0 len0 cap0 l f1 t1 w h hcp hnl (by omega) hfit hf1 hf2)
  have HS2 := Lib.hid (fun w h => refSub_any a0 len0 cap0 l f1 t1 w h hnl (by omega))
  have HH1 := Lib.hid (fun w h => spanHas_any a0 len0 cap0 l a2 w h hcp hnl (by omega) hfit hn)
  have HH2 := Lib.hid (fun w h => refHas_any a0 len0 cap0 l a2 w h hnl (by omega))
  have HC1 := Lib.hid (fun w h => spanCount_any a0 len0 cap0 l w h hcp hnl (by omega) hfit)
  have HC2 := Lib.hid (fun w h => refCount_any a0 len0 cap0 l w h hnl (by omega))
  obtain ⟨LA, HLA⟩ := named (addL l (f1, t1))
  obtain ⟨LS, HLS⟩ := named (subL l (f1, t1))
  obtain ⟨H, HH⟩ := named (hasB (norm l) a2)
  obtain ⟨C, HC⟩ := named (sumL (norm l))
  rw [HLA.out] at HA1 HA2
  rw [HLS.out] at HS1 HS2
  rw [HH.out] at HH1 HH2
  rw [HC.out] at HC1 HC2
  obtain ⟨KA, HKA⟩ := named LA.length
  obtain ⟨KS, HKS⟩ := named LS.length
  have HB := Lib.hid hB
  have HN := Lib.hid hnl
  have HG0 : Hid (Below w.heap.size w (w.alloc (.cells #[.int .i64 f1, .int .i64 t1] 24))) := (Below.refl _ _).alloc (Nat.le_refl _) _
  clear hB hcp hnl hfw hfit hf1 hf2 hn w0 w1 w2
  go_enter Try.func3, Try.ntmps3
  go_wp2_with (at_builtin; refine append_g_copyAt sp_rowed (w.heap.size + 1) (by simp) rfl (.tmp 13) (.tmp 14) rfl (w.heap.size + 1) rfl a0 len0 cap0 l rfl HN.out (HB.out.later HG0.out) (by omega) (by simp) ?_; intro xw cw w3 g1 g2; have hE : Sets w a0 xw len0 w.heap.size l f1 t1 w3 := ⟨HG0.out.trans (g2.mono (by simp)), HB.out.later (HG0.out.trans (g2.mono (by simp))), (g1.reads sp_rowed).1, (g2.cell (by simp)).trans (by simp), (g2.cell (by simp)).trans (by simp)⟩; clear g1 g2)
  go_region_held3 (fun w' => w'.cell? ⟨w.heap.size, 0, none⟩ = some (.int .i64 f1) ∧ w'.cell? ⟨w.heap.size, 1, none⟩ = some (.int .i64 t1) ∧ Sets w a0 xw len0 w.heap.size l f1 t1 w') (first | exact Sets.all (by assumption) | exact Sets.all (Sets.drew (by assumption)))
    (first
      | (go_at_call 12; refine (Sets.val HR1.out (by assumption)).mono ?_; rintro e w' ⟨rfl, hb⟩)
      | (go_at_call 13; refine (Sets.val HR2.out (by assumption)).mono ?_; rintro e w' ⟨rfl, hb⟩)
      | (go_at_call 19; refine (Sets.val HH1.out (by assumption)).mono ?_; rintro e w' ⟨rfl, hb⟩)
      | (go_at_call 20; refine (Sets.val HH2.out (by assumption)).mono ?_; rintro e w' ⟨rfl, hb⟩)
      | (go_at_call 21; refine (Sets.val HC1.out (by assumption)).mono ?_; rintro e w' ⟨rfl, hb⟩)
      | (go_at_call 22; refine (Sets.val HC2.out (by assumption)).mono ?_; rintro e w' ⟨rfl, hb⟩)
      | (go_at_call 15; refine (Sets.made HKA.out HA1.out (by assumption)).mono ?_; rintro e w' ⟨x4, c4, rfl, hx4, _, hb⟩; have HX4 := Lib.hid hx4; clear hx4)
      | (go_at_call 16; refine (Sets.made HKA.out HA2.out (by assumption)).mono ?_; rintro e w' ⟨x5, c5, rfl, hx5, hbb, hb⟩; have HX45 := Lib.hid (HX4.out.later hbb); have HX5 := Lib.hid hx5; clear hx5 hbb)
      | (go_at_call 17; refine (Sets.made HKS.out HS1.out (by assumption)).mono ?_; rintro e w' ⟨x6, c6, rfl, hx6, _, hb⟩; have HX6 := Lib.hid hx6; clear hx6)
      | (go_at_call 18; refine (Sets.made HKS.out HS2.out (by assumption)).mono ?_; rintro e w' ⟨x7, c7, rfl, hx7, hbb, hb⟩; have HX67 := Lib.hid (HX6.out.later hbb); have HX7 := Lib.hid hx7; clear hx7 hbb)
      | (go_at_call 14; refine (Sets.same HX67.out HX7.out (by assumption)).mono ?_; rintro e w' ⟨rfl, hb⟩)
      | (go_at_call 14; refine (Sets.same HX45.out HX5.out (by assumption)).mono ?_; rintro e w' ⟨rfl, hb⟩))
  go_wp2_with (first
    | (go_at_call 14; refine (Sets.args (by assumption)).mono ?_; rintro e w8 ⟨rfl, hb8⟩)
    | (go_at_call 11; refine (awake_any _).mono ?_; rintro e w9 ⟨rfl, hb9⟩; have HZ := Lib.hid (hb8.trans (hb9.mono hb8.size)); clear hb9))
  go_ret
  exact ⟨rfl, HZ.out⟩

set_option maxRecDepth 100000 in
theorem lifted (os : Os) (started : os.Started) (H : Type) (enc : TypeId × Value → H) :
    ReturnsInHanded {} Try.checked os 3 .any (Rows.spanSetsSpec.pre6 enc Try.prog Try.f3 Rows.spanSetsRow.domain false) (Rows.spanSetsSpec.post enc Try.prog Try.f3 false true false false) := by
  refine returnsInHanded_of_change (C := Try.checked) own started (by kernel_rfl) Try.func3
    (ChangeSpec.witness6 (enc := enc) (C := Try.checked) false ⟨#[], #[.slice none 0 0, .agg #[.int .i64 0, .int .i64 0], .int .i64 0], []⟩ 8 (by kernel_rfl) (by kernel_rfl) (by kernel_rfl) (by kernel_rfl)) ?_
  intro W base args ds gs before hval0 hW hcnd _
  have hval : ∀ (j : Nat) t v, Try.f3.params[j]? = some t → args[j]? = some v → Value.okWide Try.prog W .any base t v := hval0
  have hW' := hW
  obtain ⟨p, q, hA0, hV, rfl, hfz, hnd⟩ := hW
  have hA : DataW.TrodAll enc Try.prog W 0 (fun _ => true) true Try.f3.params.toList args.toList ds p := hA0
  rw [Try.params3] at hA hval
  obtain ⟨v0, vs0, d0, ds0, p0, q0, hargs, rfl, rfl, h0, r0⟩ := trodAll_cons hA
  obtain ⟨v1, vs1, d1, ds1, p1, q1, rfl, rfl, rfl, h1, r1⟩ := trodAll_cons r0
  obtain ⟨v2, vs2, d2, ds2, p2, q2, rfl, rfl, rfl, h2, r2⟩ := trodAll_cons r1
  obtain ⟨rfl, rfl, rfl⟩ := trodAll_nil r2
  obtain rfl : args = #[v0, v1, v2] := by cases args; simp_all
  obtain ⟨rfl, rfl⟩ := trodVars_none hV
  have k0 := h0
  have lt0 : ∀ x ∈ p0, x.block < W.heap.size := by obtain ⟨m, hm⟩ := k0; exact DataW.trod_lt m _ _ _ hm
  obtain ⟨a0, len0, cap0, rfl⟩ := okWide_slice Try.underlying22 (hval 0 22 v0 rfl rfl)
  obtain ⟨z0, w0⟩ := spans_open h0
  have k1 := h1
  have lt1 : ∀ x ∈ p1, x.block < W.heap.size := by obtain ⟨m, hm⟩ := k1; exact DataW.trod_lt m _ _ _ hm
  obtain ⟨f1, t1, rfl, w1⟩ := span_open (hval 1 24 v1 rfl rfl) h1
  have k2 := h2
  have lt2 : ∀ x ∈ p2, x.block < W.heap.size := by obtain ⟨m, hm⟩ := k2; exact DataW.trod_lt m _ _ _ hm
  obtain ⟨a2, rfl, _, _, w2⟩ := open_int Try.underlying3 (hval 2 3 v2 rfl rfl) h2
  clear hA0 hval0
  refine (walk a0 len0 cap0 z0 f1 t1 a2 W w0 w1 w2).mono fun e W' ⟨he, bel⟩ => ?_
  subst he
  exact ⟨_, rfl, _, _, _, [], _, [], hW', trodAll_mk1 (shut_bool Try.underlying4 _), (trodAll_cons_mk (Below.trod laidOut (by kernel_rfl) (of_decide_eq_true (by kernel_rfl)) k0 bel lt0) (trodAll_cons_mk (Below.trod laidOut (by kernel_rfl) (of_decide_eq_true (by kernel_rfl)) k1 bel lt1) (trodAll_cons_mk (Below.trod laidOut (by kernel_rfl) (of_decide_eq_true (by kernel_rfl)) k2 bel lt2) trodAll_mk0))), rfl, bel.frame _, fun h => by cases h⟩

theorem over : Rows.spanSetsRow.holds Try.pinned (OpenSpec.ofChange Rows.spanSetsSpec) :=
  OpenClaim.holds_of_wide 3 Try.f3 rfl rfl rfl rfl rfl rfl rfl ⟨rfl, rfl, rfl, rfl, rfl⟩ rfl rfl rfl rfl rfl (by kernel_rfl) Try.func3 (by kernel_rfl)
    (of_decide_eq_true (by kernel_rfl)) (by unfold Func.isWrapper; first | (rw [if_pos (by decide +kernel)]; kernel_rfl) | (rw [if_neg (by decide +kernel)]; exact ⟨rfl, rfl⟩))
    (fun os started H enc _ => lifted os started H enc)

/-- The statement. -/
theorem proved : Rows.SpanSetsSaid := over
#print axioms proved
end Go.Proofs.Ytdnkldcmefcmbaa.spanSets
