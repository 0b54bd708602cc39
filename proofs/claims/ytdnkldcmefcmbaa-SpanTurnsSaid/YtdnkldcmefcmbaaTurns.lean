/-
  Proved: 'matryoshkalaw4.SpanTurns' returns true for every input, and each argument reads afterwards as before: the statement SpanTurnsSaid as given. Conditions: none beyond the row's own.
-/
import Derived.Test.YtdnkldcmefcmbaaRows
import Derived.Test.YtdnkldcmefcmbaaM4
import Derived.Deep.RegionHeld3
import Derived.WalkKit
import Derived.ProofKit
import Derived.OpenShut
import Derived.ShutString
import Derived.ChangeOld
import Derived.Below
namespace Go.Proofs.Ytdnkldcmefcmbaa.spanTurns
open Go.ChangeShapes Go.WideShapes Go.ChangeAt Go.RowKit
open Go.ChangeMaps (open_string shut_string)
set_option linter.unusedVariables false

theorem own : ownKnob Try.prog.godebug = none := by kernel_rfl
theorem laidOut : laidOutB Try.prog = true := by kernel_rfl

/-- A slice of integers that came in: nil, or a row of cells. -/
def IsRow (k : IntKind) (w : World) (a : Option Addr) (len cap : Nat) (zs : List Int) : Prop :=
  (a = none ∧ len = 0 ∧ cap = 0 ∧ zs = []) ∨
  ∃ x, a = some x ∧ len ≤ cap ∧ cap ≤ maxLen ∧ zs.length = cap ∧ (∀ i, i < zs.length → w.cell? (x.add i) = some (.int k (zs.getD i 0))) ∧ ∀ n ∈ zs, (Lit.int k n).wf = true

theorem same_any {x y : Option Addr} {K c d : Nat} {L : List Sp} {w : World} (hx : Spans w x K L) (hy : Spans w y K L) : Calls Try.prog 14 #[.slice x K c, .slice y K d] w fun e w' => e = .returned (.bool true) ∧ Below w.heap.size w w' :=
  (refSpans_any x y K K c d L L w hx hy).mono fun _ _ ⟨he, hb⟩ => ⟨by rw [he, decide_eq_true rfl], hb⟩
theorem addL_fit (l : List Sp) (s : Sp) : SpFit (addL l s) := (addL_right l s).fit (by omega)
theorem subL_fit (l : List Sp) (s : Sp) : SpFit (subL l s) := (subL_right l s).fit (by omega)
theorem subL_len (l : List Sp) (s : Sp) : (subL l s).length ≤ 2 * l.length := by
  unfold subL
  have h1 := norm_len l
  have h2 := subs_len s (norm l)
  split <;> omega

set_option maxRecDepth 20000 in
set_option maxHeartbeats 4000000 in
theorem walk (a0 : Option Addr) (len0 cap0 : Nat) (z0 : List Int) (f1 t1 : Int) (f2 t2 : Int) (w : World) (w0 : IsRow .u16 w a0 len0 cap0 z0) (w1 : (Lit.int .i64 f1).wf = true ∧ (Lit.int .i64 t1).wf = true) (w2 : (Lit.int .i64 f2).wf = true ∧ (Lit.int .i64 t2).wf = true) :
    Calls Try.prog 6 #[.slice a0 len0 cap0, .agg #[.int .i64 f1, .int .i64 t1], .agg #[.int .i64 f2, .int .i64 t2]] w fun e w' => e = .returned (.bool true) ∧ Below w.heap.size w w' := by
  obtain ⟨g, hgw, hgc, _, _⟩ := ints_arg w0
  have hlm : len0 ≤ 9223372036854775807 := by
    rcases w0 with ⟨_, h, _, _⟩ | ⟨_, _, h1, h2, _⟩
    · omega
    · unfold maxLen at h2
      omega
  have hbx : Below w.heap.size w ((w.alloc (.cells #[.int .i64 f1, .int .i64 t1] 24)).alloc (.cells #[.int .i64 f2, .int .i64 t2] 24)) := ((Below.refl _ _).alloc (Nat.le_refl _) _).alloc (by simp) _
  have hgc2 : len0 = 0 ∨ ∃ b off, a0 = some ⟨b, off, none⟩ ∧ b < ((w.alloc (.cells #[.int .i64 f1, .int .i64 t1] 24)).alloc (.cells #[.int .i64 f2, .int .i64 t2] 24)).heap.size ∧ ∀ i, i < len0 → ((w.alloc (.cells #[.int .i64 f1, .int .i64 t1] 24)).alloc (.cells #[.int .i64 f2, .int .i64 t2] 24)).cell? ⟨b, off + i, none⟩ = some (.int .u16 (g i)) := by
    rcases hgc with h | ⟨b, off, h1, h2, h3⟩
    · exact Or.inl h
    · exact Or.inr ⟨b, off, h1, Nat.lt_of_lt_of_le h2 hbx.size, fun i hi => (hbx.cell (p := ⟨b, off + i, none⟩) h2).trans (h3 i hi)⟩
  obtain ⟨K0, hK0, hM⟩ := made_any a0 len0 cap0 g _ hgw hlm hgc2
  have HM := Lib.hid hM
  have hml := madeTo_len g K0
  have hmf := (madeTo_right g K0).fit (by omega)
  obtain ⟨ML, HML⟩ := named (madeTo g K0)
  rw [HML.out] at HM hml hmf
  obtain ⟨n, HN⟩ := named ML.length
  rw [HN.out] at hml
  have hn : n ≤ 30 := by omega
  have i1 := i64_wf w1.1
  have i2 := i64_wf w1.2
  have i3 := i64_wf w2.1
  have i4 := i64_wf w2.2
  have hA := addL_len ML (f1, t1)
  have hT := addL_len ML (f2, t2)
  have hS := subL_len ML (f1, t1)
  have fA := addL_fit ML (f1, t1)
  have fT := addL_fit ML (f2, t2)
  have fS := subL_fit ML (f1, t1)
  have eX := sub_add ML (f1, t1)
  have eY := add_sub ML (f1, t1)
  have eU := add_add ML (f1, t1) (f2, t2)
  obtain ⟨LA, HLA⟩ := named (addL ML (f1, t1))
  obtain ⟨LT, HLT⟩ := named (addL ML (f2, t2))
  obtain ⟨LS, HLS⟩ := named (subL ML (f1, t1))
  rw [HLA.out] at hA fA eX eY eU
  rw [HLT.out] at hT fT eU
  rw [HLS.out] at hS fS eX eY
  obtain ⟨LU, HLU⟩ := named (addL LA (f2, t2))
  rw [HLU.out] at eU
  rw [HN.out] at hA hT hS
  obtain ⟨KA, HKA⟩ := named LA.length
  obtain ⟨KT, HKT⟩ := named LT.length
  obtain ⟨KS, HKS⟩ := named LS.length
  obtain ⟨KU, HKU⟩ := named LU.length
  rw [HKA.out] at hA
  rw [HKT.out] at hT
  rw [HKS.out] at hS
  -- what each call answers, whatever the world
  have CA := Lib.hid (fun x c w (h : Spans w x n ML) (hn' : (x = none → c = 0) ∧ n ≤ c) => spanAdd_any x n c ML f1 t1 w h hn'.2 hn'.1 (by omega) hmf i1 i2)
  have CT := Lib.hid (fun x c w (h : Spans w x n ML) (hn' : (x = none → c = 0) ∧ n ≤ c) => spanAdd_any x n c ML f2 t2 w h hn'.2 hn'.1 (by omega) hmf i3 i4)
  have CS := Lib.hid (fun x c w (h : Spans w x n ML) (hn' : (x = none → c = 0) ∧ n ≤ c) => spanSub_any x n c ML f1 t1 w h hn'.2 hn'.1 (by omega) hmf i1 i2)
  have CX := Lib.hid (fun x c w (h : Spans w x KA LA) (hn' : (x = none → c = 0) ∧ KA ≤ c) => spanSub_any x KA c LA f1 t1 w h hn'.2 hn'.1 (by omega) fA i1 i2)
  have CY := Lib.hid (fun x c w (h : Spans w x KS LS) (hn' : (x = none → c = 0) ∧ KS ≤ c) => spanAdd_any x KS c LS f1 t1 w h hn'.2 hn'.1 (by omega) fS i1 i2)
  have CU := Lib.hid (fun x c w (h : Spans w x KA LA) (hn' : (x = none → c = 0) ∧ KA ≤ c) => spanAdd_any x KA c LA f2 t2 w h hn'.2 hn'.1 (by omega) fA i3 i4)
  have CV := Lib.hid (fun x c w (h : Spans w x KT LT) (hn' : (x = none → c = 0) ∧ KT ≤ c) => spanAdd_any x KT c LT f1 t1 w h hn'.2 hn'.1 (by omega) fT i1 i2)
  rw [HLA.out] at CA
  rw [HLT.out] at CT
  rw [HLS.out] at CS
  rw [eX] at CX
  rw [eY] at CY
  rw [HLU.out] at CU
  rw [← eU] at CV
  obtain ⟨cs, HCS⟩ := named [((⟨w.heap.size, 0, none⟩ : Addr), Value.int .i64 f1), (⟨w.heap.size, 1, none⟩, .int .i64 t1), (⟨w.heap.size + 1, 0, none⟩, .int .i64 f2), (⟨w.heap.size + 1, 1, none⟩, .int .i64 t2)]
  have M1 : Hid (((⟨w.heap.size, 0, none⟩ : Addr), Value.int .i64 f1) ∈ cs) := by rw [Hid, ← HCS.out]; simp
  have M2 : Hid (((⟨w.heap.size, 1, none⟩ : Addr), Value.int .i64 t1) ∈ cs) := by rw [Hid, ← HCS.out]; simp
  have M3 : Hid (((⟨w.heap.size + 1, 0, none⟩ : Addr), Value.int .i64 f2) ∈ cs) := by rw [Hid, ← HCS.out]; simp
  have M4 : Hid (((⟨w.heap.size + 1, 1, none⟩ : Addr), Value.int .i64 t2) ∈ cs) := by rw [Hid, ← HCS.out]; simp
  have H0 : Hid (Held w cs [] ((w.alloc (.cells #[.int .i64 f1, .int .i64 t1] 24)).alloc (.cells #[.int .i64 f2, .int .i64 t2] 24))) := by
    rw [Hid, ← HCS.out]
    refine ⟨hbx, fun p hp => ?_, fun q hq => by cases hq⟩
    simp only [List.mem_cons, List.not_mem_nil, or_false] at hp
    rcases hp with rfl | rfl | rfl | rfl <;> simp [go_sem]
  clear w0 w1 w2 hgw hgc hlm hgc2 hM hbx hmf i1 i2 i3 i4 hA hT hS fA fT fS eX eY eU hml HCS
  go_enter Try.func6, Try.ntmps6
  go_wp2_with (go_at_call 27; refine (Held.made HN.out HM.out H0.out).mono ?_; rintro e w1 ⟨x1, c1, rfl, hx1, hn1, _, hh⟩; have HN1 := Lib.hid hn1; have hE1 : Held w cs [(x1, ML)] w1 := hh.more hx1; clear hx1 hn1 hh)
  go_region_held3 (fun w' => w'.cell? ⟨w.heap.size, 0, none⟩ = some (.int .i64 f1) ∧ w'.cell? ⟨w.heap.size, 1, none⟩ = some (.int .i64 t1) ∧ Held w cs [(x1, ML)] w')
    (first | exact Held.two (ls := [(x1, ML)]) (by assumption) M1.out M2.out | exact Held.two (ls := [(x1, ML)]) (Held.drew (by assumption)) M1.out M2.out)
    (first
      | (go_at_call 17; (with_reducible refine (Held.made HKS.out (CX.out _ _ _ HX2.out HN2.out) (Held.of2 (by assumption))).mono ?_); rintro e w' ⟨x3, c3, rfl, hx3, hn3, hbb, hb⟩; have HX3 := Lib.hid hx3; have HN3 := Lib.hid hn3; clear hx3 hn3 hbb)
      | (go_at_call 15; (with_reducible refine (Held.made HKA.out (CA.out _ _ _ (Held.spans (Held.of2 (by assumption)) (by simp) HN.out) HN1.out) (Held.of2 (by assumption))).mono ?_); rintro e w' ⟨x2, c2, rfl, hx2, hn2, hbb, hb⟩; have HX2 := Lib.hid hx2; have HN2 := Lib.hid hn2; clear hx2 hn2 hbb))
  have hE2 : Held w cs [(x3, LS), (x1, ML)] _ := Held.more (Held.of2 (by assumption)) HX3.out
  clear HX3
  clear HX2 hE1
  go_wp2
  go_region_held3 (fun w' => w'.cell? ⟨w.heap.size, 0, none⟩ = some (.int .i64 f1) ∧ w'.cell? ⟨w.heap.size, 1, none⟩ = some (.int .i64 t1) ∧ Held w cs [(x3, LS), (x1, ML)] w')
    (first | exact Held.two (ls := [(x3, LS), (x1, ML)]) (by assumption) M1.out M2.out | exact Held.two (ls := [(x3, LS), (x1, ML)]) (Held.drew (by assumption)) M1.out M2.out)
    (first
      | (go_at_call 15; (with_reducible refine (Held.made HKA.out (CY.out _ _ _ HX4.out HN4.out) (Held.of2 (by assumption))).mono ?_); rintro e w' ⟨x5, c5, rfl, hx5, hn5, hbb, hb⟩; have HX5 := Lib.hid hx5; have HN5 := Lib.hid hn5; clear hx5 hn5 hbb)
      | (go_at_call 17; (with_reducible refine (Held.made HKS.out (CS.out _ _ _ (Held.spans (Held.of2 (by assumption)) (by simp) HN.out) HN1.out) (Held.of2 (by assumption))).mono ?_); rintro e w' ⟨x4, c4, rfl, hx4, hn4, hbb, hb⟩; have HX4 := Lib.hid hx4; have HN4 := Lib.hid hn4; clear hx4 hn4 hbb))
  have hE3 : Held w cs [(x5, LA), (x3, LS), (x1, ML)] _ := Held.more (Held.of2 (by assumption)) HX5.out
  clear HX5
  clear HX4 hE2
  go_wp2
  go_region_held3 (fun w' => w'.cell? ⟨w.heap.size, 0, none⟩ = some (.int .i64 f1) ∧ w'.cell? ⟨w.heap.size, 1, none⟩ = some (.int .i64 t1) ∧ w'.cell? ⟨w.heap.size + 1, 0, none⟩ = some (.int .i64 f2) ∧ w'.cell? ⟨w.heap.size + 1, 1, none⟩ = some (.int .i64 t2) ∧ Held w cs [(x5, LA), (x3, LS), (x1, ML)] w')
    (first | exact Held.four (ls := [(x5, LA), (x3, LS), (x1, ML)]) (by assumption) M1.out M2.out M3.out M4.out | exact Held.four (ls := [(x5, LA), (x3, LS), (x1, ML)]) (Held.drew (by assumption)) M1.out M2.out M3.out M4.out)
    (first
      | (go_at_call 15; (with_reducible refine (Held.made HKU.out (CV.out _ _ _ HX8.out HN8.out) (Held.of4 (by assumption))).mono ?_); rintro e w' ⟨x9, c9, rfl, hx9, hn9, hbb, hb⟩; have HX9 := Lib.hid hx9; have HN9 := Lib.hid hn9; have HX79 := Lib.hid (HX78.out.later hbb); clear hx9 hn9 hbb)
      | (go_at_call 15; (with_reducible refine (Held.made HKT.out (CT.out _ _ _ (Held.spans (Held.of4 (by assumption)) (by simp) HN.out) HN1.out) (Held.of4 (by assumption))).mono ?_); rintro e w' ⟨x8, c8, rfl, hx8, hn8, hbb, hb⟩; have HX8 := Lib.hid hx8; have HN8 := Lib.hid hn8; have HX78 := Lib.hid (HX7.out.later hbb); clear hx8 hn8 hbb)
      | (go_at_call 15; (with_reducible refine (Held.made HKU.out (CU.out _ _ _ HX6.out HN6.out) (Held.of4 (by assumption))).mono ?_); rintro e w' ⟨x7, c7, rfl, hx7, hn7, hbb, hb⟩; have HX7 := Lib.hid hx7; have HN7 := Lib.hid hn7; clear hx7 hn7 hbb)
      | (go_at_call 15; (with_reducible refine (Held.made HKA.out (CA.out _ _ _ (Held.spans (Held.of4 (by assumption)) (by simp) HN.out) HN1.out) (Held.of4 (by assumption))).mono ?_); rintro e w' ⟨x6, c6, rfl, hx6, hn6, hbb, hb⟩; have HX6 := Lib.hid hx6; have HN6 := Lib.hid hn6; clear hx6 hn6 hbb))
  have hE4 : Held w cs [(x9, LU), (x7, LU), (x5, LA), (x3, LS), (x1, ML)] _ := Held.more (Held.more (Held.of4 (by assumption)) HX79.out) HX9.out
  clear HX9 HX8 HX7 HX78 HX79 HX6 hE3
  obtain ⟨d1, d2, _⟩ := Held.two hE4 M1.out M2.out
  go_wp2_with (first
    | (go_at_call 17; (with_reducible refine (Held.made HKS.out (CS.out _ _ _ (Held.spans hE4 (by simp) HN.out) HN1.out) hE4).mono ?_); rintro e w10 ⟨x10, c10, rfl, hx, _, _, hb⟩; have hE5 := hb.more hx; obtain ⟨d3, d4, _⟩ := Held.two hE5 M1.out M2.out; clear hx hb)
    | (go_at_call 14; (with_reducible refine (Held.val (same_any (Held.spans hE5 (by simp) HKS.out) (Held.spans (x := x10) hE5 (by simp) HKS.out)) hE5).mono ?_); rintro e w11 ⟨rfl, hE6⟩; obtain ⟨d5, d6, _⟩ := Held.two hE6 M1.out M2.out)
    | (go_at_call 15; (with_reducible refine (Held.made HKA.out (CA.out _ _ _ (Held.spans hE6 (by simp) HN.out) HN1.out) hE6).mono ?_); rintro e w12 ⟨x12, c12, rfl, hx, _, _, hb⟩; have hE7 := hb.more hx; clear hx hb)
    | (go_at_call 14; (with_reducible refine (Held.val (same_any (Held.spans hE7 (by simp) HKA.out) (Held.spans (x := x12) hE7 (by simp) HKA.out)) hE7).mono ?_); rintro e w13 ⟨rfl, hE8⟩)
    | (go_at_call 14; (with_reducible refine (Held.val (same_any (Held.spans (x := x7) hE8 (by simp) HKU.out) (Held.spans (x := x9) hE8 (by simp) HKU.out)) hE8).mono ?_); rintro e w14 ⟨rfl, hE9⟩)
    | (go_at_call 11; refine (awake_any _).mono ?_; rintro e w15 ⟨rfl, hb⟩; have HZ := Lib.hid (hE9.1.trans (hb.mono hE9.1.size)); clear hb))
  go_ret
  exact ⟨rfl, HZ.out⟩

set_option maxRecDepth 100000 in
theorem lifted (os : Os) (started : os.Started) (H : Type) (enc : TypeId × Value → H) :
    ReturnsInHanded {} Try.checked os 6 .any (Rows.spanTurnsSpec.pre6 enc Try.prog Try.f6 Rows.spanTurnsRow.domain false) (Rows.spanTurnsSpec.post enc Try.prog Try.f6 false true false false) := by
  refine returnsInHanded_of_change (C := Try.checked) own started (by kernel_rfl) Try.func6
    (ChangeSpec.witness6 (enc := enc) (C := Try.checked) false ⟨#[], #[.slice none 0 0, .agg #[.int .i64 0, .int .i64 0], .agg #[.int .i64 0, .int .i64 0]], []⟩ 8 (by kernel_rfl) (by kernel_rfl) (by kernel_rfl) (by kernel_rfl)) ?_
  intro W base args ds gs before hval0 hW hcnd _
  have hval : ∀ (j : Nat) t v, Try.f6.params[j]? = some t → args[j]? = some v → Value.okWide Try.prog W .any base t v := hval0
  have hW' := hW
  obtain ⟨p, q, hA0, hV, rfl, hfz, hnd⟩ := hW
  have hA : DataW.TrodAll enc Try.prog W 0 (fun _ => true) true Try.f6.params.toList args.toList ds p := hA0
  rw [Try.params6] at hA hval
  obtain ⟨v0, vs0, d0, ds0, p0, q0, hargs, rfl, rfl, h0, r0⟩ := trodAll_cons hA
  obtain ⟨v1, vs1, d1, ds1, p1, q1, rfl, rfl, rfl, h1, r1⟩ := trodAll_cons r0
  obtain ⟨v2, vs2, d2, ds2, p2, q2, rfl, rfl, rfl, h2, r2⟩ := trodAll_cons r1
  obtain ⟨rfl, rfl, rfl⟩ := trodAll_nil r2
  obtain rfl : args = #[v0, v1, v2] := by cases args; simp_all
  obtain ⟨rfl, rfl⟩ := trodVars_none hV
  have k0 := h0
  have lt0 : ∀ x ∈ p0, x.block < W.heap.size := by obtain ⟨m, hm⟩ := k0; exact DataW.trod_lt m _ _ _ hm
  obtain ⟨a0, len0, cap0, rfl⟩ := okWide_slice Try.underlying41 (hval 0 41 v0 rfl rfl)
  obtain ⟨z0, w0⟩ : ∃ zs, IsRow .u16 W a0 len0 cap0 zs := by
    obtain ⟨fuel, hf⟩ := h0
    rcases open_ints Try.underlying41 Try.underlying45 (by kernel_rfl) hf with ⟨hcs, _⟩ | ⟨x, l, c, zs, hcs, _, hl, hm, hz, _, hcell, hwz⟩
    · simp [Value.cells] at hcs
      obtain ⟨rfl, rfl, rfl⟩ := hcs
      exact ⟨[], .inl ⟨rfl, rfl, rfl, rfl⟩⟩
    · simp [Value.cells] at hcs
      obtain ⟨rfl, rfl, rfl⟩ := hcs
      exact ⟨zs, .inr ⟨_, rfl, hl, hm, by simpa using hz, hcell, hwz⟩⟩
  have k1 := h1
  have lt1 : ∀ x ∈ p1, x.block < W.heap.size := by obtain ⟨m, hm⟩ := k1; exact DataW.trod_lt m _ _ _ hm
  obtain ⟨f1, t1, rfl, w1⟩ := span_open (hval 1 24 v1 rfl rfl) h1
  have k2 := h2
  have lt2 : ∀ x ∈ p2, x.block < W.heap.size := by obtain ⟨m, hm⟩ := k2; exact DataW.trod_lt m _ _ _ hm
  obtain ⟨f2, t2, rfl, w2⟩ := span_open (hval 2 24 v2 rfl rfl) h2
  clear hA0 hval0
  refine (walk a0 len0 cap0 z0 f1 t1 f2 t2 W w0 w1 w2).mono fun e W' ⟨he, bel⟩ => ?_
  subst he
  exact ⟨_, rfl, _, _, _, [], _, [], hW', trodAll_mk1 (shut_bool Try.underlying4 _), (trodAll_cons_mk (Below.trod laidOut (by kernel_rfl) (of_decide_eq_true (by kernel_rfl)) k0 bel lt0) (trodAll_cons_mk (Below.trod laidOut (by kernel_rfl) (of_decide_eq_true (by kernel_rfl)) k1 bel lt1) (trodAll_cons_mk (Below.trod laidOut (by kernel_rfl) (of_decide_eq_true (by kernel_rfl)) k2 bel lt2) trodAll_mk0))), rfl, bel.frame _, fun h => by cases h⟩

theorem over : Rows.spanTurnsRow.holds Try.pinned (OpenSpec.ofChange Rows.spanTurnsSpec) :=
  OpenClaim.holds_of_wide 6 Try.f6 rfl rfl rfl rfl rfl rfl rfl ⟨rfl, rfl, rfl, rfl, rfl⟩ rfl rfl rfl rfl rfl (by kernel_rfl) Try.func6 (by kernel_rfl)
    (of_decide_eq_true (by kernel_rfl)) (by unfold Func.isWrapper; first | (rw [if_pos (by decide +kernel)]; kernel_rfl) | (rw [if_neg (by decide +kernel)]; exact ⟨rfl, rfl⟩))
    (fun os started H enc _ => lifted os started H enc)

/-- The statement. -/
theorem proved : Rows.SpanTurnsSaid := over
#print axioms proved
end Go.Proofs.Ytdnkldcmefcmbaa.spanTurns
