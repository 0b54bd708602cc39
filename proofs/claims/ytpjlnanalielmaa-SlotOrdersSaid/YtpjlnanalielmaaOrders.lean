/-
  Proved: 'matryoshkalaw6.SlotOrders' returns true for every input (any two byte strings, any two slots), and each argument reads afterwards as before: the statement SlotOrdersSaid as given. Conditions: none beyond the row's own.
-/
import Derived.Test.YtpjlnanalielmaaRows
import Derived.Test.YtpjlnanalielmaaO7
import Derived.WalkKit
import Derived.ProofKit
import Derived.OpenShut
import Derived.ShutString
import Derived.ChangeOld
import Derived.Below
namespace Go.Proofs.Ytpjlnanalielmaa.slotOrders
open Go.ChangeShapes Go.WideShapes Go.ChangeAt Go.RowKit
open Go.ChangeMaps (open_string shut_string)
set_option linter.unusedVariables false

theorem own : ownKnob Try.prog.godebug = none := by kernel_rfl
theorem laidOut : laidOutB Try.prog = true := by kernel_rfl

/-- A slice of integers that came in: nil, or a row of cells. -/
def IsRow (k : IntKind) (w : World) (a : Option Addr) (len cap : Nat) (zs : List Int) : Prop :=
  (a = none ∧ len = 0 ∧ cap = 0 ∧ zs = []) ∨
  ∃ x, a = some x ∧ len ≤ cap ∧ cap ≤ maxLen ∧ zs.length = cap ∧ (∀ i, i < zs.length → w.cell? (x.add i) = some (.int k (zs.getD i 0))) ∧ ∀ n ∈ zs, (Lit.int k n).wf = true

set_option maxRecDepth 100000 in
set_option maxHeartbeats 4000000 in
theorem walk (a0 : Option Addr) (len0 cap0 : Nat) (z0 : List Int) (a1 : Option Addr) (len1 cap1 : Nat) (z1 : List Int) (q2 s2 c2 m2 : Int) (q3 s3 c3 m3 : Int) (a4 : Bool) (w : World) (w0 : IsRow .u8 w a0 len0 cap0 z0) (w1 : IsRow .u8 w a1 len1 cap1 z1) (w2 : SlOk (q2, s2, c2, m2)) (w3 : SlOk (q3, s3, c3, m3)) :
    Calls Try.prog 5 #[.slice a0 len0 cap0, .slice a1 len1 cap1, .agg #[.int .i64 q2, .int .i64 s2, .int .i64 c2, .int .u32 m2], .agg #[.int .i64 q3, .int .i64 s3, .int .i64 c3, .int .u32 m3], .bool a4] w fun e w' => e = .returned (.bool true) ∧ Below w.heap.size w w' := by
  have HGA : Hid (Below w.heap.size w ((w.alloc (.cells #[.int .i64 q2, .int .i64 s2, .int .i64 c2, .int .u32 m2] 24)).alloc (.cells #[.int .i64 q3, .int .i64 s3, .int .i64 c3, .int .u32 m3] 24))) := ((Below.refl _ _).alloc (Nat.le_refl _) _).alloc (by simp) _
  have HXA : Hid (Blk ((w.alloc (.cells #[.int .i64 q2, .int .i64 s2, .int .i64 c2, .int .u32 m2] 24)).alloc (.cells #[.int .i64 q3, .int .i64 s3, .int .i64 c3, .int .u32 m3] 24)) (w.heap.size + 1) 24 #[.int .i64 q3, .int .i64 s3, .int .i64 c3, .int .u32 m3]) := by
    have := Blk.new (w.alloc (.cells #[.int .i64 q2, .int .i64 s2, .int .i64 c2, .int .u32 m2] 24)) 24 #[.int .i64 q3, .int .i64 s3, .int .i64 c3, .int .u32 m3]
    rwa [World.size_alloc] at this
  by_cases hbig : 1000 < len0 ∨ (len0 ≤ 1000 ∧ 1000 < len1)
  · clear w0 w1 w2 w3
    rcases hbig with h | ⟨h1, h2⟩
    · go_enter Try.func5, Try.ntmps5
      go_wp2_with (go_at_call 12; refine (awake_any7 _).mono ?_; rintro e w9 ⟨rfl, hb⟩; have HZ : Hid (Below w.heap.size w w9) := HGA.out.trans (hb.mono HGA.out.size); clear hb)
      go_ret
      exact ⟨rfl, HZ.out⟩
    · go_enter Try.func5, Try.ntmps5
      go_wp2_with (go_at_call 12; refine (awake_any7 _).mono ?_; rintro e w9 ⟨rfl, hb⟩; have HZ : Hid (Below w.heap.size w w9) := HGA.out.trans (hb.mono HGA.out.size); clear hb)
      go_ret
      exact ⟨rfl, HZ.out⟩
  · have hl0 : len0 ≤ 1000 := by omega
    have hl1 : len1 ≤ 1000 := by omega
    cases a4 with
    | false =>
      obtain ⟨l1, hB1, hc1, _⟩ := arg_of7 w0 (by omega)
      obtain ⟨l2, hB2, hc2, _⟩ := arg_of7 w1 (by omega)
      obtain ⟨L, hL⟩ := named (ordS (getS l1) (getS l2))
      obtain ⟨K, hK⟩ := named L.length
      have HB1 := Lib.hid hB1
      have HB2 := Lib.hid hB2
      have HC1 := Lib.hid hc1
      have HC2 := Lib.hid hc2
      clear hB1 hB2 hc1 hc2 w0 w1 w2 w3 hbig
      go_enter Try.func5, Try.ntmps5
      go_wp2_with (first
        | (go_at_call 16; (with_reducible refine (order_at (HB1.out.later HGA.out) HC1.out (HB2.out.later HGA.out) HC2.out hL.out hK.out).mono ?_); rintro e w4 ⟨x4, y4, rfl, g1, g2⟩; have HW := Lib.hid (g1.reads sl_rowed).1; have HG4 := Lib.hid (HGA.out.trans (g2.mono HGA.out.size)); clear g1 g2)
        | (go_at_call 17; (with_reducible refine (refOrder_at (HB1.out.later HG4.out) (HB2.out.later HG4.out) hL.out hK.out).mono ?_); rintro e w5 ⟨x5, y5, rfl, g1, g2⟩; have HR := Lib.hid g1; have HW5 := Lib.hid (HW.out.later g2); have HG5 := Lib.hid (HG4.out.trans (g2.mono HG4.out.size)); clear g1 g2)
        | (go_at_call 15; refine (refSlots_any _ _ _ _ _ _ _ HW5.out HR.out).mono ?_; rintro e w6 ⟨rfl, g2⟩; have HG6 := Lib.hid (HG5.out.trans (g2.mono HG5.out.size)); clear g2)
        | (go_at_call 12; refine (awake_any7 _).mono ?_; rintro e w9 ⟨rfl, hb⟩; have HZ : Hid (Below w.heap.size w w9) := HG6.out.trans (hb.mono HG6.out.size); clear hb))
      go_ret
      exact ⟨rfl, HZ.out⟩
    | true =>
      obtain ⟨l1, err1, _, hr1, _⟩ := slot_both w2
      obtain ⟨l2, err2, _, hr2, _⟩ := slot_both w3
      obtain ⟨L, hL⟩ := named (ordS (getS l1) (getS l2))
      obtain ⟨K, hK⟩ := named L.length
      obtain ⟨n1, hn1⟩ := named l1.length
      obtain ⟨n2, hn2⟩ := named l2.length
      have HR1 := Lib.hid hr1
      have HR2 := Lib.hid hr2
      clear hr1 hr2 w0 w1 w2 w3 hbig
      go_enter Try.func5, Try.ntmps5
      go_wp2_with (first
        | (go_at_call 10; (with_reducible refine (HR1.out _).mono ?_); rintro e wa hp; obtain ⟨xa, ya, rfl, hB, hc, hb⟩ := hp.sized hn1.out; have HBa := Lib.hid hB; have HC1 := Lib.hid hc.2; have HXa := Lib.hid (HXA.out.later hb); obtain ⟨k0, k1, k2, k3⟩ := cells4 HXa.out; have HGa := Lib.hid (HGA.out.trans (hb.mono HGA.out.size)); clear hp hB hc hb HR1)
        | (go_at_call 10; (with_reducible refine (HR2.out _).mono ?_); rintro e wb hp; obtain ⟨xb, yb, rfl, hB, hc, hb⟩ := hp.sized hn2.out; have HB2 := Lib.hid hB; have HC2 := Lib.hid hc.2; have HB1 := Lib.hid (HBa.out.later hb); have HGb := Lib.hid (HGa.out.trans (hb.mono HGa.out.size)); clear hp hB hc hb HR2)
        | (go_at_call 16; (with_reducible refine (order_at HB1.out HC1.out HB2.out HC2.out hL.out hK.out).mono ?_); rintro e w4 ⟨x4, y4, rfl, g1, g2⟩; have HW := Lib.hid (g1.reads sl_rowed).1; have HB14 := Lib.hid (HB1.out.later g2); have HB24 := Lib.hid (HB2.out.later g2); have HG4 := Lib.hid (HGb.out.trans (g2.mono HGb.out.size)); clear g1 g2)
        | (go_at_call 17; (with_reducible refine (refOrder_at HB14.out HB24.out hL.out hK.out).mono ?_); rintro e w5 ⟨x5, y5, rfl, g1, g2⟩; have HR := Lib.hid g1; have HW5 := Lib.hid (HW.out.later g2); have HG5 := Lib.hid (HG4.out.trans (g2.mono HG4.out.size)); clear g1 g2)
        | (go_at_call 15; refine (refSlots_any _ _ _ _ _ _ _ HW5.out HR.out).mono ?_; rintro e w6 ⟨rfl, g2⟩; have HG6 := Lib.hid (HG5.out.trans (g2.mono HG5.out.size)); clear g2)
        | (go_at_call 12; refine (awake_any7 _).mono ?_; rintro e w9 ⟨rfl, hb⟩; have HZ : Hid (Below w.heap.size w w9) := HG6.out.trans (hb.mono HG6.out.size); clear hb))
      go_ret
      exact ⟨rfl, HZ.out⟩

set_option maxRecDepth 100000 in
theorem lifted (os : Os) (started : os.Started) (H : Type) (enc : TypeId × Value → H) :
    ReturnsInHanded {} Try.checked os 5 .any (Rows.slotOrdersSpec.pre6 enc Try.prog Try.f5 Rows.slotOrdersRow.domain false) (Rows.slotOrdersSpec.post enc Try.prog Try.f5 false true false false) := by
  refine returnsInHanded_of_change (C := Try.checked) own started (by kernel_rfl) Try.func5
    (ChangeSpec.witness6 (enc := enc) (C := Try.checked) false ⟨#[], #[.slice none 0 0, .slice none 0 0, .agg #[.int .i64 0, .int .i64 0, .int .i64 0, .int .u32 0], .agg #[.int .i64 0, .int .i64 0, .int .i64 0, .int .u32 0], .bool false], []⟩ 8 (by kernel_rfl) (by kernel_rfl) (by kernel_rfl) (by kernel_rfl)) ?_
  intro W base args ds gs before hval0 hW hcnd _
  have hval : ∀ (j : Nat) t v, Try.f5.params[j]? = some t → args[j]? = some v → Value.okWide Try.prog W .any base t v := hval0
  have hW' := hW
  obtain ⟨p, q, hA0, hV, rfl, hfz, hnd⟩ := hW
  have hA : DataW.TrodAll enc Try.prog W 0 (fun _ => true) true Try.f5.params.toList args.toList ds p := hA0
  rw [Try.params5] at hA hval
  obtain ⟨v0, vs0, d0, ds0, p0, q0, hargs, rfl, rfl, h0, r0⟩ := trodAll_cons hA
  obtain ⟨v1, vs1, d1, ds1, p1, q1, rfl, rfl, rfl, h1, r1⟩ := trodAll_cons r0
  obtain ⟨v2, vs2, d2, ds2, p2, q2, rfl, rfl, rfl, h2, r2⟩ := trodAll_cons r1
  obtain ⟨v3, vs3, d3, ds3, p3, q3, rfl, rfl, rfl, h3, r3⟩ := trodAll_cons r2
  obtain ⟨v4, vs4, d4, ds4, p4, q4, rfl, rfl, rfl, h4, r4⟩ := trodAll_cons r3
  obtain ⟨rfl, rfl, rfl⟩ := trodAll_nil r4
  obtain rfl : args = #[v0, v1, v2, v3, v4] := by cases args; simp_all
  obtain ⟨rfl, rfl⟩ := trodVars_none hV
  have k0 := h0
  have lt0 : ∀ x ∈ p0, x.block < W.heap.size := by obtain ⟨m, hm⟩ := k0; exact DataW.trod_lt m _ _ _ hm
  obtain ⟨a0, len0, cap0, rfl⟩ := okWide_slice Try.underlying25 (hval 0 25 v0 rfl rfl)
  obtain ⟨z0, w0⟩ : ∃ zs, IsRow .u8 W a0 len0 cap0 zs := by
    obtain ⟨fuel, hf⟩ := h0
    rcases open_ints Try.underlying25 Try.underlying5 (by kernel_rfl) hf with ⟨hcs, _⟩ | ⟨x, l, c, zs, hcs, _, hl, hm, hz, _, hcell, hwz⟩
    · simp [Value.cells] at hcs
      obtain ⟨rfl, rfl, rfl⟩ := hcs
      exact ⟨[], .inl ⟨rfl, rfl, rfl, rfl⟩⟩
    · simp [Value.cells] at hcs
      obtain ⟨rfl, rfl, rfl⟩ := hcs
      exact ⟨zs, .inr ⟨_, rfl, hl, hm, by simpa using hz, hcell, hwz⟩⟩
  have k1 := h1
  have lt1 : ∀ x ∈ p1, x.block < W.heap.size := by obtain ⟨m, hm⟩ := k1; exact DataW.trod_lt m _ _ _ hm
  obtain ⟨a1, len1, cap1, rfl⟩ := okWide_slice Try.underlying25 (hval 1 25 v1 rfl rfl)
  obtain ⟨z1, w1⟩ : ∃ zs, IsRow .u8 W a1 len1 cap1 zs := by
    obtain ⟨fuel, hf⟩ := h1
    rcases open_ints Try.underlying25 Try.underlying5 (by kernel_rfl) hf with ⟨hcs, _⟩ | ⟨x, l, c, zs, hcs, _, hl, hm, hz, _, hcell, hwz⟩
    · simp [Value.cells] at hcs
      obtain ⟨rfl, rfl, rfl⟩ := hcs
      exact ⟨[], .inl ⟨rfl, rfl, rfl, rfl⟩⟩
    · simp [Value.cells] at hcs
      obtain ⟨rfl, rfl, rfl⟩ := hcs
      exact ⟨zs, .inr ⟨_, rfl, hl, hm, by simpa using hz, hcell, hwz⟩⟩
  have k2 := h2
  have lt2 : ∀ x ∈ p2, x.block < W.heap.size := by obtain ⟨m, hm⟩ := k2; exact DataW.trod_lt m _ _ _ hm
  obtain ⟨q2, s2, c2, m2, rfl, w2⟩ := slot_open (hval 2 24 v2 rfl rfl) h2
  have k3 := h3
  have lt3 : ∀ x ∈ p3, x.block < W.heap.size := by obtain ⟨m, hm⟩ := k3; exact DataW.trod_lt m _ _ _ hm
  obtain ⟨q3, s3, c3, m3, rfl, w3⟩ := slot_open (hval 3 24 v3 rfl rfl) h3
  have k4 := h4
  have lt4 : ∀ x ∈ p4, x.block < W.heap.size := by obtain ⟨m, hm⟩ := k4; exact DataW.trod_lt m _ _ _ hm
  obtain ⟨a4, rfl, _, _⟩ := open_bool Try.underlying4 (hval 4 4 v4 rfl rfl) h4
  clear hA0 hval0
  refine (walk a0 len0 cap0 z0 a1 len1 cap1 z1 q2 s2 c2 m2 q3 s3 c3 m3 a4 W w0 w1 w2 w3).mono fun e W' ⟨he, bel⟩ => ?_
  subst he
  exact ⟨_, rfl, _, _, _, [], _, [], hW', trodAll_mk1 (shut_bool Try.underlying4 _), (trodAll_cons_mk (Below.trod laidOut (by kernel_rfl) (of_decide_eq_true (by kernel_rfl)) k0 bel lt0) (trodAll_cons_mk (Below.trod laidOut (by kernel_rfl) (of_decide_eq_true (by kernel_rfl)) k1 bel lt1) (trodAll_cons_mk (Below.trod laidOut (by kernel_rfl) (of_decide_eq_true (by kernel_rfl)) k2 bel lt2) (trodAll_cons_mk (Below.trod laidOut (by kernel_rfl) (of_decide_eq_true (by kernel_rfl)) k3 bel lt3) (trodAll_cons_mk (Below.trod laidOut (by kernel_rfl) (of_decide_eq_true (by kernel_rfl)) k4 bel lt4) trodAll_mk0))))), rfl, bel.frame _, fun h => by cases h⟩

theorem over : Rows.slotOrdersRow.holds Try.pinned (OpenSpec.ofChange Rows.slotOrdersSpec) :=
  OpenClaim.holds_of_wide 5 Try.f5 rfl rfl rfl rfl rfl rfl rfl ⟨rfl, rfl, rfl, rfl, rfl⟩ rfl rfl rfl rfl rfl (by kernel_rfl) Try.func5 (by kernel_rfl)
    (of_decide_eq_true (by kernel_rfl)) (by unfold Func.isWrapper; first | (rw [if_pos (by decide +kernel)]; kernel_rfl) | (rw [if_neg (by decide +kernel)]; exact ⟨rfl, rfl⟩))
    (fun os started H enc _ => lifted os started H enc)

/-- The statement. -/
theorem proved : Rows.SlotOrdersSaid := over
#print axioms proved
end Go.Proofs.Ytpjlnanalielmaa.slotOrders
