/-
  Proved: 'matryoshkalaw6.SlotGets' returns true for every input (any bytes), and the argument reads afterwards as before: the statement SlotGetsSaid as given. Conditions: none beyond the row's own.
-/
import Derived.Test.YtpjlnanalielmaaRows
import Derived.Test.YtpjlnanalielmaaO7
import Derived.WalkKit
import Derived.ProofKit
import Derived.OpenShut
import Derived.ShutString
import Derived.ChangeOld
import Derived.Below
namespace Go.Proofs.Ytpjlnanalielmaa.slotGets
open Go.ChangeShapes Go.WideShapes Go.ChangeAt Go.RowKit
open Go.ChangeMaps (open_string shut_string)
set_option linter.unusedVariables false

theorem own : ownKnob Try.prog.godebug = none := by kernel_rfl
theorem laidOut : laidOutB Try.prog = true := by kernel_rfl

/-- A slice of integers that came in: nil, or a row of cells. -/
def IsRow (k : IntKind) (w : World) (a : Option Addr) (len cap : Nat) (zs : List Int) : Prop :=
  (a = none ∧ len = 0 ∧ cap = 0 ∧ zs = []) ∨
  ∃ x, a = some x ∧ len ≤ cap ∧ cap ≤ maxLen ∧ zs.length = cap ∧ (∀ i, i < zs.length → w.cell? (x.add i) = some (.int k (zs.getD i 0))) ∧ ∀ n ∈ zs, (Lit.int k n).wf = true

set_option maxRecDepth 100000 in
set_option maxHeartbeats 4000000 in
theorem walk (a0 : Option Addr) (len0 cap0 : Nat) (z0 : List Int) (w : World) (w0 : IsRow .u8 w a0 len0 cap0 z0) :
    Calls Try.prog 4 #[.slice a0 len0 cap0] w fun e w' => e = .returned (.bool true) ∧ Below w.heap.size w w' := by
  by_cases hbig : 1000 < len0
  · clear w0
    go_enter Try.func4, Try.ntmps4
    go_wp2_with (go_at_call 12; refine (awake_any7 _).mono ?_; rintro e w1 ⟨rfl, hb⟩; have HB := Lib.hid hb; clear hb)
    go_ret
    exact ⟨rfl, HB.out⟩
  · obtain ⟨l, hB, hc, _⟩ := arg_of7 w0 (by omega)
    obtain ⟨q, s, c, m, err, hA, hE, _⟩ := got_is (getS l)
    have HF : Hid (Calls Try.prog 13 #[.slice a0 len0 cap0] w fun e w' => e = .returned (.tuple #[.agg #[.int .i64 q, .int .i64 s, .int .i64 c, .int .u32 m], .int .i64 err]) ∧ Below w.heap.size w w') := (slotGet_any w a0 len0 cap0 l hB hc).mono fun e w' h => h.at hA hE
    have HR : Hid (∀ w1, Below w.heap.size w w1 → Calls Try.prog 14 #[.slice a0 len0 cap0] w1 fun e w' => e = .returned (.tuple #[.agg #[.int .i64 q, .int .i64 s, .int .i64 c, .int .u32 m], .int .i64 err]) ∧ Below w1.heap.size w1 w') := fun w1 h => (refGetSlot_any w1 a0 len0 cap0 l (hB.later h)).mono fun e w' h => h.at hA hE
    clear hB hc w0 hA hE
    go_enter Try.func4, Try.ntmps4
    go_wp2_with (first
      | (go_at_call 11; go_in)
      | (go_at_call 13; (with_reducible refine HF.out.mono ?_); rintro e w1 ⟨rfl, hb⟩; have HG1 := Lib.hid (hb.alloc hb.size (.cells #[.int .i64 q, .int .i64 s, .int .i64 c, .int .u32 m] 24)); have HX1 := Lib.hid (Blk.new w1 24 #[.int .i64 q, .int .i64 s, .int .i64 c, .int .u32 m]); clear hb HF)
      | (go_at_call 14; (with_reducible refine (HR.out _ HG1.out).mono ?_); rintro e w2 ⟨rfl, hb⟩; have HX2 := Lib.hid ((HX1.out.later hb).alloc (.cells #[.int .i64 q, .int .i64 s, .int .i64 c, .int .u32 m] 24)); obtain ⟨k0, k1, k2, k3⟩ := cells4 HX2.out; have HG2 := Lib.hid (HG1.out.trans (hb.mono HG1.out.size)); have HG3 := Lib.hid (HG2.out.alloc HG2.out.size (.cells #[.int .i64 q, .int .i64 s, .int .i64 c, .int .u32 m] 24)); clear hb HR)
      | (go_at_call 12; refine (awake_any7 _).mono ?_; rintro e w3 ⟨rfl, hb⟩; have HZ := Lib.hid (HG3.out.trans (hb.mono HG3.out.size)); clear hb))
    go_ret
    exact ⟨rfl, HZ.out⟩

set_option maxRecDepth 100000 in
theorem lifted (os : Os) (started : os.Started) (H : Type) (enc : TypeId × Value → H) :
    ReturnsInHanded {} Try.checked os 4 .any (Rows.slotGetsSpec.pre6 enc Try.prog Try.f4 Rows.slotGetsRow.domain false) (Rows.slotGetsSpec.post enc Try.prog Try.f4 false true false false) := by
  refine returnsInHanded_of_change (C := Try.checked) own started (by kernel_rfl) Try.func4
    (ChangeSpec.witness6 (enc := enc) (C := Try.checked) false ⟨#[], #[.slice none 0 0], []⟩ 8 (by kernel_rfl) (by kernel_rfl) (by kernel_rfl) (by kernel_rfl)) ?_
  intro W base args ds gs before hval0 hW hcnd _
  have hval : ∀ (j : Nat) t v, Try.f4.params[j]? = some t → args[j]? = some v → Value.okWide Try.prog W .any base t v := hval0
  have hW' := hW
  obtain ⟨p, q, hA0, hV, rfl, hfz, hnd⟩ := hW
  have hA : DataW.TrodAll enc Try.prog W 0 (fun _ => true) true Try.f4.params.toList args.toList ds p := hA0
  rw [Try.params4] at hA hval
  obtain ⟨v0, vs0, d0, ds0, p0, q0, hargs, rfl, rfl, h0, r0⟩ := trodAll_cons hA
  obtain ⟨rfl, rfl, rfl⟩ := trodAll_nil r0
  obtain rfl : args = #[v0] := by cases args; simp_all
  obtain ⟨rfl, rfl⟩ := trodVars_none hV
  have k0 := h0
  have lt0 : ∀ x ∈ p0, x.block < W.heap.size := by obtain ⟨m, hm⟩ := k0; exact DataW.trod_lt m _ _ _ hm
  obtain ⟨a0, len0, cap0, rfl⟩ := okWide_slice Try.underlying25 (hval 0 25 v0 rfl rfl)
  obtain ⟨z0, w0⟩ : ∃ zs, IsRow .u8 W a0 len0 cap0 zs := by
    obtain ⟨fuel, hf⟩ := h0
    rcases open_ints Try.underlying25 Try.underlying5 (by kernel_rfl) hf with ⟨hcs, _⟩ | ⟨x, l, c, zs, hcs, _, hl, hm, hz, _, hcell, hwz⟩
    · simp [Value.cells] at hcs
      obtain ⟨rfl, rfl, rfl⟩ := hcs
      exact ⟨[], .inl ⟨rfl, rfl, rfl, rfl⟩⟩
    · simp [Value.cells] at hcs
      obtain ⟨rfl, rfl, rfl⟩ := hcs
      exact ⟨zs, .inr ⟨_, rfl, hl, hm, by simpa using hz, hcell, hwz⟩⟩
  clear hA0 hval0
  refine (walk a0 len0 cap0 z0 W w0).mono fun e W' ⟨he, bel⟩ => ?_
  subst he
  exact ⟨_, rfl, _, _, _, [], _, [], hW', trodAll_mk1 (shut_bool Try.underlying4 _), (trodAll_cons_mk (Below.trod laidOut (by kernel_rfl) (of_decide_eq_true (by kernel_rfl)) k0 bel lt0) trodAll_mk0), rfl, bel.frame _, fun h => by cases h⟩

theorem over : Rows.slotGetsRow.holds Try.pinned (OpenSpec.ofChange Rows.slotGetsSpec) :=
  OpenClaim.holds_of_wide 4 Try.f4 rfl rfl rfl rfl rfl rfl rfl ⟨rfl, rfl, rfl, rfl, rfl⟩ rfl rfl rfl rfl rfl (by kernel_rfl) Try.func4 (by kernel_rfl)
    (of_decide_eq_true (by kernel_rfl)) (by unfold Func.isWrapper; first | (rw [if_pos (by decide +kernel)]; kernel_rfl) | (rw [if_neg (by decide +kernel)]; exact ⟨rfl, rfl⟩))
    (fun os started H enc _ => lifted os started H enc)

/-- The statement. -/
theorem proved : Rows.SlotGetsSaid := over
#print axioms proved
end Go.Proofs.Ytpjlnanalielmaa.slotGets
