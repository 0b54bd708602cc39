/-
  Proved: 'matryoshkalaw2.FieldPuts' returns true for every input, and each argument reads afterwards as before: the statement FieldPutsSaid as given. Conditions: none beyond the row's own.
-/
import Derived.Test.YtdehplankddfgaaRows
import Derived.Test.YtdehplankddfgaaW2
import Derived.WalkKit
import Derived.ProofKit
import Derived.OpenShut
import Derived.ShutString
import Derived.ChangeOld
import Derived.Below
namespace Go.Proofs.Ytdehplankddfgaa.fieldPuts
open Go.ChangeShapes Go.WideShapes Go.ChangeAt Go.RowKit
open Go.ChangeMaps (open_string shut_string)
set_option linter.unusedVariables false

theorem own : ownKnob Try.prog.godebug = none := by kernel_rfl
theorem laidOut : laidOutB Try.prog = true := by kernel_rfl

/-- A slice of integers that came in: nil, or a row of cells. -/
def IsRow (k : IntKind) (w : World) (a : Option Addr) (len cap : Nat) (zs : List Int) : Prop :=
  (a = none ∧ len = 0 ∧ cap = 0 ∧ zs = []) ∨
  ∃ x, a = some x ∧ len ≤ cap ∧ cap ≤ maxLen ∧ zs.length = cap ∧ (∀ i, i < zs.length → w.cell? (x.add i) = some (.int k (zs.getD i 0))) ∧ ∀ n ∈ zs, (Lit.int k n).wf = true

def sevens : List Int := [7, 7, 7, 7, 7, 7, 7, 7]
theorem eight_bytes (w : World) : Bytes (w.alloc (.cells #[.int .u8 7, .int .u8 7, .int .u8 7, .int .u8 7, .int .u8 7, .int .u8 7, .int .u8 7, .int .u8 7] 5)) (some ⟨w.heap.size, 0, none⟩) 8 sevens := by
  refine ⟨rfl, ⟨by decide, by decide⟩, Or.inr ⟨w.heap.size, 0, rfl, by simp, fun i hi => ?_⟩⟩
  have h : i < 8 := hi
  rcases (by omega : i = 0 ∨ i = 1 ∨ i = 2 ∨ i = 3 ∨ i = 4 ∨ i = 5 ∨ i = 6 ∨ i = 7) with rfl | rfl | rfl | rfl | rfl | rfl | rfl | rfl <;> simp [sevens]
theorem sevens_at (l : List Int) (j : Nat) (h : j < 8) : (l ++ sevens).getD (l.length + j) 0 = 7 := by
  rw [List.getD_eq_getElem?_getD, List.getElem?_append_right (by omega), Nat.add_sub_cancel_left]
  rcases (by omega : j = 0 ∨ j = 1 ∨ j = 2 ∨ j = 3 ∨ j = 4 ∨ j = 5 ∨ j = 6 ∨ j = 7) with rfl | rfl | rfl | rfl | rfl | rfl | rfl | rfl <;> rfl

set_option maxHeartbeats 1600000 in
theorem walk (a0 : Option Addr) (len0 cap0 : Nat) (z0 : List Int) (a1 : Int) (a2 : Bool) (a3 : Int) (w : World) (w0 : IsRow .u8 w a0 len0 cap0 z0) (w1 : (Lit.int .i64 a1).wf = true) (w3 : (Lit.int .u64 a3).wf = true) :
    Calls Try.prog 3 #[.slice a0 len0 cap0, .int .i64 a1, .bool a2, .int .u64 a3] w fun e w' => e = .returned (.bool true) ∧ Below w.heap.size w w' := by
  by_cases hbig : 5000 < len0
  · clear w0 w1 w3
    go_enter Try.func3, Try.ntmps3
    go_wp2_with (go_at_call 10; refine (awake_any _).mono ?_; rintro e w1 ⟨rfl, hb⟩; have HB := Lib.hid hb; clear hb)
    go_ret
    exact ⟨rfl, HB.out⟩
  · obtain ⟨l, hB, _, hn⟩ := arg_of w0 (by omega)
    obtain ⟨v, rfl, hv⟩ := dword_of_wf w3
    obtain ⟨L, err, hf, hr⟩ := put_both l a1 a2 v hv
    obtain ⟨K, HK⟩ := named L.length
    have HB := Lib.hid hB
    have HN := Lib.hid hn
    have HF := Lib.hid hf
    have HR := Lib.hid hr
    have HLL := Lib.hid hB.1
    clear hB hn hf hr hv w0 w1 w3
    go_enter Try.func3, Try.ntmps3
    go_wp2_with (first
      | (at_builtin; refine append_copy rfl (.tmp 19) (.tmp 20) rfl w.heap.size rfl a0 len0 cap0 l rfl HN.out HB.out (by omega) (Nat.le_refl _) ?_; intro a9 c9 w9 g1 g2; have HO := Lib.hid g1; have HG := Lib.hid g2; clear g1 g2)
      | (at_builtin; refine append_more rfl (.tmp 22) (.tmp 23) rfl w.heap.size _ len0 l rfl (HO.out.alloc _) _ 8 8 sevens rfl (fun e => by cases e) (eight_bytes _) (by omega) (Nat.le_trans HG.out.size (by simp)) ?_; intro ar cr wr g1 g2; obtain ⟨g, rfl, hg, hgs⟩ := g1.lies (by omega); obtain ⟨af, hsl, hBs, hns⟩ := slice_front g1.bytes.1 g1.capOk g1.bytes.2 len0 (by omega); rw [List.take_left' HLL.out] at hBs; have HBS := Lib.hid hBs; have HNS := Lib.hid hns; have HOR := Lib.hid g1.bytes.1; have HGR : Hid (Below w.heap.size w wr) := (HG.out.alloc HG.out.size _).trans g2; clear g1 g2 hBs hns)
      | (go_at_call 11; refine (HF.out _ _ _ _ HBS.out HNS.out (by omega)).mono ?_; rintro e w3 hp; obtain ⟨a3, c3, rfl, hB3, _, hb⟩ := hp.named HK.out; have HB3 := Lib.hid hB3; have HOR3 := Lib.hid (HOR.out.later hb); have HG3 := Lib.hid (HGR.out.trans (hb.mono HGR.out.size)); clear hp hB3 hb)
      | (go_at_call 12; refine (HR.out _ _ _ _ (HB.out.later HG3.out) HN.out (by omega)).mono ?_; rintro e w4 hp; obtain ⟨a4, c4, rfl, hB4, _, hb⟩ := hp.named HK.out; have hcv3 := conv_str (HB3.out.later hb) c3; have hcv4 := conv_str hB4 c4; have HOR4 := Lib.hid (HOR3.out.later hb); have HG4 := Lib.hid (HG3.out.trans (hb.mono HG3.out.size)); clear hp hB4 hb))
    go_loop [14] (fun i => ∃ j : Nat, j ≤ 8 ∧ i = .int .i64 j) (fun i => 8 - (intOf i).toNat)
    case atStart => exact ⟨0, Nat.zero_le _, rfl⟩
    case round =>
      obtain ⟨j, hj, rfl⟩ := hrel
      by_cases hlt : j < 8
      · have hcell : w4.cell? ⟨g, len0 + j, none⟩ = some (.int .u8 7) := by
          rw [HOR4.out.cell0 (len0 + j) (by omega), ← HLL.out, sevens_at l j hlt]
        go_wp2
        go_round
        case rel => exact ⟨j + 1, by omega, by go_num⟩
        case measure => simp [intOf]; omega
      · go_wp2_with (first
          | (go_at_call 13; go_in)
          | (go_at_call 10; refine (awake_any _).mono ?_; rintro e w5 ⟨rfl, hb⟩; have HZ := Lib.hid (HG4.out.trans (hb.mono HG4.out.size)); clear hb))
        go_ret
        exact ⟨rfl, HZ.out⟩

set_option maxRecDepth 100000 in
theorem lifted (os : Os) (started : os.Started) (H : Type) (enc : TypeId × Value → H) :
    ReturnsInHanded {} Try.checked os 3 .any (Rows.fieldPutsSpec.pre6 enc Try.prog Try.f3 Rows.fieldPutsRow.domain false) (Rows.fieldPutsSpec.post enc Try.prog Try.f3 false true false false) := by
  refine returnsInHanded_of_change (C := Try.checked) own started (by kernel_rfl) Try.func3
    (ChangeSpec.witness6 (enc := enc) (C := Try.checked) false ⟨#[], #[.slice none 0 0, .int .i64 0, .bool false, .int .u64 0], []⟩ 8 (by kernel_rfl) (by kernel_rfl) (by kernel_rfl) (by kernel_rfl)) ?_
  intro W base args ds gs before hval0 hW hcnd _
  have hval : ∀ (j : Nat) t v, Try.f3.params[j]? = some t → args[j]? = some v → Value.okWide Try.prog W .any base t v := hval0
  have hW' := hW
  obtain ⟨p, q, hA0, hV, rfl, hfz, hnd⟩ := hW
  have hA : DataW.TrodAll enc Try.prog W 0 (fun _ => true) true Try.f3.params.toList args.toList ds p := hA0
  rw [Try.params3] at hA hval
  obtain ⟨v0, vs0, d0, ds0, p0, q0, hargs, rfl, rfl, h0, r0⟩ := trodAll_cons hA
  obtain ⟨v1, vs1, d1, ds1, p1, q1, rfl, rfl, rfl, h1, r1⟩ := trodAll_cons r0
  obtain ⟨v2, vs2, d2, ds2, p2, q2, rfl, rfl, rfl, h2, r2⟩ := trodAll_cons r1
  obtain ⟨v3, vs3, d3, ds3, p3, q3, rfl, rfl, rfl, h3, r3⟩ := trodAll_cons r2
  obtain ⟨rfl, rfl, rfl⟩ := trodAll_nil r3
  obtain rfl : args = #[v0, v1, v2, v3] := by cases args; simp_all
  obtain ⟨rfl, rfl⟩ := trodVars_none hV
  obtain ⟨a0, len0, cap0, rfl⟩ := okWide_slice Try.underlying22 (hval 0 22 v0 rfl rfl)
  have k0 := h0
  have lt0 : ∀ x ∈ p0, x.block < W.heap.size := by obtain ⟨m, hm⟩ := k0; exact DataW.trod_lt m _ _ _ hm
  obtain ⟨z0, w0⟩ : ∃ zs, IsRow .u8 W a0 len0 cap0 zs := by
    obtain ⟨fuel, hf⟩ := h0
    rcases open_ints Try.underlying22 Try.underlying5 (by kernel_rfl) hf with ⟨hcs, _⟩ | ⟨x, l, c, zs, hcs, _, hl, hm, hz, _, hcell, hwz⟩
    · simp [Value.cells] at hcs
      obtain ⟨rfl, rfl, rfl⟩ := hcs
      exact ⟨[], .inl ⟨rfl, rfl, rfl, rfl⟩⟩
    · simp [Value.cells] at hcs
      obtain ⟨rfl, rfl, rfl⟩ := hcs
      exact ⟨zs, .inr ⟨_, rfl, hl, hm, by simpa using hz, hcell, hwz⟩⟩
  obtain ⟨a1, rfl, rfl, rfl, w1⟩ := open_int Try.underlying3 (hval 1 3 v1 rfl rfl) h1
  obtain ⟨a2, rfl, rfl, rfl⟩ := open_bool Try.underlying4 (hval 2 4 v2 rfl rfl) h2
  obtain ⟨a3, rfl, rfl, rfl, w3⟩ := open_int Try.underlying23 (hval 3 23 v3 rfl rfl) h3
  clear hA0 hval0
  refine (walk a0 len0 cap0 z0 a1 a2 a3 W w0 w1 w3).mono fun e W' ⟨he, bel⟩ => ?_
  subst he
  exact ⟨_, rfl, _, _, _, [], _, [], hW', trodAll_mk1 (shut_bool Try.underlying4 _), (trodAll_cons_mk (Below.trod laidOut (by kernel_rfl) (of_decide_eq_true (by kernel_rfl)) k0 bel lt0) (trodAll_cons_mk (shut_int Try.underlying3 w1) (trodAll_cons_mk (shut_bool Try.underlying4 _) (trodAll_cons_mk (shut_int Try.underlying23 w3) trodAll_mk0)))), rfl, bel.frame _, fun h => by cases h⟩

theorem over : Rows.fieldPutsRow.holds Try.pinned (OpenSpec.ofChange Rows.fieldPutsSpec) :=
  OpenClaim.holds_of_wide 3 Try.f3 rfl rfl rfl rfl rfl rfl rfl ⟨rfl, rfl, rfl, rfl, rfl⟩ rfl rfl rfl rfl rfl (by kernel_rfl) Try.func3 (by kernel_rfl)
    (of_decide_eq_true (by kernel_rfl)) (by unfold Func.isWrapper; first | (rw [if_pos (by decide +kernel)]; kernel_rfl) | (rw [if_neg (by decide +kernel)]; exact ⟨rfl, rfl⟩))
    (fun os started H enc _ => lifted os started H enc)

/-- The statement. -/
theorem proved : Rows.FieldPutsSaid := over
#print axioms proved
end Go.Proofs.Ytdehplankddfgaa.fieldPuts
