/-
  Proved: 'matryoshkalaw9.CountSums' returns true for every input, and each argument reads afterwards as before: the statement CountSumsSaid as given. Conditions: none beyond the row's own.
-/
import Derived.Test.YtidknkhkblloaaaRows
import Derived.Test.YtidknkhkblloaaaV0
import Derived.WalkKit
import Derived.ProofKit
import Derived.OpenShut
import Derived.ShutString
import Derived.ChangeOld
import Derived.Below
namespace Go.Proofs.Ytidknkhkblloaaa.countSums
open Go.ChangeShapes Go.WideShapes Go.ChangeAt Go.RowKit
open Go.ChangeMaps (open_string shut_string)
set_option linter.unusedVariables false

theorem own : ownKnob Try.prog.godebug = none := by kernel_rfl
theorem laidOut : laidOutB Try.prog = true := by kernel_rfl

theorem sumTo_bound {f : Nat → Int} (n : Nat) : (∀ j, 0 ≤ f j ∧ f j ≤ 10000000) → 0 ≤ sumTo f n ∧ sumTo f n ≤ 10000000 * n := fun h => by
  induction n with
  | zero => exact ⟨Int.le_refl _, Int.le_refl _⟩
  | succ n ih =>
    have := h n
    show 0 ≤ sumTo f n + f n ∧ sumTo f n + f n ≤ _
    omega
theorem ofL_bound (L : List Ln) (h : L.length ≤ 4096 * 901) (j : Nat) : 0 ≤ ofL L j ∧ ofL L j ≤ 10000000 := by
  have := cnt_bound j ((0, 2) :: L.map sgOf)
  rw [List.length_cons, List.length_map] at this
  unfold ofL
  omega
/-- The sectors of the first so many lines, and two. -/
def wantTo (L : List Ln) (n : Nat) : Int := 2 + ((L.take n).map fun x => (sgOf x).2).sum
theorem wantTo_succ {L : List Ln} {n : Nat} {x : Ln} (h : L[n]? = some x) : wantTo L (n + 1) = wantTo L n + x.2.2.2.2.1 := by
  unfold wantTo
  rw [List.take_add_one, h, List.map_append, List.sum_append]
  have : (List.map (fun x => (sgOf x).2) (some x).toList).sum = x.2.2.2.2.1 := by
    show (sgOf x).2 + 0 = _
    rw [Int.add_zero]
    rfl
  rw [this]
  omega
theorem sums_all {L : List Ln} (h : ∀ x ∈ L, LnOk x) : sumTo (ofL L) 65536 = wantTo L L.length := by
  unfold wantTo
  rw [List.take_length]
  have := sumTo_cnt 65536 ((0, 2) :: L.map sgOf) (fun x hx => by
    rcases List.mem_cons.1 hx with rfl | hx
    · exact ⟨⟨by decide, by decide⟩, by decide⟩
    · obtain ⟨y, hy, rfl⟩ := List.mem_map.1 hx
      obtain ⟨_, _, _, b1, b2, b3⟩ := h y hy
      exact ⟨⟨by show 0 ≤ y.2.2.2.1; omega, by show 1 ≤ y.2.2.2.2.1; omega⟩, by show y.2.2.2.1 + y.2.2.2.2.1 ≤ _; omega⟩)
  have e : ofL L = cntS ((0, 2) :: L.map sgOf) := rfl
  rw [e, this, List.map_cons, List.sum_cons, List.map_map]
  rfl
theorem wantTo_bound {L : List Ln} (h : ∀ x ∈ L, LnOk x) : ∀ n, n ≤ L.length → 0 ≤ wantTo L n ∧ wantTo L n ≤ 2 + 64 * n
  | 0, _ => by
    unfold wantTo
    simp
  | n + 1, hn => by
    have ih := wantTo_bound h n (by omega)
    have hx : L[n]? = some L[n] := List.getElem?_eq_getElem (by omega)
    obtain ⟨_, _, _, _, b2, _⟩ := h _ (List.getElem_mem (by omega : n < L.length))
    rw [wantTo_succ hx]
    omega
theorem sums_all' {L : List Ln} (n : Nat) (hn : n = 65536) (h : ∀ x ∈ L, LnOk x) : sumTo (ofL L) n = wantTo L L.length := by
  subst hn
  exact sums_all h
theorem lines_max {w : World} {c s : Int} {bk : ByteArray} {a0 : Option Addr} {n0 : Nat} {tc : Nat} {sa : Option Addr} {sn : Nat} {ma : Option Addr} {mn : Nat} {ca : Option Addr} {cn : Nat} {T : Tb} {S : List Sh} {gm : Nat → MpA} {f : Nat → Int} (h : MetaS w c s bk a0 n0 tc sa sn ma mn ca cn T S gm f) (hR : RightX T S) : (allLines T (S.map shT)).length ≤ 4096 * 901 := by
  obtain ⟨v, hv⟩ := vtx_of (tabsX_ok h.hT h.hS hR (by have := h.hsn; omega))
  rw [← lines_is hv]
  have h1 := linesOf_len v
  have h2 := congrArg List.length hv
  rw [List.length_map] at h2
  have h3 : (tabsX a0 n0 tc T S).length = sn + 1 := by simp [tabsX, shX, h.hS.len]
  have := h.hsn
  omega

set_option maxRecDepth 100000 in
set_option maxHeartbeats 4000000 in
theorem walk (mc0 ms0 : Int) (mb0 : ByteArray) (ta0 : Option Addr) (tn0 tc0 : Nat) (sa0 : Option Addr) (sn0 sc0 : Nat) (ba0 : Option Addr) (bn0 bc0 : Nat) (ca0 : Option Addr) (cn0 cc0 : Nat) (w : World) (w0 : MetaArg w mc0 ms0 mb0 ta0 tn0 tc0 sa0 sn0 sc0 ba0 bn0 bc0 ca0 cn0 cc0) :
    Calls Try.prog 6 #[.agg #[.int .i64 mc0, .int .i64 ms0, .string mb0, .slice ta0 tn0 tc0, .slice sa0 sn0 sc0, .slice ba0 bn0 bc0, .slice ca0 cn0 cc0]] w fun e w' => e = .returned (.bool true) ∧ Below w.heap.size w w' := by
  have HRT0 := Lib.hid (RtS.first w (mtC mc0 ms0 mb0 ta0 tn0 tc0 sa0 sn0 sc0 (.slice ba0 bn0 bc0) (.slice ca0 cn0 cc0)))
  have HGR := Lib.hid (great_meta (w0.later HRT0.out.below))
  clear w0
  go_enter Try.func6, Try.ntmps6
  go_wp2_with (first
    | (go_at_call 11; refine HGR.out.mono ?_; rintro e w1 ⟨G, rfl, g, hs⟩; have HRT := Lib.hid (HRT0.out.later g); obtain ⟨m0, m1, m2, m3, m4, m5, m6⟩ := mt_cells HRT.out.box; have HSM := Lib.hid hs; have HG1 := Lib.hid g; clear g hs; cases G)
    | (go_at_call 13; refine (awake0 _).mono ?_; rintro e w9 ⟨rfl, g⟩; have HRT := Lib.hid (HRT.out.later g); clear g)
    | (go_at_call 12; obtain ⟨T, S, gm, f, hm⟩ := HSM.out (by first | rfl | trivial); refine (right_meta (hm.later HG1.out)).mono ?_; rintro e w2 ⟨B, rfl, g, hr⟩; have HRT := Lib.hid (HRT.out.later g); obtain ⟨m0, m1, m2, m3, m4, m5, m6⟩ := mt_cells HRT.out.box; have HMS := Lib.hid ((hm.later HG1.out).later g); have HRX := Lib.hid hr; clear g hr hm; cases B))
  all_goals first | (go_ret; exact ⟨rfl, HRT.out.below⟩) | skip
  have HX : Hid (RightX T S) := (HRX.out (by first | rfl | trivial)).1
  have HLL := Lib.hid (all_ok HMS.out.hT HMS.out.hS HX.out (by have := HMS.out.hsn; omega))
  obtain ⟨LN, hLN⟩ : ∃ LN : Nat, Hid (LN = 65536) := ⟨65536, rfl⟩
  have HOF : Hid (Calls Try.prog 15 #[.agg #[.int .i64 mc0, .int .i64 ms0, .string mb0, .slice ta0 tn0 tc0, .slice sa0 sn0 sc0, .slice ba0 bn0 bc0, .slice ca0 cn0 cc0], .int .i64 65536] w2 fun e w' => ∃ R, e = .returned (.slice (some ⟨R, 0, none⟩) LN LN) ∧ w2.heap.size ≤ R ∧ IRow w' R LN (ofL (allLines T (S.map shT))) ∧ Below w2.heap.size w2 w') := by
    have := of_m (sc := sc0) (mc := bc0) (cc := cc0) HMS.out HX.out LN (by have := hLN.out; omega)
    rw [show ((LN : Nat) : Int) = 65536 by have := hLN.out; omega] at this
    exact this
  go_wp2_with (go_at_call 15; refine HOF.out.mono ?_; rintro e w3 ⟨R1, rfl, hR1, hrow1, g⟩; have HRT := Lib.hid (HRT.out.later g); have HMS := Lib.hid (HMS.out.later g); have HW1 := Lib.hid hrow1; clear g hrow1)
  have HEA := Lib.hid (fun (w : World) (h : MetaS w mc0 ms0 mb0 ta0 tn0 tc0 sa0 sn0 ba0 bn0 ca0 cn0 T S gm f) => each_m (sc := sc0) (mc := bc0) (cc := cc0) h HX.out)
  have HLEN := Lib.hid (lines_max HMS.out HX.out)
  have HSA := Lib.hid (fun n hn => sums_all' n hn HLL.out)
  have HWB := Lib.hid (fun n => wantTo_bound HLL.out n)
  have HFB := Lib.hid (fun j => ofL_bound _ HLEN.out j)
  obtain ⟨LL, hLL⟩ := named (allLines T (S.map shT))
  rw [hLL.out] at HW1 HEA HSA HWB HFB HLEN
  obtain ⟨F, hF⟩ := named (ofL LL)
  rw [hF.out] at HW1 HSA HFB
  have H2 : Hid ((2 : Int) = wantTo LL 0) := by show (2 : Int) = _; unfold wantTo; simp
  go_loopw [3, 6] (fun sm i wr => ∃ j : Nat, j ≤ LN ∧ sm = .int .i64 (sumTo F j) ∧ i = .int .i64 j ∧ Hid (RtS w wr (mtC mc0 ms0 mb0 ta0 tn0 tc0 sa0 sn0 sc0 (.slice ba0 bn0 bc0) (.slice ca0 cn0 cc0))) ∧ Hid (MetaS wr mc0 ms0 mb0 ta0 tn0 tc0 sa0 sn0 ba0 bn0 ca0 cn0 T S gm f) ∧ Hid (IRow wr R1 LN F)) (fun _ i _ => LN - (intOf i).toNat)
  case atStart => exact ⟨0, Nat.zero_le _, rfl, rfl, HRT.out, HMS.out, HW1.out⟩
  case round =>
    obtain ⟨j, hj, rfl, rfl, HRT, HMS, HW1⟩ := hrel
    obtain ⟨m0, m1, m2, m3, m4, m5, m6⟩ := mt_cells HRT.out.box
    have hm0 := HRT.out.box.lt
    have hjL : j ≤ 65536 := by have := hLN.out; omega
    by_cases hlt : j < LN
    · have x0 := HW1.out.cell hlt
      have hb := HFB.out j
      have hs := sumTo_bound j HFB.out
      have HS1 : Hid (sumTo F (j + 1) = sumTo F j + F j) := rfl
      obtain ⟨s1, hs1⟩ := named (sumTo F j)
      obtain ⟨v1, hv1⟩ := named (F j)
      rw [hs1.out] at hs HS1 ⊢
      rw [hv1.out] at x0 hb HS1
      have e1 : IntKind.i64.wrap (s1 + v1) = s1 + v1 := by rw [IntKind.wrap_i64] <;> omega
      go_wp2
      go_roundw
      case rel => exact ⟨j + 1, by omega, by rw [HS1.out], by go_num, HRT.out, HMS.out, HW1.out⟩
      case measure => simp [intOf]; omega
    · have hj6 : j = 65536 := by have := hLN.out; omega
      have hjn : decide ((j : Int) < LN) = false := decide_eq_false (by omega)
      have hln : ((LN : Int) == 65536) = true := by have := hLN.out; subst this; rfl
      rw [HSA.out j hj6]
      have HW65 := Lib.hid (HWB.out LL.length (Nat.le_refl _))
      go_wp2_with (go_at_call 18; refine (HEA.out _ HMS.out).mono ?_; rintro e w4 ⟨a2, N2, c2, rfl, hO2, g⟩; have HRT := Lib.hid (HRT.out.later g); have HL2 := Lib.hid (hO2.reads ln_rowed).1; have HN2 := Lib.hid hO2.2.1; clear g hO2)
      go_loopw [4, 8] (fun sm i wr => ∃ j : Nat, j ≤ N2 ∧ sm = .int .i64 (wantTo LL j) ∧ i = .int .i64 j ∧ Hid (Below w.heap.size w wr) ∧ Hid (Reads lnV wr a2 N2 LL)) (fun _ i _ => N2 - (intOf i).toNat)
      case atStart => exact ⟨0, Nat.zero_le _, by rw [← H2.out], rfl, HRT.out.below, HL2.out⟩
      case round =>
        obtain ⟨p, hp, rfl, rfl, HB, HL⟩ := hrel
        by_cases hlt : p < N2
        · obtain ⟨b1, o1, sh, cl, k, st, ct, z, m, rfl, hx, x1, x2, x3, x4, x5, x6, x7⟩ := ln_at HL.out p hlt
          have HS1 : Hid (wantTo LL (p + 1) = wantTo LL p + ct) := wantTo_succ hx
          have hn2 : LL.length = N2 := HN2.out
          have hle : LL.length ≤ 4096 * 901 := HLEN.out
          have hp9 : N2 ≤ 3690496 := by omega
          have hb := HWB.out p (by omega)
          have hb2 := HWB.out (p + 1) (by omega)
          rw [HS1.out] at hb2
          obtain ⟨s1, hs1⟩ := named (wantTo LL p)
          rw [hs1.out] at hb hb2 HS1 ⊢
          have e1 : IntKind.i64.wrap (s1 + ct) = s1 + ct := by rw [IntKind.wrap_i64] <;> omega
          clear hx hn2 hle
          go_wp2
          go_roundw
          case rel => exact ⟨p + 1, by omega, by rw [HS1.out], by go_num, HB.out, HL.out⟩
          case measure => simp [intOf]; omega
        · obtain rfl : p = N2 := by omega
          have hn2 := HN2.out
          rw [← hn2]
          obtain ⟨s1, hs1⟩ := named (wantTo LL LL.length)
          rw [hs1.out]
          clear hn2
          go_wp2_with (go_at_call 13; refine (awake0 _).mono ?_; rintro e w9 ⟨rfl, g⟩; have HB := Lib.hid (HB.out.trans (g.mono HB.out.size)); clear g)
          go_ret
          exact ⟨rfl, HB.out⟩

set_option maxRecDepth 100000 in
theorem lifted (os : Os) (started : os.Started) (H : Type) (enc : TypeId × Value → H) :
    ReturnsInHanded {} Try.checked os 6 .any (Rows.countSumsSpec.pre6 enc Try.prog Try.f6 Rows.countSumsRow.domain false) (Rows.countSumsSpec.post enc Try.prog Try.f6 false true false false) := by
  refine returnsInHanded_of_change (C := Try.checked) own started (by kernel_rfl) Try.func6
    (ChangeSpec.witness6 (enc := enc) (C := Try.checked) false ⟨#[], #[.agg #[.int .i64 0, .int .i64 0, .string ByteArray.empty, .slice none 0 0, .slice none 0 0, .slice none 0 0, .slice none 0 0]], []⟩ 8 (by kernel_rfl) (by kernel_rfl) (by kernel_rfl) (by kernel_rfl)) ?_
  intro W base args ds gs before hval0 hW hcnd _
  have hval : ∀ (j : Nat) t v, Try.f6.params[j]? = some t → args[j]? = some v → Value.okWide Try.prog W .any base t v := hval0
  have hW' := hW
  obtain ⟨p, q, hA0, hV, rfl, hfz, hnd⟩ := hW
  have hA : DataW.TrodAll enc Try.prog W 0 (fun _ => true) true Try.f6.params.toList args.toList ds p := hA0
  rw [Try.params6] at hA hval
  obtain ⟨v0, vs0, d0, ds0, p0, q0, hargs, rfl, rfl, h0, r0⟩ := trodAll_cons hA
  obtain ⟨rfl, rfl, rfl⟩ := trodAll_nil r0
  obtain rfl : args = #[v0] := by cases args; simp_all
  obtain ⟨rfl, rfl⟩ := trodVars_none hV
  have k0 := h0
  have lt0 : ∀ x ∈ p0, x.block < W.heap.size := by obtain ⟨m, hm⟩ := k0; exact DataW.trod_lt m _ _ _ hm
  obtain ⟨mc0, ms0, mb0, ta0, tn0, tc0, sa0, sn0, sc0, ba0, bn0, bc0, ca0, cn0, cc0, rfl, w0⟩ := meta_open (hval 0 29 v0 rfl rfl) h0
  clear hA0 hval0
  refine (walk mc0 ms0 mb0 ta0 tn0 tc0 sa0 sn0 sc0 ba0 bn0 bc0 ca0 cn0 cc0 W w0).mono fun e W' ⟨he, bel⟩ => ?_
  subst he
  exact ⟨_, rfl, _, _, _, [], _, [], hW', trodAll_mk1 (shut_bool Try.underlying4 _), (trodAll_cons_mk (Below.trod laidOut (by kernel_rfl) (of_decide_eq_true (by kernel_rfl)) k0 bel lt0) trodAll_mk0), rfl, bel.frame _, fun h => by cases h⟩

theorem over : Rows.countSumsRow.holds Try.pinned (OpenSpec.ofChange Rows.countSumsSpec) :=
  OpenClaim.holds_of_wide 6 Try.f6 rfl rfl rfl rfl rfl rfl rfl ⟨rfl, rfl, rfl, rfl, rfl⟩ rfl rfl rfl rfl rfl (by kernel_rfl) Try.func6 (by kernel_rfl)
    (of_decide_eq_true (by kernel_rfl)) (by unfold Func.isWrapper; first | (rw [if_pos (by decide +kernel)]; kernel_rfl) | (rw [if_neg (by decide +kernel)]; exact ⟨rfl, rfl⟩))
    (fun os started H enc _ => lifted os started H enc)

/-- The statement. -/
theorem proved : Rows.CountSumsSaid := over
#print axioms proved
end Go.Proofs.Ytidknkhkblloaaa.countSums
