/-
  Proved: 'matryoshkalaw4.SpanCounts' returns true for every input, and each argument reads afterwards as before: the statement SpanCountsSaid as given. Conditions: none beyond the row's own.
-/
import Derived.Test.YtdnkldcmefcmbaaRows
import Derived.Test.YtdnkldcmefcmbaaO4
import Derived.WalkKit
import Derived.ProofKit
import Derived.OpenShut
import Derived.ShutString
import Derived.ChangeOld
import Derived.Below
namespace Go.Proofs.Ytdnkldcmefcmbaa.spanCounts
open Go.ChangeShapes Go.WideShapes Go.ChangeAt Go.RowKit
open Go.ChangeMaps (open_string shut_string)
set_option linter.unusedVariables false

theorem own : ownKnob Try.prog.godebug = none := by kernel_rfl
theorem laidOut : laidOutB Try.prog = true := by kernel_rfl

/-- A slice of integers that came in: nil, or a row of cells. -/
def IsRow (k : IntKind) (w : World) (a : Option Addr) (len cap : Nat) (zs : List Int) : Prop :=
  (a = none ∧ len = 0 ∧ cap = 0 ∧ zs = []) ∨
  ∃ x, a = some x ∧ len ≤ cap ∧ cap ≤ maxLen ∧ zs.length = cap ∧ (∀ i, i < zs.length → w.cell? (x.add i) = some (.int k (zs.getD i 0))) ∧ ∀ n ∈ zs, (Lit.int k n).wf = true

set_option maxRecDepth 20000 in
set_option maxHeartbeats 4000000 in
theorem walk (a0 : Option Addr) (len0 cap0 : Nat) (z0 : List Int) (a1 : Option Addr) (len1 cap1 : Nat) (z1 : List Int) (w : World) (w0 : IsRow .u16 w a0 len0 cap0 z0) (w1 : IsRow .u16 w a1 len1 cap1 z1) :
    Calls Try.prog 8 #[.slice a0 len0 cap0, .slice a1 len1 cap1] w fun e w' => e = .returned (.bool true) ∧ Below w.heap.size w w' := by
  obtain ⟨g, hgw, hgc, _, _⟩ := ints_arg w0
  obtain ⟨g2, hgw2, hgc2, _, _⟩ := ints_arg w1
  have hlm : len0 ≤ 9223372036854775807 := by
    rcases w0 with ⟨_, h, _, _⟩ | ⟨_, _, h1, h2, _⟩
    · omega
    · unfold maxLen at h2
      omega
  have hlm2 : len1 ≤ 9223372036854775807 := by
    rcases w1 with ⟨_, h, _, _⟩ | ⟨_, _, h1, h2, _⟩
    · omega
    · unfold maxLen at h2
      omega
  obtain ⟨K0, hK0, hM⟩ := made_later a0 len0 cap0 g w hgw hlm hgc
  obtain ⟨K1, hK1, hM2⟩ := made_later a1 len1 cap1 g2 w hgw2 hlm2 hgc2
  have HM := Lib.hid hM
  have HM2 := Lib.hid hM2
  have hml := madeTo_len g K0
  have hml2 := madeTo_len g2 K1
  have RX := madeTo_right g K0
  have RY := madeTo_right g2 K1
  have loX := madeTo_low g K0
  have loY := madeTo_low g2 K1
  obtain ⟨X, HX⟩ := named (madeTo g K0)
  obtain ⟨Y, HY⟩ := named (madeTo g2 K1)
  rw [HX.out] at HM hml RX loX
  rw [HY.out] at HM2 hml2 RY loY
  obtain ⟨n, HN⟩ := named X.length
  obtain ⟨m, HNM⟩ := named Y.length
  rw [HN.out] at hml
  rw [HNM.out] at hml2
  have hn : n ≤ 30 := by omega
  have hm : m ≤ 30 := by omega
  have RA : Hid (∀ k, Rt (-1) (addTo4 X Y k)) := addTo4_right RX Y
  have RS : Hid (∀ k, Rt (-1) (subTo4 X Y k)) := subTo4_right RX Y
  have LA : Hid (∀ k, k ≤ m → (addTo4 X Y k).length ≤ 231) := fun k hk => by
    have := rt_len _ (RA.out k) 230 (by omega) (fun q hq => by
      rcases (addTo4_has RX RY k (by rw [HNM.out]; exact hk) q).1 ((hasB_iff _ _).2 hq) with h | h
      · exact loX q ((hasB_iff _ _).1 h)
      · obtain ⟨x, hx, h2⟩ := (hasB_iff _ _).1 h
        exact loY q ⟨x, List.mem_of_mem_take hx, h2⟩)
    omega
  have LS : Hid (∀ k, k ≤ m → (subTo4 X Y k).length ≤ 231) := fun k hk => by
    have := rt_len _ (RS.out k) 230 (by omega) (fun q hq => loX q ((hasB_iff _ _).1 ((subTo4_has RX RY k (by rw [HNM.out]; exact hk) q).1 ((hasB_iff _ _).2 hq)).1))
    omega
  have hA := addTo4_has RX RY m (by rw [HNM.out]; exact Nat.le_refl _)
  have hS := subTo4_has RX RY m (by rw [HNM.out]; exact Nat.le_refl _)
  rw [← HNM.out, List.take_length, HNM.out] at hA hS
  have eX := cnt_sum X RX (by omega) 300 (fun q hq => by have := loX q hq; omega)
  have eY := cnt_sum Y RY (by omega) 300 (fun q hq => by have := loY q hq; omega)
  have eA := cnt_sum _ (RA.out m) (by omega) 300 (fun q hq => by
    rcases (hA q).1 ((hasB_iff _ _).2 hq) with h | h
    · have := loX q ((hasB_iff _ _).1 h); omega
    · have := loY q ((hasB_iff _ _).1 h); omega)
  have eS := cnt_sum _ (RS.out m) (by omega) 300 (fun q hq => by have := loX q ((hasB_iff _ _).1 ((hS q).1 ((hasB_iff _ _).2 hq)).1); omega)
  have e2 := cnt_two hA hS 300
  have eb := both_le X Y 300
  have e3 := cnt_le X 300
  have e4 := cnt_le Y 300
  have EE : Hid (sumL (addTo4 X Y m) = sumL X + sumL Y - (both X Y 300 : Int) ∧ sumL (subTo4 X Y m) = sumL X - (both X Y 300 : Int) ∧ 0 ≤ sumL X ∧ sumL X ≤ 300 ∧ 0 ≤ sumL Y ∧ sumL Y ≤ 300 ∧ (both X Y 300 : Int) ≤ sumL X) := by rw [Hid]; omega
  have QX := Lib.hid RX
  have QY := Lib.hid RY
  have H00 : Hid (Held w [] [] w) := ⟨Below.refl _ _, fun p hp => (by cases hp), fun q hq => (by cases hq)⟩
  clear w0 w1 hgw hgc hgw2 hgc2 hlm hlm2 hM hM2 RX RY loX loY hA hS eX eY eA eS e2 eb e3 e4 hml hml2
  go_enter Try.func8, Try.ntmps8
  go_wp2_with (first
    | (go_at_call 27; (with_reducible refine (Held.made HN.out (HM.out _ (Below.refl _ _)) H00.out).mono ?_); rintro e w1 ⟨x1, c1, rfl, hx1, hn1, hb1, hh⟩; have HN1 := Lib.hid hn1; have HE1 := Lib.hid (hh.more hx1); have HB1 := Lib.hid hb1; clear hx1 hn1 hh hb1)
    | (go_at_call 27; (with_reducible refine (Held.made HNM.out (HM2.out _ HB1.out) HE1.out).mono ?_); rintro e w2 ⟨x2, c2, rfl, hx2, hn2, _, hh⟩; have HN2 := Lib.hid hn2; have HE2 := Lib.hid (hh.more hx2); clear hx2 hn2 hh))
  go_loopw [7, 8, 9] (fun bo re i wr => ∃ (k KB cB KS cS : Nat) (xb xs : Option Addr), k ≤ m ∧ i = .int .i64 k ∧ bo = .slice xb KB cB ∧ re = .slice xs KS cS ∧ Hid ((addTo4 X Y k).length = KB) ∧ Hid ((subTo4 X Y k).length = KS) ∧ Hid ((xb = none → cB = 0) ∧ KB ≤ cB) ∧ Hid ((xs = none → cS = 0) ∧ KS ≤ cS) ∧ Hid (Held w [] [(xs, subTo4 X Y k), (xb, addTo4 X Y k), (x2, Y), (x1, X)] wr)) (fun _ _ i _ => m - (intOf i).toNat)
  case atStart => exact ⟨0, n, c1, n, c1, x1, x1, Nat.zero_le _, rfl, rfl, rfl, HN.out, HN.out, HN1.out, HN1.out, Held.sub HE2.out (fun q hq => by
    rw [addTo4, subTo4] at hq
    simp only [List.mem_cons, List.not_mem_nil, or_false] at hq
    rcases hq with rfl | rfl | rfl | rfl <;> simp)⟩
  case round =>
    obtain ⟨k, KB, cB, KS, cS, xb, xs, hk, rfl, rfl, rfl, HKB, HKS, HNB, HNS, HE⟩ := hrel
    clear HE2 HE1 HB1 HM HM2 H00
    by_cases hlt : k < m
    · obtain ⟨b, off, rfl⟩ := (Held.spans HE.out (x := x2) (by simp) HNM.out).lies (by omega)
      have hmay := (mayB_iff _).1 (QY.out.may (by omega) k (by rw [HNM.out]; exact hlt))
      have hA : addTo4 X Y (k + 1) = addL (addTo4 X Y k) ((spAt Y k).1, (spAt Y k).2) := rfl
      have hS : subTo4 X Y (k + 1) = subL (subTo4 X Y k) ((spAt Y k).1, (spAt Y k).2) := rfl
      obtain ⟨F, HF⟩ := named (spAt Y k).1
      obtain ⟨T, HT⟩ := named (spAt Y k).2
      rw [HF.out, HT.out] at hmay hA hS
      have hLA := LA.out k (by omega)
      have hLS := LS.out k (by omega)
      rw [HKB.out] at hLA
      rw [HKS.out] at hLS
      obtain ⟨KB2, HKB2⟩ := named (addTo4 X Y (k + 1)).length
      obtain ⟨KS2, HKS2⟩ := named (subTo4 X Y (k + 1)).length
      have CA := Lib.hid (fun wz (h : Spans wz xb KB (addTo4 X Y k)) => spanAdd_any xb KB cB (addTo4 X Y k) F T wz h HNB.out.2 HNB.out.1 (by omega) ((RA.out k).fit (by omega)) (by unfold I64; omega) (by unfold I64; omega))
      have CS := Lib.hid (fun wz (h : Spans wz xs KS (subTo4 X Y k)) => spanSub_any xs KS cS (subTo4 X Y k) F T wz h HNS.out.2 HNS.out.1 (by omega) ((RS.out k).fit (by omega)) (by unfold I64; omega) (by unfold I64; omega))
      rw [← hA] at CA
      rw [← hS] at CS
      obtain ⟨d1, d2⟩ := Held.span (b := b) (off := off) HE.out (by simp) HNM.out hlt HF.out HT.out
      clear hA hS hmay
      go_wp2_with (first
        | (go_at_call 15; (with_reducible refine (Held.made HKB2.out (CA.out _ (Held.spans HE.out (by simp) HKB.out)) HE.out).mono ?_); rintro e wa ⟨x5, c5, rfl, hx5, hn5, _, hh⟩; have HN5 := Lib.hid hn5; have HE5 := Lib.hid (hh.more hx5); clear hx5 hn5 hh; obtain ⟨d5, d6⟩ := Held.span (b := b) (off := off) HE5.out (by simp) HNM.out hlt HF.out HT.out)
        | (go_at_call 17; (with_reducible refine (Held.made HKS2.out (CS.out _ (Held.spans HE5.out (by simp) HKS.out)) HE5.out).mono ?_); rintro e wb ⟨x6, c6, rfl, hx6, hn6, _, hh⟩; have HN6 := Lib.hid hn6; have HE6 := Lib.hid (hh.more hx6); clear hx6 hn6 hh))
      go_roundw
      case rel => exact ⟨k + 1, KB2, c5, KS2, c6, x5, x6, by omega, by go_num, rfl, rfl, HKB2.out, HKS2.out, HN5.out, HN6.out, Held.sub HE6.out (fun q hq => by
        simp only [List.mem_cons, List.not_mem_nil, or_false] at hq
        rcases hq with rfl | rfl | rfl | rfl <;> simp)⟩
      case measure => simp [intOf]; omega
    · obtain rfl : k = m := by omega
      have hLA := LA.out k (by omega)
      have hLS := LS.out k (by omega)
      rw [HKB.out] at hLA
      rw [HKS.out] at hLS
      go_wp2
      go_loopw [10, 11] (fun c i wr => ∃ j p : Nat, j ≤ 300 ∧ p ≤ j ∧ i = .int .i64 j ∧ c = .int .i64 p ∧ Hid (both X Y j = p) ∧ Hid (Held w [] [(xs, subTo4 X Y k), (xb, addTo4 X Y k), (x2, Y), (x1, X)] wr)) (fun _ i _ => 300 - (intOf i).toNat)
      case atStart => exact ⟨0, 0, by omega, by omega, rfl, rfl, rfl, HE.out⟩
      case round =>
        obtain ⟨j, p, hj, hp, rfl, rfl, HP, HEj⟩ := hrel
        clear HE
        by_cases hjl : j < 300
        · obtain ⟨bX, HBX⟩ := named (hasB X (j : Int))
          obtain ⟨bY, HBY⟩ := named (hasB Y (j : Int))
          have hst := both_step HBX.out HBY.out
          rw [HP.out] at hst
          have CX := Lib.hid (fun wz (h : Spans wz x1 n X) => has_any h QX.out HN1.out (by omega) (j := j) (by omega) HBX.out)
          have CY := Lib.hid (fun wz (h : Spans wz x2 k Y) => has_any h QY.out HN2.out (by omega) (j := j) (by omega) HBY.out)
          have HST := Lib.hid hst
          clear hst HBX HBY
          cases bX
          · go_wp2_with (go_at_call 19; (with_reducible refine (Held.val (CX.out _ (Held.spans HEj.out (by simp) HN.out)) HEj.out).mono ?_); rintro e wa ⟨rfl, hb⟩; have E1 := Lib.hid hb; clear hb)
            go_roundw
            case rel => exact ⟨j + 1, p, by omega, by omega, by go_num, rfl, by rw [Hid, HST.out]; simp, E1.out⟩
            case measure => simp [intOf]; omega
          · cases bY
            · go_wp2_with (first
                | (go_at_call 19; (with_reducible refine (Held.val (CX.out _ (Held.spans HEj.out (by simp) HN.out)) HEj.out).mono ?_); rintro e wa ⟨rfl, hb⟩; have E1 := Lib.hid hb; clear hb)
                | (go_at_call 19; (with_reducible refine (Held.val (CY.out _ (Held.spans E1.out (by simp) HNM.out)) E1.out).mono ?_); rintro e wb ⟨rfl, hb⟩; have E2 := Lib.hid hb; clear hb))
              go_roundw
              case rel => exact ⟨j + 1, p, by omega, by omega, by go_num, rfl, by rw [Hid, HST.out]; simp, E2.out⟩
              case measure => simp [intOf]; omega
            · go_wp2_with (first
                | (go_at_call 19; (with_reducible refine (Held.val (CX.out _ (Held.spans HEj.out (by simp) HN.out)) HEj.out).mono ?_); rintro e wa ⟨rfl, hb⟩; have E1 := Lib.hid hb; clear hb)
                | (go_at_call 19; (with_reducible refine (Held.val (CY.out _ (Held.spans E1.out (by simp) HNM.out)) E1.out).mono ?_); rintro e wb ⟨rfl, hb⟩; have E2 := Lib.hid hb; clear hb))
              go_roundw
              case rel => exact ⟨j + 1, p + 1, by omega, by omega, by go_num, by go_num, by rw [Hid, HST.out]; simp, E2.out⟩
              case measure => simp [intOf]; omega
        · obtain rfl : j = 300 := by omega
          obtain ⟨z1, z2, z3, z4, z5, z6, z7⟩ := EE.out
          rw [HP.out] at z1 z2 z7
          obtain ⟨sX, HSX⟩ := named (sumL X)
          obtain ⟨sY, HSY⟩ := named (sumL Y)
          rw [HSX.out] at z1 z2 z3 z4 z7
          rw [HSY.out] at z1 z5 z6
          have c1' := Lib.hid (fun wz (h : Spans wz xb KB (addTo4 X Y k)) => count_any h (RA.out k) HNB.out (by omega) z1)
          have c2' := Lib.hid (fun wz (h : Spans wz x1 n X) => count_any h QX.out HN1.out (by omega) HSX.out)
          have c3' := Lib.hid (fun wz (h : Spans wz x2 k Y) => count_any h QY.out HN2.out (by omega) HSY.out)
          have c4' := Lib.hid (fun wz (h : Spans wz xs KS (subTo4 X Y k)) => count_any h (RS.out k) HNS.out (by omega) z2)
          have c5' := Lib.hid (fun wz (h : Spans wz xb KB (addTo4 X Y k)) => right_any h (RA.out k) HNB.out (by omega))
          have c6' := Lib.hid (fun wz (h : Spans wz xs KS (subTo4 X Y k)) => right_any h (RS.out k) HNS.out (by omega))
          clear z1 z2 EE
          go_wp2_with (first
            | (go_at_call 11; refine (awake_any _).mono ?_; rintro e w15 ⟨rfl, hb⟩; have HZ := Lib.hid (E7.out.1.trans (hb.mono E7.out.1.size)); clear hb)
            | (go_at_call 21; (with_reducible refine (Held.val (c1'.out _ (Held.spans HEj.out (by simp) HKB.out)) HEj.out).mono ?_); rintro e v1 ⟨rfl, hb⟩; have E1 := Lib.hid hb; clear hb)
            | (go_at_call 21; (with_reducible refine (Held.val (c2'.out _ (Held.spans E1.out (by simp) HN.out)) E1.out).mono ?_); rintro e v2 ⟨rfl, hb⟩; have E2 := Lib.hid hb; clear hb)
            | (go_at_call 21; (with_reducible refine (Held.val (c3'.out _ (Held.spans E2.out (by simp) HNM.out)) E2.out).mono ?_); rintro e v3 ⟨rfl, hb⟩; have E3 := Lib.hid hb; clear hb)
            | (go_at_call 21; (with_reducible refine (Held.val (c4'.out _ (Held.spans E3.out (by simp) HKS.out)) E3.out).mono ?_); rintro e v4 ⟨rfl, hb⟩; have E4 := Lib.hid hb; clear hb)
            | (go_at_call 21; (with_reducible refine (Held.val (c2'.out _ (Held.spans E4.out (by simp) HN.out)) E4.out).mono ?_); rintro e v5 ⟨rfl, hb⟩; have E5 := Lib.hid hb; clear hb)
            | (go_at_call 12; (with_reducible refine (Held.val (c5'.out _ (Held.spans E5.out (by simp) HKB.out)) E5.out).mono ?_); rintro e v6 ⟨rfl, hb⟩; have E6 := Lib.hid hb; clear hb)
            | (go_at_call 12; (with_reducible refine (Held.val (c6'.out _ (Held.spans E6.out (by simp) HKS.out)) E6.out).mono ?_); rintro e v7 ⟨rfl, hb⟩; have E7 := Lib.hid hb; clear hb))
          go_ret
          exact ⟨rfl, HZ.out⟩

set_option maxRecDepth 100000 in
theorem lifted (os : Os) (started : os.Started) (H : Type) (enc : TypeId × Value → H) :
    ReturnsInHanded {} Try.checked os 8 .any (Rows.spanCountsSpec.pre6 enc Try.prog Try.f8 Rows.spanCountsRow.domain false) (Rows.spanCountsSpec.post enc Try.prog Try.f8 false true false false) := by
  refine returnsInHanded_of_change (C := Try.checked) own started (by kernel_rfl) Try.func8
    (ChangeSpec.witness6 (enc := enc) (C := Try.checked) false ⟨#[], #[.slice none 0 0, .slice none 0 0], []⟩ 8 (by kernel_rfl) (by kernel_rfl) (by kernel_rfl) (by kernel_rfl)) ?_
  intro W base args ds gs before hval0 hW hcnd _
  have hval : ∀ (j : Nat) t v, Try.f8.params[j]? = some t → args[j]? = some v → Value.okWide Try.prog W .any base t v := hval0
  have hW' := hW
  obtain ⟨p, q, hA0, hV, rfl, hfz, hnd⟩ := hW
  have hA : DataW.TrodAll enc Try.prog W 0 (fun _ => true) true Try.f8.params.toList args.toList ds p := hA0
  rw [Try.params8] at hA hval
  obtain ⟨v0, vs0, d0, ds0, p0, q0, hargs, rfl, rfl, h0, r0⟩ := trodAll_cons hA
  obtain ⟨v1, vs1, d1, ds1, p1, q1, rfl, rfl, rfl, h1, r1⟩ := trodAll_cons r0
  obtain ⟨rfl, rfl, rfl⟩ := trodAll_nil r1
  obtain rfl : args = #[v0, v1] := by cases args; simp_all
  obtain ⟨rfl, rfl⟩ := trodVars_none hV
  have k0 := h0
  have lt0 : ∀ x ∈ p0, x.block < W.heap.size := by obtain ⟨m, hm⟩ := k0; exact DataW.trod_lt m _ _ _ hm
  obtain ⟨a0, len0, cap0, rfl⟩ := okWide_slice Try.underlying41 (hval 0 41 v0 rfl rfl)
  obtain ⟨z0, w0⟩ : ∃ zs, IsRow .u16 W a0 len0 cap0 zs := by
    obtain ⟨fuel, hf⟩ := h0
    rcases open_ints Try.underlying41 Try.underlying45 (by kernel_rfl) hf with ⟨hcs, _⟩ | ⟨x, l, c, zs, hcs, _, hl, hm, hz, _, hcell, hwz⟩
    · simp [Value.cells] at hcs
      obtain ⟨rfl, rfl, rfl⟩ := hcs
      exact ⟨[], .inl ⟨rfl, rfl, rfl, rfl⟩⟩
    · simp [Value.cells] at hcs
      obtain ⟨rfl, rfl, rfl⟩ := hcs
      exact ⟨zs, .inr ⟨_, rfl, hl, hm, by simpa using hz, hcell, hwz⟩⟩
  have k1 := h1
  have lt1 : ∀ x ∈ p1, x.block < W.heap.size := by obtain ⟨m, hm⟩ := k1; exact DataW.trod_lt m _ _ _ hm
  obtain ⟨a1, len1, cap1, rfl⟩ := okWide_slice Try.underlying41 (hval 1 41 v1 rfl rfl)
  obtain ⟨z1, w1⟩ : ∃ zs, IsRow .u16 W a1 len1 cap1 zs := by
    obtain ⟨fuel, hf⟩ := h1
    rcases open_ints Try.underlying41 Try.underlying45 (by kernel_rfl) hf with ⟨hcs, _⟩ | ⟨x, l, c, zs, hcs, _, hl, hm, hz, _, hcell, hwz⟩
    · simp [Value.cells] at hcs
      obtain ⟨rfl, rfl, rfl⟩ := hcs
      exact ⟨[], .inl ⟨rfl, rfl, rfl, rfl⟩⟩
    · simp [Value.cells] at hcs
      obtain ⟨rfl, rfl, rfl⟩ := hcs
      exact ⟨zs, .inr ⟨_, rfl, hl, hm, by simpa using hz, hcell, hwz⟩⟩
  clear hA0 hval0
  refine (walk a0 len0 cap0 z0 a1 len1 cap1 z1 W w0 w1).mono fun e W' ⟨he, bel⟩ => ?_
  subst he
  exact ⟨_, rfl, _, _, _, [], _, [], hW', trodAll_mk1 (shut_bool Try.underlying4 _), (trodAll_cons_mk (Below.trod laidOut (by kernel_rfl) (of_decide_eq_true (by kernel_rfl)) k0 bel lt0) (trodAll_cons_mk (Below.trod laidOut (by kernel_rfl) (of_decide_eq_true (by kernel_rfl)) k1 bel lt1) trodAll_mk0)), rfl, bel.frame _, fun h => by cases h⟩

theorem over : Rows.spanCountsRow.holds Try.pinned (OpenSpec.ofChange Rows.spanCountsSpec) :=
  OpenClaim.holds_of_wide 8 Try.f8 rfl rfl rfl rfl rfl rfl rfl ⟨rfl, rfl, rfl, rfl, rfl⟩ rfl rfl rfl rfl rfl (by kernel_rfl) Try.func8 (by kernel_rfl)
    (of_decide_eq_true (by kernel_rfl)) (by unfold Func.isWrapper; first | (rw [if_pos (by decide +kernel)]; kernel_rfl) | (rw [if_neg (by decide +kernel)]; exact ⟨rfl, rfl⟩))
    (fun os started H enc _ => lifted os started H enc)

/-- The statement. -/
theorem proved : Rows.SpanCountsSaid := over
#print axioms proved
end Go.Proofs.Ytdnkldcmefcmbaa.spanCounts
