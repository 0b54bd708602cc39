/-
  Proved: 'matryoshkalaw10.LruCopies' returns true for every input (any acts, any more), and each argument reads afterwards as before: the statement LruCopiesSaid as given. Conditions: none beyond the row's own.
-/
import Derived.Test.YthmkmhfoicfapaaRows
import Derived.Test.YthmkmhfoicfapaaRs
import Derived.WalkKit
import Derived.ProofKit
import Derived.OpenShut
import Derived.ShutString
import Derived.ChangeOld
import Derived.Below
namespace Go.Proofs.Ythmkmhfoicfapaa.lruCopies
open Go.ChangeShapes Go.WideShapes Go.ChangeAt Go.RowKit
open Go.ChangeMaps (open_string shut_string)
set_option linter.unusedVariables false

theorem own : ownKnob Try.prog.godebug = none := by kernel_rfl
theorem laidOut : laidOutB Try.prog = true := by kernel_rfl

set_option maxRecDepth 100000 in
set_option maxHeartbeats 4000000 in
theorem walk (a0 : Option Addr) (len0 cap0 : Nat) (z0 : Nat → AcA) (a1 : Option Addr) (len1 cap1 : Nat) (z1 : Nat → AcA) (w : World) (w0 : ActsIn w a0 len0 z0) (w1 : ActsIn w a1 len1 z1) :
    Calls Try.prog 6 #[.slice a0 len0 cap0, .slice a1 len1 cap1] w fun e w' => e = .returned (.bool true) ∧ Below w.heap.size w w' := by
  have HW := Lib.hid w0
  have HV := Lib.hid w1
  have HH0 := Lib.hid (heavy_any cap0 w0 (Below.refl _ _))
  have HH1 := Lib.hid (heavy_any cap1 w1 (Below.refl _ _))
  unfold HeavyQ at HH0 HH1
  have HN1 := Lib.hid (fun w => new_ok 6 w (by decide) (by decide))
  have HN2 := Lib.hid (fun w => rNew_ok 6 w (by decide) (by decide))
  unfold NewOk at HN1
  clear w0 w1
  go_enter Try.func6, Try.ntmps6
  go_wp2_with (first
    | (go_at_call 10; (with_reducible refine HH0.out.mono ?_); rintro e w1 ⟨hx, hww⟩; obtain rfl := hww.symm; clear hww HH0; rcases hx with rfl | ⟨rfl, hn0, hs0⟩)
    | (go_at_call 10; (with_reducible refine HH1.out.mono ?_); rintro e w1 ⟨hx, hww⟩; obtain rfl := hww.symm; clear hww HH1; rcases hx with rfl | ⟨rfl, hn1, hs1⟩)
    | (go_at_call 11; refine (awake_any _).mono ?_; rintro e w2 ⟨rfl, hb⟩; have HB := Lib.hid hb; clear hb)
    | (go_at_call 12; refine (HN1.out _).mono ?_; rintro e w2 ⟨p, S, rfl, g1⟩; have HX1 := Lib.hid g1; clear g1)
    | (go_at_call 14; refine (num_any 0 _).mono ?_; rintro e w' ⟨rfl, hww⟩; obtain rfl := hww.symm; clear hww)
    | (go_at_call 13; obtain ⟨R, hR⟩ := named w2.heap.size; refine (HN2.out w2).mono ?_; rw [hR.out]; rintro e w3 ⟨rfl, hww⟩; have hD := bo_new HX1.out (by decide); rw [← hww, hR.out] at hD; have HD := Lib.hid hD; clear hww hR hD))
  · go_ret
    exact ⟨rfl, HB.out⟩
  · go_ret
    exact ⟨rfl, HB.out⟩
  · have HS0 := Lib.hid hs0
    have HS1 := Lib.hid hs1
    clear hs0 hs1
    go_loopw [9] (fun i wr => ∃ (j : Nat) (C : Lru) (D : RC) (S' : Nat → Prop), j ≤ len0 ∧ i = .int .i64 j ∧ Hid (Tw w p R j C D S' wr)) (fun i _ => len0 - (intOf i).toNat)
    case atStart => exact ⟨0, _, _, _, Nat.zero_le _, rfl, ⟨HD.out.choose_spec, sim_new _, Nat.zero_le _, Nat.zero_le _⟩⟩
    case round =>
      obtain ⟨j, C, D, S', hj, rfl, HDU⟩ := hrel
      clear HD
      by_cases hlt : j < len0
      · obtain ⟨hba, hkr⟩ := HW.out.bytes j hlt
        have hnil := hba.nil
        obtain ⟨l, hl⟩ := hba.bytes (by have := HS0.out j hlt; omega)
        have hs2 := HS0.out j hlt
        obtain ⟨b, off, rfl, e0, e1, e2, e3, e4⟩ := HW.out.at HDU.out.bo.below j hlt
        obtain ⟨⟨d', k', f', ⟨aj, lj, cj⟩, dd'⟩, hG⟩ : ∃ qq, Hid (z0 j = qq) := ⟨_, rfl⟩
        rw [hG.out] at e0 e1 e2 e3 e4 hl hnil hs2 hkr
        dsimp only at e0 e1 e2 e3 e4 hl hnil hs2 hkr
        have HACT := Lib.hid (act_any HDU.out (by omega) cj hl hnil hs2 k' hkr f' dd' d')
        unfold ActQ at HACT
        clear hl hba hnil hs2 hkr
        go_wp2_with (go_at_call 15; refine HACT.out.mono ?_; rintro e w3 ⟨rfl, C3, D3, S3, g1, g2⟩; have HD3 := Lib.hid g1; clear g1 g2)
        go_roundw
        case rel => exact ⟨j + 1, C3, D3, S3, by omega, by go_num, HD3.out⟩
        case measure => simp [intOf]; omega
      · obtain rfl : j = len0 := by omega
        go_wp2_with (first
          | (go_at_call 23; refine (copyBoth HDU.out).mono ?_; rintro e w5 ⟨p2, rfl, g1⟩; have HCR := Lib.hid g1; clear g1)
          | (go_at_call 24; refine HCR.out.mono ?_; rintro e w6 ⟨R2, rfl, g1⟩; have HQ := Lib.hid g1; clear g1 HCR))
        have HJ8 : Hid (j ≤ 80) := hn0
        clear HDU
        go_loopw [12] (fun i wr => ∃ (q : Nat) (C2 : Lru) (D2 : RC), q ≤ len1 ∧ i = .int .i64 q ∧ Hid (Qd w p R j C D S' p2 R2 (j + q) C2 D2 wr)) (fun i _ => len1 - (intOf i).toNat)
        case atStart => exact ⟨0, C, D, Nat.zero_le _, rfl, HQ.out⟩
        case round =>
          obtain ⟨q, C2, D2, hq, rfl, HQQ⟩ := hrel
          clear HQ
          by_cases hlt2 : q < len1
          · obtain ⟨T, hT1, hT2⟩ := HQQ.out.more
            have HT1 := Lib.hid hT1
            have HT2 := Lib.hid hT2
            clear hT1 hT2
            obtain ⟨hba, hkr⟩ := HV.out.bytes q hlt2
            have hnil := hba.nil
            obtain ⟨l, hl⟩ := hba.bytes (by have := HS1.out q hlt2; omega)
            have hs2 := HS1.out q hlt2
            obtain ⟨b, off, rfl, e0, e1, e2, e3, e4⟩ := HV.out.at HT1.out.bo.below q hlt2
            obtain ⟨⟨d', k', f', ⟨aj, lj, cj⟩, dd'⟩, hG⟩ : ∃ qq, Hid (z1 q = qq) := ⟨_, rfl⟩
            rw [hG.out] at e0 e1 e2 e3 e4 hl hnil hs2 hkr
            dsimp only at e0 e1 e2 e3 e4 hl hnil hs2 hkr
            have HACT := Lib.hid (act_any HT1.out (by have := HJ8.out; omega) cj hl hnil hs2 k' hkr f' dd' d')
            unfold ActQ at HACT
            clear hl hba hnil hs2 hkr
            go_wp2_with (go_at_call 15; refine HACT.out.mono ?_; rintro e w3 ⟨rfl, C3, D3, S3, g1, g2⟩; have HD3 := Lib.hid (Qd.step HQQ.out.two HT1.out HT2.out g1 g2); clear g1 g2)
            go_roundw
            case rel => exact ⟨q + 1, C3, D3, by omega, by go_num, HD3.out⟩
            case measure => simp [intOf]; omega
          · have HT0 : Hid (Tw w p R (j + 0) C D S' wr) := HQQ.out.two
            clear HQQ
            go_wp2
            go_loopw [13] (fun i wr => ∃ (k : Nat) (C2 : Lru) (D2 : RC) (S2 : Nat → Prop), k ≤ 8 ∧ i = .int .i64 k ∧ Hid (Tw w p R (j + k) C2 D2 S2 wr)) (fun i _ => 8 - (intOf i).toNat)
            case atStart => exact ⟨0, C, D, S', Nat.zero_le _, rfl, HT0.out⟩
            case round =>
              obtain ⟨k, C2, D2, S2, hk, rfl, HT⟩ := hrel
              clear HT0
              by_cases hlt3 : k < 8
              · have HOK : Hid C2.Ok := HT.out.bo.ok
                have HGB := Lib.hid (getB1 HT.out.bo (k : Int) (by have h1 := HT.out.uses; have h2 := HJ8.out; omega))
                have HGR : Hid (∀ W S, Bo w p R (C2.get k).2.2 D2 S W → ∃ D', Sim (C2.get k).2.2 D' ∧ D'.rels.length ≤ D2.rels.length ∧ Calls Try.prog 25 #[.pointer (some ⟨R, 0, none⟩), .int .i64 k] W fun e w' => ∃ v, e = .returned v ∧ ∃ S', Bo w p R (C2.get k).2.2 D' S' w') := fun W S h => getR1 h HT.out.sim HOK.out k
                have HU := Lib.hid (get_uses C2 k)
                obtain ⟨C4, hC4⟩ := named (C2.get k).2.2
                obtain ⟨bt, hbt⟩ := named (C2.get k).2.1
                rw [hC4.out, hbt.out] at HGB
                rw [hC4.out] at HGR HU
                clear hC4 hbt
                have HLO : Hid (w.heap.size ≤ wr.heap.size) := HT.out.bo.below.size
                go_wp2_with (go_at_call 20; refine HGB.out.mono ?_; rintro e w7 ⟨a, n, c, l, rfl, g1, hn8, S4, g2, g3⟩; have HO := Lib.hid g1; have HB4 := Lib.hid g2; have HNB : Hid (∀ j, (Value.slice a n c).ownBlock = some j → ¬ S4 j ∧ w.heap.size ≤ j) := Lib.hid (fun j hj => ⟨g3 j hj, Nat.le_trans HLO.out (g1.1.lt j hj).1⟩); clear g1 g2 g3)
                obtain ⟨base, hbase⟩ : ∃ b, Hid (Own w7 b (.slice a n c) n l) := ⟨_, HO.out⟩
                clear HO
                go_loopw [16] (fun i wr => ∃ (q2 : Nat) (l2 : List Int), q2 ≤ n ∧ i = .int .i64 q2 ∧ Hid (Bo w p R C4 D2 S4 wr) ∧ Hid (Own wr base (.slice a n c) n l2)) (fun i _ => n - (intOf i).toNat)
                case atStart => exact ⟨0, l, Nat.zero_le _, rfl, HB4.out, hbase.out⟩
                case round =>
                  obtain ⟨q2, l2, hq2, rfl, HBB, HOO⟩ := hrel
                  clear HB4 hbase
                  by_cases hlt4 : q2 < n
                  · obtain ⟨g, rfl, hg1, hg2⟩ := HOO.out.lies (by omega)
                    have cq := HOO.out.cell q2 hlt4
                    have fq := HOO.out.free q2
                    have HO2 := Lib.hid (HOO.out.put q2 255 (by decide))
                    have HB2 := Lib.hid (HBB.out.set (HNB.out g rfl).1 (HNB.out g rfl).2 q2 (.int .u8 255))
                    go_wp2
                    go_roundw
                    case rel => exact ⟨q2 + 1, _, by omega, by go_num, HB2.out, HO2.out⟩
                    case measure => simp [intOf]; omega
                  · obtain ⟨D5, s1, s2, hcall⟩ := HGR.out _ _ HBB.out
                    have HCL := Lib.hid hcall
                    have HS5 := Lib.hid s1
                    have HF5 := Lib.hid s2
                    clear hcall s1 s2
                    go_wp2_with (go_at_call 25; refine HCL.out.mono ?_; rintro e w8 ⟨v, rfl, S5, g1⟩; have HB5 := Lib.hid g1; clear g1)
                    go_roundw
                    case rel => exact ⟨k + 1, C4, D5, S5, by omega, by go_num, ⟨HB5.out, HS5.out, by have h1 := HT.out.few; have h2 := HF5.out; omega, by have h1 := HT.out.uses; have h2 := HU.out; omega⟩⟩
                    case measure => simp [intOf]; omega
              · have HK8 : Hid (k = 8) := (by omega : k = 8)
                have HT8 : Hid (Tw w p R ((j + 8) + 0) C2 D2 S2 wr) := by have h1 := HT.out; rw [HK8.out] at h1; exact h1
                clear HT
                go_wp2
                go_loopw [17] (fun i wr => ∃ (q3 : Nat) (C5 : Lru) (D5 : RC) (S5 : Nat → Prop), q3 ≤ len1 ∧ i = .int .i64 q3 ∧ Hid (Tw w p R ((j + 8) + q3) C5 D5 S5 wr)) (fun i _ => len1 - (intOf i).toNat)
                case atStart => exact ⟨0, C2, D2, S2, Nat.zero_le _, rfl, HT8.out⟩
                case round =>
                  obtain ⟨q3, C5, D5, S5, hq3, rfl, HTT⟩ := hrel
                  clear HT8
                  by_cases hlt5 : q3 < len1
                  · obtain ⟨hba, hkr⟩ := HV.out.bytes q3 hlt5
                    have hnil := hba.nil
                    obtain ⟨l, hl⟩ := hba.bytes (by have := HS1.out q3 hlt5; omega)
                    have hs2 := HS1.out q3 hlt5
                    obtain ⟨b, off, rfl, e0, e1, e2, e3, e4⟩ := HV.out.at HTT.out.bo.below q3 hlt5
                    obtain ⟨⟨d', k', f', ⟨aj, lj, cj⟩, dd'⟩, hG⟩ : ∃ qq, Hid (z1 q3 = qq) := ⟨_, rfl⟩
                    rw [hG.out] at e0 e1 e2 e3 e4 hl hnil hs2 hkr
                    dsimp only at e0 e1 e2 e3 e4 hl hnil hs2 hkr
                    have HACT := Lib.hid (act_any HTT.out (by have := HJ8.out; omega) cj hl hnil hs2 k' hkr f' dd' d')
                    unfold ActQ at HACT
                    clear hl hba hnil hs2 hkr
                    go_wp2_with (go_at_call 15; refine HACT.out.mono ?_; rintro e w3 ⟨rfl, C3, D3, S3, g1, g2⟩; have HD3 := Lib.hid g1; clear g1 g2)
                    go_roundw
                    case rel => exact ⟨q3 + 1, C3, D3, S3, by omega, by go_num, HD3.out⟩
                    case measure => simp [intOf]; omega
                  · go_wp2_with (go_at_call 11; refine (awake_any _).mono ?_; rintro e w2 ⟨rfl, hb⟩; have HB := Lib.hid hb; clear hb)
                    go_ret
                    exact ⟨rfl, HTT.out.bo.below.trans (HB.out.mono HTT.out.bo.below.size)⟩

set_option maxRecDepth 100000 in
theorem lifted (os : Os) (started : os.Started) (H : Type) (enc : TypeId × Value → H) :
    ReturnsInHanded {} Try.checked os 6 .any (Rows.lruCopiesSpec.pre6 enc Try.prog Try.f6 Rows.lruCopiesRow.domain false) (Rows.lruCopiesSpec.post enc Try.prog Try.f6 false true false false) := by
  refine returnsInHanded_of_change (C := Try.checked) own started (by kernel_rfl) Try.func6
    (ChangeSpec.witness6 (enc := enc) (C := Try.checked) false ⟨#[], #[.slice none 0 0, .slice none 0 0], []⟩ 8 (by kernel_rfl) (by kernel_rfl) (by kernel_rfl) (by kernel_rfl)) ?_
  intro W base args ds gs before hval0 hW hcnd _
  have hval : ∀ (j : Nat) t v, Try.f6.params[j]? = some t → args[j]? = some v → Value.okWide Try.prog W .any base t v := hval0
  have hW' := hW
  obtain ⟨p, q, hA0, hV, rfl, hfz, hnd⟩ := hW
  have hA : DataW.TrodAll enc Try.prog W 0 (fun _ => true) true Try.f6.params.toList args.toList ds p := hA0
  rw [Try.params6] at hA hval
  obtain ⟨v0, vs0, d0, ds0, p0, q0, hargs, rfl, rfl, h0, r0⟩ := trodAll_cons hA
  obtain ⟨v1, vs1, d1, ds1, p1, q1, rfl, rfl, rfl, h1, r1⟩ := trodAll_cons r0
  obtain ⟨rfl, rfl, rfl⟩ := trodAll_nil r1
  obtain rfl : args = #[v0, v1] := by cases args; simp_all
  obtain ⟨rfl, rfl⟩ := trodVars_none hV
  have k0 := h0
  have lt0 : ∀ x ∈ p0, x.block < W.heap.size := by obtain ⟨m, hm⟩ := k0; exact DataW.trod_lt m _ _ _ hm
  obtain ⟨a0, len0, cap0, rfl⟩ := okWide_slice Try.underlying22 (hval 0 22 v0 rfl rfl)
  obtain ⟨z0, w0⟩ := acts_open h0
  have k1 := h1
  have lt1 : ∀ x ∈ p1, x.block < W.heap.size := by obtain ⟨m, hm⟩ := k1; exact DataW.trod_lt m _ _ _ hm
  obtain ⟨a1, len1, cap1, rfl⟩ := okWide_slice Try.underlying22 (hval 1 22 v1 rfl rfl)
  obtain ⟨z1, w1⟩ := acts_open h1
  clear hA0 hval0
  refine (walk a0 len0 cap0 z0 a1 len1 cap1 z1 W w0 w1).mono fun e W' ⟨he, bel⟩ => ?_
  subst he
  exact ⟨_, rfl, _, _, _, [], _, [], hW', trodAll_mk1 (shut_bool Try.underlying4 _), (trodAll_cons_mk (Below.trod laidOut (by kernel_rfl) (of_decide_eq_true (by kernel_rfl)) k0 bel lt0) (trodAll_cons_mk (Below.trod laidOut (by kernel_rfl) (of_decide_eq_true (by kernel_rfl)) k1 bel lt1) trodAll_mk0)), rfl, bel.frame _, fun h => by cases h⟩

theorem over : Rows.lruCopiesRow.holds Try.pinned (OpenSpec.ofChange Rows.lruCopiesSpec) :=
  OpenClaim.holds_of_wide 6 Try.f6 rfl rfl rfl rfl rfl rfl rfl ⟨rfl, rfl, rfl, rfl, rfl⟩ rfl rfl rfl rfl rfl (by kernel_rfl) Try.func6 (by kernel_rfl)
    (of_decide_eq_true (by kernel_rfl)) (by unfold Func.isWrapper; first | (rw [if_pos (by decide +kernel)]; kernel_rfl) | (rw [if_neg (by decide +kernel)]; exact ⟨rfl, rfl⟩))
    (fun os started H enc _ => lifted os started H enc)

/-- The statement. -/
theorem proved : Rows.LruCopiesSaid := over
#print axioms proved
end Go.Proofs.Ythmkmhfoicfapaa.lruCopies
