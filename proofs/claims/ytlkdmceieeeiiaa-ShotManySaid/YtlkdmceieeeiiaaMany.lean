/-
  Proved: 'matryoshkalaw12.ShotMany' returns true for every input: the statement ShotManySaid as given. Conditions: none beyond the row's own.
-/
import Derived.Test.YtlkdmceieeeiiaaRows
import Derived.Test.YtlkdmceieeeiiaaTb
import Derived.WalkKit
import Derived.ProofKit
import Derived.OpenShut
import Derived.ShutString
import Derived.ChangeOld
import Derived.Below
namespace Go.Proofs.Ytlkdmceieeeiiaa.shotMany
open Go.ChangeShapes Go.WideShapes Go.ChangeAt Go.RowKit
open Go.ChangeMaps (open_string shut_string)
set_option linter.unusedVariables false

theorem own : ownKnob Try.prog.godebug = none := by kernel_rfl
theorem laidOut : laidOutB Try.prog = true := by kernel_rfl

set_option maxRecDepth 100000 in
set_option maxHeartbeats 4000000 in
theorem walk (a0 : Int) (w : World) (w0 : (Lit.int .u8 a0).wf = true) :
    Calls Try.prog 6 #[.int .u8 a0] w fun e w' => e = .returned (.bool true) ∧ Below w.heap.size w w' := by
  have b0 := bounds_u8 w0
  obtain ⟨K1, hK1⟩ : ∃ K : Nat, a0 % 12 = K := ⟨(a0 % 12).toNat, by omega⟩
  have hK2 : a0.tmod 12 = K1 := by rw [Int.tmod_eq_emod_of_nonneg (by omega)]; exact hK1
  have hK3 : K1 < 12 := by omega
  obtain ⟨K, hK⟩ : ∃ K : Nat, 1 + K1 = K := ⟨_, rfl⟩
  have hKK : Hid (1 ≤ K ∧ K ≤ 12) := by show 1 ≤ K ∧ K ≤ 12; omega
  have hK12 : K ≤ 12 := hKK.out.2
  have hK5 : (1 : Int) + K1 = K := by omega
  have HNU := Lib.hid (fun (z : Int) (hz : I64 z) (w : World) => num12 z hz w)
  clear hK hK1
  go_enter Try.func6, Try.ntmps6
  go_wp2
  clear hK5 hK2 hK3 b0
  go_loopw [5] (fun i wr => ∃ j : Nat, j ≤ K ∧ i = .int .i64 j ∧ Hid (ManyS w wr 0 (min j 8))) (fun i _ => K - (intOf i).toNat)
  case atStart => exact ⟨0, Nat.zero_le _, rfl, ManyS.first w⟩
  case round =>
    obtain ⟨j, hj, rfl, HM⟩ := hrel
    by_cases hlt : j < K
    · have kcs := fun (w : World) => conv1 w j
      have kcs1 := fun (w : World) (X : Obj) => conv2 w X j
      by_cases h8 : j < 8
      · rw [Nat.min_eq_left (by omega)] at HM
        obtain ⟨⟨xt, xtn, xtc, xs, xsn, xsc, xm, xmn, xmc, xc, xcn, xcc⟩, base, F, G, hB, hN, hbw⟩ := HM.out
        dsimp only [mtA, MMs, MM0] at hB
        obtain ⟨m0, m1, m2, m3, m4, m5, m6⟩ := cells7 hB
        have hlm := hB.lt
        have HB := Lib.hid hB
        have HW := Lib.hid hbw
        have d8 : decide ((8 : Int) ≤ j) = false := decide_eq_false (by omega)
        have H1 : Hid (∀ W, Below wr.heap.size wr W → Calls Try.prog 15 #[.agg #[.int .i64 0, .int .i64 0, .string ByteArray.empty, .slice xt xtn xtc, .slice xs xsn xsc, .slice xm xmn xmc, .slice xc xcn xcc], .string (chS j)] W (GiveS 0 (j + 1) 0 W)) := fun W h => (addMany (hN.later h) _ (chS_size j)).mono fun e w' hg => GiveS.of (addS_new h8) hg
        have H2 : Hid (∀ (W : World) (base : Nat) (F G : Nat → Prop) xt xtn xtc xs xsn xsc xm xmn xmc xc xcn xcc, MetaN W base F G ⟨xt, xtn, xtc, xs, xsn, xsc, xm, xmn, xmc, xc, xcn, xcc⟩ (MMs 0 (j + 1)) → Calls Try.prog 15 #[.agg #[.int .i64 0, .int .i64 0, .string ByteArray.empty, .slice xt xtn xtc, .slice xs xsn xsc, .slice xm xmn xmc, .slice xc xcn xcc], .string (chS j)] W (GiveZ 5 W)) := fun W base F G xt xtn xtc xs xsn xsc xm xmn xmc xc xcn xcc h => (addMany h _ (chS_size j)).mono fun e w' hg => GiveZ.of (addS_twice h8) hg
        have hmin : min (j + 1) 8 = j + 1 := Nat.min_eq_left (by omega)
        clear HM hB hN hbw
        go_wp2_with (first
          | (go_at_call 15; (with_reducible refine (H1.out _ ((Below.refl _ _).alloc (Nat.le_refl _) _)).mono ?_); rintro e w1 ⟨yt, ytn, ytc, ys, ysn, ysc, ym, ymn, ymc, yc, ycn, ycc, base1, F1, G1, rfl, hn1, hb1⟩; have HN1 := Lib.hid hn1; have HB1 := Lib.hid ((HB.out.alloc (.cells #[.int .u8 (97 + (j : Int))] 5)).later hb1); have HW1 := Lib.hid ((HW.out.alloc HW.out.size (.cells #[.int .u8 (97 + (j : Int))] 5)).trans (hb1.mono (HW.out.alloc HW.out.size _).size)); clear H1 hn1 hb1)
          | (go_at_call 25; (with_reducible refine (HNU.out _ (by unfold I64; omega) _).mono ?_); rintro e w' ⟨rfl, rfl⟩)
          | (go_at_call 15; (with_reducible refine (H2.out _ _ _ _ _ _ _ _ _ _ _ _ _ _ _ _ (HN1.out.later (((Below.refl _ _).alloc (Nat.le_refl _) _).alloc (by simp) _))).mono ?_); rintro e w2 ⟨zt, ztn, ztc, zs, zsn, zsc, zm, zmn, zmc, zc, zcn, zcc, rfl, hb2⟩; have HBA := Lib.hid (((Blk.new w1 31 #[.int .i64 0, .int .i64 0, .string ByteArray.empty, .slice yt ytn ytc, .slice ys ysn ysc, .slice ym ymn ymc, .slice yc ycn ycc]).alloc (.cells #[.int .u8 (97 + (j : Int))] 5)).later hb2); obtain ⟨p0, p1, p2, p3, p4, p5, p6⟩ := cells7 HBA.out; have hlp := HBA.out.lt; have HB2 := Lib.hid (((HB1.out.alloc (.cells #[.int .i64 0, .int .i64 0, .string ByteArray.empty, .slice yt ytn ytc, .slice ys ysn ysc, .slice ym ymn ymc, .slice yc ycn ycc] 31)).alloc (.cells #[.int .u8 (97 + (j : Int))] 5)).later hb2); obtain ⟨q0, q1, q2, q3, q4, q5, q6⟩ := cells7 HB2.out; obtain ⟨f0, f1, f2, f3, f4, f5, f6⟩ := free7 HB2.out; have hlq := HB2.out.lt; have hA := (HW1.out.alloc HW1.out.size (.cells #[.int .i64 0, .int .i64 0, .string ByteArray.empty, .slice yt ytn ytc, .slice ys ysn ysc, .slice ym ymn ymc, .slice yc ycn ycc] 31)); have hA2 := hA.alloc hA.size (.cells #[.int .u8 (97 + (j : Int))] 5); have HW2 := Lib.hid (hA2.trans (hb2.mono hA2.size)); have HN2 := Lib.hid ((HN1.out.later (((Below.refl _ _).alloc (Nat.le_refl _) (.cells #[.int .i64 0, .int .i64 0, .string ByteArray.empty, .slice yt ytn ytc, .slice ys ysn ysc, .slice ym ymn ymc, .slice yc ycn ycc] 31)).alloc (by simp) (.cells #[.int .u8 (97 + (j : Int))] 5))).later hb2); clear hb2 hA hA2))
        go_roundw
        case rel => exact ⟨j + 1, by omega, by go_num, by rw [hmin]; exact (ManyS.put HB2.out HN2.out HW2.out).later ((Below.refl _ _).alloc (Nat.le_refl _) _)⟩
        case measure => simp [intOf]; omega
      · rw [Nat.min_eq_right (by omega)] at HM
        have HM8 := HM
        obtain ⟨⟨xt, xtn, xtc, xs, xsn, xsc, xm, xmn, xmc, xc, xcn, xcc⟩, base, F, G, hB, hN, hbw⟩ := HM.out
        dsimp only [mtA, MMs, MM0] at hB
        obtain ⟨m0, m1, m2, m3, m4, m5, m6⟩ := cells7 hB
        have hlm := hB.lt
        have HB := Lib.hid hB
        have HW := Lib.hid hbw
        have d8 : decide ((8 : Int) ≤ j) = true := decide_eq_true (by omega)
        have hmin : min (j + 1) 8 = 8 := Nat.min_eq_right (by omega)
        have H1 : Hid (∀ W, Below wr.heap.size wr W → Calls Try.prog 15 #[.agg #[.int .i64 0, .int .i64 0, .string ByteArray.empty, .slice xt xtn xtc, .slice xs xsn xsc, .slice xm xmn xmc, .slice xc xcn xcc], .string (chS j)] W (GiveZ 9 W)) := fun W h => (addMany (hN.later h) _ (chS_size j)).mono fun e w' hg => GiveZ.of (addS_many (by omega) (by omega)) hg
        clear HM hB hN hbw
        go_wp2_with (first
          | (go_at_call 15; (with_reducible refine (H1.out _ ((Below.refl _ _).alloc (Nat.le_refl _) _)).mono ?_); rintro e w1 ⟨yt, ytn, ytc, ys, ysn, ysc, ym, ymn, ymc, yc, ycn, ycc, rfl, hb1⟩; have HM9 := Lib.hid (HM8.out.later (((Below.refl _ _).alloc (Nat.le_refl _) (.cells #[.int .u8 (97 + (j : Int))] 5)).trans (hb1.mono (by simp)))); clear H1 hb1)
          | (go_at_call 25; (with_reducible refine (HNU.out _ (by unfold I64; omega) _).mono ?_); rintro e w' ⟨rfl, rfl⟩))
        go_roundw
        case rel => exact ⟨j + 1, by omega, by go_num, by rw [hmin]; exact HM9.out.later ((Below.refl _ _).alloc (Nat.le_refl _) _)⟩
        case measure => simp [intOf]; omega
    · obtain rfl : j = K := by omega
      obtain ⟨L, hL⟩ : ∃ L, Hid (min j 8 = L) := ⟨_, Lib.hid rfl⟩
      rw [hL.out] at HM
      have hLi : min (j : Int) 8 = (L : Int) := by have := hL.out; omega
      have hL8 : L ≤ 8 := by have := hL.out; omega
      have dj : decide ((j : Int) < j) = false := decide_eq_false (by omega)
      go_wp2
      go_loopw [10] (fun i wr => ∃ p : Nat, p ≤ L ∧ i = .int .i64 p ∧ Hid (ManyS w wr p (L - p))) (fun i _ => L - (intOf i).toNat)
      case atStart => exact ⟨0, Nat.zero_le _, rfl, HM.out⟩
      case round =>
        clear HM
        rename_i jj
        obtain ⟨j, hj, rfl, HM⟩ := hrel
        by_cases hlt : j < L
        · have kcs := fun (w : World) => conv1 w j
          have kcs1 := fun (w : World) (X : Obj) => conv2 w X j
          have dl : decide ((j : Int) < L) = true := decide_eq_true (by omega)
          obtain ⟨n, hn⟩ : ∃ n, Hid (L - j = n + 1 ∧ L - (j + 1) = n) := ⟨L - j - 1, by show _ ∧ _; omega⟩
          rw [hn.out.1] at HM
          obtain ⟨⟨xt, xtn, xtc, xs, xsn, xsc, xm, xmn, xmc, xc, xcn, xcc⟩, base, F, G, hB, hN, hbw⟩ := HM.out
          dsimp only [mtA, MMs, MM0] at hB
          obtain ⟨m0, m1, m2, m3, m4, m5, m6⟩ := cells7 hB
          have hlm := hB.lt
          have HB := Lib.hid hB
          have HW := Lib.hid hbw
          have H1 : Hid (∀ W, Below wr.heap.size wr W → Calls Try.prog 19 #[.agg #[.int .i64 0, .int .i64 0, .string ByteArray.empty, .slice xt xtn xtc, .slice xs xsn xsc, .slice xm xmn xmc, .slice xc xcn xcc], .string (chS j)] W (GiveS (j + 1) n 0 W)) := fun W h => (dropMany (hN.later h) _).mono fun e w' hg => GiveS.of dropS hg
          have H2 : Hid (∀ (W : World) (base : Nat) (F G : Nat → Prop) xt xtn xtc xs xsn xsc xm xmn xmc xc xcn xcc, MetaN W base F G ⟨xt, xtn, xtc, xs, xsn, xsc, xm, xmn, xmc, xc, xcn, xcc⟩ (MMs (j + 1) n) → Calls Try.prog 19 #[.agg #[.int .i64 0, .int .i64 0, .string ByteArray.empty, .slice xt xtn xtc, .slice xs xsn xsc, .slice xm xmn xmc, .slice xc xcn xcc], .string (chS j)] W (GiveZ 4 W)) := fun W base F G xt xtn xtc xs xsn xsc xm xmn xmc xc xcn xcc h => (dropMany h _).mono fun e w' hg => GiveZ.of (dropS_no (by omega) (by have := hn.out; omega)) hg
          clear HM hB hN hbw
          go_wp2_with (first
            | (go_at_call 19; (with_reducible refine (H1.out _ ((Below.refl _ _).alloc (Nat.le_refl _) _)).mono ?_); rintro e w1 ⟨yt, ytn, ytc, ys, ysn, ysc, ym, ymn, ymc, yc, ycn, ycc, base1, F1, G1, rfl, hn1, hb1⟩; have HN1 := Lib.hid hn1; have HB1 := Lib.hid ((HB.out.alloc (.cells #[.int .u8 (97 + (j : Int))] 5)).later hb1); have HW1 := Lib.hid ((HW.out.alloc HW.out.size (.cells #[.int .u8 (97 + (j : Int))] 5)).trans (hb1.mono (HW.out.alloc HW.out.size _).size)); clear H1 hn1 hb1)
            | (go_at_call 25; (with_reducible refine (HNU.out _ (by unfold I64; omega) _).mono ?_); rintro e w' ⟨rfl, rfl⟩)
            | (go_at_call 19; (with_reducible refine (H2.out _ _ _ _ _ _ _ _ _ _ _ _ _ _ _ _ (HN1.out.later (((Below.refl _ _).alloc (Nat.le_refl _) _).alloc (by simp) _))).mono ?_); rintro e w2 ⟨zt, ztn, ztc, zs, zsn, zsc, zm, zmn, zmc, zc, zcn, zcc, rfl, hb2⟩; have HBA := Lib.hid (((Blk.new w1 31 #[.int .i64 0, .int .i64 0, .string ByteArray.empty, .slice yt ytn ytc, .slice ys ysn ysc, .slice ym ymn ymc, .slice yc ycn ycc]).alloc (.cells #[.int .u8 (97 + (j : Int))] 5)).later hb2); obtain ⟨p0, p1, p2, p3, p4, p5, p6⟩ := cells7 HBA.out; have hlp := HBA.out.lt; have HB2 := Lib.hid (((HB1.out.alloc (.cells #[.int .i64 0, .int .i64 0, .string ByteArray.empty, .slice yt ytn ytc, .slice ys ysn ysc, .slice ym ymn ymc, .slice yc ycn ycc] 31)).alloc (.cells #[.int .u8 (97 + (j : Int))] 5)).later hb2); obtain ⟨q0, q1, q2, q3, q4, q5, q6⟩ := cells7 HB2.out; obtain ⟨f0, f1, f2, f3, f4, f5, f6⟩ := free7 HB2.out; have hlq := HB2.out.lt; have hA := (HW1.out.alloc HW1.out.size (.cells #[.int .i64 0, .int .i64 0, .string ByteArray.empty, .slice yt ytn ytc, .slice ys ysn ysc, .slice ym ymn ymc, .slice yc ycn ycc] 31)); have hA2 := hA.alloc hA.size (.cells #[.int .u8 (97 + (j : Int))] 5); have HW2 := Lib.hid (hA2.trans (hb2.mono hA2.size)); have HN2 := Lib.hid ((HN1.out.later (((Below.refl _ _).alloc (Nat.le_refl _) (.cells #[.int .i64 0, .int .i64 0, .string ByteArray.empty, .slice yt ytn ytc, .slice ys ysn ysc, .slice ym ymn ymc, .slice yc ycn ycc] 31)).alloc (by simp) (.cells #[.int .u8 (97 + (j : Int))] 5))).later hb2); clear hb2 hA hA2))
          go_roundw
          case rel => exact ⟨j + 1, by omega, by go_num, by rw [hn.out.2]; exact (ManyS.put HB2.out HN2.out HW2.out).later ((Below.refl _ _).alloc (Nat.le_refl _) _)⟩
          case measure => simp [intOf]; omega
        · obtain rfl : j = L := by omega
          rw [Nat.sub_self] at HM
          have dl : decide ((j : Int) < j) = false := decide_eq_false (by omega)
          obtain ⟨⟨xt, xtn, xtc, xs, xsn, xsc, xm, xmn, xmc, xc, xcn, xcc⟩, base, F, G, hB, hN, hbw⟩ := HM.out
          dsimp only [mtA, MMs, MM0] at hB
          obtain ⟨m0, m1, m2, m3, m4, m5, m6⟩ := cells7 hB
          have hlm := hB.lt
          have HB := Lib.hid hB
          have HW := Lib.hid hbw
          obtain rfl : 0 = xsn := hN.d.S.lens.1
          clear HM hB hN hbw
          go_wp2_with (go_at_call 11; refine (awake12 _).mono ?_; rintro e w1 ⟨rfl, hb1⟩; have HW1 := Lib.hid (HW.out.trans (hb1.mono HW.out.size)); clear hb1)
          go_ret
          exact ⟨rfl, HW1.out⟩

set_option maxRecDepth 100000 in
theorem lifted (os : Os) (started : os.Started) (H : Type) (enc : TypeId × Value → H) :
    ReturnsInHanded {} Try.checked os 6 .any (Rows.shotManySpec.pre6 enc Try.prog Try.f6 Rows.shotManyRow.domain false) (Rows.shotManySpec.post enc Try.prog Try.f6 false true false false) := by
  refine returnsInHanded_of_change (C := Try.checked) own started (by kernel_rfl) Try.func6
    (ChangeSpec.witness6 (enc := enc) (C := Try.checked) false ⟨#[], #[.int .u8 0], []⟩ 8 (by kernel_rfl) (by kernel_rfl) (by kernel_rfl) (by kernel_rfl)) ?_
  intro W base args ds gs before hval0 hW hcnd _
  have hval : ∀ (j : Nat) t v, Try.f6.params[j]? = some t → args[j]? = some v → Value.okWide Try.prog W .any base t v := hval0
  have hW' := hW
  obtain ⟨p, q, hA0, hV, rfl, hfz, hnd⟩ := hW
  have hA : DataW.TrodAll enc Try.prog W 0 (fun _ => true) true Try.f6.params.toList args.toList ds p := hA0
  rw [Try.params6] at hA hval
  obtain ⟨v0, vs0, d0, ds0, p0, q0, hargs, rfl, rfl, h0, r0⟩ := trodAll_cons hA
  obtain ⟨rfl, rfl, rfl⟩ := trodAll_nil r0
  obtain rfl : args = #[v0] := by cases args; simp_all
  obtain ⟨rfl, rfl⟩ := trodVars_none hV
  have k0 := h0
  have lt0 : ∀ x ∈ p0, x.block < W.heap.size := by obtain ⟨m, hm⟩ := k0; exact DataW.trod_lt m _ _ _ hm
  obtain ⟨a0, rfl, _, _, w0⟩ := open_int Try.underlying5 (hval 0 5 v0 rfl rfl) h0
  clear hA0 hval0
  refine (walk a0 W w0).mono fun e W' ⟨he, bel⟩ => ?_
  subst he
  exact ⟨_, rfl, _, _, _, [], _, [], hW', trodAll_mk1 (shut_bool Try.underlying4 _), (trodAll_cons_mk (Below.trod laidOut (by kernel_rfl) (of_decide_eq_true (by kernel_rfl)) k0 bel lt0) trodAll_mk0), rfl, bel.frame _, fun h => by cases h⟩

theorem over : Rows.shotManyRow.holds Try.pinned (OpenSpec.ofChange Rows.shotManySpec) :=
  OpenClaim.holds_of_wide 6 Try.f6 rfl rfl rfl rfl rfl rfl rfl ⟨rfl, rfl, rfl, rfl, rfl⟩ rfl rfl rfl rfl rfl (by kernel_rfl) Try.func6 (by kernel_rfl)
    (of_decide_eq_true (by kernel_rfl)) (by unfold Func.isWrapper; first | (rw [if_pos (by decide +kernel)]; kernel_rfl) | (rw [if_neg (by decide +kernel)]; exact ⟨rfl, rfl⟩))
    (fun os started H enc _ => lifted os started H enc)

/-- The statement. -/
theorem proved : Rows.ShotManySaid := over
#print axioms proved
end Go.Proofs.Ytlkdmceieeeiiaa.shotMany
