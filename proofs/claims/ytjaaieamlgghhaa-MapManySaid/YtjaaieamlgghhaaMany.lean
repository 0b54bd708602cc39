/-
  Proved: 'matryoshkalaw13.MapMany' returns true for every input: the statement MapManySaid as given. Conditions: none beyond the row's own.
-/
import Derived.Test.YtjaaieamlgghhaaRows
import Derived.Test.YtjaaieamlgghhaaUo
import Derived.WalkKit
import Derived.ProofKit
import Derived.OpenShut
import Derived.ShutString
import Derived.ChangeOld
import Derived.Below
namespace Go.Proofs.Ytjaaieamlgghhaa.mapMany
open Go.ChangeShapes Go.WideShapes Go.ChangeAt Go.RowKit
open Go.ChangeMaps (open_string shut_string)
set_option linter.unusedVariables false

theorem own : ownKnob Try.prog.godebug = none := by kernel_rfl
theorem laidOut : laidOutB Try.prog = true := by kernel_rfl

set_option maxRecDepth 100000 in
set_option maxHeartbeats 4000000 in
theorem walk (a0 : Int) (w : World) (w0 : (Lit.int .u8 a0).wf = true) :
    Calls Try.prog 11 #[.int .u8 a0] w fun e w' => e = .returned (.bool true) ∧ Below w.heap.size w w' := by
  have b0 := bounds_u8 w0
  obtain ⟨K1, hK1⟩ : ∃ K : Nat, a0 % 12 = K := ⟨(a0 % 12).toNat, by omega⟩
  have hK2 : a0.tmod 12 = K1 := by rw [Int.tmod_eq_emod_of_nonneg (by omega)]; exact hK1
  have hK3 : K1 < 12 := by omega
  obtain ⟨K, hK⟩ : ∃ K : Nat, 1 + K1 = K := ⟨_, rfl⟩
  have hKK : Hid (1 ≤ K ∧ K ≤ 12) := by show 1 ≤ K ∧ K ≤ 12; omega
  have hK12 : K ≤ 12 := hKK.out.2
  have hK5 : (1 : Int) + K1 = K := by omega
  have HNU := Lib.hid (fun (z : Int) (hz : I64 z) (w : World) => num13 z hz w)
  clear hK hK1
  go_enter Try.func11, Try.ntmps11
  go_wp2
  clear hK5 hK2 hK3 b0
  go_loopw [3, 5] (fun l i wr => ∃ (j : Nat) (a : Option Addr) (c : Nat), j ≤ K ∧ l = .slice a (min j 8) c ∧ i = .int .i64 j ∧ Hid (BmsD wr a (min j 8) c (bmS 0 (min j 8))) ∧ Hid (Below w.heap.size w wr)) (fun _ i _ => K - (intOf i).toNat)
  case atStart => exact ⟨0, none, 0, Nat.zero_le _, rfl, rfl, bmsD_none _, Below.refl _ _⟩
  case round =>
    obtain ⟨j, a, c, hj, rfl, rfl, HM, HW⟩ := hrel
    by_cases hlt : j < K
    · have kcs := fun (w : World) => conv1 w j
      have HAL := Lib.hid ((Below.refl wr.heap.size wr).alloc (Nat.le_refl _) (.cells #[.int .u8 (97 + (j : Int))] 5))
      by_cases h8 : j < 8
      · have hm0 : min j 8 = j := Nat.min_eq_left (by omega)
        have hmin : min (j + 1) 8 = j + 1 := Nat.min_eq_left (by omega)
        rw [hm0] at HM ⊢
        have d8 : decide ((8 : Int) ≤ j) = false := decide_eq_false (by omega)
        have H1 := Lib.hid (fun W (hb : Below wr.heap.size wr W) => many_add (HM.out.later hb) h8)
        clear hm0
        go_wp2_with (first
          | (go_at_call 32; (with_reducible refine (H1.out _ HAL.out).mono ?_); rintro e w1 ⟨a1, c1, rfl, hD, hb⟩; have HD1 := Lib.hid hD; have HW1 := Lib.hid (HW.out.trans ((HAL.out.trans (hb.mono HAL.out.size)).mono HW.out.size)); have kcs1 := conv1 w1 j; have HAL1 := Lib.hid ((Below.refl w1.heap.size w1).alloc (Nat.le_refl _) (.cells #[.int .u8 (97 + (j : Int))] 5)); have H2 := Lib.hid (many_twice (hD.later HAL1.out) h8); clear hD hb H1)
          | (go_at_call 43; (with_reducible refine (HNU.out _ (by unfold I64; omega) _).mono ?_); rintro e w' ⟨rfl, rfl⟩)
          | (go_at_call 32; (with_reducible refine H2.out.mono ?_); rintro e w2 ⟨a2, n2, c2, rfl, hb⟩; have HB12 := Lib.hid (HAL1.out.trans (hb.mono HAL1.out.size)); have HD2 := Lib.hid (HD1.out.later HB12.out); have HW2 := Lib.hid (HW1.out.trans (HB12.out.mono HW1.out.size)); obtain ⟨b, off, al, cl, rfl, hbl, x0, x1, x2⟩ := many_at HD2.out; clear hb H2))
        go_roundw
        case rel => exact ⟨j + 1, _, _, by omega, by rw [hmin], by go_num, by rw [hmin]; exact HD2.out, HW2.out⟩
        case measure => simp [intOf]; omega
      · have hm0 : min j 8 = 8 := Nat.min_eq_right (by omega)
        have hmin : min (j + 1) 8 = 8 := Nat.min_eq_right (by omega)
        rw [hm0] at HM ⊢
        have d8 : decide ((8 : Int) ≤ j) = true := decide_eq_true (by omega)
        have H1 := Lib.hid (fun W (hb : Below wr.heap.size wr W) => many_full (i := j) (HM.out.later hb) (by omega) (by omega))
        clear hm0
        go_wp2_with (first
          | (go_at_call 32; (with_reducible refine (H1.out _ HAL.out).mono ?_); rintro e w1 ⟨a1, n1, c1, rfl, hb⟩; have HB1 := Lib.hid (HAL.out.trans (hb.mono HAL.out.size)); clear hb H1)
          | (go_at_call 43; (with_reducible refine (HNU.out _ (by unfold I64; omega) _).mono ?_); rintro e w' ⟨rfl, rfl⟩))
        go_roundw
        case rel => exact ⟨j + 1, _, _, by omega, by rw [hmin], by go_num, by rw [hmin]; exact HM.out.later HB1.out, HW.out.trans (HB1.out.mono HW.out.size)⟩
        case measure => simp [intOf]; omega
    · obtain rfl : j = K := by omega
      obtain ⟨L, hL⟩ : ∃ L, Hid (min j 8 = L) := ⟨_, Lib.hid rfl⟩
      rw [hL.out] at HM ⊢
      have hLi : min (j : Int) 8 = (L : Int) := by have := hL.out; omega
      have hL8 : L ≤ 8 := by have := hL.out; omega
      have dj : decide ((j : Int) < j) = false := decide_eq_false (by omega)
      go_wp2
      go_loopw [3, 10] (fun l i wr => ∃ (p : Nat) (a : Option Addr) (c : Nat), p ≤ L ∧ l = .slice a (L - p) c ∧ i = .int .i64 p ∧ Hid (BmsD wr a (L - p) c (bmS p (L - p))) ∧ Hid (Below w.heap.size w wr)) (fun _ i _ => L - (intOf i).toNat)
      case atStart => exact ⟨0, a, c, Nat.zero_le _, rfl, rfl, HM.out, HW.out⟩
      case round =>
        clear HM HW
        rename_i jj _ _
        obtain ⟨j, a, c, hj, rfl, rfl, HM, HW⟩ := hrel
        by_cases hlt : j < L
        · have kcs := fun (w : World) => conv1 w j
          have HAL := Lib.hid ((Below.refl wr.heap.size wr).alloc (Nat.le_refl _) (.cells #[.int .u8 (97 + (j : Int))] 5))
          have dl : decide ((j : Int) < L) = true := decide_eq_true (by omega)
          obtain ⟨n, hn⟩ : ∃ n, Hid (L - j = n + 1 ∧ L - (j + 1) = n) := ⟨L - j - 1, by show _ ∧ _; omega⟩
          have hn8 : n < 8 := by have := hn.out; omega
          rw [hn.out.1] at HM ⊢
          have H1 := Lib.hid (fun W (hb : Below wr.heap.size wr W) => many_drop (HM.out.later hb))
          go_wp2_with (first
            | (go_at_call 34; (with_reducible refine (H1.out _ HAL.out).mono ?_); rintro e w1 ⟨a1, c1, rfl, hD, hb⟩; have HD1 := Lib.hid hD; have HW1 := Lib.hid (HW.out.trans ((HAL.out.trans (hb.mono HAL.out.size)).mono HW.out.size)); have kcs1 := conv1 w1 j; have HAL1 := Lib.hid ((Below.refl w1.heap.size w1).alloc (Nat.le_refl _) (.cells #[.int .u8 (97 + (j : Int))] 5)); have H2 := Lib.hid (many_gone (hD.later HAL1.out) (by omega) hn8); clear hD hb H1)
            | (go_at_call 43; (with_reducible refine (HNU.out _ (by unfold I64; omega) _).mono ?_); rintro e w' ⟨rfl, rfl⟩)
            | (go_at_call 34; (with_reducible refine H2.out.mono ?_); rintro e w2 ⟨a2, n2, c2, rfl, hb⟩; have HB12 := Lib.hid (HAL1.out.trans (hb.mono HAL1.out.size)); have HD2 := Lib.hid (HD1.out.later HB12.out); have HW2 := Lib.hid (HW1.out.trans (HB12.out.mono HW1.out.size)); clear hb H2))
          go_roundw
          case rel => exact ⟨j + 1, _, _, by omega, by rw [hn.out.2], by go_num, by rw [hn.out.2]; exact HD2.out, HW2.out⟩
          case measure => simp [intOf]; omega
        · obtain rfl : j = L := by omega
          rw [Nat.sub_self] at HM ⊢
          have dl : decide ((j : Int) < j) = false := decide_eq_false (by omega)
          go_wp2_with (go_at_call 30; refine (awake13 _).mono ?_; rintro e w1 ⟨rfl, hb1⟩; have HW1 := Lib.hid (HW.out.trans (hb1.mono HW.out.size)); clear hb1)
          go_ret
          exact ⟨rfl, HW1.out⟩

set_option maxRecDepth 100000 in
theorem lifted (os : Os) (started : os.Started) (H : Type) (enc : TypeId × Value → H) :
    ReturnsInHanded {} Try.checked os 11 .any (Rows.mapManySpec.pre6 enc Try.prog Try.f11 Rows.mapManyRow.domain false) (Rows.mapManySpec.post enc Try.prog Try.f11 false true false false) := by
  refine returnsInHanded_of_change (C := Try.checked) own started (by kernel_rfl) Try.func11
    (ChangeSpec.witness6 (enc := enc) (C := Try.checked) false ⟨#[], #[.int .u8 0], []⟩ 8 (by kernel_rfl) (by kernel_rfl) (by kernel_rfl) (by kernel_rfl)) ?_
  intro W base args ds gs before hval0 hW hcnd _
  have hval : ∀ (j : Nat) t v, Try.f11.params[j]? = some t → args[j]? = some v → Value.okWide Try.prog W .any base t v := hval0
  have hW' := hW
  obtain ⟨p, q, hA0, hV, rfl, hfz, hnd⟩ := hW
  have hA : DataW.TrodAll enc Try.prog W 0 (fun _ => true) true Try.f11.params.toList args.toList ds p := hA0
  rw [Try.params11] at hA hval
  obtain ⟨v0, vs0, d0, ds0, p0, q0, hargs, rfl, rfl, h0, r0⟩ := trodAll_cons hA
  obtain ⟨rfl, rfl, rfl⟩ := trodAll_nil r0
  obtain rfl : args = #[v0] := by cases args; simp_all
  obtain ⟨rfl, rfl⟩ := trodVars_none hV
  have k0 := h0
  have lt0 : ∀ x ∈ p0, x.block < W.heap.size := by obtain ⟨m, hm⟩ := k0; exact DataW.trod_lt m _ _ _ hm
  obtain ⟨a0, rfl, _, _, w0⟩ := open_int Try.underlying5 (hval 0 5 v0 rfl rfl) h0
  clear hA0 hval0
  refine (walk a0 W w0).mono fun e W' ⟨he, bel⟩ => ?_
  subst he
  exact ⟨_, rfl, _, _, _, [], _, [], hW', trodAll_mk1 (shut_bool Try.underlying4 _), (trodAll_cons_mk (Below.trod laidOut (by kernel_rfl) (of_decide_eq_true (by kernel_rfl)) k0 bel lt0) trodAll_mk0), rfl, bel.frame _, fun h => by cases h⟩

theorem over : Rows.mapManyRow.holds Try.pinned (OpenSpec.ofChange Rows.mapManySpec) :=
  OpenClaim.holds_of_wide 11 Try.f11 rfl rfl rfl rfl rfl rfl rfl ⟨rfl, rfl, rfl, rfl, rfl⟩ rfl rfl rfl rfl rfl (by kernel_rfl) Try.func11 (by kernel_rfl)
    (of_decide_eq_true (by kernel_rfl)) (by unfold Func.isWrapper; first | (rw [if_pos (by decide +kernel)]; kernel_rfl) | (rw [if_neg (by decide +kernel)]; exact ⟨rfl, rfl⟩))
    (fun os started H enc _ => lifted os started H enc)

/-- The statement. -/
theorem proved : Rows.MapManySaid := over
#print axioms proved
end Go.Proofs.Ytjaaieamlgghhaa.mapMany
