/-
  The statements' own small functions (package shots): num, awake. Conditions: none.
-/
import Derived.Test.YtipljkegmhclkaaSl
namespace Go.Proofs.Ytipljkegmhclkaa
open Go.RowKit
set_option linter.unusedVariables false

theorem num12 (z : Int) (hz : I64 z) (w : World) : Calls Try.prog 9 #[.int .i64 z] w fun e w' => e = .returned (.int .i64 z) ∧ w' = w := by
  go_enter Try.func9, Try.ntmps9
  go_wp2
  go_ret
  exact ⟨rfl, rfl⟩
def txA : ByteArray := ⟨#[97]⟩
theorem txA_ok : nameOk txA := by decide +kernel
theorem txDot_ok : nameOk ⟨#[97, 46, 98]⟩ := by decide +kernel
theorem txUp_no : ¬ nameOk ⟨#[65]⟩ := by decide +kernel
theorem add_new {M : MM} {nm : ByteArray} (h1 : nameOk nm) (h2 : fndS nm M.S < 0) (h3 : M.S.length < 8) : addM M nm = ({ M with S := M.S ++ [(nm, M.s, M.T)] }, 0) := by
  unfold addM
  rw [if_neg (fun h => h h1), if_neg (by omega), if_neg (by omega)]
theorem add_zero : addM MM0 txA = ({ MM0 with S := [(txA, 0, [])] }, 0) := add_new txA_ok (by decide) (by decide)
theorem drop_zero : dropM { MM0 with S := [(txA, 0, [])] } txA = (MM0, 0) := by
  unfold dropM
  have h : fndS txA [(txA, 0, [])] = 0 := by
    unfold fndS
    rw [if_pos rfl]
  dsimp only
  rw [h]
  rfl
noncomputable def MMa : MM := { MM0 with S := [(txA, 0, [])] }
theorem awAdd (w : World) : Calls Try.prog 8 #[.agg #[.int .i64 0, .int .i64 0, .string ⟨#[]⟩, .slice none 0 0, .slice none 0 0, .slice none 0 0, .slice none 0 0], .string ⟨#[97]⟩] w fun e w' => ∃ a0 n0 c0 sa sc ma mn mc ca cn cc, e = .returned (.tuple #[.agg #[.int .i64 0, .int .i64 0, .string ⟨#[]⟩, .slice a0 n0 c0, .slice sa 1 sc, .slice ma mn mc, .slice ca cn cc], .int .i64 0]) ∧ MetaD w' ⟨a0, n0, c0, sa, 1, sc, ma, mn, mc, ca, cn, cc⟩ MMa ∧ Below w.heap.size w w' := by
  refine (shotsAdd w Mt0 MM0 (MetaN.zero w 0 (fun _ => True) (fun _ => True)).d txA (by decide)).mono ?_
  rintro e w' ⟨⟨a0, n0, c0, sa, sn, sc, ma, mn, mc, ca, cn, cc⟩, lo, hi, he, hm, hb⟩
  rw [add_zero] at he hm
  have h1 : 1 = sn := hm.d.S.lens.1
  subst h1
  exact ⟨a0, n0, c0, sa, sc, ma, mn, mc, ca, cn, cc, he, hm.d, hb⟩
theorem awDrop (w : World) (a0 : Option Addr) (n0 c0 : Nat) (sa : Option Addr) (sc : Nat) (ma : Option Addr) (mn mc : Nat) (ca : Option Addr) (cn cc : Nat) (h : MetaD w ⟨a0, n0, c0, sa, 1, sc, ma, mn, mc, ca, cn, cc⟩ MMa) : Calls Try.prog 13 #[.agg #[.int .i64 0, .int .i64 0, .string ⟨#[]⟩, .slice a0 n0 c0, .slice sa 1 sc, .slice ma mn mc, .slice ca cn cc], .string ⟨#[97]⟩] w fun e w' => ∃ a0 n0 c0 sa sc ma mn mc ca cn cc, e = .returned (.tuple #[.agg #[.int .i64 0, .int .i64 0, .string ⟨#[]⟩, .slice a0 n0 c0, .slice sa 0 sc, .slice ma mn mc, .slice ca cn cc], .int .i64 0]) ∧ Below w.heap.size w w' := by
  refine (shotsDrop w _ MMa h txA).mono ?_
  rintro e w' ⟨⟨a0, n0, c0, sa, sn, sc, ma, mn, mc, ca, cn, cc⟩, lo, hi, he, hm, hb⟩
  unfold MMa at he hm
  rw [drop_zero] at he hm
  have h1 : 0 = sn := hm.d.S.lens.1
  subst h1
  exact ⟨a0, n0, c0, sa, sc, ma, mn, mc, ca, cn, cc, he, hb⟩
set_option maxHeartbeats 1600000 in
theorem awake12 (w : World) : Calls Try.prog 7 #[] w fun e w' => e = .returned (.bool true) ∧ Below w.heap.size w w' := by
  have HN1 := Lib.hid (fun w => shotsName ⟨#[97, 46, 98]⟩ (by decide) (decide_eq_true txDot_ok) w)
  have HN2 := Lib.hid (fun w => shotsName ⟨#[65]⟩ (by decide) (decide_eq_false txUp_no) w)
  have HNU := Lib.hid (fun (w : World) => num12 0 (by unfold I64; omega) w)
  go_enter Try.func7, Try.ntmps7
  go_wp2_with (first
    | (go_at_call 8; (with_reducible refine (awAdd _).mono ?_); rintro e w1 ⟨a0, n0, c0, sa, sc, ma, mn, mc, ca, cn, cc, rfl, hm, hb1⟩; have HM := Lib.hid hm; clear hm)
    | (go_at_call 13; refine (awDrop _ _ _ _ _ _ _ _ _ _ _ _ (HM.out.later ((Below.refl _ _).alloc (Nat.le_refl _) _))).mono ?_; rintro e w2 ⟨a1, n1, c1, sa1, sc1, ma1, mn1, mc1, ca1, cn1, cc1, rfl, hb2⟩; have HBX := Lib.hid ((Blk.new w1 29 #[.int .i64 0, .int .i64 0, .string ⟨#[]⟩, .slice a0 n0 c0, .slice sa 1 sc, .slice ma mn mc, .slice ca cn cc]).later hb2); obtain ⟨m0, m1, m2, m3, m4, m5, m6⟩ := cells7 HBX.out; have hlm := HBX.out.lt; have hA := hb1.alloc hb1.size (.cells #[.int .i64 0, .int .i64 0, .string ⟨#[]⟩, .slice a0 n0 c0, .slice sa 1 sc, .slice ma mn mc, .slice ca cn cc] 29); have HB2 : Hid (Below w.heap.size w w2) := hA.trans (hb2.mono hA.size); clear hb2 hA)
    | (go_at_call 9; (with_reducible refine (HNU.out _).mono ?_); rintro e w' ⟨rfl, rfl⟩)
    | (go_at_call 28; first | ((with_reducible refine (HN1.out _).mono ?_); rintro e w' ⟨rfl, rfl⟩) | ((with_reducible refine (HN2.out _).mono ?_); rintro e w' ⟨rfl, rfl⟩)))
  go_ret
  exact ⟨rfl, HB2.out.alloc HB2.out.size _⟩
end Go.Proofs.Ytipljkegmhclkaa
