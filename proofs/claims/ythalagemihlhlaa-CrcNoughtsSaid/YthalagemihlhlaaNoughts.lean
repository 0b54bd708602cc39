/-
  Proved: 'matryoshkalaw1.CrcNoughts' returns true for every input, and each argument reads afterwards as before: the statement CrcNoughtsSaid as given. Conditions: none beyond the row's own.
-/
import Derived.Test.YthalagemihlhlaaRows
import Derived.Test.YthalagemihlhlaaL
import Derived.WalkKit
import Derived.ProofKit
import Derived.OpenShut
import Derived.ShutString
import Derived.ChangeOld
import Derived.Below
namespace Go.Proofs.Ythalagemihlhlaa.crcNoughts
open Go.ChangeShapes Go.WideShapes Go.ChangeAt Go.RowKit
open Go.ChangeMaps (open_string shut_string)
set_option linter.unusedVariables false      -- a walk need not use every 'w<i>' (that an integer argument fits its kind)

theorem own : ownKnob Try.prog.godebug = none := by kernel_rfl

theorem sumMidG (w0 : World) (a0 : Option Addr) (n0 : Nat) (l0 : List Int) (a1 : Option Addr) (n1 c1 : Nat) (l1 : List Int) (a2 : Option Addr) (n2 : Nat) (l2 : List Int) (w : World) (h : Thrice w0 a0 n0 l0 a1 n1 l1 a2 n2 l2 w) :
    Calls Try.prog 11 #[.slice a1 n1 c1] w fun e w' => e = .returned (.int .u32 (moreOf 0 l1 : Nat)) ∧ Thrice w0 a0 n0 l0 a1 n1 l1 a2 n2 l2 w' :=
  (sum_any a1 n1 c1 l1 w h.2.2.1).mono fun _ _ ⟨he, hb⟩ => ⟨he, h.later hb⟩

theorem walk (a0 : Int) (a1 : Int) (w0 : (Lit.int .u8 a0).wf = true) (w1 : (Lit.int .u8 a1).wf = true) (w : World) :
    Calls Try.prog 9 #[.int .u8 a0, .int .u8 a1] w fun e w' => e = .returned (.bool true) ∧ Below w.heap.size w w' := by
  obtain ⟨n, rfl, hn⟩ : ∃ n : Nat, a0 = (n : Int) ∧ n < 256 := ⟨a0.toNat, by have := byte_of_wf w0; omega, by have := byte_of_wf w0; omega⟩
  have hc := byte_of_wf w1
  have NS : Hid (moreOf 0 (noughts n) ≠ moreOf 0 (noughts n ++ [0])) := noughts_sum n
  have NF : Hid (fingerOf (noughts n) ≠ fingerOf (noughts n ++ [0])) := noughts_finger n
  obtain ⟨SB, HSB⟩ := named (moreOf 0 (noughts n))
  obtain ⟨SX, HSX⟩ := named (moreOf 0 (noughts n ++ [0]))
  obtain ⟨FB, HFB⟩ := named (fingerOf (noughts n))
  obtain ⟨FX, HFX⟩ := named (fingerOf (noughts n ++ [0]))
  rw [HSB.out, HSX.out] at NS
  rw [HFB.out, HFX.out] at NF
  have n1 : ((SB : Int) == (SX : Int)) = false := by have := NS.out; simp; omega
  have n2 : ((SB : Int) != (SX : Int)) = true := by have := NS.out; simp; omega
  have n3 : ((FB : Int) == (FX : Int)) = false := by have := NF.out; simp; omega
  have n4 : ((FB : Int) != (FX : Int)) = true := by have := NF.out; simp; omega
  clear w0 w1 NS NF
  by_cases h0 : a1 = 0
  · subst h0
    have HSY := HSX
    have HCC : Hid (0 ≤ (0 : Int) ∧ (0 : Int) < 256) := hc
    clear hc
    go_enter Try.func9, Try.ntmps9
    go_wp2_with (first
      | (at_make; refine make_bytes rfl (.tmp 9) (.tmp 9) rfl w.heap.size n rfl rfl (by omega) (Nat.le_refl _) ?_; intro w1 h1 h2; have HB5 := Lib.hid h1.bytes.1; have HG5 := Lib.hid h2; clear h1 h2)
      | (at_builtin; refine append_copy rfl (.tmp 11) (.tmp 12) rfl w1.heap.size rfl _ n n (noughts n) rfl (fun e => by cases e) HB5.out (by omega) (Nat.le_refl _) ?_; intro a6 c6 w6 h1 h2; have HO6 := Lib.hid h1; have HG6 := Lib.hid h2; clear h1 h2)
      | (at_builtin; refine append_more rfl (.tmp 14) (.tmp 15) rfl w1.heap.size _ n (noughts n) rfl (HO6.out.alloc _) _ 1 1 [0] rfl (fun e => by cases e) (one_byte _ 0 (by omega)) (by omega) (Nat.le_trans HG6.out.size (by simp)) ?_; intro a7 c7 w7 h1 h2; have HO7 := Lib.hid h1.bytes; have HG7 : Hid (Below w1.heap.size w1 w7) := (HG6.out.alloc HG6.out.size _).trans h2; clear h1 h2)
      | (at_builtin; refine append_copy rfl (.tmp 17) (.tmp 18) rfl w7.heap.size rfl _ n n (noughts n) rfl (fun e => by cases e) (HB5.out.later HG7.out) (by omega) (Nat.le_refl _) ?_; intro a8 c8 w8 h1 h2; have HO8 := Lib.hid h1; have HG8 := Lib.hid h2; clear h1 h2)
      | (at_builtin; refine append_more rfl (.tmp 20) (.tmp 22) rfl w7.heap.size _ n (noughts n) rfl (HO8.out.alloc _) _ 1 1 [0] rfl (fun e => by cases e) (one_byte _ 0 HCC.out) (by omega) (Nat.le_trans HG8.out.size (by simp)) ?_; intro a9 c9 w9 h1 h2; have HG9 : Hid (Below w7.heap.size w7 w9) := (HG8.out.alloc HG8.out.size _).trans h2; have HT : Hid (Thrice w (some ⟨w.heap.size, 0, none⟩) n (noughts n) a7 (n + 1) (noughts n ++ [0]) a9 (n + 1) (noughts n ++ [0]) w9) := ⟨(HG5.out.trans (HG7.out.mono HG5.out.size)).trans (HG9.out.mono (Nat.le_trans HG5.out.size HG7.out.size)), (HB5.out.later HG7.out).later HG9.out, HO7.out.1.later HG9.out, h1.bytes.1⟩; clear h1 h2)
      | (go_at_call 11; ((with_reducible refine (sumG w (some ⟨w.heap.size, 0, none⟩) n n (noughts n) _ _ _ _ _ _ _ HT.out).mono ?_); rw [HSB.out]; rintro e w' ⟨rfl, hb⟩; replace HT := Lib.hid hb; clear hb))
      | (go_at_call 11; ((with_reducible refine (sumMidG w _ _ _ a7 (n + 1) c7 _ _ _ _ _ HT.out).mono ?_); rw [HSX.out]; rintro e w' ⟨rfl, hb⟩; replace HT := Lib.hid hb; clear hb))
      | (go_at_call 11; ((with_reducible refine (sumBothG w _ _ _ _ _ _ a9 (n + 1) c9 _ _ HT.out).mono ?_); rw [HSY.out]; rintro e w' ⟨rfl, hb⟩; replace HT := Lib.hid hb; clear hb))
      | (go_at_call 15; ((with_reducible refine (finger_any (some ⟨w.heap.size, 0, none⟩) n n _ _ HT.out.b0).mono ?_); rw [HFB.out]; rintro e w' ⟨rfl, rfl⟩))
      | (go_at_call 15; ((with_reducible refine (finger_any a7 (n + 1) c7 _ _ HT.out.b1).mono ?_); rw [HFX.out]; rintro e w' ⟨rfl, rfl⟩))
      | (go_at_call 10; ((with_reducible refine (awakeG w _ _ _ _ _ _ _ _ _ _ HT.out).mono ?_); rintro e w' ⟨rfl, hb⟩; replace HT := Lib.hid hb; clear hb)))
    go_ret
    exact ⟨rfl, HT.out⟩
  · have HNE : Hid (moreOf 0 (noughts n ++ [0]) ≠ moreOf 0 (noughts n ++ [a1])) := fun e => h0 (last_sum (fun c hc => (noughts_bd n c hc).2) (by omega) hc e).symm
    obtain ⟨SY, HSY⟩ := named (moreOf 0 (noughts n ++ [a1]))
    rw [HSX.out, HSY.out] at HNE
    have n5 : ((SX : Int) == (SY : Int)) = false := by have := HNE.out; simp; omega
    have n6 : (a1 == 0) = false := by simp; omega
    have HCC := Lib.hid hc
    clear hc HNE
    go_enter Try.func9, Try.ntmps9
    go_wp2_with (first
      | (at_make; refine make_bytes rfl (.tmp 9) (.tmp 9) rfl w.heap.size n rfl rfl (by omega) (Nat.le_refl _) ?_; intro w1 h1 h2; have HB5 := Lib.hid h1.bytes.1; have HG5 := Lib.hid h2; clear h1 h2)
      | (at_builtin; refine append_copy rfl (.tmp 11) (.tmp 12) rfl w1.heap.size rfl _ n n (noughts n) rfl (fun e => by cases e) HB5.out (by omega) (Nat.le_refl _) ?_; intro a6 c6 w6 h1 h2; have HO6 := Lib.hid h1; have HG6 := Lib.hid h2; clear h1 h2)
      | (at_builtin; refine append_more rfl (.tmp 14) (.tmp 15) rfl w1.heap.size _ n (noughts n) rfl (HO6.out.alloc _) _ 1 1 [0] rfl (fun e => by cases e) (one_byte _ 0 (by omega)) (by omega) (Nat.le_trans HG6.out.size (by simp)) ?_; intro a7 c7 w7 h1 h2; have HO7 := Lib.hid h1.bytes; have HG7 : Hid (Below w1.heap.size w1 w7) := (HG6.out.alloc HG6.out.size _).trans h2; clear h1 h2)
      | (at_builtin; refine append_copy rfl (.tmp 17) (.tmp 18) rfl w7.heap.size rfl _ n n (noughts n) rfl (fun e => by cases e) (HB5.out.later HG7.out) (by omega) (Nat.le_refl _) ?_; intro a8 c8 w8 h1 h2; have HO8 := Lib.hid h1; have HG8 := Lib.hid h2; clear h1 h2)
      | (at_builtin; refine append_more rfl (.tmp 20) (.tmp 22) rfl w7.heap.size _ n (noughts n) rfl (HO8.out.alloc _) _ 1 1 [a1] rfl (fun e => by cases e) (one_byte _ a1 HCC.out) (by omega) (Nat.le_trans HG8.out.size (by simp)) ?_; intro a9 c9 w9 h1 h2; have HG9 : Hid (Below w7.heap.size w7 w9) := (HG8.out.alloc HG8.out.size _).trans h2; have HT : Hid (Thrice w (some ⟨w.heap.size, 0, none⟩) n (noughts n) a7 (n + 1) (noughts n ++ [0]) a9 (n + 1) (noughts n ++ [a1]) w9) := ⟨(HG5.out.trans (HG7.out.mono HG5.out.size)).trans (HG9.out.mono (Nat.le_trans HG5.out.size HG7.out.size)), (HB5.out.later HG7.out).later HG9.out, HO7.out.1.later HG9.out, h1.bytes.1⟩; clear h1 h2)
      | (go_at_call 11; ((with_reducible refine (sumG w (some ⟨w.heap.size, 0, none⟩) n n (noughts n) _ _ _ _ _ _ _ HT.out).mono ?_); rw [HSB.out]; rintro e w' ⟨rfl, hb⟩; replace HT := Lib.hid hb; clear hb))
      | (go_at_call 11; ((with_reducible refine (sumMidG w _ _ _ a7 (n + 1) c7 _ _ _ _ _ HT.out).mono ?_); rw [HSX.out]; rintro e w' ⟨rfl, hb⟩; replace HT := Lib.hid hb; clear hb))
      | (go_at_call 11; ((with_reducible refine (sumBothG w _ _ _ _ _ _ a9 (n + 1) c9 _ _ HT.out).mono ?_); rw [HSY.out]; rintro e w' ⟨rfl, hb⟩; replace HT := Lib.hid hb; clear hb))
      | (go_at_call 15; ((with_reducible refine (finger_any (some ⟨w.heap.size, 0, none⟩) n n _ _ HT.out.b0).mono ?_); rw [HFB.out]; rintro e w' ⟨rfl, rfl⟩))
      | (go_at_call 15; ((with_reducible refine (finger_any a7 (n + 1) c7 _ _ HT.out.b1).mono ?_); rw [HFX.out]; rintro e w' ⟨rfl, rfl⟩))
      | (go_at_call 10; ((with_reducible refine (awakeG w _ _ _ _ _ _ _ _ _ _ HT.out).mono ?_); rintro e w' ⟨rfl, hb⟩; replace HT := Lib.hid hb; clear hb)))
    go_ret
    exact ⟨rfl, HT.out⟩

set_option maxRecDepth 100000 in
theorem lifted (os : Os) (started : os.Started) (H : Type) (enc : TypeId × Value → H) :
    ReturnsInHanded {} Try.checked os 9 .any (Rows.crcNoughtsSpec.pre6 enc Try.prog Try.f9 Rows.crcNoughtsRow.domain false) (Rows.crcNoughtsSpec.post enc Try.prog Try.f9 false true false false) := by
  refine returnsInHanded_of_change (C := Try.checked) own started (by kernel_rfl) Try.func9
    (ChangeSpec.witness6 (enc := enc) (C := Try.checked) false ⟨#[], #[.int .u8 0, .int .u8 0], []⟩ 8 (by kernel_rfl) (by kernel_rfl) (by kernel_rfl) (by kernel_rfl)) ?_
  intro W base args ds gs before hval0 hW hcnd _
  have hval : ∀ (j : Nat) t v, Try.f9.params[j]? = some t → args[j]? = some v → Value.okWide Try.prog W .any base t v := hval0
  have hW' := hW
  obtain ⟨p, q, hA0, hV, rfl, hfz, hnd⟩ := hW
  have hA : DataW.TrodAll enc Try.prog W 0 (fun _ => true) true Try.f9.params.toList args.toList ds p := hA0
  rw [Try.params9] at hA hval
  obtain ⟨v0, vs0, d0, ds0, p0, q0, hargs, rfl, rfl, h0, r0⟩ := trodAll_cons hA
  obtain ⟨v1, vs1, d1, ds1, p1, q1, rfl, rfl, rfl, h1, r1⟩ := trodAll_cons r0
  obtain ⟨rfl, rfl, rfl⟩ := trodAll_nil r1
  obtain rfl : args = #[v0, v1] := by cases args; simp_all
  obtain ⟨rfl, rfl⟩ := trodVars_none hV
  obtain ⟨a0, rfl, rfl, rfl, w0⟩ := open_int Try.underlying5 (hval 0 5 v0 rfl rfl) h0
  obtain ⟨a1, rfl, rfl, rfl, w1⟩ := open_int Try.underlying5 (hval 1 5 v1 rfl rfl) h1
  clear hA0 hval0
  simp only [List.append_nil] at hW'
  refine (walk a0 a1 w0 w1 W).mono fun e W' ⟨he, hg⟩ => ?_
  subst he
  exact ⟨_, rfl, _, _, _, [], [], [], hW', trodAll_mk1 (shut_bool Try.underlying4 _), (trodAll_cons_mk (shut_int Try.underlying5 w0) (trodAll_cons_mk (shut_int Try.underlying5 w1) trodAll_mk0)), rfl, hg.frame _, fun h => by cases h⟩

theorem over : Rows.crcNoughtsRow.holds Try.pinned (OpenSpec.ofChange Rows.crcNoughtsSpec) :=
  OpenClaim.holds_of_wide 9 Try.f9 rfl rfl rfl rfl rfl rfl rfl ⟨rfl, rfl, rfl, rfl, rfl⟩ rfl rfl rfl rfl rfl (by kernel_rfl) Try.func9 (by kernel_rfl)
    (of_decide_eq_true (by kernel_rfl)) (by unfold Func.isWrapper; first | (rw [if_pos (by decide +kernel)]; kernel_rfl) | (rw [if_neg (by decide +kernel)]; exact ⟨rfl, rfl⟩))
    (fun os started H enc _ => lifted os started H enc)

/-- The statement. -/
theorem proved : Rows.CrcNoughtsSaid := over
#print axioms proved
end Go.Proofs.Ythalagemihlhlaa.crcNoughts
