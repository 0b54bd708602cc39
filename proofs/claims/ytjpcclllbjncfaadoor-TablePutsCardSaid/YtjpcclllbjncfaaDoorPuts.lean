/-
  Proved: 'matryoshkalaw8.TablePuts' returns true for every input (any table, any cluster), and each argument reads afterwards as before: the statement TablePutsSaid as given. Conditions: none beyond the row's own.
-/
import Derived.Test.YtjpcclllbjncfaaDoorRows
import Derived.Test.YtjpcclllbjncfaaDoorV8
import Derived.Test.YtjpcclllbjncfaaDoorTie
import Derived.Test.YtjpcclllbjncfaaDoorCards
import Derived.SevenTiedAt
import Derived.LaidLaws
import Derived.Stop.Joined
import Derived.Test.YtjpcclllbjncfaaDoorS1
import Derived.Test.YtjpcclllbjncfaaDoorD9
import Derived.WalkKit
import Derived.ProofKit
import Derived.OpenShut
import Derived.ShutString
import Derived.ChangeOld
import Derived.Below
namespace Go.Proofs.YtjpcclllbjncfaaDoor.tablePuts
open Go.ChangeShapes Go.WideShapes Go.ChangeAt Go.RowKit
open Go.ChangeMaps (open_string shut_string)
set_option linter.unusedVariables false

theorem own : ownKnob Tryd.prog.godebug = none := by kernel_rfl
theorem laidOut : laidOutB Tryd.prog = true := by kernel_rfl

theorem i64_of {n : Int} (h : (Lit.int .i64 n).wf = true) : I64 n := by
  have := bounds_i64 h
  unfold I64
  omega

set_option maxRecDepth 100000 in
set_option maxHeartbeats 4000000 in
theorem walk (a0 : Option Addr) (len0 cap0 : Nat) (a1 : Int) (w : World) (w0 : TabArg w a0 len0 cap0) (w1 : (Lit.int .i64 a1).wf = true) (HWD : Hid (Wid w)) :
    Calls Tryd.prog 3 #[.agg #[.slice a0 len0 cap0], .int .i64 a1] w fun e w' => e = .returned (.bool true) ∧ Below w.heap.size w w' := by
  obtain ⟨g, hg, hi⟩ := w0.2
  have HGR := Lib.hid (fun w h => great_any w a0 len0 cap0 g h)
  have HG := Lib.hid hg
  have hAW := Lib.hid (fun w => awake9 w)
  by_cases hb : 6000 < greatN g len0
  · rw [decide_eq_true hb] at HGR
    have HO0 := Lib.hid (hg.later (w' := w.alloc (.cells #[.slice a0 len0 cap0] 24)) ((Below.refl _ _).alloc (Nat.le_refl _) _))
    clear hi hg
    go_enter Tryd.func3, Tryd.ntmps3
    go_wp2_with (first
      | (go_at_call 6; (with_reducible refine (HGR.out _ HO0.out).mono ?_); rintro e w2 ⟨rfl, g⟩; have HB := Lib.hid ((Below.refl w.heap.size w).alloc (Nat.le_refl _) (.cells #[.slice a0 len0 cap0] 24) |>.trans (g.mono (by simp))); clear g)
      | (go_at_call 7; (with_reducible refine (hAW.out _).mono ?_); rintro e w3 ⟨rfl, g⟩; have HB3 := Lib.hid (HB.out.trans (g.mono HB.out.size)); clear g))
    go_ret
    exact ⟨rfl, HB3.out⟩
  · rw [decide_eq_false hb] at HGR
    obtain ⟨T, hT⟩ := w0.tab hg hi hb
    obtain ⟨L, err, hf, hr⟩ := tabPut_both T a1
    have HF := Lib.hid hf
    have HR := Lib.hid hr
    obtain ⟨N, HN⟩ := named L.length
    obtain ⟨U, hU⟩ := named (strOfNums L)
    have HNM := Lib.hid (fun w => num9 err w)
    have HB0 := Lib.hid (Box1.first w (.slice a0 len0 cap0))
    have HT0 := Lib.hid (hT.later (w' := w.alloc (.cells #[.slice a0 len0 cap0] 24)) ((Below.refl _ _).alloc (Nat.le_refl _) _))
    have HO0 := Lib.hid (hg.later (w' := w.alloc (.cells #[.slice a0 len0 cap0] 24)) ((Below.refl _ _).alloc (Nat.le_refl _) _))
    obtain ⟨X, hX⟩ := named w.heap.size
    have hXX := hX.out
    have HSZ : Hid (w.heap.size = X) := hXX
    rw [hX.out] at HB0 ⊢
    clear hi hg hT w0 hf hr
    go_enter Tryd.func3, Tryd.ntmps3
    go_wp2_with (first
      | (go_at_call 6; (with_reducible refine (HGR.out _ HO0.out).mono ?_); rintro e w2 ⟨rfl, g⟩; have HB2 := Lib.hid (HB0.out.later g); have HT2 := Lib.hid (HT0.out.later g); have b2 := (HB0.out.later g).cell; clear g)
      | (go_at_call 8; have hw2 := HWD.out.below HB2.out.2 (Nat.le_of_eq HSZ.out); (with_reducible refine (HF.out _ _ _ _ hw2 HT2.out).mono ?_); clear hw2; intro e w3 hp; obtain ⟨x1, y1, rfl, hB, _, hb⟩ := hp.sized HN.out; have HB3 := Lib.hid (HB2.out.later hb); have HT3 := Lib.hid (HT2.out.later hb); have HY1 := Lib.hid hB; have b3 := HB3.out.cell; clear hp hB hb)
      | (go_at_call 9; (with_reducible refine (HR.out _ _ _ _ HT3.out).mono ?_); intro e w4 hp; obtain ⟨x2, y2, rfl, hB, _, hb⟩ := hp.sized HN.out; have HB4 := Lib.hid (HB3.out.later hb); have HY2 := Lib.hid hB; have HY3 := Lib.hid (HY1.out.later hb); have b4 := HB4.out.cell; have k1 := conv_str (HY1.out.later hb) y1; have k2 := conv_str hB y2; rw [hU.out] at k1 k2; clear hp hB hb)
      | (go_at_call 10; (with_reducible refine (HNM.out _).mono ?_); rintro e w5 ⟨rfl, rfl⟩)
      | (go_at_call 7; (with_reducible refine (hAW.out _).mono ?_); rintro e w6 ⟨rfl, g⟩; have HB5 := Lib.hid (HB4.out.later g); clear g))
    go_ret
    exact ⟨rfl, HB5.out.2⟩

set_option maxRecDepth 100000 in
theorem lifted (os : Os) (started : os.Started) (H : Type) (enc : TypeId × Value → H) :
    ReturnsInHanded {} Tryd.checked os 3 .any (fun w args => (Rows.tablePutsSpec.pre enc Tryd.prog Tryd.f3 [] false w args ∧ laidMetH Tryd.prog laid8 w) ∧ sizedMet enc Tryd.prog Tryd.f3 (OpenSpec.ofChange Rows.tablePutsSpec) false w args) (Rows.tablePutsSpec.post enc Tryd.prog Tryd.f3 false true false false) := by
  refine returnsInHanded_of_change_and (C := Tryd.checked) (X := fun w _ => laidMetH Tryd.prog laid8 w) (fun _ _ _ hh h => h.of_heap hh) own started (by kernel_rfl) Tryd.func3
    (ChangeSpec.witness_shaped (enc := enc) (C := Tryd.checked) (os := os) (X := fun w _ => laidMetH Tryd.prog laid8 w) false (World.doorLaid Tryd.prog 400 os) #[.agg #[.slice none 0 0], .int .i64 0] 8 rfl (World.shaped_of_RefB (by kernel_rfl) (by kernel_rfl)) (by kernel_rfl) (by kernel_rfl) (by kernel_rfl) (door_met os _)) ?_
  intro W base args ds gs before hval0 hW _ _ hL _
  have hval : ∀ (j : Nat) t v, Tryd.f3.params[j]? = some t → args[j]? = some v → Value.okWide Tryd.prog W .any base t v := hval0
  have hW' := hW
  obtain ⟨p, q, hA0, hV, rfl, hfz, hnd⟩ := hW
  have hA : DataW.TrodAll enc Tryd.prog W 0 (fun _ => true) true Tryd.f3.params.toList args.toList ds p := hA0
  rw [Tryd.params3] at hA hval
  obtain ⟨v0, vs0, d0, ds0, p0, q0, hargs, rfl, rfl, h0, r0⟩ := trodAll_cons hA
  obtain ⟨v1, vs1, d1, ds1, p1, q1, rfl, rfl, rfl, h1, r1⟩ := trodAll_cons r0
  obtain ⟨rfl, rfl, rfl⟩ := trodAll_nil r1
  obtain rfl : args = #[v0, v1] := by cases args; simp_all
  obtain ⟨rfl, rfl⟩ := trodVars_none hV
  have k0 := h0
  have lt0 : ∀ x ∈ p0, x.block < W.heap.size := by obtain ⟨m, hm⟩ := k0; exact DataW.trod_lt m _ _ _ hm
  obtain ⟨a0, len0, cap0, rfl, w0⟩ := tab_open (hval 0 24 v0 rfl rfl) h0
  have k1 := h1
  have lt1 : ∀ x ∈ p1, x.block < W.heap.size := by obtain ⟨m, hm⟩ := k1; exact DataW.trod_lt m _ _ _ hm
  obtain ⟨a1, rfl, _, _, w1⟩ := open_int Tryd.underlying3 (hval 1 3 v1 rfl rfl) h1
  clear hA0 hval0
  refine (walk a0 len0 cap0 a1 W w0 w1 (Lib.hid (wid_of_laid hL))).mono fun e W' ⟨he, bel⟩ => ?_
  subst he
  exact ⟨_, rfl, _, _, _, [], _, [], hW', trodAll_mk1 (shut_bool Tryd.underlying4 _), (trodAll_cons_mk (Below.trod laidOut (by kernel_rfl) (of_decide_eq_true (by kernel_rfl)) k0 bel lt0) (trodAll_cons_mk (Below.trod laidOut (by kernel_rfl) (of_decide_eq_true (by kernel_rfl)) k1 bel lt1) trodAll_mk0)), rfl, bel.frame _, fun h => by cases h⟩

theorem over : Rows.tablePutsRow.holds Tryd.pinned (OpenSpec.ofChange Rows.tablePutsSpec) :=
  OpenClaim.holds_of_wide 3 Tryd.f3 rfl rfl rfl rfl rfl rfl rfl ⟨rfl, rfl, rfl, rfl, rfl⟩ rfl rfl rfl rfl rfl (by kernel_rfl) Tryd.func3 (by kernel_rfl)
    (of_decide_eq_true (by kernel_rfl)) (by unfold Func.isWrapper; first | (rw [if_pos (by decide +kernel)]; kernel_rfl) | (rw [if_neg (by decide +kernel)]; exact ⟨rfl, rfl⟩))
    (fun os started H enc _ => lifted os started H enc)

/-- The statement: the row's card, its listed variable tied to the program's text. -/
theorem proved : Rows.TablePutsCardSaid :=
  Claim7.holds_tied_plain_at .later [] [.data] true (true, "6357789f9c61fbacfad90615da08e5e94ad13bddcb8f0002294a4b3f8d4168e6") false
    over (fun _ h => by cases h) (by kernel_rfl) (fun _ h => by cases h) tablePuts_row_tie rfl ⟨rfl, rfl⟩ (by kernel_rfl) rfl
    (fun f fn hf hfn => by
      obtain rfl : f = 3 := Option.some.inj ((show Tryd.prog.funcNamed "matryoshka/matryoshkalaw8.TablePuts" = some 3 by kernel_rfl).symm.trans hf) |>.symm
      obtain rfl : fn = Tryd.f3 := (Option.some.inj (Tryd.func3.symm.trans hfn)).symm
      exact ⟨by kernel_rfl, fun j t ht => by
        rw [Tryd.params3] at ht
        have hm : t ∈ [24, 3] := by simpa using Array.mem_of_getElem? ht
        have hall : ([24, 3].all fun u => !Tryd.prog.wantsStandIn u) = true := by kernel_rfl
        exact (show Tryd.prog.wantsStandIn t = false by simpa using List.all_eq_true.1 hall t hm)⟩)
    (by kernel_rfl)
#print axioms proved
end Go.Proofs.YtjpcclllbjncfaaDoor.tablePuts
