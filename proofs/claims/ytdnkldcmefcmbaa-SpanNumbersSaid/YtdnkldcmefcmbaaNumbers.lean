/-
  Proved: 'matryoshkalaw4.SpanNumbers' returns true for every input, and each argument reads afterwards as before: the statement SpanNumbersSaid as given. Conditions: none beyond the row's own.
-/
import Derived.Test.YtdnkldcmefcmbaaRows
import Derived.Test.YtdnkldcmefcmbaaN4
import Derived.Deep.RegionHeld3
import Derived.WalkKit
import Derived.ProofKit
import Derived.OpenShut
import Derived.ShutString
import Derived.ChangeOld
import Derived.Below
namespace Go.Proofs.Ytdnkldcmefcmbaa.spanNumbers
open Go.ChangeShapes Go.WideShapes Go.ChangeAt Go.RowKit
open Go.ChangeMaps (open_string shut_string)
set_option linter.unusedVariables false

theorem own : ownKnob Try.prog.godebug = none := by kernel_rfl
theorem laidOut : laidOutB Try.prog = true := by kernel_rfl

/-- A slice of integers that came in: nil, or a row of cells. -/
def IsRow (k : IntKind) (w : World) (a : Option Addr) (len cap : Nat) (zs : List Int) : Prop :=
  (a = none ∧ len = 0 ∧ cap = 0 ∧ zs = []) ∨
  ∃ x, a = some x ∧ len ≤ cap ∧ cap ≤ maxLen ∧ zs.length = cap ∧ (∀ i, i < zs.length → w.cell? (x.add i) = some (.int k (zs.getD i 0))) ∧ ∀ n ∈ zs, (Lit.int k n).wf = true

set_option maxRecDepth 20000 in
set_option maxHeartbeats 4000000 in
theorem walk (a0 : Option Addr) (len0 cap0 : Nat) (z0 : List Int) (a1 : Int) (a2 : Int) (w : World) (w0 : IsRow .u16 w a0 len0 cap0 z0) (w1 : (Lit.int .u8 a1).wf = true) (w2 : (Lit.int .u8 a2).wf = true) :
    Calls Try.prog 5 #[.slice a0 len0 cap0, .int .u8 a1, .int .u8 a2] w fun e w' => e = .returned (.bool true) ∧ Below w.heap.size w w' := by
  obtain ⟨g, hgw, hgc, _, _⟩ := ints_arg w0
  have hlm : len0 ≤ 9223372036854775807 := by
    rcases w0 with ⟨_, h, _, _⟩ | ⟨_, _, h1, h2, _⟩
    · omega
    · unfold maxLen at h2
      omega
  obtain ⟨K0, hK0, hM⟩ := made_any a0 len0 cap0 g w hgw hlm hgc
  have HM := Lib.hid hM
  have hml := madeTo_len g K0
  have RM := madeTo_right g K0
  have hlo := madeTo_low g K0
  obtain ⟨ML, HML⟩ := named (madeTo g K0)
  rw [HML.out] at HM hml RM hlo
  obtain ⟨n, HN⟩ := named ML.length
  rw [HN.out] at hml
  have hn : n ≤ 30 := by omega
  have u1 := byte_of_wf w1
  have u2 := byte_of_wf w2
  obtain ⟨T, hT, hT1, hT2⟩ : ∃ T : Int, a1 + 1 + a2 % 40 = T ∧ a1 < T ∧ T ≤ 295 := ⟨_, rfl, by omega, by omega⟩
  have hmay : mayB (a1, T) = true := (mayB_iff _).2 ⟨u1.1, hT1, by show T ≤ 1073741824; omega⟩
  have hA := addL_len ML (a1, T)
  have hS := subL_len2 ML (a1, T)
  have RA := addL_right ML (a1, T)
  have RS := subL_right ML (a1, T)
  have inA := has_addL RM (a1, T) hmay
  have inS := has_subL RM (a1, T) hmay
  have eM := cnt_sum ML RM (by omega) 320 (fun m hm => by have := hlo m hm; omega)
  have eA := cnt_sum _ RA (by omega) 320 (fun m hm => by
    rw [addL_in ML _ hmay, norm_of RM] at hm
    rcases hm with hm | ⟨_, hm⟩
    · have := hlo m hm; omega
    · have hm' : m < T := hm
      omega)
  have eS := cnt_sum _ RS (by omega) 320 (fun m hm => by
    rw [subL_in ML _ hmay, norm_of RM] at hm
    have := hlo m hm.1; omega)
  have CA := Lib.hid (fun x c w (h : Spans w x n ML) (hn' : (x = none → c = 0) ∧ n ≤ c) => spanAdd_any x n c ML a1 T w h hn'.2 hn'.1 (by omega) (RM.fit (by omega)) (by unfold I64; omega) (by unfold I64; omega))
  have CS := Lib.hid (fun x c w (h : Spans w x n ML) (hn' : (x = none → c = 0) ∧ n ≤ c) => spanSub_any x n c ML a1 T w h hn'.2 hn'.1 (by omega) (RM.fit (by omega)) (by unfold I64; omega) (by unfold I64; omega))
  obtain ⟨AL, HAL⟩ := named (addL ML (a1, T))
  obtain ⟨SL, HSL⟩ := named (subL ML (a1, T))
  rw [HAL.out] at CA hA RA inA eA
  rw [HSL.out] at CS hS RS inS eS
  rw [HN.out] at hA hS
  obtain ⟨KA, HKA⟩ := named AL.length
  obtain ⟨KS, HKS⟩ := named SL.length
  rw [HKA.out] at hA
  rw [HKS.out] at hS
  have QM := Lib.hid RM
  have QA := Lib.hid RA
  have QS := Lib.hid RS
  have IA := Lib.hid inA
  have IS := Lib.hid inS
  have EM := Lib.hid eM
  have EA := Lib.hid eA
  have ES := Lib.hid eS
  have H00 : Hid (Held w [] [] w) := ⟨Below.refl _ _, fun p hp => (by cases hp), fun q hq => (by cases hq)⟩
  clear w0 w1 w2 hgw hgc hlm hM hmay RM RA RS inA inS eM eA eS hlo hml
  go_enter Try.func5, Try.ntmps5
  go_wp2_with (go_at_call 27; refine (Held.made HN.out HM.out H00.out).mono ?_; rintro e w1 ⟨x1, c1, rfl, hx1, hn1, _, hh⟩; have HN1 := Lib.hid hn1; have HE1 := Lib.hid (hh.more hx1); clear hx1 hn1 hh)
  obtain ⟨cs, HCS⟩ := named [((⟨w1.heap.size, 0, none⟩ : Addr), Value.int .i64 a1), (⟨w1.heap.size, 1, none⟩, .int .i64 T)]
  have M1 : Hid (((⟨w1.heap.size, 0, none⟩ : Addr), Value.int .i64 a1) ∈ cs) := by rw [Hid, ← HCS.out]; simp
  have M2 : Hid (((⟨w1.heap.size, 1, none⟩ : Addr), Value.int .i64 T) ∈ cs) := by rw [Hid, ← HCS.out]; simp
  have hE1 := HE1.out.laid (.int .i64 a1) (.int .i64 T) 24
  rw [HCS.out] at hE1
  clear HE1 HCS
  go_region_held3 (fun w' => w'.cell? ⟨w1.heap.size, 0, none⟩ = some (.int .i64 a1) ∧ w'.cell? ⟨w1.heap.size, 1, none⟩ = some (.int .i64 T) ∧ Held w cs [(x1, ML)] w')
    (first | exact Held.two (ls := [(x1, ML)]) (by assumption) M1.out M2.out | exact Held.two (ls := [(x1, ML)]) (Held.drew (by assumption)) M1.out M2.out)
    (first
      | (go_at_call 17; (with_reducible refine (Held.made HKS.out (CS.out _ _ _ (Held.spans (Held.of2 (by assumption)) (by simp) HN.out) HN1.out) (Held.of2 (by assumption))).mono ?_); rintro e w' ⟨x3, c3, rfl, hx3, hn3, hbb, hb⟩; have HX3 := Lib.hid hx3; have HN3 := Lib.hid hn3; have HX23 := Lib.hid (HX2.out.later hbb); clear hx3 hn3 hbb)
      | (go_at_call 15; (with_reducible refine (Held.made HKA.out (CA.out _ _ _ (Held.spans (Held.of2 (by assumption)) (by simp) HN.out) HN1.out) (Held.of2 (by assumption))).mono ?_); rintro e w' ⟨x2, c2, rfl, hx2, hn2, hbb, hb⟩; have HX2 := Lib.hid hx2; have HN2 := Lib.hid hn2; clear hx2 hn2 hbb))
  have hE2 : Held w cs [(x3, SL), (x2, AL), (x1, ML)] _ := Held.more (Held.more (Held.of2 (by assumption)) HX23.out) HX3.out
  clear HX3 HX2 HX23
  have HE2 := Lib.hid hE2
  clear hE2 hE1 hb hT u2 CA CS HM H00
  go_wp2
  go_loopw [11, 12, 13] (fun m l i wr => ∃ j : Nat, j ≤ 320 ∧ i = .int .i64 j ∧ Hid (Held w cs [(x3, SL), (x2, AL), (x1, ML)] wr) ∧ ∃ p : Nat, p ≤ j ∧ m = .int .i64 p ∧ Hid (cnt AL j = cnt ML j + p) ∧ ∃ q : Nat, q ≤ j ∧ l = .int .i64 q ∧ Hid (cnt ML j = cnt SL j + q)) (fun _ _ i _ => 320 - (intOf i).toNat)
  case atStart => exact ⟨0, by omega, rfl, HE2.out, 0, by omega, rfl, (rfl : cnt AL 0 = cnt ML 0 + 0), 0, by omega, rfl, (rfl : cnt ML 0 = cnt SL 0 + 0)⟩
  case round =>
    obtain ⟨j, hj, rfl, HE, p, hp, rfl, HP, q, hq, rfl, HQ⟩ := hrel
    clear HE2
    by_cases hlt : j < 320
    · clear EM EA ES
      have iA := IA.out (j : Int)
      have iS := IS.out (j : Int)
      obtain ⟨bM, HBM⟩ := named (hasB ML (j : Int))
      obtain ⟨bA, HBA⟩ := named (hasB AL (j : Int))
      obtain ⟨bS, HBS⟩ := named (hasB SL (j : Int))
      rw [HBA.out, HBM.out] at iA
      rw [HBS.out, HBM.out] at iS
      have sM := Lib.hid (cnt_step HBM.out)
      have sA := Lib.hid (cnt_step HBA.out)
      have sS := Lib.hid (cnt_step HBS.out)
      have CM := Lib.hid (fun w (h : Spans w x1 n ML) => has_any h QM.out HN1.out (by omega) (j := j) (by omega) HBM.out)
      have CA := Lib.hid (fun w (h : Spans w x2 KA AL) => has_any h QA.out HN2.out (by omega) (j := j) (by omega) HBA.out)
      have CS := Lib.hid (fun w (h : Spans w x3 KS SL) => has_any h QS.out HN3.out (by omega) (j := j) (by omega) HBS.out)
      obtain ⟨d1, d2, _⟩ := Held.two HE.out M1.out M2.out
      clear HBM HBA HBS IA IS
      rcases (by omega : (a1 ≤ (j : Int) ∧ (j : Int) < T) ∨ ¬ a1 ≤ (j : Int) ∨ (a1 ≤ (j : Int) ∧ ¬ (j : Int) < T)) with ⟨h1, h2⟩ | h1 | ⟨h1, h2⟩
      · obtain ⟨rfl, rfl⟩ := bools_in ⟨h1, h2⟩ iA iS
        clear iA iS
        cases bM
        · go_wp2_with (first
          | (go_at_call 19; (with_reducible refine (Held.val (CM.out _ (Held.spans HE.out (by simp) HN.out)) HE.out).mono ?_); rintro e wa ⟨rfl, hb⟩; have E1 := Lib.hid hb; clear hb)
          | (go_at_call 19; (with_reducible refine (Held.val (CA.out _ (Held.spans E1.out (by simp) HKA.out)) E1.out).mono ?_); rintro e wb ⟨rfl, hb⟩; have E2 := Lib.hid hb; clear hb)
          | (go_at_call 19; (with_reducible refine (Held.val (CS.out _ (Held.spans E2.out (by simp) HKS.out)) E2.out).mono ?_); rintro e wc ⟨rfl, hb⟩; have E3 := Lib.hid hb; clear hb))
          go_roundw
          case rel => exact ⟨j + 1, by omega, by go_num, E3.out, (p + 1), by omega, by first | rfl | go_num, by have e1 := sM.out; have e2 := sA.out; have e3 := HP.out; simp at e1 e2; rw [Hid]; omega, q, by omega, by first | rfl | go_num, by have e1 := sM.out; have e2 := sS.out; have e3 := HQ.out; simp at e1 e2; rw [Hid]; omega⟩
          case measure => simp [intOf]; omega
        · go_wp2_with (first
          | (go_at_call 19; (with_reducible refine (Held.val (CM.out _ (Held.spans HE.out (by simp) HN.out)) HE.out).mono ?_); rintro e wa ⟨rfl, hb⟩; have E1 := Lib.hid hb; clear hb)
          | (go_at_call 19; (with_reducible refine (Held.val (CA.out _ (Held.spans E1.out (by simp) HKA.out)) E1.out).mono ?_); rintro e wb ⟨rfl, hb⟩; have E2 := Lib.hid hb; clear hb)
          | (go_at_call 19; (with_reducible refine (Held.val (CS.out _ (Held.spans E2.out (by simp) HKS.out)) E2.out).mono ?_); rintro e wc ⟨rfl, hb⟩; have E3 := Lib.hid hb; clear hb))
          go_roundw
          case rel => exact ⟨j + 1, by omega, by go_num, E3.out, p, by omega, by first | rfl | go_num, by have e1 := sM.out; have e2 := sA.out; have e3 := HP.out; simp at e1 e2; rw [Hid]; omega, (q + 1), by omega, by first | rfl | go_num, by have e1 := sM.out; have e2 := sS.out; have e3 := HQ.out; simp at e1 e2; rw [Hid]; omega⟩
          case measure => simp [intOf]; omega
      · obtain ⟨rfl, rfl⟩ := bools_out (fun h => h1 h.1) iA iS
        clear iA iS
        cases bM
        · go_wp2_with (first
          | (go_at_call 19; (with_reducible refine (Held.val (CM.out _ (Held.spans HE.out (by simp) HN.out)) HE.out).mono ?_); rintro e wa ⟨rfl, hb⟩; have E1 := Lib.hid hb; clear hb)
          | (go_at_call 19; (with_reducible refine (Held.val (CA.out _ (Held.spans E1.out (by simp) HKA.out)) E1.out).mono ?_); rintro e wb ⟨rfl, hb⟩; have E2 := Lib.hid hb; clear hb)
          | (go_at_call 19; (with_reducible refine (Held.val (CS.out _ (Held.spans E2.out (by simp) HKS.out)) E2.out).mono ?_); rintro e wc ⟨rfl, hb⟩; have E3 := Lib.hid hb; clear hb))
          go_roundw
          case rel => exact ⟨j + 1, by omega, by go_num, E3.out, p, by omega, by first | rfl | go_num, by have e1 := sM.out; have e2 := sA.out; have e3 := HP.out; simp at e1 e2; rw [Hid]; omega, q, by omega, by first | rfl | go_num, by have e1 := sM.out; have e2 := sS.out; have e3 := HQ.out; simp at e1 e2; rw [Hid]; omega⟩
          case measure => simp [intOf]; omega
        · go_wp2_with (first
          | (go_at_call 19; (with_reducible refine (Held.val (CM.out _ (Held.spans HE.out (by simp) HN.out)) HE.out).mono ?_); rintro e wa ⟨rfl, hb⟩; have E1 := Lib.hid hb; clear hb)
          | (go_at_call 19; (with_reducible refine (Held.val (CA.out _ (Held.spans E1.out (by simp) HKA.out)) E1.out).mono ?_); rintro e wb ⟨rfl, hb⟩; have E2 := Lib.hid hb; clear hb)
          | (go_at_call 19; (with_reducible refine (Held.val (CS.out _ (Held.spans E2.out (by simp) HKS.out)) E2.out).mono ?_); rintro e wc ⟨rfl, hb⟩; have E3 := Lib.hid hb; clear hb))
          go_roundw
          case rel => exact ⟨j + 1, by omega, by go_num, E3.out, p, by omega, by first | rfl | go_num, by have e1 := sM.out; have e2 := sA.out; have e3 := HP.out; simp at e1 e2; rw [Hid]; omega, q, by omega, by first | rfl | go_num, by have e1 := sM.out; have e2 := sS.out; have e3 := HQ.out; simp at e1 e2; rw [Hid]; omega⟩
          case measure => simp [intOf]; omega
      · obtain ⟨rfl, rfl⟩ := bools_out (fun h => h2 h.2) iA iS
        clear iA iS
        cases bM
        · go_wp2_with (first
          | (go_at_call 19; (with_reducible refine (Held.val (CM.out _ (Held.spans HE.out (by simp) HN.out)) HE.out).mono ?_); rintro e wa ⟨rfl, hb⟩; have E1 := Lib.hid hb; clear hb)
          | (go_at_call 19; (with_reducible refine (Held.val (CA.out _ (Held.spans E1.out (by simp) HKA.out)) E1.out).mono ?_); rintro e wb ⟨rfl, hb⟩; have E2 := Lib.hid hb; clear hb)
          | (go_at_call 19; (with_reducible refine (Held.val (CS.out _ (Held.spans E2.out (by simp) HKS.out)) E2.out).mono ?_); rintro e wc ⟨rfl, hb⟩; have E3 := Lib.hid hb; clear hb))
          go_roundw
          case rel => exact ⟨j + 1, by omega, by go_num, E3.out, p, by omega, by first | rfl | go_num, by have e1 := sM.out; have e2 := sA.out; have e3 := HP.out; simp at e1 e2; rw [Hid]; omega, q, by omega, by first | rfl | go_num, by have e1 := sM.out; have e2 := sS.out; have e3 := HQ.out; simp at e1 e2; rw [Hid]; omega⟩
          case measure => simp [intOf]; omega
        · go_wp2_with (first
          | (go_at_call 19; (with_reducible refine (Held.val (CM.out _ (Held.spans HE.out (by simp) HN.out)) HE.out).mono ?_); rintro e wa ⟨rfl, hb⟩; have E1 := Lib.hid hb; clear hb)
          | (go_at_call 19; (with_reducible refine (Held.val (CA.out _ (Held.spans E1.out (by simp) HKA.out)) E1.out).mono ?_); rintro e wb ⟨rfl, hb⟩; have E2 := Lib.hid hb; clear hb)
          | (go_at_call 19; (with_reducible refine (Held.val (CS.out _ (Held.spans E2.out (by simp) HKS.out)) E2.out).mono ?_); rintro e wc ⟨rfl, hb⟩; have E3 := Lib.hid hb; clear hb))
          go_roundw
          case rel => exact ⟨j + 1, by omega, by go_num, E3.out, p, by omega, by first | rfl | go_num, by have e1 := sM.out; have e2 := sA.out; have e3 := HP.out; simp at e1 e2; rw [Hid]; omega, q, by omega, by first | rfl | go_num, by have e1 := sM.out; have e2 := sS.out; have e3 := HQ.out; simp at e1 e2; rw [Hid]; omega⟩
          case measure => simp [intOf]; omega
    · obtain rfl : j = 320 := by omega
      have kL := cnt_le ML 320
      have g1 := EM.out
      have g2 := EA.out
      have g3 := ES.out
      have g4 := HP.out
      have g5 := HQ.out
      obtain ⟨nL, HNL⟩ := named (cnt ML 320)
      rw [HNL.out] at kL g1 g4 g5
      have z1 := Lib.hid g1.symm
      have z2 : Hid (sumL AL = (nL : Int) + (p : Int)) := by rw [Hid]; omega
      have z3 : Hid (sumL SL = (nL : Int) - (q : Int)) := by rw [Hid]; omega
      clear g1 g2 g3 g4 g5 EM EA ES HP HQ
      have c1' := Lib.hid (fun w (h : Spans w x2 KA AL) => right_any h QA.out HN2.out (by omega))
      have c2' := Lib.hid (fun w (h : Spans w x3 KS SL) => right_any h QS.out HN3.out (by omega))
      have c3' := Lib.hid (fun w (h : Spans w x2 KA AL) => count_any h QA.out HN2.out (by omega) z2.out)
      have c4' := Lib.hid (fun w (h : Spans w x1 n ML) => count_any h QM.out HN1.out (by omega) z1.out)
      have c5' := Lib.hid (fun w (h : Spans w x3 KS SL) => count_any h QS.out HN3.out (by omega) z3.out)
      go_wp2_with (first
        | (go_at_call 11; refine (awake_any _).mono ?_; rintro e w15 ⟨rfl, hb⟩; have HZ := Lib.hid (E6.out.1.trans (hb.mono E6.out.1.size)); clear hb)
        | (go_at_call 12; (with_reducible refine (Held.val (c1'.out _ (Held.spans HE.out (by simp) HKA.out)) HE.out).mono ?_); rintro e v1 ⟨rfl, hb⟩; have E1 := Lib.hid hb; clear hb)
        | (go_at_call 12; (with_reducible refine (Held.val (c2'.out _ (Held.spans E1.out (by simp) HKS.out)) E1.out).mono ?_); rintro e v2 ⟨rfl, hb⟩; have E2 := Lib.hid hb; clear hb)
        | (go_at_call 21; (with_reducible refine (Held.val (c3'.out _ (Held.spans E2.out (by simp) HKA.out)) E2.out).mono ?_); rintro e v3 ⟨rfl, hb⟩; have E3 := Lib.hid hb; clear hb)
        | (go_at_call 21; (with_reducible refine (Held.val (c4'.out _ (Held.spans E3.out (by simp) HN.out)) E3.out).mono ?_); rintro e v4 ⟨rfl, hb⟩; have E4 := Lib.hid hb; clear hb)
        | (go_at_call 21; (with_reducible refine (Held.val (c5'.out _ (Held.spans E4.out (by simp) HKS.out)) E4.out).mono ?_); rintro e v5 ⟨rfl, hb⟩; have E5 := Lib.hid hb; clear hb)
        | (go_at_call 21; (with_reducible refine (Held.val (c4'.out _ (Held.spans E5.out (by simp) HN.out)) E5.out).mono ?_); rintro e v6 ⟨rfl, hb⟩; have E6 := Lib.hid hb; clear hb))
      go_ret
      exact ⟨rfl, HZ.out⟩

set_option maxRecDepth 100000 in
theorem lifted (os : Os) (started : os.Started) (H : Type) (enc : TypeId × Value → H) :
    ReturnsInHanded {} Try.checked os 5 .any (Rows.spanNumbersSpec.pre6 enc Try.prog Try.f5 Rows.spanNumbersRow.domain false) (Rows.spanNumbersSpec.post enc Try.prog Try.f5 false true false false) := by
  refine returnsInHanded_of_change (C := Try.checked) own started (by kernel_rfl) Try.func5
    (ChangeSpec.witness6 (enc := enc) (C := Try.checked) false ⟨#[], #[.slice none 0 0, .int .u8 0, .int .u8 0], []⟩ 8 (by kernel_rfl) (by kernel_rfl) (by kernel_rfl) (by kernel_rfl)) ?_
  intro W base args ds gs before hval0 hW hcnd _
  have hval : ∀ (j : Nat) t v, Try.f5.params[j]? = some t → args[j]? = some v → Value.okWide Try.prog W .any base t v := hval0
  have hW' := hW
  obtain ⟨p, q, hA0, hV, rfl, hfz, hnd⟩ := hW
  have hA : DataW.TrodAll enc Try.prog W 0 (fun _ => true) true Try.f5.params.toList args.toList ds p := hA0
  rw [Try.params5] at hA hval
  obtain ⟨v0, vs0, d0, ds0, p0, q0, hargs, rfl, rfl, h0, r0⟩ := trodAll_cons hA
  obtain ⟨v1, vs1, d1, ds1, p1, q1, rfl, rfl, rfl, h1, r1⟩ := trodAll_cons r0
  obtain ⟨v2, vs2, d2, ds2, p2, q2, rfl, rfl, rfl, h2, r2⟩ := trodAll_cons r1
  obtain ⟨rfl, rfl, rfl⟩ := trodAll_nil r2
  obtain rfl : args = #[v0, v1, v2] := by cases args; simp_all
  obtain ⟨rfl, rfl⟩ := trodVars_none hV
  have k0 := h0
  have lt0 : ∀ x ∈ p0, x.block < W.heap.size := by obtain ⟨m, hm⟩ := k0; exact DataW.trod_lt m _ _ _ hm
  obtain ⟨a0, len0, cap0, rfl⟩ := okWide_slice Try.underlying41 (hval 0 41 v0 rfl rfl)
  obtain ⟨z0, w0⟩ : ∃ zs, IsRow .u16 W a0 len0 cap0 zs := by
    obtain ⟨fuel, hf⟩ := h0
    rcases open_ints Try.underlying41 Try.underlying45 (by kernel_rfl) hf with ⟨hcs, _⟩ | ⟨x, l, c, zs, hcs, _, hl, hm, hz, _, hcell, hwz⟩
    · simp [Value.cells] at hcs
      obtain ⟨rfl, rfl, rfl⟩ := hcs
      exact ⟨[], .inl ⟨rfl, rfl, rfl, rfl⟩⟩
    · simp [Value.cells] at hcs
      obtain ⟨rfl, rfl, rfl⟩ := hcs
      exact ⟨zs, .inr ⟨_, rfl, hl, hm, by simpa using hz, hcell, hwz⟩⟩
  have k1 := h1
  have lt1 : ∀ x ∈ p1, x.block < W.heap.size := by obtain ⟨m, hm⟩ := k1; exact DataW.trod_lt m _ _ _ hm
  obtain ⟨a1, rfl, _, _, w1⟩ := open_int Try.underlying5 (hval 1 5 v1 rfl rfl) h1
  have k2 := h2
  have lt2 : ∀ x ∈ p2, x.block < W.heap.size := by obtain ⟨m, hm⟩ := k2; exact DataW.trod_lt m _ _ _ hm
  obtain ⟨a2, rfl, _, _, w2⟩ := open_int Try.underlying5 (hval 2 5 v2 rfl rfl) h2
  clear hA0 hval0
  refine (walk a0 len0 cap0 z0 a1 a2 W w0 w1 w2).mono fun e W' ⟨he, bel⟩ => ?_
  subst he
  exact ⟨_, rfl, _, _, _, [], _, [], hW', trodAll_mk1 (shut_bool Try.underlying4 _), (trodAll_cons_mk (Below.trod laidOut (by kernel_rfl) (of_decide_eq_true (by kernel_rfl)) k0 bel lt0) (trodAll_cons_mk (Below.trod laidOut (by kernel_rfl) (of_decide_eq_true (by kernel_rfl)) k1 bel lt1) (trodAll_cons_mk (Below.trod laidOut (by kernel_rfl) (of_decide_eq_true (by kernel_rfl)) k2 bel lt2) trodAll_mk0))), rfl, bel.frame _, fun h => by cases h⟩

theorem over : Rows.spanNumbersRow.holds Try.pinned (OpenSpec.ofChange Rows.spanNumbersSpec) :=
  OpenClaim.holds_of_wide 5 Try.f5 rfl rfl rfl rfl rfl rfl rfl ⟨rfl, rfl, rfl, rfl, rfl⟩ rfl rfl rfl rfl rfl (by kernel_rfl) Try.func5 (by kernel_rfl)
    (of_decide_eq_true (by kernel_rfl)) (by unfold Func.isWrapper; first | (rw [if_pos (by decide +kernel)]; kernel_rfl) | (rw [if_neg (by decide +kernel)]; exact ⟨rfl, rfl⟩))
    (fun os started H enc _ => lifted os started H enc)

/-- The statement. -/
theorem proved : Rows.SpanNumbersSaid := over
#print axioms proved
end Go.Proofs.Ytdnkldcmefcmbaa.spanNumbers
