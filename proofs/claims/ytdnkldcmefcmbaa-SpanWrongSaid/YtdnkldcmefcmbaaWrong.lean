/-
  Proved: 'matryoshkalaw4.SpanWrong' returns true for every input, and each argument reads afterwards as before: the statement SpanWrongSaid as given. Conditions: none beyond the row's own.
-/
import Derived.Test.YtdnkldcmefcmbaaRows
import Derived.Test.YtdnkldcmefcmbaaI4
import Derived.Deep.RegionHeld3
import Derived.WalkKit
import Derived.ProofKit
import Derived.OpenShut
import Derived.ShutString
import Derived.ChangeOld
import Derived.Below
namespace Go.Proofs.Ytdnkldcmefcmbaa.spanWrong
open Go.ChangeShapes Go.WideShapes Go.ChangeAt Go.RowKit
open Go.ChangeMaps (open_string shut_string)
set_option linter.unusedVariables false

theorem own : ownKnob Try.prog.godebug = none := by kernel_rfl
theorem laidOut : laidOutB Try.prog = true := by kernel_rfl

/-- A slice of integers that came in: nil, or a row of cells. -/
def IsRow (k : IntKind) (w : World) (a : Option Addr) (len cap : Nat) (zs : List Int) : Prop :=
  (a = none ∧ len = 0 ∧ cap = 0 ∧ zs = []) ∨
  ∃ x, a = some x ∧ len ≤ cap ∧ cap ≤ maxLen ∧ zs.length = cap ∧ (∀ i, i < zs.length → w.cell? (x.add i) = some (.int k (zs.getD i 0))) ∧ ∀ n ∈ zs, (Lit.int k n).wf = true

set_option maxRecDepth 20000 in
set_option maxHeartbeats 4000000 in
theorem walk (a0 : Option Addr) (len0 cap0 : Nat) (z0 : List Int) (f1 t1 : Int) (a2 : Int) (w : World) (w0 : IsRow .u16 w a0 len0 cap0 z0) (w1 : (Lit.int .i64 f1).wf = true ∧ (Lit.int .i64 t1).wf = true) (w2 : (Lit.int .u8 a2).wf = true) :
    Calls Try.prog 9 #[.slice a0 len0 cap0, .agg #[.int .i64 f1, .int .i64 t1], .int .u8 a2] w fun e w' => e = .returned (.bool true) ∧ Below w.heap.size w w' := by
  obtain ⟨g, hgw, hgc, _, _⟩ := ints_arg w0
  have hlm : len0 ≤ 9223372036854775807 := by
    rcases w0 with ⟨_, h, _, _⟩ | ⟨_, _, h1, h2, _⟩
    · omega
    · unfold maxLen at h2
      omega
  obtain ⟨K0, hK0, hM⟩ := made_later a0 len0 cap0 g w hgw hlm hgc
  have HM := Lib.hid hM
  have hml := madeTo_len g K0
  have RX := madeTo_right g K0
  obtain ⟨X, HX⟩ := named (madeTo g K0)
  rw [HX.out] at HM hml RX
  obtain ⟨n, HN⟩ := named X.length
  rw [HN.out] at hml
  have hn : n ≤ 30 := by omega
  have i1 := i64_wf w1.1
  have i2 := i64_wf w1.2
  have u2 := byte_of_wf w2
  have QX := Lib.hid RX
  have H00 : Hid (Held w [((⟨w.heap.size, 0, none⟩ : Addr), Value.int .i64 f1), (⟨w.heap.size, 1, none⟩, .int .i64 t1)] [] (w.alloc (.cells #[.int .i64 f1, .int .i64 t1] 24))) := ⟨(Below.refl _ _).alloc (Nat.le_refl _) _, fun p hp => (by
    simp only [List.mem_cons, List.not_mem_nil, or_false] at hp
    rcases hp with rfl | rfl <;> simp [go_sem]), fun q hq => (by cases hq)⟩
  obtain ⟨cs, HCS⟩ := named [((⟨w.heap.size, 0, none⟩ : Addr), Value.int .i64 f1), (⟨w.heap.size, 1, none⟩, .int .i64 t1)]
  have M1 : Hid (((⟨w.heap.size, 0, none⟩ : Addr), Value.int .i64 f1) ∈ cs) := by rw [Hid, ← HCS.out]; simp
  have M2 : Hid (((⟨w.heap.size, 1, none⟩ : Addr), Value.int .i64 t1) ∈ cs) := by rw [Hid, ← HCS.out]; simp
  rw [HCS.out] at H00
  clear w0 w1 w2 hgw hgc hlm hM RX hml HCS
  by_cases hn0 : n = 0
  · have hz : ((n : Int) == 0) = true := by simp [hn0]
    go_enter Try.func9, Try.ntmps9
    go_wp2_with (first
      | (go_at_call 27; (with_reducible refine (Held.made HN.out (HM.out _ ((Below.refl _ _).alloc (Nat.le_refl _) _)) H00.out).mono ?_); rintro e w1 ⟨x1, c1, rfl, hx1, hn1, _, hh⟩; have HE1 := Lib.hid hh; clear hx1 hn1 hh)
      | (go_at_call 11; refine (awake_any _).mono ?_; rintro e w15 ⟨rfl, hb⟩; have HZ := Lib.hid (HE1.out.1.trans (hb.mono HE1.out.1.size)); clear hb))
    go_ret
    exact ⟨rfl, HZ.out⟩
  have hz : ((n : Int) == 0) = false := by simp; omega
  obtain ⟨K, hK, hKn⟩ : ∃ K : Nat, a2 / 4 % (n : Int) = (K : Int) ∧ K < n := by
    have h1 := Int.emod_nonneg (a2 / 4) (show (n : Int) ≠ 0 by omega)
    have h2 := Int.emod_lt_of_pos (a2 / 4) (show (0 : Int) < (n : Int) by omega)
    exact ⟨(a2 / 4 % (n : Int)).toNat, by omega, by omega⟩
  obtain ⟨J, hJ, hJn⟩ : ∃ J : Nat, (n : Int) - 1 = (J : Int) ∧ J + 1 = n := ⟨n - 1, by omega, by omega⟩
  have fX := QX.out.fit (by omega)
  have hmay := fun k (hk : k < n) => (mayB_iff _).1 (QX.out.may (by omega) k (by rw [HN.out]; exact hk))
  have mK := hmay K hKn
  have mJ := hmay J (by omega)
  have m0 := hmay 0 (by omega)
  obtain ⟨fK, HfK⟩ := named (spAt X K).1
  obtain ⟨tK, HtK⟩ := named (spAt X K).2
  obtain ⟨fJ, HfJ⟩ := named (spAt X J).1
  obtain ⟨tJ, HtJ⟩ := named (spAt X J).2
  obtain ⟨f0, Hf0⟩ := named (spAt X 0).1
  rw [HfK.out, HtK.out] at mK
  rw [HfJ.out, HtJ.out] at mJ
  rw [Hf0.out] at m0
  have iK : I64 fK ∧ I64 tK := by unfold I64; omega
  have iJ : I64 fJ ∧ I64 tJ ∧ I64 (tJ + 1) := by unfold I64; omega
  have i0 : I64 f0 := by unfold I64; omega
  obtain ⟨A, HA⟩ := named (addL [] (f1, t1))
  obtain ⟨KA, HKA⟩ := named A.length
  have hAl := addL_len [] (f1, t1)
  rw [HA.out, HKA.out] at hAl
  have HX0 := Lib.hid (none_all QX.out (s := ((5 : Int), (5 : Int))) (by rfl)).1
  have HX1 := Lib.hid (none_all QX.out (s := ((-3 : Int), (4 : Int))) (by rfl)).2
  have hwAdd := fun (wz : World) => nil_add wz i1 i2
  rw [HA.out] at hwAdd
  have HNA := Lib.hid hwAdd
  have HXA : Hid (∀ wz x c, Spans wz x n X → ((x = none → c = 0) ∧ n ≤ c) → Calls Try.prog 15 #[.slice x n c, .agg #[.int .i64 5, .int .i64 5]] wz (SpPost wz X)) := fun wz x c h hn' => by
    have := spanAdd_any x n c X 5 5 wz h hn'.2 hn'.1 (by omega) fX (by unfold I64; omega) (by unfold I64; omega)
    rw [HX0.out] at this
    exact this
  have HXS : Hid (∀ wz x c, Spans wz x n X → ((x = none → c = 0) ∧ n ≤ c) → Calls Try.prog 17 #[.slice x n c, .agg #[.int .i64 (-3), .int .i64 4]] wz (SpPost wz X)) := fun wz x c h hn' => by
    have := spanSub_any x n c X (-3) 4 wz h hn'.2 hn'.1 (by omega) fX (by unfold I64; omega) (by unfold I64; omega)
    rw [HX1.out] at this
    exact this
  have FX := Lib.hid fX
  have I1 := Lib.hid i1
  have I2 := Lib.hid i2
  have IK := Lib.hid iK
  have IJ := Lib.hid iJ
  have I0 := Lib.hid i0
  have MK := Lib.hid mK
  have MJ := Lib.hid mJ
  have h1J : n ≤ 30 ∧ 1 ≤ n := by omega
  clear hmay m0 hwAdd iK iJ i0 i1 i2 mK mJ
  rcases (by omega : a2 % 4 = 0 ∨ a2 % 4 = 1 ∨ a2 % 4 = 2 ∨ a2 % 4 = 3) with q | q | q | q
  · have HW : Hid (¬ Rt (-1) (X.set K (fK, fK))) := wrong_of (k := K) (by rw [List.length_set, HN.out]; exact hKn) (Or.inl (by rw [spAt_set _ _ _ (by rw [HN.out]; exact hKn)]; simp [mayB]))
    have HFB : Hid (SpFit (X.set K (fK, fK))) := fit_set FX.out K IK.out.1 IK.out.1
    have HBN : Hid ((X.set K (fK, fK)).length = n) := by rw [Hid, List.length_set]; exact HN.out
    have HWA : Hid (∀ {wz : World} {x : Option Addr} {c : Nat} (_ : (x = none → c = 0) ∧ n ≤ c), Spans wz x (n) (X.set K (fK, fK)) → Calls Try.prog 15 #[.slice x (n) c, .agg #[.int .i64 f1, .int .i64 t1]] wz (SpPost wz A)) := fun hn' h => by
      have := wrong_add h hn' (by omega) HFB.out HW.out I1.out I2.out
      rw [HA.out] at this
      exact this
    obtain ⟨BL, HBL⟩ := named (X.set K (fK, fK))
    rw [HBL.out] at HW HFB HBN HWA
    go_enter Try.func9, Try.ntmps9
    go_wp2_with (first
      | (go_at_call 27; (with_reducible refine (Held.made HN.out (HM.out _ ((Below.refl _ _).alloc (Nat.le_refl _) _)) H00.out).mono ?_); rintro e w1 ⟨x1, c1, rfl, hx1, hn1, _, hh⟩; have HN1 := Lib.hid hn1; have HS1 := Lib.hid hx1; have HE1 := Lib.hid (hh.more hx1); clear hx1 hn1 hh)
      | (at_builtin; refine append_g_copy sp_rowed rfl (.tmp 22) (.tmp 23) rfl w1.heap.size rfl x1 n c1 X rfl HN1.out.1 HS1.out (by omega) (Nat.le_refl _) ?_; intro a4 c4 w4 g1 g2; obtain ⟨g4, rfl, hg4, hcl⟩ := own_here g1 (by omega); have HO4 := Lib.hid g1; have HG4 := Lib.hid g2; obtain ⟨d1, d2⟩ := hcl K hKn; rw [HfK.out] at d1; have fr := own_free HO4.out (K * 2 + 1); clear g1 g2 hcl))
    have hO5 := own_set1 HO4.out hKn fK
    rw [HfK.out, HBL.out] at hO5
    have hr5 := hO5.reads sp_rowed
    have HE5 : Hid (Held w cs [(some ⟨g4, 0, none⟩, BL), (x1, X)] (w4.setCell ⟨g4, K * 2 + 1, none⟩ (.int .i64 fK))) := (HE1.out.later (HG4.out.setCell hg4 _)).more hr5.1
    have HNB := Lib.hid hr5.2
    clear hr5 hO5
    obtain ⟨b1, off1, rfl⟩ := HS1.out.lies (by omega)
    have hF := Held.first HE5.out M1.out M2.out (b := b1) (off := off1) (by simp) HN.out (by omega) Hf0.out
    have hpos : (0 : Int) < (n : Int) := by omega
    have hpos2 : 0 < n := by omega
    go_region_held3 (fun w' => w'.cell? ⟨w.heap.size, 0, none⟩ = some (.int .i64 f1) ∧ w'.cell? ⟨w.heap.size, 1, none⟩ = some (.int .i64 t1) ∧ w'.cell? ⟨b1, off1, none⟩ = some (.int .i64 f0) ∧ Held w cs [(some ⟨g4, 0, none⟩, BL), (some ⟨b1, off1, none⟩, X)] w')
      (first | exact Held.first (ls := [(some ⟨g4, 0, none⟩, BL), (some ⟨b1, off1, none⟩, X)]) (by assumption) M1.out M2.out (by simp) HN.out (by omega) Hf0.out | exact Held.first (ls := [(some ⟨g4, 0, none⟩, BL), (some ⟨b1, off1, none⟩, X)]) HE5.out.drew M1.out M2.out (by simp) HN.out (by omega) Hf0.out)
      (first
        | (go_at_call 12; (with_reducible refine (Held.val (wrong_right (Held.spans (Held.of3 (by assumption)) (by simp) HBN.out) HNB.out (by omega) HFB.out HW.out) (Held.of3 (by assumption))).mono ?_); rintro e w' ⟨rfl, hb⟩)
        | (go_at_call 21; (with_reducible refine (Held.val (wrong_count (Held.spans (Held.of3 (by assumption)) (by simp) HBN.out) HNB.out (by omega) HFB.out HW.out) (Held.of3 (by assumption))).mono ?_); rintro e w' ⟨rfl, hb⟩)
        | (go_at_call 19; (with_reducible refine (Held.val (wrong_has (Held.spans (Held.of3 (by assumption)) (by simp) HBN.out) HNB.out (by omega) HFB.out HW.out I0.out) (Held.of3 (by assumption))).mono ?_); rintro e w' ⟨rfl, hb⟩)
        | (go_at_call 17; (with_reducible refine (Held.made (K := 0) rfl (wrong_sub (Held.spans (Held.of3 (by assumption)) (by simp) HBN.out) HNB.out (by omega) HFB.out HW.out I1.out I2.out) (Held.of3 (by assumption))).mono ?_); rintro e w' ⟨x5, c5, rfl, _, _, _, hb⟩)
        | (go_at_call 15; (with_reducible refine (Held.made HKA.out (HWA.out HNB.out (Held.spans (Held.of3 (by assumption)) (by simp) HBN.out)) (Held.of3 (by assumption))).mono ?_); rintro e w' ⟨x6, c6, rfl, hx6, _, _, hb⟩; have HX6 := Lib.hid hx6; clear hx6)
        | (go_at_call 15; (with_reducible refine (Held.made HKA.out (HNA.out _) (Held.of3 (by assumption))).mono ?_); rintro e w' ⟨x7, c7, rfl, hx7, _, hbb, hb⟩; have HX7 := Lib.hid hx7; have HX67 := Lib.hid (HX6.out.later hbb); clear hx7 hbb)
        | (go_at_call 14; (with_reducible refine (Held.val (same2_any HX67.out HX7.out) (Held.of3 (by assumption))).mono ?_); rintro e w' ⟨rfl, hb⟩))
    have HE6 : Hid (Held w cs [(some ⟨g4, 0, none⟩, BL), (some ⟨b1, off1, none⟩, X)] _) := Held.of3 (by assumption)
    clear HX6 HX7 HX67
    go_wp2_with (first
      | (go_at_call 15; (with_reducible refine (Held.made HN.out (HXA.out _ _ _ (Held.spans HE6.out (by simp) HN.out) HN1.out) HE6.out).mono ?_); rintro e w7 ⟨x8, c8, rfl, hx8, _, _, hb⟩; have HE7 := Lib.hid (hb.more hx8); clear hb hx8)
      | (go_at_call 14; (with_reducible refine (Held.val (same2_any (Held.spans HE7.out (x := x8) (by simp) HN.out) (Held.spans HE7.out (by simp) HN.out)) HE7.out).mono ?_); rintro e w8 ⟨rfl, hb⟩; have HE8 := Lib.hid hb; clear hb)
      | (go_at_call 17; (with_reducible refine (Held.made HN.out (HXS.out _ _ _ (Held.spans HE8.out (by simp) HN.out) HN1.out) HE8.out).mono ?_); rintro e w9 ⟨x9, c9, rfl, hx9, _, _, hb⟩; have HE9 := Lib.hid (hb.more hx9); clear hb hx9)
      | (go_at_call 14; (with_reducible refine (Held.val (same2_any (Held.spans HE9.out (x := x9) (by simp) HN.out) (Held.spans HE9.out (by simp) HN.out)) HE9.out).mono ?_); rintro e w10 ⟨rfl, hb⟩; have HE10 := Lib.hid hb; clear hb)
      | (go_at_call 11; refine (awake_any _).mono ?_; rintro e w15 ⟨rfl, hb⟩; have HZ := Lib.hid (HE10.out.1.trans (hb.mono HE10.out.1.size)); clear hb))
    go_ret
    exact ⟨rfl, HZ.out⟩
  · have HW : Hid (¬ Rt (-1) (X.set K (-1, tK))) := wrong_of (k := K) (by rw [List.length_set, HN.out]; exact hKn) (Or.inl (by rw [spAt_set _ _ _ (by rw [HN.out]; exact hKn)]; simp [mayB]))
    have HFB : Hid (SpFit (X.set K (-1, tK))) := fit_set FX.out K (by unfold I64; omega) IK.out.2
    have HBN : Hid ((X.set K (-1, tK)).length = n) := by rw [Hid, List.length_set]; exact HN.out
    have HWA : Hid (∀ {wz : World} {x : Option Addr} {c : Nat} (_ : (x = none → c = 0) ∧ n ≤ c), Spans wz x (n) (X.set K (-1, tK)) → Calls Try.prog 15 #[.slice x (n) c, .agg #[.int .i64 f1, .int .i64 t1]] wz (SpPost wz A)) := fun hn' h => by
      have := wrong_add h hn' (by omega) HFB.out HW.out I1.out I2.out
      rw [HA.out] at this
      exact this
    obtain ⟨BL, HBL⟩ := named (X.set K (-1, tK))
    rw [HBL.out] at HW HFB HBN HWA
    go_enter Try.func9, Try.ntmps9
    go_wp2_with (first
      | (go_at_call 27; (with_reducible refine (Held.made HN.out (HM.out _ ((Below.refl _ _).alloc (Nat.le_refl _) _)) H00.out).mono ?_); rintro e w1 ⟨x1, c1, rfl, hx1, hn1, _, hh⟩; have HN1 := Lib.hid hn1; have HS1 := Lib.hid hx1; have HE1 := Lib.hid (hh.more hx1); clear hx1 hn1 hh)
      | (at_builtin; refine append_g_copy sp_rowed rfl (.tmp 22) (.tmp 23) rfl w1.heap.size rfl x1 n c1 X rfl HN1.out.1 HS1.out (by omega) (Nat.le_refl _) ?_; intro a4 c4 w4 g1 g2; obtain ⟨g4, rfl, hg4, hcl⟩ := own_here g1 (by omega); have HO4 := Lib.hid g1; have HG4 := Lib.hid g2; obtain ⟨d1, d2⟩ := hcl K hKn; have fr := own_free HO4.out (K * 2); clear g1 g2 hcl))
    have hO5 := own_set0 HO4.out hKn (-1)
    rw [HtK.out, HBL.out] at hO5
    have hr5 := hO5.reads sp_rowed
    have HE5 : Hid (Held w cs [(some ⟨g4, 0, none⟩, BL), (x1, X)] (w4.setCell ⟨g4, K * 2, none⟩ (.int .i64 (-1)))) := (HE1.out.later (HG4.out.setCell hg4 _)).more hr5.1
    have HNB := Lib.hid hr5.2
    clear hr5 hO5
    obtain ⟨b1, off1, rfl⟩ := HS1.out.lies (by omega)
    have hF := Held.first HE5.out M1.out M2.out (b := b1) (off := off1) (by simp) HN.out (by omega) Hf0.out
    have hpos : (0 : Int) < (n : Int) := by omega
    have hpos2 : 0 < n := by omega
    go_region_held3 (fun w' => w'.cell? ⟨w.heap.size, 0, none⟩ = some (.int .i64 f1) ∧ w'.cell? ⟨w.heap.size, 1, none⟩ = some (.int .i64 t1) ∧ w'.cell? ⟨b1, off1, none⟩ = some (.int .i64 f0) ∧ Held w cs [(some ⟨g4, 0, none⟩, BL), (some ⟨b1, off1, none⟩, X)] w')
      (first | exact Held.first (ls := [(some ⟨g4, 0, none⟩, BL), (some ⟨b1, off1, none⟩, X)]) (by assumption) M1.out M2.out (by simp) HN.out (by omega) Hf0.out | exact Held.first (ls := [(some ⟨g4, 0, none⟩, BL), (some ⟨b1, off1, none⟩, X)]) HE5.out.drew M1.out M2.out (by simp) HN.out (by omega) Hf0.out)
      (first
        | (go_at_call 12; (with_reducible refine (Held.val (wrong_right (Held.spans (Held.of3 (by assumption)) (by simp) HBN.out) HNB.out (by omega) HFB.out HW.out) (Held.of3 (by assumption))).mono ?_); rintro e w' ⟨rfl, hb⟩)
        | (go_at_call 21; (with_reducible refine (Held.val (wrong_count (Held.spans (Held.of3 (by assumption)) (by simp) HBN.out) HNB.out (by omega) HFB.out HW.out) (Held.of3 (by assumption))).mono ?_); rintro e w' ⟨rfl, hb⟩)
        | (go_at_call 19; (with_reducible refine (Held.val (wrong_has (Held.spans (Held.of3 (by assumption)) (by simp) HBN.out) HNB.out (by omega) HFB.out HW.out I0.out) (Held.of3 (by assumption))).mono ?_); rintro e w' ⟨rfl, hb⟩)
        | (go_at_call 17; (with_reducible refine (Held.made (K := 0) rfl (wrong_sub (Held.spans (Held.of3 (by assumption)) (by simp) HBN.out) HNB.out (by omega) HFB.out HW.out I1.out I2.out) (Held.of3 (by assumption))).mono ?_); rintro e w' ⟨x5, c5, rfl, _, _, _, hb⟩)
        | (go_at_call 15; (with_reducible refine (Held.made HKA.out (HWA.out HNB.out (Held.spans (Held.of3 (by assumption)) (by simp) HBN.out)) (Held.of3 (by assumption))).mono ?_); rintro e w' ⟨x6, c6, rfl, hx6, _, _, hb⟩; have HX6 := Lib.hid hx6; clear hx6)
        | (go_at_call 15; (with_reducible refine (Held.made HKA.out (HNA.out _) (Held.of3 (by assumption))).mono ?_); rintro e w' ⟨x7, c7, rfl, hx7, _, hbb, hb⟩; have HX7 := Lib.hid hx7; have HX67 := Lib.hid (HX6.out.later hbb); clear hx7 hbb)
        | (go_at_call 14; (with_reducible refine (Held.val (same2_any HX67.out HX7.out) (Held.of3 (by assumption))).mono ?_); rintro e w' ⟨rfl, hb⟩))
    have HE6 : Hid (Held w cs [(some ⟨g4, 0, none⟩, BL), (some ⟨b1, off1, none⟩, X)] _) := Held.of3 (by assumption)
    clear HX6 HX7 HX67
    go_wp2_with (first
      | (go_at_call 15; (with_reducible refine (Held.made HN.out (HXA.out _ _ _ (Held.spans HE6.out (by simp) HN.out) HN1.out) HE6.out).mono ?_); rintro e w7 ⟨x8, c8, rfl, hx8, _, _, hb⟩; have HE7 := Lib.hid (hb.more hx8); clear hb hx8)
      | (go_at_call 14; (with_reducible refine (Held.val (same2_any (Held.spans HE7.out (x := x8) (by simp) HN.out) (Held.spans HE7.out (by simp) HN.out)) HE7.out).mono ?_); rintro e w8 ⟨rfl, hb⟩; have HE8 := Lib.hid hb; clear hb)
      | (go_at_call 17; (with_reducible refine (Held.made HN.out (HXS.out _ _ _ (Held.spans HE8.out (by simp) HN.out) HN1.out) HE8.out).mono ?_); rintro e w9 ⟨x9, c9, rfl, hx9, _, _, hb⟩; have HE9 := Lib.hid (hb.more hx9); clear hb hx9)
      | (go_at_call 14; (with_reducible refine (Held.val (same2_any (Held.spans HE9.out (x := x9) (by simp) HN.out) (Held.spans HE9.out (by simp) HN.out)) HE9.out).mono ?_); rintro e w10 ⟨rfl, hb⟩; have HE10 := Lib.hid hb; clear hb)
      | (go_at_call 11; refine (awake_any _).mono ?_; rintro e w15 ⟨rfl, hb⟩; have HZ := Lib.hid (HE10.out.1.trans (hb.mono HE10.out.1.size)); clear hb))
    go_ret
    exact ⟨rfl, HZ.out⟩
  · have HW : Hid (¬ Rt (-1) (X ++ [(tJ, tJ + 1)])) := wrong_of (k := J + 1) (by simp; have := HN.out; omega) (Or.inr ⟨by omega, by rw [show J + 1 = X.length by have := HN.out; omega, spAt_end, show X.length - 1 = J by have := HN.out; omega, spAt_pre _ _ (by have := HN.out; omega), HtJ.out]; exact Int.le_refl _⟩)
    have HFB : Hid (SpFit (X ++ [(tJ, tJ + 1)])) := fit_end FX.out IJ.out.2.1 IJ.out.2.2
    have HBN : Hid ((X ++ [(tJ, tJ + 1)]).length = n + 1) := by rw [Hid, List.length_append, HN.out]; rfl
    have HWA : Hid (∀ {wz : World} {x : Option Addr} {c : Nat} (_ : (x = none → c = 0) ∧ n + 1 ≤ c), Spans wz x (n + 1) (X ++ [(tJ, tJ + 1)]) → Calls Try.prog 15 #[.slice x (n + 1) c, .agg #[.int .i64 f1, .int .i64 t1]] wz (SpPost wz A)) := fun hn' h => by
      have := wrong_add h hn' (by omega) HFB.out HW.out I1.out I2.out
      rw [HA.out] at this
      exact this
    obtain ⟨BL, HBL⟩ := named (X ++ [(tJ, tJ + 1)])
    rw [HBL.out] at HW HFB HBN HWA
    have v1 : IntKind.i64.wrap (tJ + 1) = tJ + 1 := by
      have := MJ.out
      rw [IntKind.wrap_i64]; omega
    have v2 : IntKind.i64.wrap (J : Int) = (J : Int) := by rw [IntKind.wrap_i64]; omega
    have e0 : (0 : Int) ≤ (J : Int) := Int.natCast_nonneg _
    have e1 : (J : Int) < (n : Int) := by omega
    go_enter Try.func9, Try.ntmps9
    go_wp2_with (first
      | (go_at_call 27; (with_reducible refine (Held.made HN.out (HM.out _ ((Below.refl _ _).alloc (Nat.le_refl _) _)) H00.out).mono ?_); rintro e w1 ⟨x1, c1, rfl, hx1, hn1, _, hh⟩; have HN1 := Lib.hid hn1; have HS1 := Lib.hid hx1; have HE1 := Lib.hid (hh.more hx1); clear hx1 hn1 hh)
      | (at_builtin; refine append_g_copy sp_rowed rfl (.tmp 22) (.tmp 23) rfl w1.heap.size rfl x1 n c1 X rfl HN1.out.1 HS1.out (by omega) (Nat.le_refl _) ?_; intro a4 c4 w4 g1 g2; obtain ⟨g4, rfl, hg4, hcl⟩ := own_here g1 (by omega); have HO4 := Lib.hid g1; have HG4 := Lib.hid g2; obtain ⟨d1, d2⟩ := hcl J (by omega); rw [HtJ.out] at d2; clear g1 g2 hcl))
    have hle4 : w1.heap.size ≤ w4.heap.size := HG4.out.size
    go_region_law (refine step_append_sp (by rfl) _ _ (by rfl) w1.heap.size (.slice (some ⟨g4, 0, none⟩) n c4) n X (by rfl) (HO4.out.drew.alloc _) ⟨w4.heap.size, 0, none⟩ 1 1 [(tJ, tJ + 1)] (by rfl) (one_reads w4.drew (tJ, tJ + 1) #[.int .i64 tJ, .int .i64 (tJ + 1)] _ rfl) (by omega) (by simp; omega) ?_; intro a5 c5 w5 g1 g2; have HO5 := Lib.hid g1; have HG5 : Hid (Below w1.heap.size w1 w5) := (HG4.out.drew.alloc hle4 _).grown g2 (Nat.le_trans hle4 (by simp)) (fun j hj => (HO4.out.1.lt j hj).1); clear g1 g2)
    all_goals
      have hr5 := HO5.out.reads sp_rowed
      rw [HBL.out] at hr5
      have HE5 : Hid (Held w cs [(a5, BL), (x1, X)] w5) := (HE1.out.later HG5.out).more hr5.1
      have HNB := Lib.hid hr5.2
      clear hr5
      go_wp2_with fail
      obtain ⟨b1, off1, rfl⟩ := HS1.out.lies (by omega)
      have hF := Held.first HE5.out M1.out M2.out (b := b1) (off := off1) (by simp) HN.out (by omega) Hf0.out
      have hpos : (0 : Int) < (n : Int) := by omega
      have hpos2 : 0 < n := by omega
      go_region_held3 (fun w' => w'.cell? ⟨w.heap.size, 0, none⟩ = some (.int .i64 f1) ∧ w'.cell? ⟨w.heap.size, 1, none⟩ = some (.int .i64 t1) ∧ w'.cell? ⟨b1, off1, none⟩ = some (.int .i64 f0) ∧ Held w cs [(a5, BL), (some ⟨b1, off1, none⟩, X)] w')
        (first | exact Held.first (ls := [(a5, BL), (some ⟨b1, off1, none⟩, X)]) (by assumption) M1.out M2.out (by simp) HN.out (by omega) Hf0.out | exact Held.first (ls := [(a5, BL), (some ⟨b1, off1, none⟩, X)]) HE5.out.drew M1.out M2.out (by simp) HN.out (by omega) Hf0.out)
        (first
          | (go_at_call 12; (with_reducible refine (Held.val (wrong_right (Held.spans (Held.of3 (by assumption)) (by simp) HBN.out) HNB.out (by omega) HFB.out HW.out) (Held.of3 (by assumption))).mono ?_); rintro e w' ⟨rfl, hb⟩)
          | (go_at_call 21; (with_reducible refine (Held.val (wrong_count (Held.spans (Held.of3 (by assumption)) (by simp) HBN.out) HNB.out (by omega) HFB.out HW.out) (Held.of3 (by assumption))).mono ?_); rintro e w' ⟨rfl, hb⟩)
          | (go_at_call 19; (with_reducible refine (Held.val (wrong_has (Held.spans (Held.of3 (by assumption)) (by simp) HBN.out) HNB.out (by omega) HFB.out HW.out I0.out) (Held.of3 (by assumption))).mono ?_); rintro e w' ⟨rfl, hb⟩)
          | (go_at_call 17; (with_reducible refine (Held.made (K := 0) rfl (wrong_sub (Held.spans (Held.of3 (by assumption)) (by simp) HBN.out) HNB.out (by omega) HFB.out HW.out I1.out I2.out) (Held.of3 (by assumption))).mono ?_); rintro e w' ⟨x5, c5, rfl, _, _, _, hb⟩)
          | (go_at_call 15; (with_reducible refine (Held.made HKA.out (HWA.out HNB.out (Held.spans (Held.of3 (by assumption)) (by simp) HBN.out)) (Held.of3 (by assumption))).mono ?_); rintro e w' ⟨x6, c6, rfl, hx6, _, _, hb⟩; have HX6 := Lib.hid hx6; clear hx6)
          | (go_at_call 15; (with_reducible refine (Held.made HKA.out (HNA.out _) (Held.of3 (by assumption))).mono ?_); rintro e w' ⟨x7, c7, rfl, hx7, _, hbb, hb⟩; have HX7 := Lib.hid hx7; have HX67 := Lib.hid (HX6.out.later hbb); clear hx7 hbb)
          | (go_at_call 14; (with_reducible refine (Held.val (same2_any HX67.out HX7.out) (Held.of3 (by assumption))).mono ?_); rintro e w' ⟨rfl, hb⟩))
      have HE6 : Hid (Held w cs [(a5, BL), (some ⟨b1, off1, none⟩, X)] _) := Held.of3 (by assumption)
      clear HX6 HX7 HX67
      go_wp2_with (first
        | (go_at_call 15; (with_reducible refine (Held.made HN.out (HXA.out _ _ _ (Held.spans HE6.out (by simp) HN.out) HN1.out) HE6.out).mono ?_); rintro e w7 ⟨x8, c8, rfl, hx8, _, _, hb⟩; have HE7 := Lib.hid (hb.more hx8); clear hb hx8)
        | (go_at_call 14; (with_reducible refine (Held.val (same2_any (Held.spans HE7.out (x := x8) (by simp) HN.out) (Held.spans HE7.out (by simp) HN.out)) HE7.out).mono ?_); rintro e w8 ⟨rfl, hb⟩; have HE8 := Lib.hid hb; clear hb)
        | (go_at_call 17; (with_reducible refine (Held.made HN.out (HXS.out _ _ _ (Held.spans HE8.out (by simp) HN.out) HN1.out) HE8.out).mono ?_); rintro e w9 ⟨x9, c9, rfl, hx9, _, _, hb⟩; have HE9 := Lib.hid (hb.more hx9); clear hb hx9)
        | (go_at_call 14; (with_reducible refine (Held.val (same2_any (Held.spans HE9.out (x := x9) (by simp) HN.out) (Held.spans HE9.out (by simp) HN.out)) HE9.out).mono ?_); rintro e w10 ⟨rfl, hb⟩; have HE10 := Lib.hid hb; clear hb)
        | (go_at_call 11; refine (awake_any _).mono ?_; rintro e w15 ⟨rfl, hb⟩; have HZ := Lib.hid (HE10.out.1.trans (hb.mono HE10.out.1.size)); clear hb))
      go_ret
      exact ⟨rfl, HZ.out⟩
  · have HW : Hid (¬ Rt (-1) (X.set J (fJ, 1073741825))) := wrong_of (k := J) (by rw [List.length_set, HN.out]; omega) (Or.inl (by rw [spAt_set _ _ _ (by rw [HN.out]; omega)]; simp [mayB]))
    have HFB : Hid (SpFit (X.set J (fJ, 1073741825))) := fit_set FX.out J IJ.out.1 (by unfold I64; omega)
    have HBN : Hid ((X.set J (fJ, 1073741825)).length = n) := by rw [Hid, List.length_set]; exact HN.out
    have HWA : Hid (∀ {wz : World} {x : Option Addr} {c : Nat} (_ : (x = none → c = 0) ∧ n ≤ c), Spans wz x (n) (X.set J (fJ, 1073741825)) → Calls Try.prog 15 #[.slice x (n) c, .agg #[.int .i64 f1, .int .i64 t1]] wz (SpPost wz A)) := fun hn' h => by
      have := wrong_add h hn' (by omega) HFB.out HW.out I1.out I2.out
      rw [HA.out] at this
      exact this
    obtain ⟨BL, HBL⟩ := named (X.set J (fJ, 1073741825))
    rw [HBL.out] at HW HFB HBN HWA
    go_enter Try.func9, Try.ntmps9
    go_wp2_with (first
      | (go_at_call 27; (with_reducible refine (Held.made HN.out (HM.out _ ((Below.refl _ _).alloc (Nat.le_refl _) _)) H00.out).mono ?_); rintro e w1 ⟨x1, c1, rfl, hx1, hn1, _, hh⟩; have HN1 := Lib.hid hn1; have HS1 := Lib.hid hx1; have HE1 := Lib.hid (hh.more hx1); clear hx1 hn1 hh)
      | (at_builtin; refine append_g_copy sp_rowed rfl (.tmp 22) (.tmp 23) rfl w1.heap.size rfl x1 n c1 X rfl HN1.out.1 HS1.out (by omega) (Nat.le_refl _) ?_; intro a4 c4 w4 g1 g2; obtain ⟨g4, rfl, hg4, hcl⟩ := own_here g1 (by omega); have HO4 := Lib.hid g1; have HG4 := Lib.hid g2; obtain ⟨d1, d2⟩ := hcl J (by omega); have fr := own_free HO4.out (J * 2 + 1); clear g1 g2 hcl))
    have hO5 := own_set1 HO4.out (k := J) (by omega) 1073741825
    rw [HfJ.out, HBL.out] at hO5
    have hr5 := hO5.reads sp_rowed
    have HE5 : Hid (Held w cs [(some ⟨g4, 0, none⟩, BL), (x1, X)] (w4.setCell ⟨g4, J * 2 + 1, none⟩ (.int .i64 1073741825))) := (HE1.out.later (HG4.out.setCell hg4 _)).more hr5.1
    have HNB := Lib.hid hr5.2
    clear hr5 hO5
    obtain ⟨b1, off1, rfl⟩ := HS1.out.lies (by omega)
    have hF := Held.first HE5.out M1.out M2.out (b := b1) (off := off1) (by simp) HN.out (by omega) Hf0.out
    have hpos : (0 : Int) < (n : Int) := by omega
    have hpos2 : 0 < n := by omega
    go_region_held3 (fun w' => w'.cell? ⟨w.heap.size, 0, none⟩ = some (.int .i64 f1) ∧ w'.cell? ⟨w.heap.size, 1, none⟩ = some (.int .i64 t1) ∧ w'.cell? ⟨b1, off1, none⟩ = some (.int .i64 f0) ∧ Held w cs [(some ⟨g4, 0, none⟩, BL), (some ⟨b1, off1, none⟩, X)] w')
      (first | exact Held.first (ls := [(some ⟨g4, 0, none⟩, BL), (some ⟨b1, off1, none⟩, X)]) (by assumption) M1.out M2.out (by simp) HN.out (by omega) Hf0.out | exact Held.first (ls := [(some ⟨g4, 0, none⟩, BL), (some ⟨b1, off1, none⟩, X)]) HE5.out.drew M1.out M2.out (by simp) HN.out (by omega) Hf0.out)
      (first
        | (go_at_call 12; (with_reducible refine (Held.val (wrong_right (Held.spans (Held.of3 (by assumption)) (by simp) HBN.out) HNB.out (by omega) HFB.out HW.out) (Held.of3 (by assumption))).mono ?_); rintro e w' ⟨rfl, hb⟩)
        | (go_at_call 21; (with_reducible refine (Held.val (wrong_count (Held.spans (Held.of3 (by assumption)) (by simp) HBN.out) HNB.out (by omega) HFB.out HW.out) (Held.of3 (by assumption))).mono ?_); rintro e w' ⟨rfl, hb⟩)
        | (go_at_call 19; (with_reducible refine (Held.val (wrong_has (Held.spans (Held.of3 (by assumption)) (by simp) HBN.out) HNB.out (by omega) HFB.out HW.out I0.out) (Held.of3 (by assumption))).mono ?_); rintro e w' ⟨rfl, hb⟩)
        | (go_at_call 17; (with_reducible refine (Held.made (K := 0) rfl (wrong_sub (Held.spans (Held.of3 (by assumption)) (by simp) HBN.out) HNB.out (by omega) HFB.out HW.out I1.out I2.out) (Held.of3 (by assumption))).mono ?_); rintro e w' ⟨x5, c5, rfl, _, _, _, hb⟩)
        | (go_at_call 15; (with_reducible refine (Held.made HKA.out (HWA.out HNB.out (Held.spans (Held.of3 (by assumption)) (by simp) HBN.out)) (Held.of3 (by assumption))).mono ?_); rintro e w' ⟨x6, c6, rfl, hx6, _, _, hb⟩; have HX6 := Lib.hid hx6; clear hx6)
        | (go_at_call 15; (with_reducible refine (Held.made HKA.out (HNA.out _) (Held.of3 (by assumption))).mono ?_); rintro e w' ⟨x7, c7, rfl, hx7, _, hbb, hb⟩; have HX7 := Lib.hid hx7; have HX67 := Lib.hid (HX6.out.later hbb); clear hx7 hbb)
        | (go_at_call 14; (with_reducible refine (Held.val (same2_any HX67.out HX7.out) (Held.of3 (by assumption))).mono ?_); rintro e w' ⟨rfl, hb⟩))
    have HE6 : Hid (Held w cs [(some ⟨g4, 0, none⟩, BL), (some ⟨b1, off1, none⟩, X)] _) := Held.of3 (by assumption)
    clear HX6 HX7 HX67
    go_wp2_with (first
      | (go_at_call 15; (with_reducible refine (Held.made HN.out (HXA.out _ _ _ (Held.spans HE6.out (by simp) HN.out) HN1.out) HE6.out).mono ?_); rintro e w7 ⟨x8, c8, rfl, hx8, _, _, hb⟩; have HE7 := Lib.hid (hb.more hx8); clear hb hx8)
      | (go_at_call 14; (with_reducible refine (Held.val (same2_any (Held.spans HE7.out (x := x8) (by simp) HN.out) (Held.spans HE7.out (by simp) HN.out)) HE7.out).mono ?_); rintro e w8 ⟨rfl, hb⟩; have HE8 := Lib.hid hb; clear hb)
      | (go_at_call 17; (with_reducible refine (Held.made HN.out (HXS.out _ _ _ (Held.spans HE8.out (by simp) HN.out) HN1.out) HE8.out).mono ?_); rintro e w9 ⟨x9, c9, rfl, hx9, _, _, hb⟩; have HE9 := Lib.hid (hb.more hx9); clear hb hx9)
      | (go_at_call 14; (with_reducible refine (Held.val (same2_any (Held.spans HE9.out (x := x9) (by simp) HN.out) (Held.spans HE9.out (by simp) HN.out)) HE9.out).mono ?_); rintro e w10 ⟨rfl, hb⟩; have HE10 := Lib.hid hb; clear hb)
      | (go_at_call 11; refine (awake_any _).mono ?_; rintro e w15 ⟨rfl, hb⟩; have HZ := Lib.hid (HE10.out.1.trans (hb.mono HE10.out.1.size)); clear hb))
    go_ret
    exact ⟨rfl, HZ.out⟩

set_option maxRecDepth 100000 in
theorem lifted (os : Os) (started : os.Started) (H : Type) (enc : TypeId × Value → H) :
    ReturnsInHanded {} Try.checked os 9 .any (Rows.spanWrongSpec.pre6 enc Try.prog Try.f9 Rows.spanWrongRow.domain false) (Rows.spanWrongSpec.post enc Try.prog Try.f9 false true false false) := by
  refine returnsInHanded_of_change (C := Try.checked) own started (by kernel_rfl) Try.func9
    (ChangeSpec.witness6 (enc := enc) (C := Try.checked) false ⟨#[], #[.slice none 0 0, .agg #[.int .i64 0, .int .i64 0], .int .u8 0], []⟩ 8 (by kernel_rfl) (by kernel_rfl) (by kernel_rfl) (by kernel_rfl)) ?_
  intro W base args ds gs before hval0 hW hcnd _
  have hval : ∀ (j : Nat) t v, Try.f9.params[j]? = some t → args[j]? = some v → Value.okWide Try.prog W .any base t v := hval0
  have hW' := hW
  obtain ⟨p, q, hA0, hV, rfl, hfz, hnd⟩ := hW
  have hA : DataW.TrodAll enc Try.prog W 0 (fun _ => true) true Try.f9.params.toList args.toList ds p := hA0
  rw [Try.params9] at hA hval
  obtain ⟨v0, vs0, d0, ds0, p0, q0, hargs, rfl, rfl, h0, r0⟩ := trodAll_cons hA
  obtain ⟨v1, vs1, d1, ds1, p1, q1, rfl, rfl, rfl, h1, r1⟩ := trodAll_cons r0
  obtain ⟨v2, vs2, d2, ds2, p2, q2, rfl, rfl, rfl, h2, r2⟩ := trodAll_cons r1
  obtain ⟨rfl, rfl, rfl⟩ := trodAll_nil r2
  obtain rfl : args = #[v0, v1, v2] := by cases args; simp_all
  obtain ⟨rfl, rfl⟩ := trodVars_none hV
  have k0 := h0
  have lt0 : ∀ x ∈ p0, x.block < W.heap.size := by obtain ⟨m, hm⟩ := k0; exact DataW.trod_lt m _ _ _ hm
  obtain ⟨a0, len0, cap0, rfl⟩ := okWide_slice Try.underlying41 (hval 0 41 v0 rfl rfl)
  obtain ⟨z0, w0⟩ : ∃ zs, IsRow .u16 W a0 len0 cap0 zs := by
    obtain ⟨fuel, hf⟩ := h0
    rcases open_ints Try.underlying41 Try.underlying45 (by kernel_rfl) hf with ⟨hcs, _⟩ | ⟨x, l, c, zs, hcs, _, hl, hm, hz, _, hcell, hwz⟩
    · simp [Value.cells] at hcs
      obtain ⟨rfl, rfl, rfl⟩ := hcs
      exact ⟨[], .inl ⟨rfl, rfl, rfl, rfl⟩⟩
    · simp [Value.cells] at hcs
      obtain ⟨rfl, rfl, rfl⟩ := hcs
      exact ⟨zs, .inr ⟨_, rfl, hl, hm, by simpa using hz, hcell, hwz⟩⟩
  have k1 := h1
  have lt1 : ∀ x ∈ p1, x.block < W.heap.size := by obtain ⟨m, hm⟩ := k1; exact DataW.trod_lt m _ _ _ hm
  obtain ⟨f1, t1, rfl, w1⟩ := span_open (hval 1 24 v1 rfl rfl) h1
  have k2 := h2
  have lt2 : ∀ x ∈ p2, x.block < W.heap.size := by obtain ⟨m, hm⟩ := k2; exact DataW.trod_lt m _ _ _ hm
  obtain ⟨a2, rfl, _, _, w2⟩ := open_int Try.underlying5 (hval 2 5 v2 rfl rfl) h2
  clear hA0 hval0
  refine (walk a0 len0 cap0 z0 f1 t1 a2 W w0 w1 w2).mono fun e W' ⟨he, bel⟩ => ?_
  subst he
  exact ⟨_, rfl, _, _, _, [], _, [], hW', trodAll_mk1 (shut_bool Try.underlying4 _), (trodAll_cons_mk (Below.trod laidOut (by kernel_rfl) (of_decide_eq_true (by kernel_rfl)) k0 bel lt0) (trodAll_cons_mk (Below.trod laidOut (by kernel_rfl) (of_decide_eq_true (by kernel_rfl)) k1 bel lt1) (trodAll_cons_mk (Below.trod laidOut (by kernel_rfl) (of_decide_eq_true (by kernel_rfl)) k2 bel lt2) trodAll_mk0))), rfl, bel.frame _, fun h => by cases h⟩

theorem over : Rows.spanWrongRow.holds Try.pinned (OpenSpec.ofChange Rows.spanWrongSpec) :=
  OpenClaim.holds_of_wide 9 Try.f9 rfl rfl rfl rfl rfl rfl rfl ⟨rfl, rfl, rfl, rfl, rfl⟩ rfl rfl rfl rfl rfl (by kernel_rfl) Try.func9 (by kernel_rfl)
    (of_decide_eq_true (by kernel_rfl)) (by unfold Func.isWrapper; first | (rw [if_pos (by decide +kernel)]; kernel_rfl) | (rw [if_neg (by decide +kernel)]; exact ⟨rfl, rfl⟩))
    (fun os started H enc _ => lifted os started H enc)

/-- The statement. -/
theorem proved : Rows.SpanWrongSaid := over
#print axioms proved
end Go.Proofs.Ytdnkldcmefcmbaa.spanWrong
