/-
  What one sequence does to Unpack's state, and Unpack as a whole. Conditions: short texts, bytes from 0 to 255.
-/
import Derived.Test.YtlkpedknhjgdiaaD3
namespace Go.Proofs.Ytlkpedknhjgdiaa
open Go.RowKit

/-- The closure that reads a length. -/
def Reader (w0 : World) : Value := .func (.func 26) #[] #[.pointer (some ⟨w0.heap.size + 1, 0, none⟩)]
/-- What a sequence ends in: refused, or a state further on. -/
def SeqPost (w0 : World) (l : List Int) (most p f : Nat) (R : List Int × Int) (e : Ending) (w' : World) : Prop :=
  (∃ E : Int, (E == 0) = false ∧ e = .returned (.int .i64 E) ∧ R = ([], E) ∧ Below w0.heap.size w0 w') ∨ (e = .returned (.int .i64 0) ∧ ∃ (p' : Nat) (out' : List Int), p < p' ∧ Un w0 l most p' out' w' ∧ unp l most f p' out' = R)
theorem SeqPost.bad {w0 : World} {l : List Int} {most p f : Nat} {R : List Int × Int} {w' : World} {E : Int} (h : R = ([], E)) (hb : Below w0.heap.size w0 w') (hE : (E == 0) = false) : SeqPost w0 l most p f R (.returned (.int .i64 E)) w' := Or.inl ⟨E, hE, rfl, h, hb⟩
theorem Un.rest {w0 : World} {l : List Int} {most p : Nat} {out : List Int} {w : World} (h : Un w0 l most p out w) : ∃ (ar : Option Addr) (cr : Nat), w.cell? ⟨w0.heap.size, 0, none⟩ = some (.slice ar (l.length - p) cr) := by
  obtain ⟨ar, nr, cr, ao, no, co, h1, h2, h3, h4, h5, h6, h7, h8⟩ := h
  have e : nr = l.length - p := by rw [← h2.1, List.length_drop]
  exact ⟨ar, cr, by rw [← e]; exact h1.c0⟩
theorem Un.le {w0 : World} {l : List Int} {most p : Nat} {out : List Int} {w : World} (h : Un w0 l most p out w) : p ≤ l.length ∧ out.length ≤ most := by
  obtain ⟨ar, nr, cr, ao, no, co, h1, h2, h3, h4, h5, h6, h7, h8⟩ := h
  exact ⟨h5, by rw [h6.len]; exact h7⟩
/-- The first byte that is left, and the state behind it. -/
theorem Un.token {w0 : World} {l : List Int} {most p : Nat} {out : List Int} {w : World} (h : Un w0 l most p out w) (hp : p < l.length) :
    ∃ (bb off nr cr : Nat) (d : Nat) (a2 : Option Addr) (c2 : Nat), w.cell? ⟨w0.heap.size, 0, none⟩ = some (.slice (some ⟨bb, off, none⟩) nr cr) ∧ w.frozen? ⟨w0.heap.size, 0, none⟩ = false ∧ 0 < nr ∧ w.cell? ⟨bb, off, none⟩ = some (.int .u8 d) ∧ l.getD p 0 = (d : Int) ∧ d < 256 ∧
      (∀ w' : World, (Instr.slice 22 (.slice (some ⟨bb, off, none⟩) nr cr) (some (.int .i64 1)) none none).run Try.prog w' = .ok (.slice a2 (nr - 1) c2) w') ∧ Un w0 l most (p + 1) out (w.setCell ⟨w0.heap.size, 0, none⟩ (.slice a2 (nr - 1) c2)) := by
  obtain ⟨ar, nr, cr, ao, no, co, h1, h2, h3, h4, h5, h6, h7, h8⟩ := h
  have e : nr = l.length - p := by rw [← h2.1, List.length_drop]
  obtain ⟨bb, off, rfl⟩ := h2.lies (by omega)
  have d0 := (h2.old h8).cellAt 0 (by omega)
  have b0 := h2.small.at (k := 0) (by rw [h2.1]; omega)
  rw [drop_at, Nat.add_zero] at d0 b0
  rw [Nat.add_zero] at d0
  obtain ⟨a2, c2, S2, B2, N2, C2⟩ := slice_back h2 h3 h4 1 (by omega)
  have ed : l.getD p 0 = ((l.getD p 0).toNat : Int) := by omega
  refine ⟨bb, off, nr, cr, (l.getD p 0).toNat, a2, c2, h1.c0, h1.free 0, by omega, by rw [← ed]; exact d0, ed, by omega, S2, a2, nr - 1, c2, ao, no, co, h1.set0 _, ?_, C2, N2, hp, own_set h6 (by show w0.heap.size < _; omega) _, h7, h8.setCell (Nat.le_refl _) _⟩
  rw [List.drop_drop] at B2
  exact B2

theorem u8_low (d : Nat) (h : d < 256) : bits .and .u8 (d : Int) 15 = (d : Int) % 16 := @u8_and15 (d : Int) (by omega) (by omega)
theorem lengths_at (w0 : World) (l : List Int) (most p half : Nat) (x : Int) (hx : x = (half : Int)) (out : List Int) (hl : l.length ≤ 100000) (hb : ∀ c ∈ l, 0 ≤ c ∧ c < 256) (hh : half < 16) (R : Nat × Nat × Bool) (hR : lengthOf l p half = R) (w : World) (h : Un w0 l most p out w) :
    Calls Try.prog 26 #[.int .u8 x, .pointer (some ⟨w0.heap.size + 1, 0, none⟩)] w (LenPost w0 l most out R) := by
  subst hx hR
  exact lengths_any w0 l most p half out w h hl hb hh h.le.1

set_option maxRecDepth 100000 in
set_option maxHeartbeats 3200000 in
theorem sequence_any (w0 : World) (l : List Int) (most p f : Nat) (out : List Int) (w : World) (R : List Int × Int) (h : Un w0 l most p out w) (hm : most ≤ 1048576) (hl : l.length ≤ 100000) (hb : ∀ c ∈ l, 0 ≤ c ∧ c < 256) (hp : p < l.length) (hf : l.length + 1 ≤ (f + 1) + p) (hR : unp l most (f + 1) p out = R) :
    Calls Try.prog 19 #[.pointer (some ⟨w0.heap.size, 0, none⟩), Reader w0] w (SeqPost w0 l most p f R) := by
  obtain ⟨bb, off, nr, cr, d, a2, c2, c0, f0, hnr, d0, hd, hd2, S2, HU1⟩ := h.token hp
  have HU1 := Lib.hid HU1
  have hnr2 : (0 : Int) < (nr : Int) := by omega
  have hlow := u8_low d hd2
  obtain ⟨⟨L1, q1, k1⟩, HL⟩ := named (lengthOf l (p + 1) (d / 16))
  have H1 := Lib.hid (lengths_at w0 l most (p + 1) (d / 16) ((d : Int) / 16) (by omega) out hl hb (by omega) _ HL.out)
  have hdn : (l.getD p 0).toNat = d := by rw [hd]; rfl
  obtain ⟨U, hU⟩ := named w0.heap.size
  have HU := Lib.hid hU.out
  have HRD : Hid (Reader w0 = .func (.func 26) #[] #[.pointer (some ⟨U + 1, 0, none⟩)]) := by rw [Hid, Reader, HU.out]
  rw [HRD.out]
  rw [hU.out] at c0 f0 HU1 H1 ⊢
  clear hU
  have HB := Lib.hid hb
  cases k1 with
  | false =>
    have HE : Hid (R = ([], 3)) := by
      rw [Hid, ← hR]
      exact unp_bad l most f p L1 q1 out hp (by rw [hdn]; exact HL.out)
    clear h hb hR hf hd hdn
    go_enter Try.func19, Try.ntmps19
    go_wp2_with (go_at_call 26; ((with_reducible refine (H1.out _ HU1.out).mono ?_); rintro e w1 ⟨rfl, g1, _⟩; have HB1 := Lib.hid g1; clear g1))
    go_ret
    exact SeqPost.bad HE.out HB1.out rfl
  | true =>
    have HQ := Lib.hid (lengthOf_bd hb (p + 1) (d / 16) (by omega) (by omega)).2
    rw [HL.out] at HQ
    have hq1 : q1 ≤ l.length := HQ.out
    have hq0 := lengthOf_ge HL.out
    have hLb : L1 ≤ 15 + 255 * (l.length + 1) := by have := (lengthOf_bd hb (p + 1) (d / 16) (by omega) (by omega)).1; rw [HL.out] at this; exact this
    have HRL : Hid (unpLits l most d f (lits l most L1 q1 out) = R) := by
      rw [Hid, ← hR, unp_lits l most f p L1 q1 out hp (by rw [hdn]; exact HL.out), hdn]
    have hom := h.le.2
    have hall := lits_all l most L1 q1 out hom hq1
    clear HQ hR hd hdn
    by_cases hbad : (most - out.length < min L1 (l.length - q1)) ∨ (¬ most - out.length < min L1 (l.length - q1) ∧ l.length - q1 < L1)
    · obtain ⟨E, hE, hE2, hE3⟩ : ∃ E : Int, ((most - out.length < min L1 (l.length - q1) ∧ E = 2) ∨ (¬ most - out.length < min L1 (l.length - q1) ∧ l.length - q1 < L1 ∧ E = 3)) ∧ R = ([], E) ∧ (E == 0) = false := by
        rcases hbad with k | ⟨k, k2⟩
        · refine ⟨2, Or.inl ⟨k, rfl⟩, ?_, rfl⟩
          rw [← HRL.out, hall, if_pos k]
          rfl
        · refine ⟨3, Or.inr ⟨k, k2, rfl⟩, ?_, rfl⟩
          rw [← HRL.out, hall, if_neg k, if_pos k2]
          rfl
      have HLI : Hid (∀ w', Un w0 l most q1 out w' → Calls Try.prog 27 #[.pointer (some ⟨U, 0, none⟩), .int .i64 L1] w' fun e w'' => e = .returned (.int .i64 E) ∧ Below w0.heap.size w0 w'') := fun w' hw => by
        have := literals_bad w0 l most q1 L1 out w' hw hm E hE
        rw [HU.out] at this
        rw [HU.out]
        exact this
      have HE := Lib.hid hE2
      clear h hb hf hbad hall hE hE2 HRL
      go_enter Try.func19, Try.ntmps19
      go_wp2_with (first
        | (go_at_call 26; ((with_reducible refine (H1.out _ HU1.out).mono ?_); rintro e w1 ⟨rfl, g1, g2⟩; have HB1 := Lib.hid g1; have HUA := Lib.hid (g2 rfl); clear g1 g2))
        | (go_at_call 27; ((with_reducible refine (HLI.out _ HUA.out).mono ?_); rintro e w2 ⟨rfl, g2⟩; have HB2 := Lib.hid g2; clear g2)))
      go_ret
      exact SeqPost.bad HE.out (by rw [HU.out]; have := HB2.out; rw [HU.out] at this; exact this) hE3
    · have hok1 : ¬ most - out.length < min L1 (l.length - q1) := fun k => hbad (Or.inl k)
      have hok2 : ¬ l.length - q1 < L1 := fun k => hbad (Or.inr ⟨hok1, k⟩)
      rw [if_neg hok1, if_neg hok2] at hall
      rw [hall] at HRL
      have HLI : Hid (∀ w', Un w0 l most q1 out w' → Calls Try.prog 27 #[.pointer (some ⟨U, 0, none⟩), .int .i64 L1] w' fun e w'' => e = .returned (.int .i64 0) ∧ Un w0 l most (q1 + L1) (out ++ (l.drop q1).take L1) w'') := fun w' hw => by
        have := literals_ok w0 l most q1 L1 out w' hw hm (by omega) (by omega)
        rw [HU.out] at this
        exact this
      have ho2 : (out ++ (l.drop q1).take L1).length ≤ most := by rw [List.length_append, List.length_take, List.length_drop]; omega
      obtain ⟨o2, HO2⟩ := named (out ++ (l.drop q1).take L1)
      have hp2 : p < q1 + L1 := by omega
      have hp3 : q1 + L1 ≤ l.length := by omega
      obtain ⟨p2, HP2⟩ := named (q1 + L1)
      rw [HO2.out] at HLI HRL ho2
      rw [HP2.out] at HLI HRL hp2 hp3
      have HRS : Hid (∀ w', Un w0 l most p2 o2 w' → ∃ (ar : Option Addr) (cr : Nat), w'.cell? ⟨U, 0, none⟩ = some (.slice ar (l.length - p2) cr)) := fun w' hw => by
        have := hw.rest
        rw [HU.out] at this
        exact this
      obtain ⟨N2, HN2⟩ := named (l.length - p2)
      rw [HN2.out] at HRS
      clear hall hbad hok1 hok2 h hb hLb
      by_cases hend : N2 = 0
      · have HE : Hid (R = (o2, 0)) := by
          rw [Hid, ← HRL.out, show p2 = l.length by have := HN2.out; omega]
          exact back_end l most d f o2
        have hz : ((N2 : Int) == 0) = true := by simp [hend]
        have HF2 : Hid (unp l most f p2 o2 = R) := by
          obtain ⟨f', rfl⟩ : ∃ f', f = f' + 1 := ⟨f - 1, by omega⟩
          rw [HE.out]
          exact unp_end l most f' p2 o2 (by have := HN2.out; omega)
        clear hend hf
        go_enter Try.func19, Try.ntmps19
        go_wp2_with (first
          | (go_at_call 26; ((with_reducible refine (H1.out _ HU1.out).mono ?_); rintro e w1 ⟨rfl, g1, g2⟩; have HB1 := Lib.hid g1; have HUA := Lib.hid (g2 rfl); clear g1 g2))
          | (go_at_call 27; ((with_reducible refine (HLI.out _ HUA.out).mono ?_); rintro e w2 ⟨rfl, g2⟩; have HUB := Lib.hid g2; clear g2; obtain ⟨ar2, cr2, c20⟩ := HRS.out _ HUB.out)))
        go_ret
        exact Or.inr ⟨rfl, p2, o2, hp2, HUB.out, HF2.out⟩
      · have hz : ((N2 : Int) == 0) = false := by simp; omega
        have hne : ¬ p2 = l.length := by have := HN2.out; omega
        by_cases hcut : l.length - p2 < 2
        · have HE : Hid (R = ([], 3)) := by
            rw [Hid, ← HRL.out]
            exact back_cut l most d f p2 o2 hne hcut
          have HDI : Hid (∀ w', Un w0 l most p2 o2 w' → Calls Try.prog 28 #[.pointer (some ⟨U, 0, none⟩)] w' fun e w'' => e = .returned (.tuple #[.int .i64 0, .bool false]) ∧ Un w0 l most p2 o2 w'') := fun w' hw => by
            have := distance_cut w0 l most p2 o2 w' hw hcut
            rw [HU.out] at this
            exact this.mono fun e w'' h => ⟨h.1, h.2 ▸ hw⟩
          clear hend hf hne hcut
          go_enter Try.func19, Try.ntmps19
          go_wp2_with (first
            | (go_at_call 26; ((with_reducible refine (H1.out _ HU1.out).mono ?_); rintro e w1 ⟨rfl, g1, g2⟩; have HB1 := Lib.hid g1; have HUA := Lib.hid (g2 rfl); clear g1 g2))
            | (go_at_call 27; ((with_reducible refine (HLI.out _ HUA.out).mono ?_); rintro e w2 ⟨rfl, g2⟩; have HUB := Lib.hid g2; clear g2; obtain ⟨ar2, cr2, c20⟩ := HRS.out _ HUB.out))
            | (go_at_call 28; ((with_reducible refine (HDI.out _ HUB.out).mono ?_); rintro e w3 ⟨rfl, g3⟩; have HUC := Lib.hid g3; clear g3)))
          go_ret
          exact SeqPost.bad HE.out HUC.out.below rfl
        · obtain ⟨F, HF⟩ := named (farOf l p2)
          obtain ⟨ok, HOK⟩ := named (decide (¬ (F = 0 ∨ o2.length < F)))
          have HDI : Hid (∀ w', Un w0 l most p2 o2 w' → Calls Try.prog 28 #[.pointer (some ⟨U, 0, none⟩)] w' fun e w'' => e = .returned (.tuple #[.int .i64 F, .bool ok]) ∧ Un w0 l most (p2 + 2) o2 w'') := fun w' hw => by
            have := distance_any w0 l most p2 o2 w' hw hcut
            rw [HU.out, HF.out, HOK.out] at this
            exact this
          cases ok with
          | false =>
            have HE : Hid (R = ([], 3)) := by
              rw [Hid, ← HRL.out]
              refine back_far l most d f p2 o2 hne hcut ?_
              have := of_decide_eq_false HOK.out
              rw [HF.out]
              exact Classical.not_not.1 this
            clear hend hf hne hcut
            go_enter Try.func19, Try.ntmps19
            go_wp2_with (first
              | (go_at_call 26; ((with_reducible refine (H1.out _ HU1.out).mono ?_); rintro e w1 ⟨rfl, g1, g2⟩; have HB1 := Lib.hid g1; have HUA := Lib.hid (g2 rfl); clear g1 g2))
              | (go_at_call 27; ((with_reducible refine (HLI.out _ HUA.out).mono ?_); rintro e w2 ⟨rfl, g2⟩; have HUB := Lib.hid g2; clear g2; obtain ⟨ar2, cr2, c20⟩ := HRS.out _ HUB.out))
              | (go_at_call 28; ((with_reducible refine (HDI.out _ HUB.out).mono ?_); rintro e w3 ⟨rfl, g3⟩; have HUC := Lib.hid g3; clear g3)))
            go_ret
            exact SeqPost.bad HE.out HUC.out.below rfl
          | true =>
            have hfar := of_decide_eq_true HOK.out
            obtain ⟨⟨m, q2, k2⟩, HX⟩ := named (lengthOf l (p2 + 2) (d % 16))
            have HL2 := Lib.hid (lengths_at w0 l most (p2 + 2) (d % 16) ((d : Int) % 16) (by omega) o2 hl HB.out (by omega) _ HX.out)
            rw [HU.out] at HL2
            cases k2 with
            | false =>
              have HE : Hid (R = ([], 3)) := by
                rw [Hid, ← HRL.out]
                exact back_bad l most d f p2 m q2 o2 hne hcut (by rw [HF.out]; exact hfar) HX.out
              clear hend hf hne hcut hfar
              go_enter Try.func19, Try.ntmps19
              go_wp2_with (first
                | (go_at_call 26; ((with_reducible refine (H1.out _ HU1.out).mono ?_); rintro e w1 ⟨rfl, g1, g2⟩; have HB1 := Lib.hid g1; have HUA := Lib.hid (g2 rfl); clear g1 g2))
                | (go_at_call 27; ((with_reducible refine (HLI.out _ HUA.out).mono ?_); rintro e w2 ⟨rfl, g2⟩; have HUB := Lib.hid g2; clear g2; obtain ⟨ar2, cr2, c20⟩ := HRS.out _ HUB.out))
                | (go_at_call 28; ((with_reducible refine (HDI.out _ HUB.out).mono ?_); rintro e w3 ⟨rfl, g3⟩; have HUC := Lib.hid g3; clear g3))
                | (go_at_call 26; ((with_reducible refine (HL2.out _ HUC.out).mono ?_); rintro e w4 ⟨rfl, g4, g5⟩; have HB4 := Lib.hid g4; have HUD := Lib.hid g5; clear g4 g5)))
              go_ret
              exact SeqPost.bad HE.out HB4.out rfl
            | true =>
              have hq2 := lengthOf_ge HX.out
              have hmb : m ≤ 15 + 255 * (l.length + 1) := by have := (lengthOf_bd HB.out (p2 + 2) (d % 16) (by omega) (by omega)).1; rw [HX.out] at this; exact this
              have HRE : Hid (unpReps l most q2 f (reps most F (m + 4) o2) = R) := by
                rw [Hid, ← HRL.out, back_reps l most d f p2 m q2 o2 hne hcut (by rw [HF.out]; exact hfar) HX.out, HF.out]
              by_cases hroom : o2.length + (m + 4) ≤ most
              · have HE : Hid (unp l most f q2 (repL F (m + 4) o2) = R) := by
                  rw [Hid, ← HRE.out, reps_run most F (m + 4) o2 hroom]
                  rfl
                have HCO : Hid (∀ w', Un w0 l most q2 o2 w' → Calls Try.prog 29 #[.pointer (some ⟨U, 0, none⟩), .int .i64 F, .int .i64 ((m : Int) + 4)] w' fun e w'' => e = .returned (.int .i64 0) ∧ Un w0 l most q2 (repL F (m + 4) o2) w'') := fun w' hw => by
                  have := copies_ok w0 l most q2 (m + 4) F o2 w' hw hm hroom (by omega) (by omega)
                  rw [HU.out] at this
                  exact this
                clear hend hf hne hcut hfar HRE hroom
                go_enter Try.func19, Try.ntmps19
                go_wp2_with (first
                  | (go_at_call 26; ((with_reducible refine (H1.out _ HU1.out).mono ?_); rintro e w1 ⟨rfl, g1, g2⟩; have HB1 := Lib.hid g1; have HUA := Lib.hid (g2 rfl); clear g1 g2))
                  | (go_at_call 27; ((with_reducible refine (HLI.out _ HUA.out).mono ?_); rintro e w2 ⟨rfl, g2⟩; have HUB := Lib.hid g2; clear g2; obtain ⟨ar2, cr2, c20⟩ := HRS.out _ HUB.out))
                  | (go_at_call 28; ((with_reducible refine (HDI.out _ HUB.out).mono ?_); rintro e w3 ⟨rfl, g3⟩; have HUC := Lib.hid g3; clear g3))
                  | (go_at_call 26; ((with_reducible refine (HL2.out _ HUC.out).mono ?_); rintro e w4 ⟨rfl, g4, g5⟩; have HB4 := Lib.hid g4; have HUD := Lib.hid g5; clear g4 g5))
                  | (go_at_call 29; ((with_reducible refine (HCO.out _ (HUD.out (by trivial))).mono ?_); rintro e w5 ⟨rfl, g6⟩; have HUE := Lib.hid g6; clear g6)))
                go_ret
                exact Or.inr ⟨rfl, q2, _, by omega, HUE.out, HE.out⟩
              · have HE : Hid (R = ([], 2)) := by
                  rw [Hid, ← HRE.out, reps_over most F (m + 4) o2 ho2 (by omega)]
                  rfl
                have HCO : Hid (∀ w', Un w0 l most q2 o2 w' → Calls Try.prog 29 #[.pointer (some ⟨U, 0, none⟩), .int .i64 F, .int .i64 ((m : Int) + 4)] w' fun e w'' => e = .returned (.int .i64 2) ∧ Below w0.heap.size w0 w'') := fun w' hw => by
                  have := copies_bad w0 l most q2 (m + 4) F o2 w' hw hm (by omega)
                  rw [HU.out] at this
                  rw [HU.out]
                  exact this
                clear hend hf hne hcut hfar HRE hroom
                go_enter Try.func19, Try.ntmps19
                go_wp2_with (first
                  | (go_at_call 26; ((with_reducible refine (H1.out _ HU1.out).mono ?_); rintro e w1 ⟨rfl, g1, g2⟩; have HB1 := Lib.hid g1; have HUA := Lib.hid (g2 rfl); clear g1 g2))
                  | (go_at_call 27; ((with_reducible refine (HLI.out _ HUA.out).mono ?_); rintro e w2 ⟨rfl, g2⟩; have HUB := Lib.hid g2; clear g2; obtain ⟨ar2, cr2, c20⟩ := HRS.out _ HUB.out))
                  | (go_at_call 28; ((with_reducible refine (HDI.out _ HUB.out).mono ?_); rintro e w3 ⟨rfl, g3⟩; have HUC := Lib.hid g3; clear g3))
                  | (go_at_call 26; ((with_reducible refine (HL2.out _ HUC.out).mono ?_); rintro e w4 ⟨rfl, g4, g5⟩; have HB4 := Lib.hid g4; have HUD := Lib.hid g5; clear g4 g5))
                  | (go_at_call 29; ((with_reducible refine (HCO.out _ (HUD.out (by trivial))).mono ?_); rintro e w5 ⟨rfl, g6⟩; have HUE := Lib.hid g6; clear g6)))
                go_ret
                exact SeqPost.bad HE.out HUE.out rfl
end Go.Proofs.Ytlkpedknhjgdiaa
