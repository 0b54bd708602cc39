/-
  What the reference's Tables, Ints and Maps answer (layers 8, 12). Conditions: what is compared reads.
-/
import Derived.Test.YtdffgnpldapciaaGreatDoorSg
namespace Go.Proofs.YtdffgnpldapciaaGreatDoor
open Go.RowKit
set_option linter.unusedVariables false

/-- TwoT boxed tables. -/
def TwoT (X : Nat) (s1 s2 : Value) (a1 a2 : Option Addr) (n1 n2 : Nat) (l1 l2 : List LfD) (w0 W : World) : Prop := Blk W X 26 #[s1] ∧ Blk W (X + 1) 26 #[s2] ∧ Below X w0 W ∧ TabR W a1 n1 l1 ∧ TabR W a2 n2 l2
theorem TwoT.drew {X : Nat} {s1 s2 : Value} {a1 a2 : Option Addr} {n1 n2 : Nat} {l1 l2 : List LfD} {w0 W : World} (h : TwoT X s1 s2 a1 a2 n1 n2 l1 l2 w0 W) : TwoT X s1 s2 a1 a2 n1 n2 l1 l2 w0 W.drew :=
  ⟨h.1, h.2.1, h.2.2.1.drew, h.2.2.2.1.later (Below.refl _ _).drew, h.2.2.2.2.later (Below.refl _ _).drew⟩
theorem TwoT.drewN {X : Nat} {s1 s2 : Value} {a1 a2 : Option Addr} {n1 n2 : Nat} {l1 l2 : List LfD} {w0 W : World} (h : TwoT X s1 s2 a1 a2 n1 n2 l1 l2 w0 W) (k : Nat) : TwoT X s1 s2 a1 a2 n1 n2 l1 l2 w0 (W.drewN k) :=
  ⟨h.1, h.2.1, below_drewN9 h.2.2.1 k, h.2.2.2.1.later (below_drewN9 (Below.refl _ _) k), h.2.2.2.2.later (below_drewN9 (Below.refl _ _) k)⟩
theorem TwoT.first {w : World} {s1 s2 : Value} {a1 a2 : Option Addr} {n1 n2 : Nat} {l1 l2 : List LfD} (h1 : TabR w a1 n1 l1) (h2 : TabR w a2 n2 l2) : TwoT w.heap.size s1 s2 a1 a2 n1 n2 l1 l2 w ((w.alloc (.cells #[s1] 26)).alloc (.cells #[s2] 26)) := by
  have hb : Below w.heap.size w ((w.alloc (.cells #[s1] 26)).alloc (.cells #[s2] 26)) := ((Below.refl _ _).alloc (Nat.le_refl _) _).alloc (by simp) _
  exact ⟨(Blk.new w _ _).alloc _, blk_next9 _ _ _ _ _, hb, h1.later hb, h2.later hb⟩
def sameB (T T' : Tb) (j : Nat) : Prop := ∀ k, k < j → tbAt T k = tbAt T' k
def sameL (l l' : List En) (j : Nat) : Prop := ∀ k, k < j → lfAt l k = lfAt l' k
theorem sameL_all {l l' : List En} {n : Nat} (h1 : l.length = n) (h2 : l'.length = n) (h : sameL l l' n) : l = l' := by
  refine List.ext_getElem (h1.trans h2.symm) fun i g1 g2 => ?_
  rw [← lfAt_in g1, ← lfAt_in g2]
  exact h i (by omega)
theorem sameB_all {T T' : Tb} {n : Nat} (h1 : T.length = n) (h2 : T'.length = n) (h : sameB T T' n) : T = T' := by
  refine List.ext_getElem (h1.trans h2.symm) fun i g1 g2 => ?_
  rw [← tbAt_in g1, ← tbAt_in g2]
  exact h i (by omega)
set_option maxHeartbeats 8000000 in
theorem refTables_any (w : World) (a1 a2 : Option Addr) (n1 n2 c1 c2 : Nat) (l1 l2 : List LfD) (h1 : TabR w a1 n1 l1) (h2 : TabR w a2 n2 l2) : Calls Tryz.prog 18 #[.agg #[.slice a1 n1 c1], .agg #[.slice a2 n2 c2]] w fun e w' => e = .returned (.bool (decide (tbOf l1 = tbOf l2))) ∧ Below w.heap.size w w' := by
  have HT0 := Lib.hid (TwoT.first (s1 := .slice a1 n1 c1) (s2 := .slice a2 n2 c2) h1 h2)
  have hs := h1.1.2.1
  have t1 := h1.tlen
  have t2 := h2.tlen
  by_cases hn : n1 = n2
  · subst hn
    obtain ⟨R, HR⟩ := named (decide (tbOf l1 = tbOf l2))
    rw [HR.out]
    have HL1 := Lib.hid t1
    have HL2 := Lib.hid t2
    have HNE : Hid (∀ j, tbAt (tbOf l1) j ≠ tbAt (tbOf l2) j → R = false) := fun j h => by
      rw [← HR.out, decide_eq_false_iff_not]
      intro e
      exact h (by rw [e])
    have HEQ : Hid (sameB (tbOf l1) (tbOf l2) n1 → R = true) := fun h => by
      rw [← HR.out, decide_eq_true_iff]
      exact sameB_all t1 t2 h
    obtain ⟨X, hX⟩ := named w.heap.size
    have hXX := hX.out
    rw [hX.out] at HT0 ⊢
    clear h1 h2 t1 t2 HR
    go_enter Tryz.func18, Tryz.ntmps18
    go_wp2
    go_loopw [5] (fun i wr => ∃ j : Nat, j ≤ n1 ∧ i = .int .i64 j ∧ Hid (sameB (tbOf l1) (tbOf l2) j) ∧ Hid (TwoT X (.slice a1 n1 c1) (.slice a2 n1 c2) a1 a2 n1 n1 l1 l2 w wr)) (fun i _ => n1 - (intOf i).toNat)
    case atStart => exact ⟨0, Nat.zero_le _, rfl, fun k hk => by omega, HT0.out⟩
    case round =>
      obtain ⟨j, hj, rfl, HJ, HT⟩ := hrel
      have b1 := one_cell9 HT.out.1
      have b2 := one_cell9 HT.out.2.1
      by_cases hlt : j < n1
      · obtain ⟨p1, o1, e1, k1, m1, xs1, rfl, d1, L1, T1, _⟩ := HT.out.2.2.2.1.at j hlt
        obtain ⟨p2, o2, e2, k2, m2, xs2, rfl, d2, L2, T2, _⟩ := HT.out.2.2.2.2.at j hlt
        have HK1 := Lib.hid L1
        have HK2 := Lib.hid L2
        have HT1 := Lib.hid T1
        have HT2 := Lib.hid T2
        have hk1 := L1.1.2.1
        have hk2 := L2.1.2.1
        dsimp only at hk1 hk2
        clear L1 L2 T1 T2
        by_cases hk : k1 = k2
        · subst hk
          go_wp2
          go_region
          go_wp2
          go_loopw [6] (fun s6 wr2 => ∃ q m : Nat, q ≤ k1 ∧ s6 = .int .i64 q ∧ Hid (sameL xs1 xs2 q) ∧ Hid (wr2 = wr.drewN m)) (fun s6 _ => k1 - (intOf s6).toNat)
          case atStart => exact ⟨0, 1, Nat.zero_le _, rfl, fun k hk => by omega, rfl⟩
          case round =>
            obtain ⟨q, m, hq, rfl, HQ, HW⟩ := hrel
            obtain rfl := HW.out
            by_cases hql : q < k1
            · obtain ⟨pb1, po1, g1, _, x1c, x2c, x3c, x4c, x5c⟩ := HK1.out.at q hql
              obtain ⟨pb2, po2, g2, _, y1c, y2c, y3c, y4c, y5c⟩ := HK2.out.at q hql
              dsimp only at g1 g2 x1c x2c x3c x4c x5c y1c y2c y3c y4c y5c
              subst g1 g2
              have hne : lfAt xs1 q ≠ lfAt xs2 q → R = false := fun h => HNE.out j fun e => h (by rw [← HT1.out, ← HT2.out, e])
              have heq : lfAt xs1 q = lfAt xs2 q → Hid (sameL xs1 xs2 (q + 1)) := fun h k hk => by
                by_cases e : k = q
                · rw [e]; exact h
                · exact HQ.out k (by omega)
              obtain ⟨⟨v1, v2, v3, v4, v5⟩, HV⟩ := named (lfAt xs1 q)
              obtain ⟨⟨z1, z2, z3, z4, z5⟩, HZ⟩ := named (lfAt xs2 q)
              rw [HV.out] at x1c x2c x3c x4c x5c hne heq
              rw [HZ.out] at y1c y2c y3c y4c y5c hne heq
              dsimp only at x1c x2c x3c x4c x5c y1c y2c y3c y4c y5c
              have hcase : (v1, v2, v3, v4, v5) = (z1, z2, z3, z4, z5) ∨ v1 ≠ z1 ∨ (v1 = z1 ∧ v2 ≠ z2) ∨ (v1 = z1 ∧ v2 = z2 ∧ v3 ≠ z3) ∨ (v1 = z1 ∧ v2 = z2 ∧ v3 = z3 ∧ v4 ≠ z4) ∨ (v1 = z1 ∧ v2 = z2 ∧ v3 = z3 ∧ v4 = z4 ∧ v5 ≠ z5) := by
                simp only [Prod.mk.injEq]
                omega
              rcases hcase with h | h
              · have HQ2 := heq h
                simp only [Prod.mk.injEq] at h
                obtain ⟨rfl, rfl, rfl, rfl, rfl⟩ := h
                clear hne heq HV HZ
                go_wp2_with fail
                go_quiet (fail)
                go_wp2
                go_roundw
                case rel => exact ⟨q + 1, _, by omega, by go_num, HQ2, rfl⟩
                case measure => simp [intOf]; omega
              · have hr : R = false := hne (by
                  intro e
                  simp only [Prod.mk.injEq] at e
                  omega)
                subst hr
                clear hne heq HV HZ
                rcases h with h | ⟨rfl, h⟩ | ⟨rfl, rfl, h⟩ | ⟨rfl, rfl, rfl, h⟩ | ⟨rfl, rfl, rfl, rfl, h⟩
                all_goals
                  go_wp2_with fail
                  go_quiet (fail)
                  go_wp2
                  go_ret
                  exact ⟨rfl, below_drewN9 (below_drewN9 HT.out.2.2.1 _) _⟩
            · have hkk : q = k1 := by omega
              have HJ2 : Hid (sameB (tbOf l1) (tbOf l2) (j + 1)) := fun k hk => by
                by_cases e : k = j
                · rw [e, HT1.out, HT2.out]
                  exact sameL_all HK1.out.len HK2.out.len (by rw [← hkk]; exact HQ.out)
                · exact HJ.out k (by omega)
              subst hkk
              go_wp2
              go_roundw
              case rel => exact ⟨j + 1, by omega, by go_num, HJ2, HT.out.drewN _⟩
              case measure => simp [intOf]; omega
        · have hr : R = false := HNE.out j fun e => hk (by
            rw [HT1.out, HT2.out] at e
            have g1 := HK1.out.len
            have g2 := HK2.out.len
            dsimp only at g1 g2
            rw [e] at g1
            omega)
          subst hr
          go_wp2
          go_region
          go_wp2
          go_ret
          exact ⟨rfl, HT.out.drew.2.2.1⟩
      · have hr : R = true := HEQ.out (by have : j = n1 := by omega
                                          subst this
                                          exact HJ.out)
        subst hr
        go_wp2
        go_ret
        exact ⟨rfl, HT.out.2.2.1⟩
  · have hr : decide (tbOf l1 = tbOf l2) = false := by
      rw [decide_eq_false_iff_not]
      intro e
      rw [e] at t1
      omega
    rw [hr]
    have hs2 := h2.1.2.1
    clear h1 h2 t1 t2 hr
    go_enter Tryz.func18, Tryz.ntmps18
    go_wp2
    go_ret
    exact ⟨rfl, HT0.out.2.2.1⟩
theorem refTT {w : World} {a1 a2 : Option Addr} {n1 n2 c1 c2 : Nat} {T1 T2 : Tb} (h1 : Tab w a1 n1 c1 T1) (h2 : Tab w a2 n2 c2 T2) {R : Bool} (hR : decide (T1 = T2) = R) : Calls Tryz.prog 18 #[.agg #[.slice a1 n1 c1], .agg #[.slice a2 n2 c2]] w fun e w' => e = .returned (.bool R) ∧ Below w.heap.size w w' := by
  obtain ⟨d1, k1, _, rfl, _⟩ := h1
  obtain ⟨d2, k2, _, rfl, _⟩ := h2
  subst hR
  exact refTables_any w a1 a2 n1 n2 c1 c2 d1 d2 k1 k2
end Go.Proofs.YtdffgnpldapciaaGreatDoor
