/-
  What the project's own isLeaf and Right answer (package table). Conditions: what came in reads, no more than 6000 leaves.
-/
import Derived.Test.YtbdidgfbonkneaaDoorI9
import Derived.Test.YtbdidgfbonkneaaDoorI8
namespace Go.Proofs.YtbdidgfbonkneaaDoor
open Go.RowKit
set_option linter.unusedVariables false

def okLeaf (xs : List En) (c : Int) : Prop := xs.length = 8 ∧ liveL xs ∧ ∀ k, k < 8 → MayE (lfAt xs k) c
theorem mayC {k s n z m c : Int} (ho : EnOk (k, s, n, z, m)) {B : Bool} (hB : decide (MayE (k, s, n, z, m) c) = B) (w : World) : Calls Tryd.prog 50 #[.agg #[.int .i64 k, .int .i64 s, .int .i64 n, .int .i64 z, .int .u32 m], .int .i64 c] w fun e w' => e = .returned (.bool B) ∧ Below w.heap.size w w' := by
  subst hB
  exact entryMay_any k s n z m c ho w
set_option maxHeartbeats 1600000 in
theorem leaf9 (a : Option Addr) (len cap : Nat) (xs : List En) (c : Int) (R : Bool) (hR1 : R = true → okLeaf xs c) (hR2 : okLeaf xs c → R = true) (w : World) (h : LfR w (a, len, cap, xs)) : Calls Tryd.prog 36 #[.slice a len cap, .int .i64 c] w fun e w' => e = .returned (.bool R) ∧ Below w.heap.size w w' := by
  have hl : xs.length = len := h.len
  have HL := Lib.hid h
  by_cases h8 : len = 8
  · subst h8
    have HB := Lib.hid (blank9 a 8 cap xs w h.1 h.2.2.2)
    by_cases hv : liveL xs
    · have e0 : decide (¬ liveL xs) = false := by simp [hv]
      rw [e0] at HB
      have HRf : Hid (∀ k, k < 8 → ¬ MayE (lfAt xs k) c → R = false) := fun k hk h0 => by
        cases R with
        | false => rfl
        | true => exact absurd ((hR1 rfl).2.2 k hk) h0
      have HRt : Hid ((∀ k, k < 8 → MayE (lfAt xs k) c) → R = true) := fun h => hR2 ⟨hl, hv, h⟩
      clear hR1 hR2 h e0
      go_enter Tryd.func36, Tryd.ntmps36
      go_wp2_with (go_at_call 37; (with_reducible refine HB.out.mono ?_); rintro e w1 ⟨rfl, g⟩; have HG1 := Lib.hid g; clear g)
      go_loopw [16] (fun i wr => ∃ j : Nat, j ≤ 8 ∧ i = .int .i64 j ∧ Hid (∀ k, k < j → MayE (lfAt xs k) c) ∧ Hid (Below w.heap.size w wr)) (fun i _ => 8 - (intOf i).toNat)
      case atStart => exact ⟨0, Nat.zero_le _, rfl, fun k hk => by omega, HG1.out⟩
      case round =>
        obtain ⟨j, hj, rfl, HJ, HG⟩ := hrel
        by_cases hlt : j < 8
        · obtain ⟨b, off, e1, hs, x1, x2, x3, x4, x5⟩ := (HL.out.later HG.out).at j hlt
          dsimp only at e1 hs x1 x2 x3 x4 x5
          subst e1
          have HN : Hid (Below w.heap.size w (wr.alloc (.cells #[.int .i64 (lfAt xs j).1, .int .i64 (lfAt xs j).2.1, .int .i64 (lfAt xs j).2.2.1, .int .i64 (lfAt xs j).2.2.2.1, .int .u32 (lfAt xs j).2.2.2.2] 47))) := HG.out.alloc HG.out.size _
          have hne : ¬ MayE (lfAt xs j) c → R = false := HRf.out j hlt
          have heq : MayE (lfAt xs j) c → Hid (∀ k, k < j + 1 → MayE (lfAt xs k) c) := fun h k hk => by
            by_cases e : k = j
            · rw [e]; exact h
            · exact HJ.out k (by omega)
          obtain ⟨⟨v1, v2, v3, v4, v5⟩, HV⟩ := named (lfAt xs j)
          rw [HV.out] at x1 x2 x3 x4 x5 hne heq HN hs
          dsimp only at x1 x2 x3 x4 x5 HN
          clear HV
          by_cases hm : MayE (v1, v2, v3, v4, v5) c
          · have HM := Lib.hid (fun w => mayC hs (decide_eq_true hm) w)
            have HQ2 := heq hm
            clear hne heq hs hm
            go_wp2_with (go_at_call 50; (with_reducible refine (HM.out _).mono ?_); rintro e w2 ⟨rfl, g⟩; have HN2 := Lib.hid (HN.out.trans (g.mono (HN.out.size))); clear g)
            go_roundw
            case rel => exact ⟨j + 1, by omega, by go_num, HQ2, HN2.out⟩
            case measure => simp [intOf]; omega
          · have HM := Lib.hid (fun w => mayC hs (decide_eq_false hm) w)
            have hr : R = false := hne hm
            subst hr
            clear hne heq hs hm
            go_wp2_with (go_at_call 50; (with_reducible refine (HM.out _).mono ?_); rintro e w2 ⟨rfl, g⟩; have HN2 := Lib.hid (HN.out.trans (g.mono (HN.out.size))); clear g)
            go_ret
            exact ⟨rfl, HN2.out⟩
        · have hr : R = true := HRt.out fun k hk => HJ.out k (by omega)
          subst hr
          go_wp2
          go_ret
          exact ⟨rfl, HG.out⟩
    · have e0 : decide (¬ liveL xs) = true := by simp [hv]
      rw [e0] at HB
      have hr : R = false := by
        cases R with
        | false => rfl
        | true => exact absurd (hR1 rfl).2.1 hv
      subst hr
      clear hR1 hR2 h e0
      go_enter Tryd.func36, Tryd.ntmps36
      go_wp2_with (go_at_call 37; (with_reducible refine HB.out.mono ?_); rintro e w1 ⟨rfl, g⟩; have HG1 := Lib.hid g; clear g)
      go_ret
      exact ⟨rfl, HG1.out⟩
  · have hr : R = false := by
      cases R with
      | false => rfl
      | true => exact absurd (hl.symm.trans (hR1 rfl).1) h8
    subst hr
    clear hR1 hR2 h
    go_enter Tryd.func36, Tryd.ntmps36
    go_wp2
    go_ret
    exact ⟨rfl, Below.refl _ _⟩
end Go.Proofs.YtbdidgfbonkneaaDoor
