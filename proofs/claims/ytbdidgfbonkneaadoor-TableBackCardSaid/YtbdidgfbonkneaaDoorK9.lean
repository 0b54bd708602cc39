/-
  What the project's own Right answers (package table). Conditions: the table reads, no more than 6000 leaves; n and the cluster are ints.
-/
import Derived.Test.YtbdidgfbonkneaaDoorJ9
import Derived.Test.YtbdidgfbonkneaaDoorE9
namespace Go.Proofs.YtbdidgfbonkneaaDoor
open Go.RowKit
set_option linter.unusedVariables false

theorem live_drop {xs : List En} {m : Nat} : liveL (xs.drop m) ↔ ∃ k, m ≤ k ∧ k < xs.length ∧ (lfAt xs k).1 ≠ 0 := by
  rw [liveL_at]
  have e : ∀ k, lfAt (xs.drop m) k = lfAt xs (m + k) := fun k => by
    unfold lfAt
    rw [List.getD_eq_getElem?_getD, List.getD_eq_getElem?_getD, List.getElem?_drop]
  constructor
  · rintro ⟨k, hk, h0⟩
    rw [List.length_drop] at hk
    rw [e] at h0
    exact ⟨m + k, by omega, by omega, h0⟩
  · rintro ⟨k, h1, h2, h0⟩
    refine ⟨k - m, by rw [List.length_drop]; omega, ?_⟩
    rw [e, show m + (k - m) = k by omega]
    exact h0
theorem rightL_iff {xs : List En} {j : Nat} {n c : Int} (hn : 0 ≤ n) : rightL xs j n c ↔ okLeaf xs c ∧ ¬ liveL (xs.drop (belowN n.toNat j)) := by
  unfold rightL okLeaf
  rw [live_drop]
  constructor
  · rintro ⟨h1, h2, k, hk, h0⟩
    refine ⟨⟨h1, liveL_at.2 ⟨k, by omega, h0⟩, fun k hk => (h2 k hk).1⟩, ?_⟩
    rintro ⟨k, g1, g2, g3⟩
    have := (h2 k (by omega)).2 g3
    unfold belowN at g1
    omega
  · rintro ⟨⟨h1, h2, h3⟩, h4⟩
    obtain ⟨k, hk, h0⟩ := liveL_at.1 h2
    refine ⟨h1, fun k hk => ⟨h3 k hk, fun h0 => ?_⟩, k, by omega, h0⟩
    refine Decidable.byContradiction fun hlt => h4 ⟨k, ?_, by omega, h0⟩
    unfold belowN
    omega
/-- A boxed table, all else below it as it was. -/
def Box1 (X : Nat) (s : Value) (w0 W : World) : Prop := Blk W X 24 #[s] ∧ Below X w0 W
theorem Box1.first (w : World) (s : Value) : Box1 w.heap.size s w (w.alloc (.cells #[s] 24)) := ⟨Blk.new w _ _, (Below.refl _ _).alloc (Nat.le_refl _) _⟩
theorem Box1.later {X : Nat} {s : Value} {w0 W W' : World} (h : Box1 X s w0 W) (hb : Below W.heap.size W W') : Box1 X s w0 W' := ⟨h.1.later hb, h.2.trans (hb.mono (Nat.le_of_lt h.1.lt))⟩
theorem Box1.alloc {X : Nat} {s : Value} {w0 W : World} (h : Box1 X s w0 W) (o : Obj) : Box1 X s w0 (W.alloc o) := h.later ((Below.refl _ _).alloc (Nat.le_refl _) _)
theorem Box1.drew {X : Nat} {s : Value} {w0 W : World} (h : Box1 X s w0 W) : Box1 X s w0 W.drew := h.later (Below.refl _ _).drew
theorem Box1.cell {X : Nat} {s : Value} {w0 W : World} (h : Box1 X s w0 W) : W.cell? ⟨X, 0, none⟩ = some s := one_cell9 h.1
theorem leafC {a : Option Addr} {len cap : Nat} {xs : List En} {c : Int} {R : Bool} (hR : R = true ↔ okLeaf xs c) (w : World) (h : LfR w (a, len, cap, xs)) : Calls Tryd.prog 36 #[.slice a len cap, .int .i64 c] w fun e w' => e = .returned (.bool R) ∧ Below w.heap.size w w' :=
  leaf9 a len cap xs c R hR.1 hR.2 w h
theorem blankC {a : Option Addr} {len cap : Nat} {xs : List En} {B : Bool} (hB : decide (¬ liveL xs) = B) (w : World) (h : Reads enV w a len xs) (hok : ∀ x ∈ xs, EnOk x) : Calls Tryd.prog 37 #[.slice a len cap] w fun e w' => e = .returned (.bool B) ∧ Below w.heap.size w w' := by
  subst hB
  exact blank9 a len cap xs w h hok
set_option maxHeartbeats 3200000 in
theorem right9_is (w : World) (a : Option Addr) (len cap : Nat) (ds : List LfD) (n c : Int) (h : TabR w a len ds) (hlen : len ≤ 6000) (R : Bool) (hR : decide (rightT (tbOf ds) n c) = R) : Calls Tryd.prog 17 #[.agg #[.slice a len cap], .int .i64 n, .int .i64 c] w fun e w' => e = .returned (.bool R) ∧ Below w.heap.size w w' := by
  have hR' : R = true ↔ rightM (tbOf ds) n c := by rw [← hR, decide_eq_true_iff]; exact rightM_iff
  have HG0 : Hid (Below w.heap.size w (w.alloc (.cells #[.slice a len cap] 24))) := (Below.refl _ _).alloc (Nat.le_refl _) _
  by_cases hn : 0 ≤ n ∧ n ≤ 4096
  · by_cases hc : 0 ≤ c ∧ c ≤ 6
    · have W1 := Lib.hid (fun w => within9_is (n := n) (a := 0) (b := 4096) (decide_eq_true hn) w)
      have W2 := Lib.hid (fun w => within9_is (n := c) (a := 0) (b := 6) (decide_eq_true hc) w)
      have hlt' := h.tlen
      have HT := Lib.hid h
      have HRL : Hid (R = true ↔ (0 < len → tbAt (tbOf ds) (len - 1) ≠ []) ∧ ∀ i, i < len → tbAt (tbOf ds) i ≠ [] → rightL (tbAt (tbOf ds) i) i n c) := by
        show _ ↔ _
        rw [hR']
        unfold rightM
        rw [hlt']
        exact ⟨fun h => h.2.2, fun h => ⟨hn, hc, h⟩⟩
      clear hR hR' h
      obtain ⟨N, rfl⟩ : ∃ N : Nat, n = N := ⟨n.toNat, by omega⟩
      have HB0 := Lib.hid (Box1.first w (.slice a len cap))
      obtain ⟨X, hX⟩ := named w.heap.size
      have hXX := hX.out
      rw [hX.out] at HB0 ⊢
      go_enter Tryd.func17, Tryd.ntmps17
      go_wp2_with (first
        | (go_at_call 27; (with_reducible refine (W1.out _).mono ?_); rintro e w1 ⟨rfl, rfl⟩)
        | (go_at_call 27; (with_reducible refine (W2.out _).mono ?_); rintro e w1 ⟨rfl, rfl⟩))
      go_loopw [20] (fun i wr => ∃ j : Nat, j ≤ len ∧ i = .int .i64 j ∧ Hid (∀ i, i < j → tbAt (tbOf ds) i ≠ [] → rightL (tbAt (tbOf ds) i) i (↑N) c) ∧ Hid (Box1 X (.slice a len cap) w wr)) (fun i _ => len - (intOf i).toNat)
      case atStart => exact ⟨0, Nat.zero_le _, rfl, fun k hk => by omega, HB0.out⟩
      case round =>
        obtain ⟨j, hj, rfl, HJ, HB⟩ := hrel
        have hTR := HT.out.later (hX.out.symm ▸ HB.out.2)
        have b1 := HB.out.cell
        by_cases hlt : j < len
        · obtain ⟨b, off, al, ll, cl, xs, rfl, hcell, hL, hxs, _⟩ := hTR.at j hlt
          have HXS := Lib.hid hxs
          by_cases h0 : ll = 0
          · subst h0
            have he : xs = [] := List.eq_nil_of_length_eq_zero hL.len
            have HJ2 : Hid (∀ i, i < j + 1 → tbAt (tbOf ds) i ≠ [] → rightL (tbAt (tbOf ds) i) i (↑N) c) := fun i hi hne => by
              by_cases e : i = j
              · subst e
                exact absurd (HXS.out.trans he) hne
              · exact HJ.out i (by omega) hne
            have HA := Lib.hid (fun w => absent9 al 0 cl true (by decide) w)
            clear hTR hL hxs he
            go_wp2_with (go_at_call 19; (with_reducible refine (HA.out _).mono ?_); rintro e w1 ⟨rfl, rfl⟩)
            go_roundw
            case rel => exact ⟨j + 1, by omega, by go_num, HJ2, HB.out⟩
            case measure => simp [intOf]; omega
          · have HA := Lib.hid (fun w => absent9 al ll cl false (by simp [h0]) w)
            have hne : xs ≠ [] := fun e => by
              have := hL.len
              dsimp only at this
              rw [e] at this
              exact h0 this.symm
            have hrl := rightL_iff (xs := xs) (j := j) (n := (N : Int)) (c := c) (by omega)
            have HL := Lib.hid hL
            by_cases hok : okLeaf xs c
            · have HF := Lib.hid (leafC (R := true) ⟨fun _ => hok, fun _ => rfl⟩ wr hL)
              have h8 : ll = 8 := hL.len.symm.trans hok.1
              subst h8
              have HW := Lib.hid (fun w => below9 (N : Int) j (by omega) (by omega) (by omega) w)
              obtain ⟨K, hK⟩ := named (belowN (N : Int).toNat j)
              rw [hK.out] at HW hrl
              have hK8 : K ≤ 8 := by rw [← hK.out]; unfold belowN; omega
              obtain ⟨b', off', rfl⟩ := hL.1.lies (show 0 < 8 by omega)
              obtain ⟨O, hsl, hO⟩ := slice_tail9 (b := b') (off := off') (len := 8) (cap := cl) (p := K) hK8 hL.2.1
              have HRd := Lib.hid (hL.1.tail9 K hK8 hO)
              have hoks : ∀ x ∈ xs.drop K, EnOk x := fun x hx => hL.2.2.2 x (List.mem_of_mem_drop hx)
              clear hK hO
              by_cases hbl : liveL (xs.drop K)
              · have HK := Lib.hid (fun w h => blankC (a := some ⟨b', O, none⟩) (len := 8 - K) (cap := cl - K) (decide_eq_false (Classical.not_not.2 hbl)) w h hoks)
                have hr : R = false := by
                  cases R with
                  | false => rfl
                  | true =>
                    have := (HRL.out.1 rfl).2 j hlt (by rw [HXS.out]; exact hne)
                    rw [HXS.out] at this
                    exact absurd hbl (hrl.1 this).2
                subst hr
                clear hTR hxs hne hrl hok hbl hoks
                go_wp2_with (first
                  | (go_at_call 19; (with_reducible refine (HA.out _).mono ?_); rintro e w1 ⟨rfl, rfl⟩)
                  | (go_at_call 36; (with_reducible refine HF.out.mono ?_); rintro e w1 ⟨rfl, g⟩; have HG1 := Lib.hid g; clear g)
                  | (go_at_call 34; (with_reducible refine (HW.out _).mono ?_); rintro e w2 ⟨rfl, rfl⟩)
                  | (go_at_call 37; (with_reducible refine (HK.out _ (HRd.out.later HG1.out)).mono ?_); rintro e w2 ⟨rfl, g⟩; have HG2 := Lib.hid g; clear g))
                go_ret
                exact ⟨rfl, ((HB.out.later HG1.out).later HG2.out).2⟩
              · have HK := Lib.hid (fun w h => blankC (a := some ⟨b', O, none⟩) (len := 8 - K) (cap := cl - K) (decide_eq_true hbl) w h hoks)
                have hrj : rightL xs j (↑N) c := hrl.2 ⟨hok, hbl⟩
                have HJ2 : Hid (∀ i, i < j + 1 → tbAt (tbOf ds) i ≠ [] → rightL (tbAt (tbOf ds) i) i (↑N) c) := fun i hi hne => by
                  by_cases e : i = j
                  · subst e
                    rw [HXS.out]
                    exact hrj
                  · exact HJ.out i (by omega) hne
                clear hTR hxs hne hrl hok hbl hoks hrj
                go_wp2_with (first
                  | (go_at_call 19; (with_reducible refine (HA.out _).mono ?_); rintro e w1 ⟨rfl, rfl⟩)
                  | (go_at_call 36; (with_reducible refine HF.out.mono ?_); rintro e w1 ⟨rfl, g⟩; have HG1 := Lib.hid g; clear g)
                  | (go_at_call 34; (with_reducible refine (HW.out _).mono ?_); rintro e w2 ⟨rfl, rfl⟩)
                  | (go_at_call 37; (with_reducible refine (HK.out _ (HRd.out.later HG1.out)).mono ?_); rintro e w2 ⟨rfl, g⟩; have HG2 := Lib.hid g; clear g))
                go_roundw
                case rel => exact ⟨j + 1, by omega, by go_num, HJ2, (HB.out.later HG1.out).later HG2.out⟩
                case measure => simp [intOf]; omega
            · have HF := Lib.hid (leafC (R := false) ⟨fun e => (by cases e), fun h => absurd h hok⟩ wr hL)
              have hr : R = false := by
                cases R with
                | false => rfl
                | true =>
                  have := (HRL.out.1 rfl).2 j hlt (by rw [HXS.out]; exact hne)
                  rw [HXS.out] at this
                  exact absurd (hrl.1 this).1 hok
              subst hr
              clear hTR hL hxs hne hrl hok
              go_wp2_with (first
                | (go_at_call 19; (with_reducible refine (HA.out _).mono ?_); rintro e w1 ⟨rfl, rfl⟩)
                | (go_at_call 36; (with_reducible refine HF.out.mono ?_); rintro e w1 ⟨rfl, g⟩; have HG1 := Lib.hid g; clear g))
              go_ret
              exact ⟨rfl, (HB.out.later HG1.out).2⟩
        · have hjl : j = len := by omega
          subst hjl
          by_cases h0 : j = 0
          · subst h0
            have hr : R = true := HRL.out.2 ⟨fun h => by omega, HJ.out⟩
            subst hr
            clear hTR
            go_wp2
            go_ret
            exact ⟨rfl, HB.out.2⟩
          · obtain ⟨b, off, al, ll, cl, xs, rfl, hcell, hL, hxs, _⟩ := hTR.at (j - 1) (by omega)
            have HA : Hid (∀ w, Calls Tryd.prog 19 #[.slice al ll cl] w fun e w' => e = .returned (.bool (!R)) ∧ w = w') := fun w => absent9 al ll cl (!R) (by
              have hl := hL.len
              dsimp only at hl
              cases R with
              | false =>
                have : ¬ (0 < j → tbAt (tbOf ds) (j - 1) ≠ []) := fun h => by cases HRL.out.2 ⟨h, HJ.out⟩
                rw [hxs] at this
                have e : xs = [] := Decidable.byContradiction fun h => this fun _ => h
                rw [e] at hl
                simp [← hl]
              | true =>
                have := (HRL.out.1 rfl).1 (by omega)
                rw [hxs] at this
                have : ll ≠ 0 := fun e => this (List.eq_nil_of_length_eq_zero (hl.trans e))
                simp [this]) w
            have e1 : wrap64 ((j : Int) - 1) = ((j - 1 : Nat) : Int) := by unfold wrap64; omega
            have h00 : ¬ (j : Int) = 0 := by omega
            have h01 : ((j : Int) == 0) = false := by simp [h0]
            have h02 : j - 1 < j := by omega
            clear hTR hL hxs hj hlt
            go_wp2_with (go_at_call 19; (with_reducible refine (HA.out _).mono ?_); rintro e w1 ⟨rfl, rfl⟩)
            go_ret
            exact ⟨by simp, HB.out.2⟩
    · have hr : R = false := by
        cases R with
        | false => rfl
        | true => exact absurd (hR'.1 rfl).2.1 hc
      subst hr
      have W1 := Lib.hid (fun w => within9_is (n := n) (a := 0) (b := 4096) (decide_eq_true hn) w)
      have W2 := Lib.hid (fun w => within9_is (n := c) (a := 0) (b := 6) (decide_eq_false hc) w)
      clear hR hR' h
      go_enter Tryd.func17, Tryd.ntmps17
      go_wp2_with (first
        | (go_at_call 27; (with_reducible refine (W1.out _).mono ?_); rintro e w1 ⟨rfl, rfl⟩)
        | (go_at_call 27; (with_reducible refine (W2.out _).mono ?_); rintro e w1 ⟨rfl, rfl⟩))
      go_ret
      exact ⟨rfl, HG0.out⟩
  · have hr : R = false := by
      cases R with
      | false => rfl
      | true => exact absurd (hR'.1 rfl).1 hn
    subst hr
    have W1 := Lib.hid (fun w => within9_is (n := n) (a := 0) (b := 4096) (decide_eq_false hn) w)
    clear hR hR' h
    go_enter Tryd.func17, Tryd.ntmps17
    go_wp2_with (go_at_call 27; (with_reducible refine (W1.out _).mono ?_); rintro e w1 ⟨rfl, rfl⟩)
    go_ret
    exact ⟨rfl, HG0.out⟩
end Go.Proofs.YtbdidgfbonkneaaDoor
