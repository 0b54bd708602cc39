/-
  What the reference's TableRight and fits answer (layer 8). Conditions: the table reads; n and the cluster are ints.
-/
import Derived.Test.YtbdidgfbonkneaaDoorK9
namespace Go.Proofs.YtbdidgfbonkneaaDoor
open Go.RowKit
set_option linter.unusedVariables false

theorem rmayC {k s n z m c : Int} (ho : EnOk (k, s, n, z, m)) {B : Bool} (hB : decide (MayE (k, s, n, z, m) c) = B) (w : World) : Calls Tryd.prog 40 #[.agg #[.int .i64 k, .int .i64 s, .int .i64 n, .int .i64 z, .int .u32 m], .int .i64 c] w fun e w' => e = .returned (.bool B) ∧ Below w.heap.size w w' := by
  subst hB
  exact refMay_any k s n z m c ho w
theorem ek_at {w1 w2 : World} {v1 v2 v3 v4 v5 : Value} (g : Below (w1.alloc (.cells #[v1, v2, v3, v4, v5] 47)).heap.size (w1.alloc (.cells #[v1, v2, v3, v4, v5] 47)) w2) : w2.cell? ⟨w1.heap.size, 0, none⟩ = some v1 := by
  have := (Blk.new w1 47 #[v1, v2, v3, v4, v5]).later g
  rw [this.cell]
  rfl
set_option maxRecDepth 100000 in
set_option maxHeartbeats 3200000 in
theorem refRight9_is (w : World) (a : Option Addr) (len cap : Nat) (ds : List LfD) (n c : Int) (h : TabR w a len ds) (R : Bool) (hR : decide (rightT (tbOf ds) n c) = R) : Calls Tryd.prog 22 #[.agg #[.slice a len cap], .int .i64 n, .int .i64 c] w fun e w' => e = .returned (.bool R) ∧ Below w.heap.size w w' := by
  have hR' : R = true ↔ rightT (tbOf ds) n c := by rw [← hR, decide_eq_true_iff]
  have HG0 : Hid (Below w.heap.size w (w.alloc (.cells #[.slice a len cap] 24))) := (Below.refl _ _).alloc (Nat.le_refl _) _
  have hlt' := h.tlen
  by_cases hg : (0 ≤ n ∧ n ≤ 4096) ∧ (0 ≤ c ∧ c ≤ 6)
  · obtain ⟨hn, hc⟩ := hg
    obtain ⟨N, rfl⟩ : ∃ N : Nat, n = N := ⟨n.toNat, by omega⟩
    obtain ⟨C, rfl⟩ : ∃ C : Nat, c = C := ⟨c.toNat, by omega⟩
    by_cases hlast : 0 < len → tbAt (tbOf ds) (len - 1) ≠ []
    · by_cases h512 : len ≤ 512
      · have HRL : Hid (R = true ↔ ∀ i, i < len → tbAt (tbOf ds) i ≠ [] → rightL (tbAt (tbOf ds) i) i N C) := by
          show _ ↔ _
          rw [hR']
          unfold rightT
          rw [hlt']
          exact ⟨fun h => h.2.2.2.2, fun h => ⟨hn, hc, hlast, h512, h⟩⟩
        have HT := Lib.hid h
        have HB0 := Lib.hid (Box1.first w (.slice a len cap))
        obtain ⟨X, hX⟩ := named w.heap.size
        have hXX := hX.out
        rw [hX.out] at HB0 ⊢
        clear hR hR'
        by_cases h0 : len = 0
        · subst h0
          have hr : R = true := HRL.out.2 fun i hi => by omega
          subst hr
          clear h
          go_enter Tryd.func22, Tryd.ntmps22
          go_wp2
          go_loopw [7] (fun i wr => i = .int .i64 0 ∧ Hid (Box1 X (.slice a 0 cap) w wr)) (fun _ _ => 1)
          case atStart => exact ⟨rfl, HB0.out⟩
          case round =>
            obtain ⟨rfl, HB⟩ := hrel
            have b1 := HB.out.cell
            go_wp2
            go_ret
            exact ⟨rfl, HB.out.2⟩
        · obtain ⟨b, off, al, ll, cl, xs, rfl, hcell, hL, hxs, _⟩ := (h.later HG0.out).at (len - 1) (by omega)
          have hl0 : ¬ ll = 0 := fun e => hlast (by omega) (hxs.trans (List.eq_nil_of_length_eq_zero (hL.len.trans e)))
          have e1 : wrap64 ((len : Int) - 1) = ((len - 1 : Nat) : Int) := by unfold wrap64; omega
          have h02 : len - 1 < len := by omega
          have h03 : 0 < len := by omega
          have d1 : decide ((N : Int) < 0) = false := decide_eq_false (by omega)
          have d2 : decide (4096 < (N : Int)) = false := decide_eq_false (by omega)
          have d3 : decide ((C : Int) < 0) = false := decide_eq_false (by omega)
          have d4 : decide (6 < (C : Int)) = false := decide_eq_false (by omega)
          have d5 : ((ll : Int) == 0) = false := by simp [hl0]
          have d6 : decide (512 < (len : Int)) = false := decide_eq_false (by omega)
          clear hlast h hL hxs
          go_enter Tryd.func22, Tryd.ntmps22
          go_wp2
          clear hcell d5
          go_loopw [7] (fun i wr => ∃ j : Nat, j ≤ len ∧ i = .int .i64 j ∧ Hid (∀ i, i < j → tbAt (tbOf ds) i ≠ [] → rightL (tbAt (tbOf ds) i) i N C) ∧ Hid (Box1 X (.slice (some ⟨b, off, none⟩) len cap) w wr)) (fun i _ => len - (intOf i).toNat)
          case atStart => exact ⟨0, Nat.zero_le _, rfl, fun k hk => by omega, HB0.out⟩
          case round =>
            obtain ⟨j, hj, rfl, HJ, HB⟩ := hrel
            have hTR := HT.out.later (hX.out.symm ▸ HB.out.2)
            have b1 := HB.out.cell
            by_cases hlt : j < len
            · obtain ⟨b0, off0, al, ll, cl, xs, e0, hcell, hL, hxs, hget⟩ := hTR.at j hlt
              cases e0
              have HXS := Lib.hid hxs
              by_cases h0 : ll = 0
              · subst h0
                have he : xs = [] := List.eq_nil_of_length_eq_zero hL.len
                have HJ2 : Hid (∀ i, i < j + 1 → tbAt (tbOf ds) i ≠ [] → rightL (tbAt (tbOf ds) i) i N C) := fun i hi hne => by
                  by_cases e : i = j
                  · subst e
                    exact absurd (HXS.out.trans he) hne
                  · exact HJ.out i (by omega) hne
                clear hTR hL hxs he hget
                go_wp2
                go_roundw
                case rel => exact ⟨j + 1, by omega, by go_num, HJ2, HB.out⟩
                case measure => simp [intOf]; omega
              · have hne : xs ≠ [] := fun e => by
                  have := hL.len
                  dsimp only at this
                  rw [e] at this
                  exact h0 this.symm
                have HL := Lib.hid hL
                have HNO : Hid (¬ rightL xs j N C → R = false) := fun hno => by
                  cases R with
                  | false => rfl
                  | true =>
                    have := HRL.out.1 rfl j hlt (by rw [HXS.out]; exact hne)
                    rw [HXS.out] at this
                    exact absurd this hno
                by_cases h8 : ll = 8
                · subst h8
                  have HJ2 : Hid (rightL xs j N C → ∀ i, i < j + 1 → tbAt (tbOf ds) i ≠ [] → rightL (tbAt (tbOf ds) i) i N C) := fun hrj i hi hne => by
                    by_cases e : i = j
                    · subst e
                      rw [HXS.out]
                      exact hrj
                    · exact HJ.out i (by omega) hne
                  have HLEN := Lib.hid hL.len
                  have HGET := Lib.hid hget
                  clear hTR hL hxs hget
                  go_wp2
                  go_loopw [8, 9] (fun v i w9 => ∃ q : Nat, ∃ B : Bool, q ≤ 8 ∧ i = .int .i64 q ∧ v = .bool B ∧ Hid (∀ k, k < q → MayE (lfAt xs k) C ∧ ((lfAt xs k).1 ≠ 0 → ((j * 8 + k : Nat) : Int) < N)) ∧ Hid (B = true ↔ ∃ k, k < q ∧ (lfAt xs k).1 ≠ 0) ∧ Hid (Box1 X (.slice (some ⟨b, off, none⟩) len cap) w w9)) (fun _ i _ => 8 - (intOf i).toNat)
                  case atStart => exact ⟨0, false, by omega, rfl, rfl, fun k hk => by omega, ⟨fun e => (by cases e), fun ⟨k, hk, _⟩ => by omega⟩, HB.out⟩
                  case round =>
                    obtain ⟨q, B, hq, rfl, rfl, HK, HBB, HB9⟩ := hrel
                    have b9 := HB9.out.cell
                    have hTR9 := HT.out.later (hX.out.symm ▸ HB9.out.2)
                    by_cases hql : q < 8
                    · obtain ⟨b0, off0, al0, ll0, cl0, xs0, e0, hcell9, hL9, hxs9, hget⟩ := hTR9.at j hlt
                      cases e0
                      obtain ⟨rfl, rfl, rfl, rfl⟩ : al0 = al ∧ ll0 = 8 ∧ cl0 = cl ∧ xs0 = xs := by
                        have := HGET.out.symm.trans hget
                        simp only [Option.some.injEq, Prod.mk.injEq] at this
                        exact ⟨this.1.symm, this.2.1.symm, this.2.2.1.symm, this.2.2.2.symm⟩
                      obtain ⟨b', off', e1, hs, x1, x2, x3, x4, x5⟩ := hL9.at q hql
                      dsimp only at e1 hs x1 x2 x3 x4 x5
                      subst e1
                      have hno : ¬ (MayE (lfAt xs0 q) C ∧ ((lfAt xs0 q).1 ≠ 0 → ((j * 8 + q : Nat) : Int) < N)) → R = false := fun h => HNO.out fun hr => h (hr.2.1 q hql)
                      have heq : MayE (lfAt xs0 q) C ∧ ((lfAt xs0 q).1 ≠ 0 → ((j * 8 + q : Nat) : Int) < N) → Hid (∀ k, k < q + 1 → MayE (lfAt xs0 k) C ∧ ((lfAt xs0 k).1 ≠ 0 → ((j * 8 + k : Nat) : Int) < N)) := fun h k hk => by
                        by_cases e : k = q
                        · rw [e]; exact h
                        · exact HK.out k (by omega)
                      have hB1 : (lfAt xs0 q).1 ≠ 0 → Hid (true = true ↔ ∃ k, k < q + 1 ∧ (lfAt xs0 k).1 ≠ 0) := fun h => ⟨fun _ => ⟨q, by omega, h⟩, fun _ => rfl⟩
                      have hB2 : (lfAt xs0 q).1 = 0 → Hid (B = true ↔ ∃ k, k < q + 1 ∧ (lfAt xs0 k).1 ≠ 0) := fun h => ⟨fun e => by
                        obtain ⟨k, h1, h2⟩ := HBB.out.1 e
                        exact ⟨k, by omega, h2⟩, fun ⟨k, h1, h2⟩ => HBB.out.2 ⟨k, by
                          rcases Nat.lt_or_ge k q with h' | h'
                          · exact h'
                          · exact absurd (by rw [show k = q by omega]; exact h) h2, h2⟩⟩
                      obtain ⟨⟨v1, v2, v3, v4, v5⟩, HV⟩ := named (lfAt xs0 q)
                      rw [HV.out] at x1 x2 x3 x4 x5 hno heq hs hB1 hB2
                      dsimp only at x1 x2 x3 x4 x5 hno heq hB1 hB2
                      have hcast : ((j * 8 + q : Nat) : Int) = (j : Int) * 8 + q := by omega
                      rw [hcast] at hno heq
                      clear hcast
                      clear HV hTR9 hget hxs9 hL9
                      by_cases hm : MayE (v1, v2, v3, v4, v5) C
                      · have HM := Lib.hid (fun w => rmayC hs (decide_eq_true hm) w)
                        by_cases hv : v1 = 0
                        · subst hv
                          have HQ2 := heq ⟨hm, fun h => absurd rfl h⟩
                          have HB2 := hB2 rfl
                          clear hno heq hs hm hB1 hB2
                          have hvb : ((0 : Int) != 0) = false := rfl
                          cases B
                          all_goals
                            go_wp2_with (go_at_call 40; (with_reducible refine (HM.out _).mono ?_); rintro e w2 ⟨rfl, g⟩; have HN2 := Lib.hid ((HB9.out.alloc (.cells #[.int .i64 0, .int .i64 v2, .int .i64 v3, .int .i64 v4, .int .u32 v5] 47)).later g); have k1 := ek_at g; clear g)
                            go_roundw
                            case rel => exact ⟨q + 1, _, by omega, by go_num, rfl, HQ2, (by have := HB2.out; show _ ↔ _; simpa using this), HN2.out⟩
                            case measure => simp [intOf]; omega
                        · by_cases hlt9 : (j : Int) * 8 + q < N
                          · have HQ2 := heq ⟨hm, fun _ => hlt9⟩
                            have HB2 := hB1 hv
                            have hvb : (v1 != 0) = true := by simp [hv]
                            have d7 : decide ((N : Int) ≤ (j : Int) * 8 + q) = false := decide_eq_false (by omega)
                            clear hno heq hs hm hB1 hB2 HBB
                            cases B
                            all_goals
                              go_wp2_with (go_at_call 40; (with_reducible refine (HM.out _).mono ?_); rintro e w2 ⟨rfl, g⟩; have HN2 := Lib.hid ((HB9.out.alloc (.cells #[.int .i64 v1, .int .i64 v2, .int .i64 v3, .int .i64 v4, .int .u32 v5] 47)).later g); have k1 := ek_at g; clear g)
                              go_roundw
                              case rel => exact ⟨q + 1, true, by omega, by go_num, rfl, HQ2, (by have := HB2.out; show _ ↔ _; simpa using this), HN2.out⟩
                              case measure => simp [intOf]; omega
                          · have hr : R = false := hno fun h => hlt9 (h.2 hv)
                            have hvb : (v1 != 0) = true := by simp [hv]
                            have d7 : decide ((N : Int) ≤ (j : Int) * 8 + q) = true := decide_eq_true (by omega)
                            subst hr
                            clear hno heq hs hm hB1 hB2
                            go_wp2_with (go_at_call 40; (with_reducible refine (HM.out _).mono ?_); rintro e w2 ⟨rfl, g⟩; have HN2 := Lib.hid ((HB9.out.alloc (.cells #[.int .i64 v1, .int .i64 v2, .int .i64 v3, .int .i64 v4, .int .u32 v5] 47)).later g); have k1 := ek_at g; clear g)
                            go_ret
                            exact ⟨rfl, HN2.out.2⟩
                      · have HM := Lib.hid (fun w => rmayC hs (decide_eq_false hm) w)
                        have hr : R = false := hno fun h => hm h.1
                        subst hr
                        clear hno heq hs hm hB1 hB2
                        go_wp2_with (go_at_call 40; (with_reducible refine (HM.out _).mono ?_); rintro e w2 ⟨rfl, g⟩; have HN2 := Lib.hid ((HB9.out.alloc (.cells #[.int .i64 v1, .int .i64 v2, .int .i64 v3, .int .i64 v4, .int .u32 v5] 47)).later g); have k1 := ek_at g; clear g)
                        go_ret
                        exact ⟨rfl, HN2.out.2⟩
                    · have hq8 : q = 8 := by omega
                      subst hq8
                      by_cases hB : B = true
                      · subst hB
                        have HJ3 := Lib.hid (HJ2.out ⟨HLEN.out, HK.out, HBB.out.1 rfl⟩)
                        clear hTR9
                        go_wp2
                        go_roundw
                        case rel => exact ⟨j + 1, by omega, by go_num, HJ3.out, HB9.out⟩
                        case measure => simp [intOf]; omega
                      · have hr : R = false := HNO.out fun h => hB (HBB.out.2 h.2.2)
                        subst hr
                        clear hTR9
                        go_wp2
                        go_ret
                        exact ⟨rfl, HB9.out.2⟩
                · have hr : R = false := HNO.out fun h => h8 (hL.len.symm.trans h.1)
                  subst hr
                  clear hTR hL hxs hget
                  go_wp2
                  go_ret
                  exact ⟨rfl, HB.out.2⟩
            · have hr : R = true := HRL.out.2 fun i hi => HJ.out i (by omega)
              subst hr
              clear hTR
              go_wp2
              go_ret
              exact ⟨rfl, HB.out.2⟩
      · have hr : R = false := by
          cases R with
          | false => rfl
          | true =>
            have := (hR'.1 rfl).2.2.2.1
            omega
        subst hr
        obtain ⟨b, off, al, ll, cl, xs, rfl, hcell, hL, hxs, _⟩ := (h.later HG0.out).at (len - 1) (by omega)
        have hl0 : ¬ ll = 0 := fun e => hlast (by omega) (hxs.trans (List.eq_nil_of_length_eq_zero (hL.len.trans e)))
        have hm := h.1.2.1
        have e1 : wrap64 ((len : Int) - 1) = ((len - 1 : Nat) : Int) := by unfold wrap64; omega
        have h02 : len - 1 < len := by omega
        clear hlast h hL hxs hR hR'
        go_enter Tryd.func22, Tryd.ntmps22
        go_wp2
        go_ret
        exact ⟨rfl, HG0.out⟩
    · have hr : R = false := by
        cases R with
        | false => rfl
        | true =>
          have := (hR'.1 rfl).2.2.1
          rw [hlt'] at this
          exact absurd this hlast
      subst hr
      have hp : 0 < len := Decidable.byContradiction fun h' => hlast fun h => absurd h h'
      have hnil : tbAt (tbOf ds) (len - 1) = [] := Decidable.byContradiction fun h' => hlast fun _ => h'
      obtain ⟨b, off, al, ll, cl, xs, rfl, hcell, hL, hxs, _⟩ := (h.later HG0.out).at (len - 1) (by omega)
      have hl0 : ll = 0 := by
        have := hL.len
        dsimp only at this
        rw [← hxs, hnil] at this
        exact this.symm
      subst hl0
      have hm := h.1.2.1
      have e1 : wrap64 ((len : Int) - 1) = ((len - 1 : Nat) : Int) := by unfold wrap64; omega
      have h02 : len - 1 < len := by omega
      have h03 : ¬ len = 0 := by omega
      clear hlast h hL hxs hR hR' hnil
      go_enter Tryd.func22, Tryd.ntmps22
      go_wp2
      go_ret
      exact ⟨rfl, HG0.out⟩
  · have hr : R = false := by
      cases R with
      | false => rfl
      | true => exact absurd ⟨(hR'.1 rfl).1, (hR'.1 rfl).2.1⟩ hg
    subst hr
    have hcs : n < 0 ∨ (0 ≤ n ∧ 4096 < n) ∨ (0 ≤ n ∧ n ≤ 4096 ∧ c < 0) ∨ (0 ≤ n ∧ n ≤ 4096 ∧ 0 ≤ c ∧ 6 < c) := by omega
    clear hR hR' h hg
    rcases hcs with h1 | ⟨h1, h2⟩ | ⟨h1, h2, h3⟩ | ⟨h1, h2, h3, h4⟩
    all_goals
      go_enter Tryd.func22, Tryd.ntmps22
      go_wp2
      go_ret
      exact ⟨rfl, HG0.out⟩
end Go.Proofs.YtbdidgfbonkneaaDoor
