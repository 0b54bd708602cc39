/-
  What Great answers, of whatever table that came in (layer 8). Conditions: the outer slice's cells are slices.
-/
import Derived.Test.YtdffgnpldapciaaDoorB9
namespace Go.Proofs.YtdffgnpldapciaaDoor
open Go.RowKit
set_option linter.unusedVariables false

/-- The outer slice of whatever table that came in. -/
def OutR (w : World) (a : Option Addr) (len : Nat) (g : Nat → Option Addr × Nat × Nat) : Prop := len ≤ maxLen ∧ (∀ i, i < len → (g i).2.1 ≤ maxLen) ∧ (0 < len → ∃ b off, a = some ⟨b, off, none⟩ ∧ b < w.heap.size ∧ ∀ i, i < len → w.cell? ⟨b, off + i, none⟩ = some (.slice (g i).1 (g i).2.1 (g i).2.2))
theorem OutR.later {w w' : World} {a : Option Addr} {len : Nat} {g : Nat → Option Addr × Nat × Nat} (h : OutR w a len g) (hb : Below w.heap.size w w') : OutR w' a len g := by
  refine ⟨h.1, h.2.1, fun h0 => ?_⟩
  obtain ⟨b, off, h1, h2, h3⟩ := h.2.2 h0
  exact ⟨b, off, h1, Nat.lt_of_lt_of_le h2 hb.size, fun i hi => (hb.cell (p := ⟨b, off + i, none⟩) h2).trans (h3 i hi)⟩
def greatN (g : Nat → Option Addr × Nat × Nat) : Nat → Nat
  | 0 => 0
  | i + 1 => greatN g i + 1 + min (g i).2.1 6000
theorem greatN_mono (g : Nat → Option Addr × Nat × Nat) (i : Nat) : ∀ d, greatN g i ≤ greatN g (i + d)
  | 0 => Nat.le_refl _
  | d + 1 => by
    have := greatN_mono g i d
    have e : greatN g (i + (d + 1)) = greatN g (i + d) + 1 + min (g (i + d)).2.1 6000 := rfl
    omega
theorem greatN_le (g : Nat → Option Addr × Nat × Nat) : ∀ n, n ≤ greatN g n
  | 0 => Nat.le_refl _
  | n + 1 => by
    have := greatN_le g n
    have e : greatN g (n + 1) = greatN g n + 1 + min (g n).2.1 6000 := rfl
    omega
theorem greatN_small {g : Nat → Option Addr × Nat × Nat} {n : Nat} (h : ¬ 6000 < greatN g n) : n ≤ 6000 ∧ ∀ i, i < n → (g i).2.1 ≤ 6000 := by
  have h1 := greatN_le g n
  refine ⟨by omega, fun i hi => ?_⟩
  have h2 := greatN_mono g (i + 1) (n - (i + 1))
  rw [show i + 1 + (n - (i + 1)) = n by omega] at h2
  have e : greatN g (i + 1) = greatN g i + 1 + min (g i).2.1 6000 := rfl
  omega
theorem run_min9 (P : Program) (ts : Array TypeId) (t : TypeId) (x y : Int) (w : World) : (Builtin.min_ ts t #[.int .i64 x, .int .i64 y]).run P w = .ok (.int .i64 (if y < x then y else x)) w := by
  simp [Builtin.min_, Builtin.min2]
set_option maxHeartbeats 1600000 in
theorem great_any (w : World) (a : Option Addr) (len cap : Nat) (g : Nat → Option Addr × Nat × Nat) (h : OutR w a len g) : Calls Tryd.prog 16 #[.agg #[.slice a len cap]] w fun e w' => e = .returned (.bool (decide (6000 < greatN g len))) ∧ Below w.heap.size w w' := by
  have HG : Hid (Below w.heap.size w (w.alloc (.cells #[.slice a len cap] 24))) := (Below.refl _ _).alloc (Nat.le_refl _) _
  have h2 := Lib.hid (h.later HG.out)
  have hlen := h.1
  unfold maxLen at hlen
  have e0 : greatN g 0 = 0 := rfl
  have es : ∀ i, greatN g (i + 1) = greatN g i + 1 + min (g i).2.1 6000 := fun _ => rfl
  have hm : ∀ i, i ≤ len → 6000 < greatN g i → 6000 < greatN g len := fun i hi hg => by
    have := greatN_mono g i (len - i)
    rw [show i + (len - i) = len by omega] at this
    omega
  obtain ⟨F, hF⟩ := named (greatN g)
  rw [hF.out] at e0 es hm ⊢
  have HE0 := Lib.hid e0
  have HES := Lib.hid es
  have HM := Lib.hid hm
  clear e0 es hm hF h
  go_enter Tryd.func16, Tryd.ntmps16
  go_wp2
  go_loop [3, 4] (fun n i => ∃ j t : Nat, j ≤ len ∧ n = .int .i64 t ∧ i = .int .i64 j ∧ Hid (t = F j) ∧ t ≤ 12001) (fun _ i => len - (intOf i).toNat)
  case atStart => exact ⟨0, 0, Nat.zero_le _, rfl, rfl, HE0.out.symm, by omega⟩
  case round =>
    obtain ⟨j, t, hj, rfl, rfl, HT, ht⟩ := hrel
    by_cases hc : j < len ∧ t ≤ 6000
    · obtain ⟨hlt, ht6⟩ := hc
      obtain ⟨b, off, rfl, _, hcell⟩ := h2.out.2.2 (by omega)
      have hc := hcell j hlt
      have hll := h2.out.2.1 j hlt
      unfold maxLen at hll
      have hs := HES.out j
      rcases hgj : g j with ⟨al, ll, cl⟩
      rw [hgj] at hc hs hll
      simp only at hc hs hll
      clear hgj
      rw [← HT.out] at hs
      clear hcell
      by_cases hmn : ll ≤ 6000
      · rw [Nat.min_eq_left hmn] at hs
        have hmin : ∀ w : World, (Builtin.min_ #[3, 3] 3 #[.int .i64 ll, .int .i64 6000]).run Tryd.prog w = .ok (.int .i64 ll) w := fun w => by rw [run_min9, if_neg (by omega)]
        have HS := Lib.hid hs
        clear hs
        go_wp2
        go_round
        case rel => exact ⟨j + 1, t + 1 + ll, by omega, by go_num, by go_num, HS.out.symm, by omega⟩
        case measure => simp [intOf]; omega
      · rw [Nat.min_eq_right (by omega)] at hs
        have hmin : ∀ w : World, (Builtin.min_ #[3, 3] 3 #[.int .i64 ll, .int .i64 6000]).run Tryd.prog w = .ok (.int .i64 6000) w := fun w => by rw [run_min9, if_pos (by omega)]
        have HS := Lib.hid hs
        clear hs
        go_wp2
        go_round
        case rel => exact ⟨j + 1, t + 1 + 6000, by omega, by go_num, by go_num, HS.out.symm, by omega⟩
        case measure => simp [intOf]; omega
    · have hfin : decide (6000 < F len) = decide (6000 < t) := by
        refine decide_eq_decide.2 ⟨fun h => ?_, fun h => ?_⟩
        · rcases Nat.lt_or_ge 6000 t with h' | h'
          · exact h'
          · have : j = len := by omega
            subst this
            rw [HT.out]
            exact h
        · exact HM.out j hj (by rw [← HT.out]; exact h)
      have hc2 : (j < len ∧ ¬ t ≤ 6000) ∨ ¬ j < len := by omega
      rcases hc2 with ⟨c1, c2⟩ | c1
      all_goals
        go_wp2
        go_ret
        refine ⟨?_, HG.out⟩
        first | (simp; done) | (simp; omega)
end Go.Proofs.YtdffgnpldapciaaDoor
