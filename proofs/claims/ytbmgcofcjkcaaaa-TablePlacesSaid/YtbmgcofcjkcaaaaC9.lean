/-
  What the reference's At answers (layer 8). Conditions: the table reads; the place is an int.
-/
import Derived.Test.YtbmgcofcjkcaaaaB9
import Derived.Deep.MidRow
namespace Go.Proofs.Ytbmgcofcjkcaaaa
open Go.RowKit
set_option linter.unusedVariables false

set_option maxHeartbeats 1600000 in
theorem refAt8_any (w : World) (a : Option Addr) (len cap : Nat) (ds : List LfD) (i : Int) (h : TabR w a len ds) (hi64 : I64 i) : Calls Try.prog 26 #[.agg #[.slice a len cap], .int .i64 i] w fun e w' => e = .returned (.agg (enV (atT (tbOf ds) i)).toArray) ∧ Below w.heap.size w w' := by
  have HG : Hid (∀ cs ds, Below w.heap.size w ((w.alloc (.cells cs 24)).alloc (.cells ds 27))) := fun cs ds => ((Below.refl _ _).alloc (Nat.le_refl _) _).alloc (by simp) _
  by_cases hi : i < 0
  · have e0 : atT (tbOf ds) i = enZ := by unfold atT; rw [if_pos hi]
    rw [e0]
    clear h
    go_enter Try.func26, Try.ntmps26
    go_wp2
    refine bodyPost_ret (v := .agg (enV enZ).toArray) (results_cell_row rfl _ _ (w.heap.size + 1) 27 (enV enZ).toArray (0, 0) _ rfl ?_ Try.underlying27 rfl entry_size) rfl ⟨rfl, HG.out _ _⟩
    exact blk_next9 _ _ _ _ _
  · obtain ⟨I, rfl⟩ : ∃ I : Nat, i = I := ⟨i.toNat, by omega⟩
    have hI := hi64.2
    rw [atT_nat]
    unfold atN
    obtain ⟨J, hJ⟩ := named (I / 8)
    obtain ⟨R, hR⟩ := named (I % 8)
    have hq : wrap64 ((I : Int) / 8) = (J : Int) := by rw [← hJ.out]; unfold wrap64; omega
    have hr : (I : Int) % 8 = (R : Int) := by rw [← hR.out]; omega
    rw [hJ.out, hR.out]
    clear hJ hR hI hi64
    have h2 : TabR ((w.alloc (.cells #[.slice a len cap] 24)).alloc (.cells #[.int .i64 0, .int .i64 0, .int .i64 0, .int .i64 0, .int .u32 0] 27)) a len ds := h.later (HG.out _ _)
    by_cases hlt : J < len
    · have n1 : ¬ len ≤ J := by omega
      obtain ⟨b, off, al, ll, cl, xs, rfl, hc, hL, hx, _⟩ := h2.at J hlt
      rw [hx]
      by_cases hk : R < ll
      · obtain ⟨b', off', e1, _, c0, c1, c2, c3, c4⟩ := hL.at R hk
        dsimp only at e1 c0 c1 c2 c3 c4
        subst e1
        have n2 : ¬ ll ≤ R := by omega
        clear h h2 hL hx
        go_enter Try.func26, Try.ntmps26
        go_wp2
        refine bodyPost_ret (v := .agg (enV (lfAt xs R)).toArray) (results_cell_row rfl _ _ (w.heap.size + 1) 27 (enV (lfAt xs R)).toArray (0, 0) _ rfl ?_ Try.underlying27 rfl entry_size) rfl ⟨rfl, HG.out _ _⟩
        exact blk_next9 _ _ _ _ _
      · rw [lfAt_out (by have := hL.len; dsimp only at this; omega)]
        have n2 : ll ≤ R := by omega
        clear h h2 hL hx
        go_enter Try.func26, Try.ntmps26
        go_wp2
        refine bodyPost_ret (v := .agg (enV enZ).toArray) (results_cell_row rfl _ _ (w.heap.size + 1) 27 (enV enZ).toArray (0, 0) _ rfl ?_ Try.underlying27 rfl entry_size) rfl ⟨rfl, HG.out _ _⟩
        exact blk_next9 _ _ _ _ _
    · rw [tbAt_out (by rw [h.tlen]; omega), lfAt_nil]
      clear h h2
      have n1 : len ≤ J := by omega
      go_enter Try.func26, Try.ntmps26
      go_wp2
      refine bodyPost_ret (v := .agg (enV enZ).toArray) (results_cell_row rfl _ _ (w.heap.size + 1) 27 (enV enZ).toArray (0, 0) _ rfl ?_ Try.underlying27 rfl entry_size) rfl ⟨rfl, HG.out _ _⟩
      exact blk_next9 _ _ _ _ _
end Go.Proofs.Ytbmgcofcjkcaaaa
