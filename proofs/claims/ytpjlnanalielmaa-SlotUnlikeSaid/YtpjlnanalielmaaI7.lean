/-
  What the reference's GetSlot answers (layer 6). Conditions: the slice reads as bytes.
-/
import Derived.Test.YtpjlnanalielmaaH7
namespace Go.Proofs.Ytpjlnanalielmaa
open Go.RowKit
set_option linter.unusedVariables false

set_option maxHeartbeats 4000000 in
theorem refGetSlot_any (w : World) (a : Option Addr) (len cap : Nat) (l : List Int) (hB : Bytes w a len l) : Calls Try.prog 14 #[.slice a len cap] w (GotS (getS l) w) := by
  by_cases h16 : len = 16
  · subst h16
    have hl := hB.1
    have ho := slOf_bd hB.small.2
    have hg : getS l = if May (slOf l) then some (slOf l) else none := by
      unfold getS
      by_cases hm : May (slOf l) <;> simp [hl, hm]
    rw [hg]
    have hB1 : Bytes (w.alloc (.cells #[.int .i64 0, .int .i64 0, .int .i64 0, .int .u32 0] 24)) a 16 l := hB.later ((Below.refl _ _).alloc (Nat.le_refl _) (.cells (slV slZ).toArray 24))
    have h0 := refAt_any a 16 cap 0 0 l _ hB1 (by omega) rfl
    have h1 := refAt_any a 16 cap 4 4 l _ hB1 (by omega) rfl
    have h2 := refAt_any a 16 cap 8 8 l _ hB1 (by omega) rfl
    have h3 := refAt_any a 16 cap 12 12 l _ hB1 (by omega) rfl
    have b3 := small_getTo hB.small.2 12
    unfold slOf at ho ⊢
    obtain ⟨q, hq⟩ := named (getTo false 4 0 l 4)
    obtain ⟨s, hss⟩ := named (getTo false 4 4 l 4)
    obtain ⟨c, hc⟩ := named (getTo false 4 8 l 4)
    obtain ⟨m, hm⟩ := named (getTo false 4 12 l 4)
    rw [hq.out] at h0 ho ⊢
    rw [hss.out] at h1 ho ⊢
    rw [hc.out] at h2 ho ⊢
    rw [hm.out] at h3 b3 ho ⊢
    have e3 : IntKind.u32.wrap (m : Int) = m := by rw [IntKind.wrap_u32]; omega
    have H0 := Lib.hid h0
    have H1 := Lib.hid h1
    have H2 := Lib.hid h2
    have H3 := Lib.hid h3
    have hR1 := slV_all ((q : Int), (s : Int), (c : Int), (m : Int))
    obtain ⟨RS, hRS⟩ := named (slV ((q : Int), (s : Int), (c : Int), (m : Int))).toArray
    have hRSs : RS.size = 4 := by rw [← hRS.out]; rfl
    have HAG : Hid (Value.agg #[.int .i64 q, .int .i64 s, .int .i64 c, .int .u32 m] = .agg RS) := congrArg Value.agg hRS.out
    rw [hRS.out] at hR1
    have HR1 := Lib.hid hR1
    have HI : Hid ((Try.prog.info? 24).map (·.size) = some RS.size) := by rw [Hid, hRSs]; exact slot_size
    have HZS : Hid ((slV slZ).toArray.size = RS.size) := hRSs.symm
    obtain ⟨X, hX⟩ := named w.heap.size
    have HX0 : Hid (Blk (w.alloc (.cells #[.int .i64 0, .int .i64 0, .int .i64 0, .int .u32 0] 24)) X 24 (slV slZ).toArray) := by rw [← hX.out]; exact Blk.new w _ _
    have HG0 : Hid (Below X w (w.alloc (.cells #[.int .i64 0, .int .i64 0, .int .i64 0, .int .u32 0] 24))) := by rw [← hX.out]; exact (Below.refl _ _).alloc (Nat.le_refl _) _
    have HSZ : Hid ((w.alloc (.cells #[.int .i64 0, .int .i64 0, .int .i64 0, .int .u32 0] 24)).heap.size = X + 1) := by rw [Hid, World.size_alloc, hX.out]
    have hXX := hX.out
    by_cases hm : May ((q : Int), (s : Int), (c : Int), (m : Int))
    · rw [if_pos hm]
      have h4 := fun w => refSlot_ok hm ho w
      have hln := slB_len ((q : Int), (s : Int), (c : Int), (m : Int))
      rw [hRS.out] at h4
      obtain ⟨D, hD⟩ := named (slB ((q : Int), (s : Int), (c : Int), (m : Int)))
      rw [hD.out] at h4 hln
      have H4 := Lib.hid h4
      have HLN := Lib.hid hln
      unfold GotS
      show Calls _ _ _ w fun e w' => e = .returned (.tuple #[.agg (slV ((q : Int), (s : Int), (c : Int), (m : Int))).toArray, .int .i64 0]) ∧ Below w.heap.size w w'
      rw [hRS.out, hX.out]
      clear h0 h1 h2 h3 h4 hg hR1 hRSs hm hB hB1 hRS ho hln hD
      go_enter Try.func14, Try.ntmps14
      go_wp2_with (first
        | (go_at_call 22; (with_reducible refine H0.out.mono ?_); rintro e w1 ⟨rfl, rfl⟩)
        | (go_at_call 22; (with_reducible refine H1.out.mono ?_); rintro e w1 ⟨rfl, rfl⟩)
        | (go_at_call 22; (with_reducible refine H2.out.mono ?_); rintro e w1 ⟨rfl, rfl⟩)
        | (go_at_call 22; (with_reducible refine H3.out.mono ?_); rintro e w1 ⟨rfl, rfl⟩)
        | (refine store_new7 rfl (.tmp 4) (.tmp 20) rfl RS (by rw [HSZ.out]; rfl) HAG.out HI.out HZS.out HR1.out ?_)
        | (refine wpList_load_row rfl 24 (.tmp 4) rfl (X + 1) rfl 24 RS (0, 0) _ (by rw [← HSZ.out]; exact Blk.new _ _ RS) Try.underlying24 rfl HI.out ?_)
        | (go_at_call 10; (with_reducible refine (H4.out _).mono ?_); rintro e w2 hp; obtain ⟨a1, c1, rfl, _, _, g⟩ := hp.sized HLN.out; have HX2 := Lib.hid ((HX0.out.alloc _).later g); have HY2 : Hid (Blk w2 (X + 1) 24 RS) := Lib.hid (by rw [← HSZ.out]; exact (Blk.new _ 24 RS).later g); have HG2 : Hid (Below X w w2) := (HG0.out.alloc (by rw [HSZ.out]; omega) _).trans (g.mono (by rw [World.size_alloc, HSZ.out]; omega)); clear g hp)
        | (refine wpList_load_row rfl 24 (.tmp 4) rfl (X + 1) rfl 24 RS (0, 0) _ HY2.out Try.underlying24 rfl HI.out ?_)
        | (refine wpList_store_row rfl 24 (.tmp 2) (.tmp 29) rfl X RS rfl rfl 24 _ HX2.out HI.out HZS.out HR1.out ?_))
      exact bodyPost_ret (results_cell_tmp rfl _ _ X 24 RS (0, 0) _ rfl _ rfl (setRow_heap _ X _ RS _ _ HX2.out) Try.underlying24 rfl HI.out) rfl ⟨rfl, below_setRow HG2.out (Nat.le_refl _) _⟩
    · rw [if_neg hm]
      have h4 := fun w => refSlot_arg hm w
      rw [hRS.out] at h4
      have H4 := Lib.hid h4
      have HI0 : Hid ((Try.prog.info? 24).map (·.size) = some ((slV slZ).toArray).size) := slot_size
      unfold GotS
      show Calls _ _ _ w fun e w' => e = .returned (.tuple #[.agg (slV slZ).toArray, .int .i64 3]) ∧ Below w.heap.size w w'
      rw [hX.out]
      clear h0 h1 h2 h3 h4 hg hR1 hRSs hm hB hB1 hRS ho
      go_enter Try.func14, Try.ntmps14
      go_wp2_with (first
        | (go_at_call 22; (with_reducible refine H0.out.mono ?_); rintro e w1 ⟨rfl, rfl⟩)
        | (go_at_call 22; (with_reducible refine H1.out.mono ?_); rintro e w1 ⟨rfl, rfl⟩)
        | (go_at_call 22; (with_reducible refine H2.out.mono ?_); rintro e w1 ⟨rfl, rfl⟩)
        | (go_at_call 22; (with_reducible refine H3.out.mono ?_); rintro e w1 ⟨rfl, rfl⟩)
        | (refine store_new7 rfl (.tmp 4) (.tmp 20) rfl RS (by rw [HSZ.out]; rfl) HAG.out HI.out HZS.out HR1.out ?_)
        | (refine wpList_load_row rfl 24 (.tmp 4) rfl (X + 1) rfl 24 RS (0, 0) _ (by rw [← HSZ.out]; exact Blk.new _ _ RS) Try.underlying24 rfl HI.out ?_)
        | (go_at_call 10; (with_reducible refine (H4.out _).mono ?_); rintro e w2 hp; obtain ⟨a1, c1, rfl, _, _, g⟩ := hp.sized (n := 0) rfl; have HX2 := Lib.hid ((HX0.out.alloc _).later g); have HG2 : Hid (Below X w w2) := (HG0.out.alloc (by rw [HSZ.out]; omega) _).trans (g.mono (by rw [World.size_alloc, HSZ.out]; omega)); clear g hp)
        | (refine wpList_store_row rfl 24 (.tmp 2) (.tmp 28) rfl X (slV slZ).toArray rfl rfl 24 _ HX2.out HI0.out rfl (slV_all slZ) ?_))
      exact bodyPost_ret (results_cell_tmp rfl _ _ X 24 (slV slZ).toArray (0, 0) _ rfl _ rfl (setRow_heap _ X _ _ _ _ HX2.out) Try.underlying24 rfl HI0.out) rfl ⟨rfl, below_setRow HG2.out (Nat.le_refl _) _⟩
  · have hg : getS l = none := getS_none (fun e => h16 (hB.1.symm.trans e))
    rw [hg]
    unfold GotS
    show Calls _ _ _ w fun e w' => e = .returned (.tuple #[.agg (slV slZ).toArray, .int .i64 3]) ∧ Below w.heap.size w w'
    have h16' : ¬ (len : Int) = 16 := by omega
    have HI0 : Hid ((Try.prog.info? 24).map (·.size) = some ((slV slZ).toArray).size) := slot_size
    clear hB hg
    go_enter Try.func14, Try.ntmps14
    go_wp2_with (refine store_new7 rfl (.tmp 2) (.tmp 10) rfl (slV slZ).toArray (by rfl) (by rfl) HI0.out rfl (slV_all slZ) ?_)
    exact bodyPost_ret (results_cell_tmp rfl _ _ w.heap.size 24 (slV slZ).toArray (0, 0) _ rfl _ rfl (Blk.new w _ _) Try.underlying24 rfl HI0.out) rfl ⟨rfl, (Below.refl _ _).alloc (Nat.le_refl _) _⟩
end Go.Proofs.Ytpjlnanalielmaa
