/-
  What the reference's GetEntry answers (layer 7). Conditions: the slice reads as bytes.
-/
import Derived.Test.YtdffgnpldapciaaGreatDoorC8
namespace Go.Proofs.YtdffgnpldapciaaGreatDoor
open Go.RowKit
set_option linter.unusedVariables false

/-- What 'Get' hands back. -/
def GotN (o : Option En) (w0 : World) (e : Ending) (w : World) : Prop := e = .returned (.tuple #[.agg (enV (o.getD enZ)).toArray, .int .i64 (if o.isSome then 0 else 3)]) ∧ Below w0.heap.size w0 w
theorem wp_b {w : World} {b off n : Nat} {l : List Int} (h : Bytes w (some ⟨b, off, none⟩) n l) (hn : 1 < n) {w' : World} (hb : Below w.heap.size w w') (v : Int) (hv : l.getD 1 0 = v) : w'.cell? ⟨b, off + 1, none⟩ = some (.int .u8 v) := by
  rw [← hv]
  exact (h.later hb).cellAt 1 hn
set_option maxRecDepth 100000 in
set_option maxHeartbeats 4000000 in
theorem refGetEntry_any (w : World) (a : Option Addr) (len cap : Nat) (l : List Int) (c : Int) (hB : Bytes w a len l) : Calls Tryz.prog 57 #[.slice a len cap, .int .i64 c] w (GotN (getE l c) w) := by
  by_cases h16 : len = 16
  · subst h16
    have hl := hB.1
    have ho := enOf_ok hB.small.2
    obtain ⟨b, off, rfl⟩ := hB.lies (by omega)
    have hb1 := hB.small.at (k := 1) (by omega)
    obtain ⟨v1, hv1⟩ := named (l.getD 1 0)
    have hg : getE l c = if v1 = 0 ∧ MayE (enOf l) c then some (enOf l) else none := by
      unfold getE
      rw [hv1.out]
      by_cases hm : v1 = 0 ∧ MayE (enOf l) c
      · rw [if_pos hm, if_pos ⟨hl, hm⟩]
      · rw [if_neg hm, if_neg (fun h => hm h.2)]
    rw [hg]
    rw [hv1.out] at hb1
    have hB1 : Bytes (w.alloc (.cells #[.int .i64 0, .int .i64 0, .int .i64 0, .int .i64 0, .int .u32 0] 91)) (some ⟨b, off, none⟩) 16 l := hB.later ((Below.refl _ _).alloc (Nat.le_refl _) _)
    have h0 := refAt_any _ 16 cap 1 0 1 0 l _ hB1 (by omega) (by omega) (by omega) rfl rfl
    have h2 := refAt_any _ 16 cap 2 2 2 2 l _ hB1 (by omega) (by omega) (by omega) rfl rfl
    have h4 := refAt_any _ 16 cap 4 4 4 4 l _ hB1 (by omega) (by omega) (by omega) rfl rfl
    have h8 := refAt_any _ 16 cap 4 8 4 8 l _ hB1 (by omega) (by omega) (by omega) rfl rfl
    have h12 := refAt_any _ 16 cap 4 12 4 12 l _ hB1 (by omega) (by omega) (by omega) rfl rfl
    have bm := small_get hB.small.2 4 12 (by omega)
    unfold enOf at ho ⊢
    obtain ⟨k0, hk⟩ := named (getTo false 1 0 l 1)
    obtain ⟨s0, hs⟩ := named (getTo false 4 4 l 4)
    obtain ⟨n0, hn⟩ := named (getTo false 2 2 l 2)
    obtain ⟨z0, hz⟩ := named (getTo false 4 8 l 4)
    obtain ⟨m0, hm⟩ := named (getTo false 4 12 l 4)
    rw [hk.out] at h0 ho ⊢
    rw [hs.out] at h4 ho ⊢
    rw [hn.out] at h2 ho ⊢
    rw [hz.out] at h8 ho ⊢
    rw [hm.out] at h12 bm ho ⊢
    obtain ⟨k, hk'⟩ : ∃ k, (k0 : Int) = k := ⟨_, rfl⟩
    obtain ⟨s, hs'⟩ : ∃ k, (s0 : Int) = k := ⟨_, rfl⟩
    obtain ⟨n, hn'⟩ : ∃ k, (n0 : Int) = k := ⟨_, rfl⟩
    obtain ⟨z, hz'⟩ : ∃ k, (z0 : Int) = k := ⟨_, rfl⟩
    obtain ⟨m, hm'⟩ : ∃ k, (m0 : Int) = k := ⟨_, rfl⟩
    rw [hk'] at h0 ho ⊢
    rw [hs'] at h4 ho ⊢
    rw [hn'] at h2 ho ⊢
    rw [hz'] at h8 ho ⊢
    rw [hm'] at h12 ho ⊢
    have e3 : IntKind.u32.wrap m = m := by rw [IntKind.wrap_u32]; omega
    have H0 := Lib.hid h0
    have H2 := Lib.hid h2
    have H4 := Lib.hid h4
    have H8 := Lib.hid h8
    have H12 := Lib.hid h12
    have hc1 : w.cell? ⟨b, off + 1, none⟩ = some (.int .u8 v1) := wp_b hB (by omega) (Below.refl _ _) v1 hv1.out
    have hc2 : (w.alloc (.cells #[.int .i64 0, .int .i64 0, .int .i64 0, .int .i64 0, .int .u32 0] 91)).cell? ⟨b, off + 1, none⟩ = some (.int .u8 v1) := wp_b hB (by omega) ((Below.refl _ _).alloc (Nat.le_refl _) _) v1 hv1.out
    have hc3 : ((w.alloc (.cells #[.int .i64 0, .int .i64 0, .int .i64 0, .int .i64 0, .int .u32 0] 91)).alloc (.cells #[.int .i64 k, .int .i64 s, .int .i64 n, .int .i64 z, .int .u32 m] 91)).cell? ⟨b, off + 1, none⟩ = some (.int .u8 v1) := wp_b hB (by omega) (((Below.refl _ _).alloc (Nat.le_refl _) _).alloc (by simp) _) v1 hv1.out
    obtain ⟨X, hX⟩ := named w.heap.size
    have HX0 : Hid (Blk ((w.alloc (.cells #[.int .i64 0, .int .i64 0, .int .i64 0, .int .i64 0, .int .u32 0] 91)).alloc (.cells #[.int .i64 k, .int .i64 s, .int .i64 n, .int .i64 z, .int .u32 m] 91)) X 91 #[.int .i64 0, .int .i64 0, .int .i64 0, .int .i64 0, .int .u32 0]) := by rw [← hX.out]; exact (Blk.new w _ _).alloc _
    have HY0 : Hid (Blk ((w.alloc (.cells #[.int .i64 0, .int .i64 0, .int .i64 0, .int .i64 0, .int .u32 0] 91)).alloc (.cells #[.int .i64 k, .int .i64 s, .int .i64 n, .int .i64 z, .int .u32 m] 91)) (X + 1) 91 #[.int .i64 k, .int .i64 s, .int .i64 n, .int .i64 z, .int .u32 m]) := by
      have := Blk.new (w.alloc (.cells #[.int .i64 0, .int .i64 0, .int .i64 0, .int .i64 0, .int .u32 0] 91)) 91 #[.int .i64 k, .int .i64 s, .int .i64 n, .int .i64 z, .int .u32 m]
      rwa [World.size_alloc, hX.out] at this
    have HG0 : Hid (Below X w ((w.alloc (.cells #[.int .i64 0, .int .i64 0, .int .i64 0, .int .i64 0, .int .u32 0] 91)).alloc (.cells #[.int .i64 k, .int .i64 s, .int .i64 n, .int .i64 z, .int .u32 m] 91))) := by rw [← hX.out]; exact ((Below.refl _ _).alloc (Nat.le_refl _) _).alloc (by simp) _
    have hXX := hX.out
    have HIZ : Hid ((Tryz.prog.info? 91).map (·.size) = some (enV enZ).toArray.size) := entry_size
    have HIC : Hid ((Tryz.prog.info? 91).map (·.size) = some (enV (k, s, n, z, m)).toArray.size) := entry_size
    have HSZ : Hid (w.heap.size = X) := hXX
    have hM := fun w => refMay_any k s n z m c ho w
    clear h0 h2 h4 h8 h12 hg hB hB1 hk' hs' hn' hz' hm' hk hs hn hz hm bm hv1
    unfold GotN
    rw [hX.out]
    by_cases hz1 : v1 = 0
    · subst hz1
      by_cases hm : MayE (k, s, n, z, m) c
      · rw [if_pos ⟨rfl, hm⟩]
        show Calls _ _ _ w fun e w' => e = .returned (.tuple #[.agg (enV (k, s, n, z, m)).toArray, .int .i64 0]) ∧ Below X w w'
        rw [decide_eq_true hm] at hM
        have HM := Lib.hid hM
        clear hM hm ho
        go_enter Tryz.func57, Tryz.ntmps57
        go_wp2_with (first
          | (go_at_call 56; (with_reducible refine H0.out.mono ?_); rintro e w1 ⟨rfl, rfl⟩)
          | (go_at_call 56; (with_reducible refine H2.out.mono ?_); rintro e w1 ⟨rfl, rfl⟩)
          | (go_at_call 56; (with_reducible refine H4.out.mono ?_); rintro e w1 ⟨rfl, rfl⟩)
          | (go_at_call 56; (with_reducible refine H8.out.mono ?_); rintro e w1 ⟨rfl, rfl⟩)
          | (go_at_call 56; (with_reducible refine H12.out.mono ?_); rintro e w1 ⟨rfl, rfl⟩)
          | (go_at_call 81; (with_reducible refine (HM.out _).mono ?_); rintro e w2 ⟨rfl, g⟩; have HX2 := Lib.hid (HX0.out.later g); have HY2 := Lib.hid (HY0.out.later g); have HG2 := Lib.hid (HG0.out.trans (g.mono (Nat.le_trans (Nat.le_of_eq HSZ.out.symm) HG0.out.size))); clear g HM)
          | (refine wpList_load_row rfl 91 (.tmp 6) rfl (X + 1) rfl 91 (enV (k, s, n, z, m)).toArray (0, 0) _ HY2.out Tryz.underlying91 rfl HIC.out ?_)
          | (refine wpList_store_row rfl 91 (.tmp 4) (.tmp 34) rfl X (enV (k, s, n, z, m)).toArray rfl rfl 91 _ HX2.out HIC.out rfl (enV_all (k, s, n, z, m)) ?_))
        exact bodyPost_ret (results_cell_tmp rfl _ _ X 91 (enV (k, s, n, z, m)).toArray (0, 0) _ rfl _ rfl (setRow_heap _ X _ _ _ _ HX2.out) Tryz.underlying91 rfl HIC.out) rfl ⟨rfl, below_setRow HG2.out (Nat.le_refl _) _⟩
      · rw [if_neg (fun h => hm h.2)]
        show Calls _ _ _ w fun e w' => e = .returned (.tuple #[.agg (enV enZ).toArray, .int .i64 3]) ∧ Below X w w'
        rw [decide_eq_false hm] at hM
        have HM := Lib.hid hM
        clear hM hm ho
        go_enter Tryz.func57, Tryz.ntmps57
        go_wp2_with (first
          | (go_at_call 56; (with_reducible refine H0.out.mono ?_); rintro e w1 ⟨rfl, rfl⟩)
          | (go_at_call 56; (with_reducible refine H2.out.mono ?_); rintro e w1 ⟨rfl, rfl⟩)
          | (go_at_call 56; (with_reducible refine H4.out.mono ?_); rintro e w1 ⟨rfl, rfl⟩)
          | (go_at_call 56; (with_reducible refine H8.out.mono ?_); rintro e w1 ⟨rfl, rfl⟩)
          | (go_at_call 56; (with_reducible refine H12.out.mono ?_); rintro e w1 ⟨rfl, rfl⟩)
          | (go_at_call 81; (with_reducible refine (HM.out _).mono ?_); rintro e w2 ⟨rfl, g⟩; have HX2 := Lib.hid (HX0.out.later g); have HY2 := Lib.hid (HY0.out.later g); have HG2 := Lib.hid (HG0.out.trans (g.mono (Nat.le_trans (Nat.le_of_eq HSZ.out.symm) HG0.out.size))); clear g HM)
          | (refine wpList_store_row rfl 91 (.tmp 4) (.tmp 33) rfl X (enV enZ).toArray rfl rfl 91 _ HX2.out HIZ.out rfl (enV_all enZ) ?_))
        exact bodyPost_ret (results_cell_tmp rfl _ _ X 91 (enV enZ).toArray (0, 0) _ rfl _ rfl (setRow_heap _ X _ _ _ _ HX2.out) Tryz.underlying91 rfl HIZ.out) rfl ⟨rfl, below_setRow HG2.out (Nat.le_refl _) _⟩
    · rw [if_neg (fun h => hz1 h.1)]
      show Calls _ _ _ w fun e w' => e = .returned (.tuple #[.agg (enV enZ).toArray, .int .i64 3]) ∧ Below X w w'
      clear hM ho
      go_enter Tryz.func57, Tryz.ntmps57
      go_wp2_with (first
        | (go_at_call 56; (with_reducible refine H0.out.mono ?_); rintro e w1 ⟨rfl, rfl⟩)
        | (go_at_call 56; (with_reducible refine H2.out.mono ?_); rintro e w1 ⟨rfl, rfl⟩)
        | (go_at_call 56; (with_reducible refine H4.out.mono ?_); rintro e w1 ⟨rfl, rfl⟩)
        | (go_at_call 56; (with_reducible refine H8.out.mono ?_); rintro e w1 ⟨rfl, rfl⟩)
        | (go_at_call 56; (with_reducible refine H12.out.mono ?_); rintro e w1 ⟨rfl, rfl⟩)
        | (refine wpList_store_row rfl 91 (.tmp 4) (.tmp 33) rfl X (enV enZ).toArray rfl rfl 91 _ HX0.out HIZ.out rfl (enV_all enZ) ?_))
      exact bodyPost_ret (results_cell_tmp rfl _ _ X 91 (enV enZ).toArray (0, 0) _ rfl _ rfl (setRow_heap _ X _ _ _ _ HX0.out) Tryz.underlying91 rfl HIZ.out) rfl ⟨rfl, below_setRow HG0.out (Nat.le_refl _) _⟩
  · have hg : getE l c = none := getE_no (fun e => h16 (hB.1.symm.trans e))
    rw [hg]
    unfold GotN
    show Calls _ _ _ w fun e w' => e = .returned (.tuple #[.agg (enV enZ).toArray, .int .i64 3]) ∧ Below w.heap.size w w'
    have h16' : ¬ (len : Int) = 16 := by omega
    have HI0 : Hid ((Tryz.prog.info? 91).map (·.size) = some ((enV enZ).toArray).size) := entry_size
    clear hB hg
    go_enter Tryz.func57, Tryz.ntmps57
    go_wp2_with (refine store_new7 rfl (.tmp 4) (.tmp 10) rfl (enV enZ).toArray (by rfl) (by rfl) HI0.out rfl (enV_all enZ) ?_)
    exact bodyPost_ret (results_cell_tmp rfl _ _ w.heap.size 91 (enV enZ).toArray (0, 0) _ rfl _ rfl (Blk.new w _ _) Tryz.underlying91 rfl HI0.out) rfl ⟨rfl, (Below.refl _ _).alloc (Nat.le_refl _) _⟩
end Go.Proofs.YtdffgnpldapciaaGreatDoor
