/-
  What the project's own Get answers (package entry). Conditions: the slice reads as bytes; the table of widths reads as it was laid.
-/
import Derived.Test.YtdffgnpldapciaaGreatDoorL8
import Derived.Test.YtdffgnpldapciaaGreatDoorD8
namespace Go.Proofs.YtdffgnpldapciaaGreatDoor
open Go.RowKit
set_option linter.unusedVariables false

theorem second_byte {l : List Int} (h : ∀ c ∈ l, 0 ≤ c ∧ c < 256) (hl : 1 < l.length) : ((getTo false 1 1 l 1 : Nat) : Int) = l.getD 1 0 := by
  have hb := getD_bd h 1 hl
  have e : getTo false 1 1 l 1 = (l.getD 1 0).toNat := by
    show 0 * 256 + (l.getD 1 0).toNat = _
    omega
  rw [e]
  omega
theorem nums_cells {W : World} {Y : Nat} {a b c d e f : Value} (h : Blk W Y 148 #[a, b, c, d, e, f]) : W.cell? ⟨Y, 1, none⟩ = some b := by
  rw [h.cell]
  rfl
set_option maxRecDepth 100000 in
set_option maxHeartbeats 4000000 in
theorem entryGet_any (w : World) (a : Option Addr) (len cap : Nat) (l : List Int) (c : Int) (hB : Bytes w a len l) (hcap : len ≤ cap) (hw : Wid w) : Calls Tryz.prog 90 #[.slice a len cap, .int .i64 c] w (GotN (getE l c) w) := by
  by_cases h16 : len = 16
  · subst h16
    have hl := hB.1
    have ho := enOf_ok hB.small.2
    have hy := second_byte hB.small.2 (by omega)
    have hbel : ∀ o, Below w.heap.size w (w.alloc o) := fun o => (Below.refl _ _).alloc (Nat.le_refl _) _
    have hD := decode_any8 (w.alloc (.cells #[.int .i64 0, .int .i64 0, .int .i64 0, .int .i64 0, .int .u32 0] 91)) a cap l (hB.later (hbel _)) hcap (hw.alloc _)
    have b0 := small_get hB.small.2 1 0 (by omega)
    have b2 := small_get hB.small.2 2 2 (by omega)
    have b4 := small_get hB.small.2 4 4 (by omega)
    have b8 := small_get hB.small.2 4 8 (by omega)
    have b12 := small_get hB.small.2 4 12 (by omega)
    have hg : getE l c = if ((getTo false 1 1 l 1 : Nat) : Int) = 0 ∧ MayE (enOf l) c then some (enOf l) else none := by
      unfold getE
      rw [hy]
      by_cases hm : l.getD 1 0 = 0 ∧ MayE (enOf l) c
      · rw [if_pos hm, if_pos ⟨hl, hm⟩]
      · rw [if_neg hm, if_neg (fun h => hm h.2)]
    rw [hg]
    unfold enOf at ho ⊢
    obtain ⟨v1, hv1⟩ := named ((getTo false 1 1 l 1 : Nat) : Int)
    rw [hv1.out] at hD ⊢
    have hE := fun w => entryOf_any v1 (getTo false 1 0 l 1) (getTo false 2 2 l 2) (getTo false 4 4 l 4) (getTo false 4 8 l 4) (getTo false 4 12 l 4) b0 b4 b2 b8 b12 w
    obtain ⟨k, hk⟩ := named ((getTo false 1 0 l 1 : Nat) : Int)
    obtain ⟨s, hs⟩ := named ((getTo false 4 4 l 4 : Nat) : Int)
    obtain ⟨n, hn⟩ := named ((getTo false 2 2 l 2 : Nat) : Int)
    obtain ⟨z, hz⟩ := named ((getTo false 4 8 l 4 : Nat) : Int)
    obtain ⟨m, hm⟩ := named ((getTo false 4 12 l 4 : Nat) : Int)
    rw [hk.out] at hD hE ho ⊢
    rw [hs.out] at hD hE ho ⊢
    rw [hn.out] at hD hE ho ⊢
    rw [hz.out] at hD hE ho ⊢
    rw [hm.out] at hD hE ho ⊢
    have hM := fun w => entryMay_any k s n z m c ho w
    have HD := Lib.hid hD
    have HE := Lib.hid hE
    have HX0 := Lib.hid (Blk.new w 91 #[.int .i64 0, .int .i64 0, .int .i64 0, .int .i64 0, .int .u32 0])
    have HG0 := Lib.hid (hbel (.cells #[.int .i64 0, .int .i64 0, .int .i64 0, .int .i64 0, .int .u32 0] 91))
    have HIZ : Hid ((Tryz.prog.info? 91).map (·.size) = some (enV enZ).toArray.size) := entry_size
    have HIC : Hid ((Tryz.prog.info? 91).map (·.size) = some (enV (k, s, n, z, m)).toArray.size) := entry_size
    obtain ⟨X, hX⟩ := named w.heap.size
    have HSZ : Hid (w.heap.size = X) := hX.out
    have hXX := hX.out
    unfold GotN
    rw [hX.out] at HX0 HG0 ⊢
    clear hD hE b0 b2 b4 b8 b12 hB hw hg hy hl hv1 hk hs hn hz hm hbel
    by_cases hz1 : v1 = 0
    · subst hz1
      by_cases hm : MayE (k, s, n, z, m) c
      · rw [if_pos ⟨rfl, hm⟩]
        show Calls _ _ _ w fun e w' => e = .returned (.tuple #[.agg (enV (k, s, n, z, m)).toArray, .int .i64 0]) ∧ Below X w w'
        rw [decide_eq_true hm] at hM
        have HM := Lib.hid hM
        clear hM hm ho
        go_enter Tryz.func90, Tryz.ntmps90
        go_wp2_with (first
          | (go_at_call 97; (with_reducible refine HD.out.mono ?_); rintro e w1 ⟨rfl, g⟩; have HX1 := Lib.hid ((HX0.out.later g).alloc (.cells #[.int .u64 k, .int .u64 0, .int .u64 n, .int .u64 s, .int .u64 z, .int .u64 m] 148)); have HY1 := Lib.hid (Blk.new w1 148 #[.int .u64 k, .int .u64 0, .int .u64 n, .int .u64 s, .int .u64 z, .int .u64 m]); have HG1 := Lib.hid ((HG0.out.trans (g.mono (Nat.le_trans (Nat.le_of_eq HSZ.out.symm) HG0.out.size))).alloc (by have := HX0.out.later g; exact Nat.le_of_lt this.lt) (.cells #[.int .u64 k, .int .u64 0, .int .u64 n, .int .u64 s, .int .u64 z, .int .u64 m] 148)); clear g HD)
          | (go_at_call 98; (with_reducible refine (HE.out _).mono ?_); rintro e w2 ⟨rfl, g⟩; have HX2 := Lib.hid ((HX1.out.later g).alloc (.cells #[.int .i64 k, .int .i64 s, .int .i64 n, .int .i64 z, .int .u32 m] 91)); have y1 := nums_cells (HY1.out.later g); have y2 := nums_cells ((HY1.out.later g).alloc (.cells #[.int .i64 k, .int .i64 s, .int .i64 n, .int .i64 z, .int .u32 m] 91)); have HZ2 := Lib.hid (Blk.new w2 91 #[.int .i64 k, .int .i64 s, .int .i64 n, .int .i64 z, .int .u32 m]); have HG2 := Lib.hid ((HG1.out.trans (g.mono (Nat.le_of_lt HX1.out.lt))).alloc (by have := HX1.out.later g; exact Nat.le_of_lt this.lt) (.cells #[.int .i64 k, .int .i64 s, .int .i64 n, .int .i64 z, .int .u32 m] 91)); clear g HE)
          | (go_at_call 91; (with_reducible refine (HM.out _).mono ?_); rintro e w3 ⟨rfl, g⟩; have HX3 := Lib.hid (HX2.out.later g); have HZ3 := Lib.hid (HZ2.out.later g); have HG3 := Lib.hid (HG2.out.trans (g.mono (Nat.le_of_lt HX2.out.lt))); clear g HM)
          | (refine wpList_load_row rfl 91 (.tmp 7) rfl w2.heap.size rfl 91 (enV (k, s, n, z, m)).toArray (0, 0) _ HZ3.out Tryz.underlying91 rfl HIC.out ?_)
          | (refine wpList_store_row rfl 91 (.tmp 4) (.tmp 26) rfl X (enV (k, s, n, z, m)).toArray rfl rfl 91 _ HX3.out HIC.out rfl (enV_all (k, s, n, z, m)) ?_))
        exact bodyPost_ret (results_cell_tmp rfl _ _ X 91 (enV (k, s, n, z, m)).toArray (0, 0) _ rfl _ rfl (setRow_heap _ X _ _ _ _ HX3.out) Tryz.underlying91 rfl HIC.out) rfl ⟨rfl, below_setRow HG3.out (Nat.le_refl _) _⟩
      · rw [if_neg (fun h => hm h.2)]
        show Calls _ _ _ w fun e w' => e = .returned (.tuple #[.agg (enV enZ).toArray, .int .i64 3]) ∧ Below X w w'
        rw [decide_eq_false hm] at hM
        have HM := Lib.hid hM
        clear hM hm ho
        go_enter Tryz.func90, Tryz.ntmps90
        go_wp2_with (first
          | (go_at_call 97; (with_reducible refine HD.out.mono ?_); rintro e w1 ⟨rfl, g⟩; have HX1 := Lib.hid ((HX0.out.later g).alloc (.cells #[.int .u64 k, .int .u64 0, .int .u64 n, .int .u64 s, .int .u64 z, .int .u64 m] 148)); have HY1 := Lib.hid (Blk.new w1 148 #[.int .u64 k, .int .u64 0, .int .u64 n, .int .u64 s, .int .u64 z, .int .u64 m]); have HG1 := Lib.hid ((HG0.out.trans (g.mono (Nat.le_trans (Nat.le_of_eq HSZ.out.symm) HG0.out.size))).alloc (by have := HX0.out.later g; exact Nat.le_of_lt this.lt) (.cells #[.int .u64 k, .int .u64 0, .int .u64 n, .int .u64 s, .int .u64 z, .int .u64 m] 148)); clear g HD)
          | (go_at_call 98; (with_reducible refine (HE.out _).mono ?_); rintro e w2 ⟨rfl, g⟩; have HX2 := Lib.hid ((HX1.out.later g).alloc (.cells #[.int .i64 k, .int .i64 s, .int .i64 n, .int .i64 z, .int .u32 m] 91)); have y1 := nums_cells (HY1.out.later g); have y2 := nums_cells ((HY1.out.later g).alloc (.cells #[.int .i64 k, .int .i64 s, .int .i64 n, .int .i64 z, .int .u32 m] 91)); have HZ2 := Lib.hid (Blk.new w2 91 #[.int .i64 k, .int .i64 s, .int .i64 n, .int .i64 z, .int .u32 m]); have HG2 := Lib.hid ((HG1.out.trans (g.mono (Nat.le_of_lt HX1.out.lt))).alloc (by have := HX1.out.later g; exact Nat.le_of_lt this.lt) (.cells #[.int .i64 k, .int .i64 s, .int .i64 n, .int .i64 z, .int .u32 m] 91)); clear g HE)
          | (go_at_call 91; (with_reducible refine (HM.out _).mono ?_); rintro e w3 ⟨rfl, g⟩; have HX3 := Lib.hid (HX2.out.later g); have HZ3 := Lib.hid (HZ2.out.later g); have HG3 := Lib.hid (HG2.out.trans (g.mono (Nat.le_of_lt HX2.out.lt))); clear g HM)
          | (refine wpList_store_row rfl 91 (.tmp 4) (.tmp 25) rfl X (enV enZ).toArray rfl rfl 91 _ HX3.out HIZ.out rfl (enV_all enZ) ?_))
        exact bodyPost_ret (results_cell_tmp rfl _ _ X 91 (enV enZ).toArray (0, 0) _ rfl _ rfl (setRow_heap _ X _ _ _ _ HX3.out) Tryz.underlying91 rfl HIZ.out) rfl ⟨rfl, below_setRow HG3.out (Nat.le_refl _) _⟩
    · rw [if_neg (fun h => hz1 h.1)]
      show Calls _ _ _ w fun e w' => e = .returned (.tuple #[.agg (enV enZ).toArray, .int .i64 3]) ∧ Below X w w'
      clear hM ho
      go_enter Tryz.func90, Tryz.ntmps90
      go_wp2_with (first
        | (go_at_call 97; (with_reducible refine HD.out.mono ?_); rintro e w1 ⟨rfl, g⟩; have HX1 := Lib.hid ((HX0.out.later g).alloc (.cells #[.int .u64 k, .int .u64 v1, .int .u64 n, .int .u64 s, .int .u64 z, .int .u64 m] 148)); have HY1 := Lib.hid (Blk.new w1 148 #[.int .u64 k, .int .u64 v1, .int .u64 n, .int .u64 s, .int .u64 z, .int .u64 m]); have HG1 := Lib.hid ((HG0.out.trans (g.mono (Nat.le_trans (Nat.le_of_eq HSZ.out.symm) HG0.out.size))).alloc (by have := HX0.out.later g; exact Nat.le_of_lt this.lt) (.cells #[.int .u64 k, .int .u64 v1, .int .u64 n, .int .u64 s, .int .u64 z, .int .u64 m] 148)); clear g HD)
        | (go_at_call 98; (with_reducible refine (HE.out _).mono ?_); rintro e w2 ⟨rfl, g⟩; have HX2 := Lib.hid ((HX1.out.later g).alloc (.cells #[.int .i64 k, .int .i64 s, .int .i64 n, .int .i64 z, .int .u32 m] 91)); have y1 := nums_cells (HY1.out.later g); have y2 := nums_cells ((HY1.out.later g).alloc (.cells #[.int .i64 k, .int .i64 s, .int .i64 n, .int .i64 z, .int .u32 m] 91)); have HZ2 := Lib.hid (Blk.new w2 91 #[.int .i64 k, .int .i64 s, .int .i64 n, .int .i64 z, .int .u32 m]); have HG2 := Lib.hid ((HG1.out.trans (g.mono (Nat.le_of_lt HX1.out.lt))).alloc (by have := HX1.out.later g; exact Nat.le_of_lt this.lt) (.cells #[.int .i64 k, .int .i64 s, .int .i64 n, .int .i64 z, .int .u32 m] 91)); clear g HE)
        | (refine wpList_store_row rfl 91 (.tmp 4) (.tmp 25) rfl X (enV enZ).toArray rfl rfl 91 _ HX2.out HIZ.out rfl (enV_all enZ) ?_))
      exact bodyPost_ret (results_cell_tmp rfl _ _ X 91 (enV enZ).toArray (0, 0) _ rfl _ rfl (setRow_heap _ X _ _ _ _ HX2.out) Tryz.underlying91 rfl HIZ.out) rfl ⟨rfl, below_setRow HG2.out (Nat.le_refl _) _⟩
  · have hg : getE l c = none := getE_no (fun e => h16 (hB.1.symm.trans e))
    rw [hg]
    unfold GotN
    show Calls _ _ _ w fun e w' => e = .returned (.tuple #[.agg (enV enZ).toArray, .int .i64 3]) ∧ Below w.heap.size w w'
    have h16' : ¬ (len : Int) = 16 := by omega
    have HI0 : Hid ((Tryz.prog.info? 91).map (·.size) = some ((enV enZ).toArray).size) := entry_size
    clear hB hg
    go_enter Tryz.func90, Tryz.ntmps90
    go_wp2_with (refine store_new7 rfl (.tmp 4) (.tmp 11) rfl (enV enZ).toArray (by rfl) (by rfl) HI0.out rfl (enV_all enZ) ?_)
    exact bodyPost_ret (results_cell_tmp rfl _ _ w.heap.size 91 (enV enZ).toArray (0, 0) _ rfl _ rfl (Blk.new w _ _) Tryz.underlying91 rfl HI0.out) rfl ⟨rfl, (Below.refl _ _).alloc (Nat.le_refl _) _⟩
end Go.Proofs.YtdffgnpldapciaaGreatDoor
