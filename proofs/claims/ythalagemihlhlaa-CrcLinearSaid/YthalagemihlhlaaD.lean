/-
  What makeSteps of package crc answers: the table of 16 words; it makes two blocks and turns nothing else. No condition.
-/
import Derived.Test.YthalagemihlhlaaA
namespace Go.Proofs.Ythalagemihlhlaa
open Go.RowKit

/-- The table's words up to place k; noughts behind. -/
def word (k i : Nat) : Value := .int .u32 ((if i < k then shiftN 4 i else 0 : Nat) : Int)
def tabTo (k : Nat) : Array Value := #[word k 0, word k 1, word k 2, word k 3, word k 4, word k 5, word k 6, word k 7, word k 8, word k 9, word k 10, word k 11, word k 12, word k 13, word k 14, word k 15]
theorem tabTo_size (k : Nat) : (tabTo k).size = 16 := rfl
theorem tabTo_at (k i : Nat) (h : i < 16) : (tabTo k)[i]? = some (word k i) := by
  rcases (by omega : i = 0 ∨ i = 1 ∨ i = 2 ∨ i = 3 ∨ i = 4 ∨ i = 5 ∨ i = 6 ∨ i = 7 ∨ i = 8 ∨ i = 9 ∨ i = 10 ∨ i = 11 ∨ i = 12 ∨ i = 13 ∨ i = 14 ∨ i = 15) with rfl | rfl | rfl | rfl | rfl | rfl | rfl | rfl | rfl | rfl | rfl | rfl | rfl | rfl | rfl | rfl <;> rfl
theorem tabTo_set (k : Nat) (h : k < 16) : (tabTo k).setIfInBounds k (.int .u32 (shiftN 4 k : Nat)) = tabTo (k + 1) := by
  apply Array.ext_getElem?
  intro i
  by_cases hi : i < 16
  · rw [tabTo_at _ _ hi, Array.getElem?_setIfInBounds, tabTo_at _ _ hi, tabTo_size]
    by_cases e : k = i
    · subst e
      simp [word, h]
    · have : (i < k + 1) ↔ (i < k) := by omega
      simp [word, e, this]
  · rw [Array.getElem?_eq_none (by rw [Array.size_setIfInBounds, tabTo_size]; omega), Array.getElem?_eq_none (by rw [tabTo_size]; omega)]
theorem tabTo_zero : tabTo 0 = #[.int .u32 0, .int .u32 0, .int .u32 0, .int .u32 0, .int .u32 0, .int .u32 0, .int .u32 0, .int .u32 0, .int .u32 0, .int .u32 0, .int .u32 0, .int .u32 0, .int .u32 0, .int .u32 0, .int .u32 0, .int .u32 0] := rfl

theorem tabTo_one : (tabTo 16).all (·.oneCell') = true := by simp [tabTo, word, Value.oneCell']
theorem setRow_alloc2 (w : World) (c c' : Array Value) (t : TypeId) (o : Obj) : ((w.alloc (.cells c t)).alloc o).setRow w.heap.size c' = (w.alloc (.cells c' t)).alloc o := by
  simp only [World.setRow, World.alloc]
  congr 1
  apply Array.ext_getElem?
  intro i
  rw [Array.getElem?_modify]
  by_cases h : w.heap.size = i
  · subst h
    simp [Array.getElem?_push]
  · have h' : ¬ i = w.heap.size := fun e => h e.symm
    simp [h, h', Array.getElem?_push]
theorem info49 : (Try.prog.info? 49).map (·.size) = some 16 := by kernel_rfl

set_option maxHeartbeats 400000 in
theorem makeSteps_any (w : World) :
    Calls Try.prog 18 #[] w fun e w' => e = .returned (.agg (tabTo 16)) ∧ w' = (w.alloc (.cells (tabTo 16) 49)).alloc (.cells (tabTo 16) 49) := by
  have HZ := Lib.hid tabTo_zero
  go_enter Try.func18, Try.ntmps18
  go_wp2
  go_loopw [2, 3] (fun _ i wr => ∃ k : Nat, k ≤ 16 ∧ i = .int .i64 k ∧ wr = (w.alloc (.cells (tabTo 0) 49)).alloc (.cells (tabTo k) 49)) (fun _ i _ => 16 - (intOf i).toNat)
  case atStart => exact ⟨0, Nat.zero_le _, rfl, by rw [HZ.out]⟩
  case round =>
    obtain ⟨k, hk, rfl, rfl⟩ := hrel
    by_cases hlt : k < 16
    · have hat := tabTo_at k k hlt
      have HS := Lib.hid (tabTo_set k hlt)
      go_wp2_with (go_at_call 21; refine (shifted_any 4 k _ (by omega) (by omega)).mono ?_; rintro e w' ⟨rfl, rfl⟩)
      go_roundw
      case rel => exact ⟨k + 1, by omega, by go_num, by rw [HS.out]⟩
      case measure => simp [intOf]; omega
    · have hk16 : k = 16 := by omega
      subst hk16
      go_wp2_with (first | (refine wpList_load_row rfl 49 (.tmp 1) rfl (w.heap.size + 1) rfl 49 (tabTo 16) (0, 0) _ (heap_alloc2_new _ _ _) Try.underlying49 rfl info49 ?_) | (refine wpList_store_row rfl 49 (.tmp 0) (.tmp 12) rfl w.heap.size (tabTo 16) rfl rfl 49 (tabTo 0) (heap_alloc2_old _ _ _) info49 rfl tabTo_one ?_))
      refine bodyPost_ret (v := .agg (tabTo 16)) (results_cell_row rfl _ _ w.heap.size 49 (tabTo 16) (0, 0) _ rfl ?_ Try.underlying49 rfl info49) rfl ⟨rfl, setRow_alloc2 _ _ _ _ _⟩
      rw [setRow_alloc2]
      exact heap_alloc2_old _ _ _
end Go.Proofs.Ythalagemihlhlaa
