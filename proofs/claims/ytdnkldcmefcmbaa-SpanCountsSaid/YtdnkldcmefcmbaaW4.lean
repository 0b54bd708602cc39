/-
  That the document's examples hold ('awake' of layer 4). Conditions: none.
-/
import Derived.Test.YtdnkldcmefcmbaaF4
import Derived.Test.YtdnkldcmefcmbaaQ4
namespace Go.Proofs.Ytdnkldcmefcmbaa
open Go.RowKit

theorem add_ex : addL [(0, 3)] (3, 5) = [(0, 5)] := by kernel_rfl
theorem split_ex : splitL 3 4 2 = ([(0, 3, 1), (1, 0, 3)], 0) := by kernel_rfl
theorem num_any (n : Int) (w : World) : Calls Try.prog 26 #[.int .i64 n] w fun e w' => e = .returned (.int .i64 n) ∧ w = w' := by
  go_enter Try.func26, Try.ntmps26
  go_wp2
  go_ret
  exact ⟨rfl, rfl⟩
set_option maxHeartbeats 1600000 in
theorem awake_any (w : World) : Calls Try.prog 11 #[] w fun e w' => e = .returned (.bool true) ∧ Below w.heap.size w w' := by
  have P1 : ∀ w : World, Calls Try.prog 15 #[.slice (some ⟨w.heap.size, 0, none⟩) 1 1, .agg #[.int .i64 3, .int .i64 5]] (w.alloc (.cells #[.int .i64 0, .int .i64 3] 24)) (SpPost (w.alloc (.cells #[.int .i64 0, .int .i64 3] 24)) [(0, 5)]) := fun w => by
    have := spanAdd_any (some ⟨w.heap.size, 0, none⟩) 1 1 [(0, 3)] 3 5 (w.alloc (.cells #[.int .i64 0, .int .i64 3] 24)) (one_reads w (0, 3) _ _ rfl) (Nat.le_refl _) (fun e => by cases e) (by omega) (fun x hx => by
      obtain rfl : x = (0, 3) := by simpa using hx
      unfold I64
      omega) (by unfold I64; omega) (by unfold I64; omega)
    rw [add_ex] at this
    exact this
  have P2 : ∀ w : World, Calls Try.prog 23 #[.int .i64 3, .int .i64 4, .int .i64 2] w (PcPost w [(0, 3, 1), (1, 0, 3)] 0) := fun w => by
    have := spanSplit_any 3 4 2 w (by unfold I64; omega) (by unfold I64; omega) (by unfold I64; omega)
    rw [split_ex] at this
    exact this
  have H1 := Lib.hid P1
  have H2 := Lib.hid P2
  clear P1 P2
  go_enter Try.func11, Try.ntmps11
  go_wp2_with (first
    | (go_at_call 26; go_in)
    | (go_at_call 15; ((refine (H1.out _).mono ?_); rintro e w1 hp; obtain ⟨a1, c1, rfl, hB, _, hb⟩ := hp.named (n := 1) rfl; obtain ⟨b1, o1, rfl⟩ := hB.lies (by omega); have HB1 := Lib.hid hB; have HG1 := Lib.hid (((Below.refl w.heap.size w).alloc (Nat.le_refl _) _).trans (hb.mono (by simp))); clear hp hB hb))
    | (go_at_call 23; ((refine (H2.out _).mono ?_); rintro e w2 hp; obtain ⟨a2, c2, rfl, hB, _, hb⟩ := hp.named (n := 2) rfl; obtain ⟨b2, o2, rfl⟩ := hB.lies (by omega); obtain ⟨d1, d2⟩ := span_cells (HB1.out.later hb) 0 (by omega); obtain ⟨e1, e2, e3⟩ := piece_cells hB 1 (by omega); have HG2 := Lib.hid (HG1.out.trans (hb.mono HG1.out.size)); clear hp hB hb; simp [spAt, pcAt] at d1 d2 e1 e2 e3)))
  go_ret
  exact ⟨rfl, HG2.out⟩
end Go.Proofs.Ytdnkldcmefcmbaa
