/-
  Proved: 'matryoshkalaw6.SlotBounds' returns true for every input, and each argument reads afterwards as before: the statement SlotBoundsSaid as given. Conditions: none beyond the row's own.
-/
import Derived.Test.YtpjlnanalielmaaRows
import Derived.Test.YtpjlnanalielmaaO7
import Derived.WalkKit
import Derived.ProofKit
import Derived.OpenShut
import Derived.ShutString
import Derived.ChangeOld
import Derived.Below
namespace Go.Proofs.Ytpjlnanalielmaa.slotBounds
open Go.ChangeShapes Go.WideShapes Go.ChangeAt Go.RowKit
open Go.ChangeMaps (open_string shut_string)
set_option linter.unusedVariables false

theorem own : ownKnob Try.prog.godebug = none := by kernel_rfl
theorem laidOut : laidOutB Try.prog = true := by kernel_rfl

set_option maxRecDepth 100000 in
set_option maxHeartbeats 4000000 in
theorem walk (a0 : Int) (a1 : Int) (w : World) (w0 : (Lit.int .u8 a0).wf = true) (w1 : (Lit.int .u32 a1).wf = true) :
    Calls Try.prog 7 #[.int .u8 a0, .int .u32 a1] w fun e w' => e = .returned (.bool true) ∧ Below w.heap.size w w' := by
  have b0 := bounds_u8 w0
  have b1 := bounds_u32 w1
  have hp : a0 % 2 = 0 ∨ a0 % 2 = 1 := by omega
  have hq : a0 / 2 % 3 = 0 ∨ a0 / 2 % 3 = 1 ∨ a0 / 2 % 3 = 2 := by omega
  have t1 : a0.tmod 2 = a0 % 2 := Int.tmod_eq_emod_of_nonneg (by omega)
  have t2 : a0.tdiv 2 = a0 / 2 := Int.tdiv_eq_ediv_of_nonneg (by omega)
  have t3 : (a0 / 2).tmod 3 = a0 / 2 % 3 := Int.tmod_eq_emod_of_nonneg (by omega)
  clear w0 w1
  rcases hp with hp | hp
  · rcases hq with hq | hq | hq
    · have hm : May (1, 2, 1, a1) := by unfold May; dsimp only; omega
      have hno : ¬ May (0, 2, 1, a1) := by unfold May; dsimp only; omega
      have hok : SlOk (1, 2, 1, a1) := by unfold SlOk In64; dsimp only; omega
      have HP : Hid (∀ w, Calls Try.prog 9 #[.agg #[.int .i64 1, .int .i64 2, .int .i64 1, .int .u32 a1]] w (PutPost w (slB (1, 2, 1, a1)) 0)) := fun w => slotPut_ok hm hok w
      have HP2 : Hid (∀ w, Calls Try.prog 9 #[.agg #[.int .i64 0, .int .i64 2, .int .i64 1, .int .u32 a1]] w (PutPost w [] 1)) := fun w => slotPut_arg hno w
      have hg := getS_slB hm hok
      have hln := slB_len (1, 2, 1, a1)
      obtain ⟨D, hD⟩ := named (slB (1, 2, 1, a1))
      rw [hD.out] at HP hg hln
      have HLN := Lib.hid hln
      have HGT : Hid (∀ (a : Option Addr) (c : Nat) (w : World), Bytes w a 16 D → 16 ≤ c → Calls Try.prog 13 #[.slice a 16 c] w fun e w' => e = .returned (.tuple #[.agg #[.int .i64 1, .int .i64 2, .int .i64 1, .int .u32 a1], .int .i64 0]) ∧ Below w.heap.size w w') := fun a c w h1 h2 => (slotGet_any w a 16 c D h1 h2).mono fun e w' h => by rw [hg] at h; exact h.yes
      have HX0 := Lib.hid (Blk.new w 24 #[.int .i64 1, .int .i64 2, .int .i64 1, .int .u32 a1])
      have HG0 : Hid (Below w.heap.size w (w.alloc (.cells #[.int .i64 1, .int .i64 2, .int .i64 1, .int .u32 a1] 24))) := (Below.refl _ _).alloc (Nat.le_refl _) _
      clear hm hno hok hg hln hD
      go_enter Try.func7, Try.ntmps7
      go_wp2_with (first
        | (go_at_call 11; go_in)
        | (go_at_call 9; (with_reducible refine (HP.out _).mono ?_); rintro e w1 hp; obtain ⟨x1, y1, rfl, hB, hc, hb⟩ := hp.sized HLN.out; have HB1 := Lib.hid hB; have HC1 := Lib.hid hc.2; have HX1 := Lib.hid (HX0.out.later hb); have HG1 := Lib.hid (HG0.out.trans (hb.mono HG0.out.size)); clear hp hB hc hb HP)
        | (go_at_call 13; (with_reducible refine (HGT.out _ _ _ HB1.out HC1.out).mono ?_); rintro e w2 ⟨rfl, hb⟩; have HX2 := Lib.hid ((HX1.out.later hb).alloc (.cells #[.int .i64 1, .int .i64 2, .int .i64 1, .int .u32 a1] 24)); obtain ⟨k0, k1, k2, k3⟩ := cells4 HX2.out; have hfr := HX2.out.free 0; have HX3 := Lib.hid (HX2.out.set 0 (.int .i64 0)); obtain ⟨j0, j1, j2, j3⟩ := cells4 HX3.out; have HG2 := Lib.hid (HG1.out.trans (hb.mono HG1.out.size)); have HG3 := Lib.hid ((HG2.out.alloc HG2.out.size (.cells #[.int .i64 1, .int .i64 2, .int .i64 1, .int .u32 a1] 24)).setCell (p := ⟨w.heap.size, 0, none⟩) (Nat.le_refl _) (.int .i64 0)); clear hb HGT)
        | (go_at_call 9; (with_reducible refine (HP2.out _).mono ?_); rintro e w4 hp; obtain ⟨x4, y4, rfl, hB, hc, hb⟩ := hp.sized (n := 0) rfl; have HG4 := Lib.hid (HG3.out.trans (hb.mono HG3.out.size)); clear hp hB hc hb HP2)
        | (go_at_call 12; refine (awake_any7 _).mono ?_; rintro e w5 ⟨rfl, hb⟩; have HZ := Lib.hid (HG4.out.trans (hb.mono HG4.out.size)); clear hb))
      go_ret
      exact ⟨rfl, HZ.out⟩
    · have hm : May (1, 2, 1, a1) := by unfold May; dsimp only; omega
      have hno : ¬ May (1, 1, 1, a1) := by unfold May; dsimp only; omega
      have hok : SlOk (1, 2, 1, a1) := by unfold SlOk In64; dsimp only; omega
      have HP : Hid (∀ w, Calls Try.prog 9 #[.agg #[.int .i64 1, .int .i64 2, .int .i64 1, .int .u32 a1]] w (PutPost w (slB (1, 2, 1, a1)) 0)) := fun w => slotPut_ok hm hok w
      have HP2 : Hid (∀ w, Calls Try.prog 9 #[.agg #[.int .i64 1, .int .i64 1, .int .i64 1, .int .u32 a1]] w (PutPost w [] 1)) := fun w => slotPut_arg hno w
      have hg := getS_slB hm hok
      have hln := slB_len (1, 2, 1, a1)
      obtain ⟨D, hD⟩ := named (slB (1, 2, 1, a1))
      rw [hD.out] at HP hg hln
      have HLN := Lib.hid hln
      have HGT : Hid (∀ (a : Option Addr) (c : Nat) (w : World), Bytes w a 16 D → 16 ≤ c → Calls Try.prog 13 #[.slice a 16 c] w fun e w' => e = .returned (.tuple #[.agg #[.int .i64 1, .int .i64 2, .int .i64 1, .int .u32 a1], .int .i64 0]) ∧ Below w.heap.size w w') := fun a c w h1 h2 => (slotGet_any w a 16 c D h1 h2).mono fun e w' h => by rw [hg] at h; exact h.yes
      have HX0 := Lib.hid (Blk.new w 24 #[.int .i64 1, .int .i64 2, .int .i64 1, .int .u32 a1])
      have HG0 : Hid (Below w.heap.size w (w.alloc (.cells #[.int .i64 1, .int .i64 2, .int .i64 1, .int .u32 a1] 24))) := (Below.refl _ _).alloc (Nat.le_refl _) _
      clear hm hno hok hg hln hD
      go_enter Try.func7, Try.ntmps7
      go_wp2_with (first
        | (go_at_call 11; go_in)
        | (go_at_call 9; (with_reducible refine (HP.out _).mono ?_); rintro e w1 hp; obtain ⟨x1, y1, rfl, hB, hc, hb⟩ := hp.sized HLN.out; have HB1 := Lib.hid hB; have HC1 := Lib.hid hc.2; have HX1 := Lib.hid (HX0.out.later hb); have HG1 := Lib.hid (HG0.out.trans (hb.mono HG0.out.size)); clear hp hB hc hb HP)
        | (go_at_call 13; (with_reducible refine (HGT.out _ _ _ HB1.out HC1.out).mono ?_); rintro e w2 ⟨rfl, hb⟩; have HX2 := Lib.hid ((HX1.out.later hb).alloc (.cells #[.int .i64 1, .int .i64 2, .int .i64 1, .int .u32 a1] 24)); obtain ⟨k0, k1, k2, k3⟩ := cells4 HX2.out; have hfr := HX2.out.free 1; have HX3 := Lib.hid (HX2.out.set 1 (.int .i64 1)); obtain ⟨j0, j1, j2, j3⟩ := cells4 HX3.out; have HG2 := Lib.hid (HG1.out.trans (hb.mono HG1.out.size)); have HG3 := Lib.hid ((HG2.out.alloc HG2.out.size (.cells #[.int .i64 1, .int .i64 2, .int .i64 1, .int .u32 a1] 24)).setCell (p := ⟨w.heap.size, 1, none⟩) (Nat.le_refl _) (.int .i64 1)); clear hb HGT)
        | (go_at_call 9; (with_reducible refine (HP2.out _).mono ?_); rintro e w4 hp; obtain ⟨x4, y4, rfl, hB, hc, hb⟩ := hp.sized (n := 0) rfl; have HG4 := Lib.hid (HG3.out.trans (hb.mono HG3.out.size)); clear hp hB hc hb HP2)
        | (go_at_call 12; refine (awake_any7 _).mono ?_; rintro e w5 ⟨rfl, hb⟩; have HZ := Lib.hid (HG4.out.trans (hb.mono HG4.out.size)); clear hb))
      go_ret
      exact ⟨rfl, HZ.out⟩
    · have hm : May (1, 2, 1, a1) := by unfold May; dsimp only; omega
      have hno : ¬ May (1, 2, 0, a1) := by unfold May; dsimp only; omega
      have hok : SlOk (1, 2, 1, a1) := by unfold SlOk In64; dsimp only; omega
      have HP : Hid (∀ w, Calls Try.prog 9 #[.agg #[.int .i64 1, .int .i64 2, .int .i64 1, .int .u32 a1]] w (PutPost w (slB (1, 2, 1, a1)) 0)) := fun w => slotPut_ok hm hok w
      have HP2 : Hid (∀ w, Calls Try.prog 9 #[.agg #[.int .i64 1, .int .i64 2, .int .i64 0, .int .u32 a1]] w (PutPost w [] 1)) := fun w => slotPut_arg hno w
      have hg := getS_slB hm hok
      have hln := slB_len (1, 2, 1, a1)
      obtain ⟨D, hD⟩ := named (slB (1, 2, 1, a1))
      rw [hD.out] at HP hg hln
      have HLN := Lib.hid hln
      have HGT : Hid (∀ (a : Option Addr) (c : Nat) (w : World), Bytes w a 16 D → 16 ≤ c → Calls Try.prog 13 #[.slice a 16 c] w fun e w' => e = .returned (.tuple #[.agg #[.int .i64 1, .int .i64 2, .int .i64 1, .int .u32 a1], .int .i64 0]) ∧ Below w.heap.size w w') := fun a c w h1 h2 => (slotGet_any w a 16 c D h1 h2).mono fun e w' h => by rw [hg] at h; exact h.yes
      have HX0 := Lib.hid (Blk.new w 24 #[.int .i64 1, .int .i64 2, .int .i64 1, .int .u32 a1])
      have HG0 : Hid (Below w.heap.size w (w.alloc (.cells #[.int .i64 1, .int .i64 2, .int .i64 1, .int .u32 a1] 24))) := (Below.refl _ _).alloc (Nat.le_refl _) _
      clear hm hno hok hg hln hD
      go_enter Try.func7, Try.ntmps7
      go_wp2_with (first
        | (go_at_call 11; go_in)
        | (go_at_call 9; (with_reducible refine (HP.out _).mono ?_); rintro e w1 hp; obtain ⟨x1, y1, rfl, hB, hc, hb⟩ := hp.sized HLN.out; have HB1 := Lib.hid hB; have HC1 := Lib.hid hc.2; have HX1 := Lib.hid (HX0.out.later hb); have HG1 := Lib.hid (HG0.out.trans (hb.mono HG0.out.size)); clear hp hB hc hb HP)
        | (go_at_call 13; (with_reducible refine (HGT.out _ _ _ HB1.out HC1.out).mono ?_); rintro e w2 ⟨rfl, hb⟩; have HX2 := Lib.hid ((HX1.out.later hb).alloc (.cells #[.int .i64 1, .int .i64 2, .int .i64 1, .int .u32 a1] 24)); obtain ⟨k0, k1, k2, k3⟩ := cells4 HX2.out; have hfr := HX2.out.free 2; have HX3 := Lib.hid (HX2.out.set 2 (.int .i64 0)); obtain ⟨j0, j1, j2, j3⟩ := cells4 HX3.out; have HG2 := Lib.hid (HG1.out.trans (hb.mono HG1.out.size)); have HG3 := Lib.hid ((HG2.out.alloc HG2.out.size (.cells #[.int .i64 1, .int .i64 2, .int .i64 1, .int .u32 a1] 24)).setCell (p := ⟨w.heap.size, 2, none⟩) (Nat.le_refl _) (.int .i64 0)); clear hb HGT)
        | (go_at_call 9; (with_reducible refine (HP2.out _).mono ?_); rintro e w4 hp; obtain ⟨x4, y4, rfl, hB, hc, hb⟩ := hp.sized (n := 0) rfl; have HG4 := Lib.hid (HG3.out.trans (hb.mono HG3.out.size)); clear hp hB hc hb HP2)
        | (go_at_call 12; refine (awake_any7 _).mono ?_; rintro e w5 ⟨rfl, hb⟩; have HZ := Lib.hid (HG4.out.trans (hb.mono HG4.out.size)); clear hb))
      go_ret
      exact ⟨rfl, HZ.out⟩
  · rcases hq with hq | hq | hq
    · have hm : May (2147483648, 65536, 1048576, a1) := by unfold May; dsimp only; omega
      have hno : ¬ May (2147483649, 65536, 1048576, a1) := by unfold May; dsimp only; omega
      have hok : SlOk (2147483648, 65536, 1048576, a1) := by unfold SlOk In64; dsimp only; omega
      have HP : Hid (∀ w, Calls Try.prog 9 #[.agg #[.int .i64 2147483648, .int .i64 65536, .int .i64 1048576, .int .u32 a1]] w (PutPost w (slB (2147483648, 65536, 1048576, a1)) 0)) := fun w => slotPut_ok hm hok w
      have HP2 : Hid (∀ w, Calls Try.prog 9 #[.agg #[.int .i64 2147483649, .int .i64 65536, .int .i64 1048576, .int .u32 a1]] w (PutPost w [] 1)) := fun w => slotPut_arg hno w
      have hg := getS_slB hm hok
      have hln := slB_len (2147483648, 65536, 1048576, a1)
      obtain ⟨D, hD⟩ := named (slB (2147483648, 65536, 1048576, a1))
      rw [hD.out] at HP hg hln
      have HLN := Lib.hid hln
      have HGT : Hid (∀ (a : Option Addr) (c : Nat) (w : World), Bytes w a 16 D → 16 ≤ c → Calls Try.prog 13 #[.slice a 16 c] w fun e w' => e = .returned (.tuple #[.agg #[.int .i64 2147483648, .int .i64 65536, .int .i64 1048576, .int .u32 a1], .int .i64 0]) ∧ Below w.heap.size w w') := fun a c w h1 h2 => (slotGet_any w a 16 c D h1 h2).mono fun e w' h => by rw [hg] at h; exact h.yes
      have HX0 := Lib.hid (Blk.new w 24 #[.int .i64 2147483648, .int .i64 65536, .int .i64 1048576, .int .u32 a1])
      have HG0 : Hid (Below w.heap.size w (w.alloc (.cells #[.int .i64 2147483648, .int .i64 65536, .int .i64 1048576, .int .u32 a1] 24))) := (Below.refl _ _).alloc (Nat.le_refl _) _
      clear hm hno hok hg hln hD
      go_enter Try.func7, Try.ntmps7
      go_wp2_with (first
        | (go_at_call 11; go_in)
        | (go_at_call 9; (with_reducible refine (HP.out _).mono ?_); rintro e w1 hp; obtain ⟨x1, y1, rfl, hB, hc, hb⟩ := hp.sized HLN.out; have HB1 := Lib.hid hB; have HC1 := Lib.hid hc.2; have HX1 := Lib.hid (HX0.out.later hb); have HG1 := Lib.hid (HG0.out.trans (hb.mono HG0.out.size)); clear hp hB hc hb HP)
        | (go_at_call 13; (with_reducible refine (HGT.out _ _ _ HB1.out HC1.out).mono ?_); rintro e w2 ⟨rfl, hb⟩; have HX2 := Lib.hid ((HX1.out.later hb).alloc (.cells #[.int .i64 2147483648, .int .i64 65536, .int .i64 1048576, .int .u32 a1] 24)); obtain ⟨k0, k1, k2, k3⟩ := cells4 HX2.out; have hfr := HX2.out.free 0; have HX3 := Lib.hid (HX2.out.set 0 (.int .i64 2147483649)); obtain ⟨j0, j1, j2, j3⟩ := cells4 HX3.out; have HG2 := Lib.hid (HG1.out.trans (hb.mono HG1.out.size)); have HG3 := Lib.hid ((HG2.out.alloc HG2.out.size (.cells #[.int .i64 2147483648, .int .i64 65536, .int .i64 1048576, .int .u32 a1] 24)).setCell (p := ⟨w.heap.size, 0, none⟩) (Nat.le_refl _) (.int .i64 2147483649)); clear hb HGT)
        | (go_at_call 9; (with_reducible refine (HP2.out _).mono ?_); rintro e w4 hp; obtain ⟨x4, y4, rfl, hB, hc, hb⟩ := hp.sized (n := 0) rfl; have HG4 := Lib.hid (HG3.out.trans (hb.mono HG3.out.size)); clear hp hB hc hb HP2)
        | (go_at_call 12; refine (awake_any7 _).mono ?_; rintro e w5 ⟨rfl, hb⟩; have HZ := Lib.hid (HG4.out.trans (hb.mono HG4.out.size)); clear hb))
      go_ret
      exact ⟨rfl, HZ.out⟩
    · have hm : May (2147483648, 65536, 1048576, a1) := by unfold May; dsimp only; omega
      have hno : ¬ May (2147483648, 65537, 1048576, a1) := by unfold May; dsimp only; omega
      have hok : SlOk (2147483648, 65536, 1048576, a1) := by unfold SlOk In64; dsimp only; omega
      have HP : Hid (∀ w, Calls Try.prog 9 #[.agg #[.int .i64 2147483648, .int .i64 65536, .int .i64 1048576, .int .u32 a1]] w (PutPost w (slB (2147483648, 65536, 1048576, a1)) 0)) := fun w => slotPut_ok hm hok w
      have HP2 : Hid (∀ w, Calls Try.prog 9 #[.agg #[.int .i64 2147483648, .int .i64 65537, .int .i64 1048576, .int .u32 a1]] w (PutPost w [] 1)) := fun w => slotPut_arg hno w
      have hg := getS_slB hm hok
      have hln := slB_len (2147483648, 65536, 1048576, a1)
      obtain ⟨D, hD⟩ := named (slB (2147483648, 65536, 1048576, a1))
      rw [hD.out] at HP hg hln
      have HLN := Lib.hid hln
      have HGT : Hid (∀ (a : Option Addr) (c : Nat) (w : World), Bytes w a 16 D → 16 ≤ c → Calls Try.prog 13 #[.slice a 16 c] w fun e w' => e = .returned (.tuple #[.agg #[.int .i64 2147483648, .int .i64 65536, .int .i64 1048576, .int .u32 a1], .int .i64 0]) ∧ Below w.heap.size w w') := fun a c w h1 h2 => (slotGet_any w a 16 c D h1 h2).mono fun e w' h => by rw [hg] at h; exact h.yes
      have HX0 := Lib.hid (Blk.new w 24 #[.int .i64 2147483648, .int .i64 65536, .int .i64 1048576, .int .u32 a1])
      have HG0 : Hid (Below w.heap.size w (w.alloc (.cells #[.int .i64 2147483648, .int .i64 65536, .int .i64 1048576, .int .u32 a1] 24))) := (Below.refl _ _).alloc (Nat.le_refl _) _
      clear hm hno hok hg hln hD
      go_enter Try.func7, Try.ntmps7
      go_wp2_with (first
        | (go_at_call 11; go_in)
        | (go_at_call 9; (with_reducible refine (HP.out _).mono ?_); rintro e w1 hp; obtain ⟨x1, y1, rfl, hB, hc, hb⟩ := hp.sized HLN.out; have HB1 := Lib.hid hB; have HC1 := Lib.hid hc.2; have HX1 := Lib.hid (HX0.out.later hb); have HG1 := Lib.hid (HG0.out.trans (hb.mono HG0.out.size)); clear hp hB hc hb HP)
        | (go_at_call 13; (with_reducible refine (HGT.out _ _ _ HB1.out HC1.out).mono ?_); rintro e w2 ⟨rfl, hb⟩; have HX2 := Lib.hid ((HX1.out.later hb).alloc (.cells #[.int .i64 2147483648, .int .i64 65536, .int .i64 1048576, .int .u32 a1] 24)); obtain ⟨k0, k1, k2, k3⟩ := cells4 HX2.out; have hfr := HX2.out.free 1; have HX3 := Lib.hid (HX2.out.set 1 (.int .i64 65537)); obtain ⟨j0, j1, j2, j3⟩ := cells4 HX3.out; have HG2 := Lib.hid (HG1.out.trans (hb.mono HG1.out.size)); have HG3 := Lib.hid ((HG2.out.alloc HG2.out.size (.cells #[.int .i64 2147483648, .int .i64 65536, .int .i64 1048576, .int .u32 a1] 24)).setCell (p := ⟨w.heap.size, 1, none⟩) (Nat.le_refl _) (.int .i64 65537)); clear hb HGT)
        | (go_at_call 9; (with_reducible refine (HP2.out _).mono ?_); rintro e w4 hp; obtain ⟨x4, y4, rfl, hB, hc, hb⟩ := hp.sized (n := 0) rfl; have HG4 := Lib.hid (HG3.out.trans (hb.mono HG3.out.size)); clear hp hB hc hb HP2)
        | (go_at_call 12; refine (awake_any7 _).mono ?_; rintro e w5 ⟨rfl, hb⟩; have HZ := Lib.hid (HG4.out.trans (hb.mono HG4.out.size)); clear hb))
      go_ret
      exact ⟨rfl, HZ.out⟩
    · have hm : May (2147483648, 65536, 1048576, a1) := by unfold May; dsimp only; omega
      have hno : ¬ May (2147483648, 65536, 1048577, a1) := by unfold May; dsimp only; omega
      have hok : SlOk (2147483648, 65536, 1048576, a1) := by unfold SlOk In64; dsimp only; omega
      have HP : Hid (∀ w, Calls Try.prog 9 #[.agg #[.int .i64 2147483648, .int .i64 65536, .int .i64 1048576, .int .u32 a1]] w (PutPost w (slB (2147483648, 65536, 1048576, a1)) 0)) := fun w => slotPut_ok hm hok w
      have HP2 : Hid (∀ w, Calls Try.prog 9 #[.agg #[.int .i64 2147483648, .int .i64 65536, .int .i64 1048577, .int .u32 a1]] w (PutPost w [] 1)) := fun w => slotPut_arg hno w
      have hg := getS_slB hm hok
      have hln := slB_len (2147483648, 65536, 1048576, a1)
      obtain ⟨D, hD⟩ := named (slB (2147483648, 65536, 1048576, a1))
      rw [hD.out] at HP hg hln
      have HLN := Lib.hid hln
      have HGT : Hid (∀ (a : Option Addr) (c : Nat) (w : World), Bytes w a 16 D → 16 ≤ c → Calls Try.prog 13 #[.slice a 16 c] w fun e w' => e = .returned (.tuple #[.agg #[.int .i64 2147483648, .int .i64 65536, .int .i64 1048576, .int .u32 a1], .int .i64 0]) ∧ Below w.heap.size w w') := fun a c w h1 h2 => (slotGet_any w a 16 c D h1 h2).mono fun e w' h => by rw [hg] at h; exact h.yes
      have HX0 := Lib.hid (Blk.new w 24 #[.int .i64 2147483648, .int .i64 65536, .int .i64 1048576, .int .u32 a1])
      have HG0 : Hid (Below w.heap.size w (w.alloc (.cells #[.int .i64 2147483648, .int .i64 65536, .int .i64 1048576, .int .u32 a1] 24))) := (Below.refl _ _).alloc (Nat.le_refl _) _
      clear hm hno hok hg hln hD
      go_enter Try.func7, Try.ntmps7
      go_wp2_with (first
        | (go_at_call 11; go_in)
        | (go_at_call 9; (with_reducible refine (HP.out _).mono ?_); rintro e w1 hp; obtain ⟨x1, y1, rfl, hB, hc, hb⟩ := hp.sized HLN.out; have HB1 := Lib.hid hB; have HC1 := Lib.hid hc.2; have HX1 := Lib.hid (HX0.out.later hb); have HG1 := Lib.hid (HG0.out.trans (hb.mono HG0.out.size)); clear hp hB hc hb HP)
        | (go_at_call 13; (with_reducible refine (HGT.out _ _ _ HB1.out HC1.out).mono ?_); rintro e w2 ⟨rfl, hb⟩; have HX2 := Lib.hid ((HX1.out.later hb).alloc (.cells #[.int .i64 2147483648, .int .i64 65536, .int .i64 1048576, .int .u32 a1] 24)); obtain ⟨k0, k1, k2, k3⟩ := cells4 HX2.out; have hfr := HX2.out.free 2; have HX3 := Lib.hid (HX2.out.set 2 (.int .i64 1048577)); obtain ⟨j0, j1, j2, j3⟩ := cells4 HX3.out; have HG2 := Lib.hid (HG1.out.trans (hb.mono HG1.out.size)); have HG3 := Lib.hid ((HG2.out.alloc HG2.out.size (.cells #[.int .i64 2147483648, .int .i64 65536, .int .i64 1048576, .int .u32 a1] 24)).setCell (p := ⟨w.heap.size, 2, none⟩) (Nat.le_refl _) (.int .i64 1048577)); clear hb HGT)
        | (go_at_call 9; (with_reducible refine (HP2.out _).mono ?_); rintro e w4 hp; obtain ⟨x4, y4, rfl, hB, hc, hb⟩ := hp.sized (n := 0) rfl; have HG4 := Lib.hid (HG3.out.trans (hb.mono HG3.out.size)); clear hp hB hc hb HP2)
        | (go_at_call 12; refine (awake_any7 _).mono ?_; rintro e w5 ⟨rfl, hb⟩; have HZ := Lib.hid (HG4.out.trans (hb.mono HG4.out.size)); clear hb))
      go_ret
      exact ⟨rfl, HZ.out⟩

set_option maxRecDepth 100000 in
theorem lifted (os : Os) (started : os.Started) (H : Type) (enc : TypeId × Value → H) :
    ReturnsInHanded {} Try.checked os 7 .any (Rows.slotBoundsSpec.pre6 enc Try.prog Try.f7 Rows.slotBoundsRow.domain false) (Rows.slotBoundsSpec.post enc Try.prog Try.f7 false true false false) := by
  refine returnsInHanded_of_change (C := Try.checked) own started (by kernel_rfl) Try.func7
    (ChangeSpec.witness6 (enc := enc) (C := Try.checked) false ⟨#[], #[.int .u8 0, .int .u32 0], []⟩ 8 (by kernel_rfl) (by kernel_rfl) (by kernel_rfl) (by kernel_rfl)) ?_
  intro W base args ds gs before hval0 hW hcnd _
  have hval : ∀ (j : Nat) t v, Try.f7.params[j]? = some t → args[j]? = some v → Value.okWide Try.prog W .any base t v := hval0
  have hW' := hW
  obtain ⟨p, q, hA0, hV, rfl, hfz, hnd⟩ := hW
  have hA : DataW.TrodAll enc Try.prog W 0 (fun _ => true) true Try.f7.params.toList args.toList ds p := hA0
  rw [Try.params7] at hA hval
  obtain ⟨v0, vs0, d0, ds0, p0, q0, hargs, rfl, rfl, h0, r0⟩ := trodAll_cons hA
  obtain ⟨v1, vs1, d1, ds1, p1, q1, rfl, rfl, rfl, h1, r1⟩ := trodAll_cons r0
  obtain ⟨rfl, rfl, rfl⟩ := trodAll_nil r1
  obtain rfl : args = #[v0, v1] := by cases args; simp_all
  obtain ⟨rfl, rfl⟩ := trodVars_none hV
  have k0 := h0
  have lt0 : ∀ x ∈ p0, x.block < W.heap.size := by obtain ⟨m, hm⟩ := k0; exact DataW.trod_lt m _ _ _ hm
  obtain ⟨a0, rfl, _, _, w0⟩ := open_int Try.underlying5 (hval 0 5 v0 rfl rfl) h0
  have k1 := h1
  have lt1 : ∀ x ∈ p1, x.block < W.heap.size := by obtain ⟨m, hm⟩ := k1; exact DataW.trod_lt m _ _ _ hm
  obtain ⟨a1, rfl, _, _, w1⟩ := open_int Try.underlying22 (hval 1 22 v1 rfl rfl) h1
  clear hA0 hval0
  refine (walk a0 a1 W w0 w1).mono fun e W' ⟨he, bel⟩ => ?_
  subst he
  exact ⟨_, rfl, _, _, _, [], _, [], hW', trodAll_mk1 (shut_bool Try.underlying4 _), (trodAll_cons_mk (Below.trod laidOut (by kernel_rfl) (of_decide_eq_true (by kernel_rfl)) k0 bel lt0) (trodAll_cons_mk (Below.trod laidOut (by kernel_rfl) (of_decide_eq_true (by kernel_rfl)) k1 bel lt1) trodAll_mk0)), rfl, bel.frame _, fun h => by cases h⟩

theorem over : Rows.slotBoundsRow.holds Try.pinned (OpenSpec.ofChange Rows.slotBoundsSpec) :=
  OpenClaim.holds_of_wide 7 Try.f7 rfl rfl rfl rfl rfl rfl rfl ⟨rfl, rfl, rfl, rfl, rfl⟩ rfl rfl rfl rfl rfl (by kernel_rfl) Try.func7 (by kernel_rfl)
    (of_decide_eq_true (by kernel_rfl)) (by unfold Func.isWrapper; first | (rw [if_pos (by decide +kernel)]; kernel_rfl) | (rw [if_neg (by decide +kernel)]; exact ⟨rfl, rfl⟩))
    (fun os started H enc _ => lifted os started H enc)

/-- The statement. -/
theorem proved : Rows.SlotBoundsSaid := over
#print axioms proved
end Go.Proofs.Ytpjlnanalielmaa.slotBounds
