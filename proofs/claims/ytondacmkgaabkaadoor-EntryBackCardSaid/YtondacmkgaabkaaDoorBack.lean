/-
  Proved: 'matryoshkalaw7.EntryBack' returns true for every input, and each argument reads afterwards as before: the statement EntryBackSaid as given. Conditions: none beyond the row's own.
-/
import Derived.Test.YtondacmkgaabkaaDoorRows
import Derived.Test.YtondacmkgaabkaaDoorV8
import Derived.Test.YtondacmkgaabkaaDoorTie
import Derived.Test.YtondacmkgaabkaaDoorCards
import Derived.SevenTiedAt
import Derived.LaidLaws
import Derived.Stop.Joined
import Derived.Test.YtondacmkgaabkaaDoorF8
import Derived.Test.YtondacmkgaabkaaDoorG8
import Derived.WalkKit
import Derived.ProofKit
import Derived.OpenShut
import Derived.ShutString
import Derived.ChangeOld
import Derived.Below
namespace Go.Proofs.YtondacmkgaabkaaDoor.entryBack
open Go.ChangeShapes Go.WideShapes Go.ChangeAt Go.RowKit
open Go.ChangeMaps (open_string shut_string)
set_option linter.unusedVariables false

theorem own : ownKnob Tryd.prog.godebug = none := by kernel_rfl
theorem laidOut : laidOutB Tryd.prog = true := by kernel_rfl

theorem pow_next {C : Nat} (h : C ≤ 6) {P : Int} (hP : (2 : Int) ^ C = P) (S a : Int) : ¬ MayE (2, S, P, 0, a) (((C + 1) % 7 : Nat) : Int) := by
  have hC : C = 0 ∨ C = 1 ∨ C = 2 ∨ C = 3 ∨ C = 4 ∨ C = 5 ∨ C = 6 := by omega
  subst hP
  intro h2
  obtain ⟨_, h2⟩ := h2
  rw [Int.toNat_natCast] at h2
  dsimp only at h2
  rcases hC with rfl | rfl | rfl | rfl | rfl | rfl | rfl <;> simp at h2

set_option maxRecDepth 100000 in
set_option maxHeartbeats 4000000 in
theorem walk (a0 : Int) (a1 : Int) (a2 : Int) (a3 : Int) (a4 : Int) (w : World) (w0 : (Lit.int .u16 a0).wf = true) (w1 : (Lit.int .u16 a1).wf = true) (w2 : (Lit.int .u8 a2).wf = true) (w3 : (Lit.int .u8 a3).wf = true) (w4 : (Lit.int .u32 a4).wf = true) (HWD : Hid (Wid w)) :
    Calls Tryd.prog 5 #[.int .u16 a0, .int .u16 a1, .int .u8 a2, .int .u8 a3, .int .u32 a4] w fun e w' => e = .returned (.bool true) ∧ Below w.heap.size w w' := by
  have b0 := bounds_u16 w0
  have b1 := bounds_u16 w1
  have b2 := bounds_u8 w2
  have b3 := bounds_u8 w3
  have b4 := bounds_u32 w4
  obtain ⟨C, hC⟩ : ∃ C : Nat, a2 % 7 = C := ⟨(a2 % 7).toNat, by omega⟩
  have hC2 : a2.tmod 7 = C := by rw [Int.tmod_eq_emod_of_nonneg (by omega)]; exact hC
  have hC6 : C ≤ 6 := by omega
  obtain ⟨P, hP⟩ := named ((2 : Int) ^ C)
  have hPb := pow_le6 (c := (C : Int)) (by omega)
  rw [Int.toNat_natCast, hP.out] at hPb
  obtain ⟨hp1, hp2⟩ := hPb
  have hPP : wrap64 (2 ^ C) = P := by rw [hP.out]; unfold wrap64; omega
  obtain ⟨S1, hS1⟩ : ∃ K, a0 % 60000 = K := ⟨_, rfl⟩
  have hS2 : a0.tmod 60000 = S1 := by rw [Int.tmod_eq_emod_of_nonneg (by omega)]; exact hS1
  obtain ⟨hS3, hS4⟩ : 0 ≤ S1 ∧ S1 < 60000 := by omega
  obtain ⟨S, hS⟩ : ∃ K, 2 + S1 = K := ⟨_, rfl⟩
  obtain ⟨hs1, hs2⟩ : 2 ≤ S ∧ S ≤ 60001 := by omega
  have hk : a3 % 4 = 0 ∨ a3 % 4 = 1 ∨ a3 % 4 = 2 ∨ a3 % 4 = 3 := by omega
  have hk2 : a3.tmod 4 = a3 % 4 := Int.tmod_eq_emod_of_nonneg (by omega)
  clear w0 w1 w2 w3 w4
  rcases hk with hk | hk | hk | hk
  · have hk3 : a3.tmod 4 = 0 := hk2.trans hk
    have M1 : MayE (0, 0, 0, 0, 0) (C : Int) := by unfold MayE; rw [Int.toNat_natCast, hP.out]; dsimp only; omega
    have O1 : EnOk (0, 0, 0, 0, 0) := by unfold EnOk I64; dsimp only; omega
    have HP := Lib.hid (fun w (h : Wid w) => entryPut_ok M1 O1 w h)
    have hlen := enB_len (0, 0, 0, 0, 0)
    have hgt := getE_enB M1 O1
    have HM : Hid (∀ w, Calls Tryd.prog 10 #[.agg #[.int .i64 0, .int .i64 0, .int .i64 0, .int .i64 0, .int .u32 0], .int .i64 C] w fun e w' => e = .returned (.bool true) ∧ Below w.heap.size w w') := fun w => by
      have := entryMay_any 0 0 0 0 0 C O1 w
      rw [decide_eq_true M1] at this
      exact this
    obtain ⟨D, hD⟩ := named (enB (0, 0, 0, 0, 0))
    rw [hD.out] at HP hlen hgt
    have HLN := Lib.hid hlen
    have HGT : Hid (∀ (w1 : World) (a : Option Addr) (c' : Nat), Bytes w1 a 16 D → 16 ≤ c' → Wid w1 → Calls Tryd.prog 14 #[.slice a 16 c', .int .i64 C] w1 fun e w' => e = .returned (.tuple #[.agg #[.int .i64 0, .int .i64 0, .int .i64 0, .int .i64 0, .int .u32 0], .int .i64 0]) ∧ Below w1.heap.size w1 w') := fun w1 a c' h h2 hw1 => (entryGet_any w1 a 16 c' _ C h h2 hw1).mono fun e w' h => by rw [hgt] at h; exact h
    obtain ⟨X, hX⟩ := named w.heap.size
    have hXX := hX.out
    have HX0 : Hid (Blk (w.alloc (.cells #[.int .i64 0, .int .i64 0, .int .i64 0, .int .i64 0, .int .u32 0] 24)) X 24 #[.int .i64 0, .int .i64 0, .int .i64 0, .int .i64 0, .int .u32 0]) := by rw [← hX.out]; exact Blk.new w _ _
    have HG0 : Hid (Below X w (w.alloc (.cells #[.int .i64 0, .int .i64 0, .int .i64 0, .int .i64 0, .int .u32 0] 24))) := by rw [← hX.out]; exact (Below.refl _ _).alloc (Nat.le_refl _) _
    have HSZ : Hid (w.heap.size = X) := hXX
    clear M1 O1 hlen hgt hD hX hk2
    rw [hXX]
    go_enter Tryd.func5, Tryd.ntmps5
    go_wp2_with (first
      | (go_at_call 12; go_in)
      | (go_at_call 8; (with_reducible refine (HP.out _ (HWD.out.below HG0.out (Nat.le_of_eq HSZ.out))).mono ?_); rintro e w1 hp; obtain ⟨x1, y1, rfl, hB, hcc, hb⟩ := hp.sized HLN.out; have HB1 := Lib.hid hB; have HC1 := Lib.hid hcc.2; have HX1 := Lib.hid (HX0.out.later hb); have HG1 := Lib.hid (HG0.out.trans (hb.mono (Nat.le_trans (Nat.le_of_eq HSZ.out.symm) HG0.out.size))); clear hp hB hcc hb HP)
      | (go_at_call 14; (with_reducible refine (HGT.out _ _ _ HB1.out HC1.out (HWD.out.below HG1.out (Nat.le_of_eq HSZ.out))).mono ?_); rintro e w2 ⟨rfl, hb⟩; have HX2 := Lib.hid ((HX1.out.later hb).alloc (.cells #[.int .i64 0, .int .i64 0, .int .i64 0, .int .i64 0, .int .u32 0] 24)); obtain ⟨j0, j1, j2, j3, j4⟩ := cells5 HX2.out; have HG2 := Lib.hid (HG1.out.trans (hb.mono (Nat.le_trans (Nat.le_of_eq HSZ.out.symm) HG1.out.size))); have HG3 := Lib.hid (HG2.out.alloc (Nat.le_trans (Nat.le_of_eq HSZ.out.symm) HG2.out.size) (.cells #[.int .i64 0, .int .i64 0, .int .i64 0, .int .i64 0, .int .u32 0] 24)); clear hb HGT)
      | (go_at_call 10; (with_reducible refine (HM.out _).mono ?_); rintro e w3 ⟨rfl, hb⟩; have HX3 := Lib.hid (HX2.out.later hb); obtain ⟨l0, l1, l2, l3, l4⟩ := cells5 HX3.out; have HG4 := Lib.hid (HG3.out.trans (hb.mono (Nat.le_trans (Nat.le_of_eq HSZ.out.symm) HG3.out.size))); clear hb HM)
      | (go_at_call 13; (with_reducible refine (awake_any8 (HWD.out.below HG4.out (Nat.le_of_eq HSZ.out))).mono ?_); rintro e w7 ⟨rfl, g⟩; have HZ := Lib.hid (HG4.out.trans (g.mono (Nat.le_trans (Nat.le_of_eq HSZ.out.symm) HG4.out.size))); clear g))
    go_ret
    exact ⟨rfl, HZ.out⟩
  · have hk3 : a3.tmod 4 = 1 := hk2.trans hk
    have M1 : MayE (1, 0, 0, 0, 0) (C : Int) := by unfold MayE; rw [Int.toNat_natCast, hP.out]; dsimp only; omega
    have O1 : EnOk (1, 0, 0, 0, 0) := by unfold EnOk I64; dsimp only; omega
    have HP := Lib.hid (fun w (h : Wid w) => entryPut_ok M1 O1 w h)
    have hlen := enB_len (1, 0, 0, 0, 0)
    have hgt := getE_enB M1 O1
    have HM : Hid (∀ w, Calls Tryd.prog 10 #[.agg #[.int .i64 1, .int .i64 0, .int .i64 0, .int .i64 0, .int .u32 0], .int .i64 C] w fun e w' => e = .returned (.bool true) ∧ Below w.heap.size w w') := fun w => by
      have := entryMay_any 1 0 0 0 0 C O1 w
      rw [decide_eq_true M1] at this
      exact this
    obtain ⟨D, hD⟩ := named (enB (1, 0, 0, 0, 0))
    rw [hD.out] at HP hlen hgt
    have HLN := Lib.hid hlen
    have HGT : Hid (∀ (w1 : World) (a : Option Addr) (c' : Nat), Bytes w1 a 16 D → 16 ≤ c' → Wid w1 → Calls Tryd.prog 14 #[.slice a 16 c', .int .i64 C] w1 fun e w' => e = .returned (.tuple #[.agg #[.int .i64 1, .int .i64 0, .int .i64 0, .int .i64 0, .int .u32 0], .int .i64 0]) ∧ Below w1.heap.size w1 w') := fun w1 a c' h h2 hw1 => (entryGet_any w1 a 16 c' _ C h h2 hw1).mono fun e w' h => by rw [hgt] at h; exact h
    obtain ⟨X, hX⟩ := named w.heap.size
    have hXX := hX.out
    have HX0 : Hid (Blk (w.alloc (.cells #[.int .i64 1, .int .i64 0, .int .i64 0, .int .i64 0, .int .u32 0] 24)) X 24 #[.int .i64 1, .int .i64 0, .int .i64 0, .int .i64 0, .int .u32 0]) := by rw [← hX.out]; exact Blk.new w _ _
    have HG0 : Hid (Below X w (w.alloc (.cells #[.int .i64 1, .int .i64 0, .int .i64 0, .int .i64 0, .int .u32 0] 24))) := by rw [← hX.out]; exact (Below.refl _ _).alloc (Nat.le_refl _) _
    have HSZ : Hid (w.heap.size = X) := hXX
    clear M1 O1 hlen hgt hD hX hk2
    rw [hXX]
    go_enter Tryd.func5, Tryd.ntmps5
    go_wp2_with (first
      | (go_at_call 12; go_in)
      | (go_at_call 8; (with_reducible refine (HP.out _ (HWD.out.below HG0.out (Nat.le_of_eq HSZ.out))).mono ?_); rintro e w1 hp; obtain ⟨x1, y1, rfl, hB, hcc, hb⟩ := hp.sized HLN.out; have HB1 := Lib.hid hB; have HC1 := Lib.hid hcc.2; have HX1 := Lib.hid (HX0.out.later hb); have HG1 := Lib.hid (HG0.out.trans (hb.mono (Nat.le_trans (Nat.le_of_eq HSZ.out.symm) HG0.out.size))); clear hp hB hcc hb HP)
      | (go_at_call 14; (with_reducible refine (HGT.out _ _ _ HB1.out HC1.out (HWD.out.below HG1.out (Nat.le_of_eq HSZ.out))).mono ?_); rintro e w2 ⟨rfl, hb⟩; have HX2 := Lib.hid ((HX1.out.later hb).alloc (.cells #[.int .i64 1, .int .i64 0, .int .i64 0, .int .i64 0, .int .u32 0] 24)); obtain ⟨j0, j1, j2, j3, j4⟩ := cells5 HX2.out; have HG2 := Lib.hid (HG1.out.trans (hb.mono (Nat.le_trans (Nat.le_of_eq HSZ.out.symm) HG1.out.size))); have HG3 := Lib.hid (HG2.out.alloc (Nat.le_trans (Nat.le_of_eq HSZ.out.symm) HG2.out.size) (.cells #[.int .i64 1, .int .i64 0, .int .i64 0, .int .i64 0, .int .u32 0] 24)); clear hb HGT)
      | (go_at_call 10; (with_reducible refine (HM.out _).mono ?_); rintro e w3 ⟨rfl, hb⟩; have HX3 := Lib.hid (HX2.out.later hb); obtain ⟨l0, l1, l2, l3, l4⟩ := cells5 HX3.out; have HG4 := Lib.hid (HG3.out.trans (hb.mono (Nat.le_trans (Nat.le_of_eq HSZ.out.symm) HG3.out.size))); clear hb HM)
      | (go_at_call 13; (with_reducible refine (awake_any8 (HWD.out.below HG4.out (Nat.le_of_eq HSZ.out))).mono ?_); rintro e w7 ⟨rfl, g⟩; have HZ := Lib.hid (HG4.out.trans (g.mono (Nat.le_trans (Nat.le_of_eq HSZ.out.symm) HG4.out.size))); clear g))
    go_ret
    exact ⟨rfl, HZ.out⟩
  · have hk3 : a3.tmod 4 = 2 := hk2.trans hk
    have M1 : MayE (2, S, P, 0, a4) (C : Int) := by unfold MayE; rw [Int.toNat_natCast, hP.out]; dsimp only; omega
    have O1 : EnOk (2, S, P, 0, a4) := by unfold EnOk I64; dsimp only; omega
    have HP := Lib.hid (fun w (h : Wid w) => entryPut_ok M1 O1 w h)
    have hlen := enB_len (2, S, P, 0, a4)
    have hgt := getE_enB M1 O1
    have HM : Hid (∀ w, Calls Tryd.prog 10 #[.agg #[.int .i64 2, .int .i64 S, .int .i64 P, .int .i64 0, .int .u32 a4], .int .i64 C] w fun e w' => e = .returned (.bool true) ∧ Below w.heap.size w w') := fun w => by
      have := entryMay_any 2 S P 0 a4 C O1 w
      rw [decide_eq_true M1] at this
      exact this
    obtain ⟨C9, hC9⟩ := named ((C + 1) % 7)
    have hc1 : (C : Int) + 1 = ((C + 1 : Nat) : Int) := by omega
    have hc9 : (((C + 1 : Nat) : Int)).tmod 7 = (C9 : Int) := by rw [Int.tmod_eq_emod_of_nonneg (by omega), ← hC9.out]; omega
    have hc8 : ((C : Int) + 1).tmod 7 = (C9 : Int) := by rw [hc1]; exact hc9
    have hc7 : ((C : Int) + 1) % 7 = (C9 : Int) := by rw [← hC9.out]; omega
    have hc6 : IntKind.i64.wrap ((C : Int) + 1) = (C : Int) + 1 := by rw [IntKind.wrap_i64]; omega
    have M2 := pow_next hC6 hP.out S a4
    rw [hC9.out] at M2
    have HM2 : Hid (∀ w, Calls Tryd.prog 10 #[.agg #[.int .i64 2, .int .i64 S, .int .i64 P, .int .i64 0, .int .u32 a4], .int .i64 C9] w fun e w' => e = .returned (.bool false) ∧ Below w.heap.size w w') := fun w => by
      have := entryMay_any 2 S P 0 a4 C9 O1 w
      rw [decide_eq_false M2] at this
      exact this
    clear hc1 hc9
    obtain ⟨D, hD⟩ := named (enB (2, S, P, 0, a4))
    rw [hD.out] at HP hlen hgt
    have HLN := Lib.hid hlen
    have HGT : Hid (∀ (w1 : World) (a : Option Addr) (c' : Nat), Bytes w1 a 16 D → 16 ≤ c' → Wid w1 → Calls Tryd.prog 14 #[.slice a 16 c', .int .i64 C] w1 fun e w' => e = .returned (.tuple #[.agg #[.int .i64 2, .int .i64 S, .int .i64 P, .int .i64 0, .int .u32 a4], .int .i64 0]) ∧ Below w1.heap.size w1 w') := fun w1 a c' h h2 hw1 => (entryGet_any w1 a 16 c' _ C h h2 hw1).mono fun e w' h => by rw [hgt] at h; exact h
    obtain ⟨X, hX⟩ := named w.heap.size
    have hXX := hX.out
    have HX0 : Hid (Blk (w.alloc (.cells #[.int .i64 2, .int .i64 S, .int .i64 P, .int .i64 0, .int .u32 a4] 24)) X 24 #[.int .i64 2, .int .i64 S, .int .i64 P, .int .i64 0, .int .u32 a4]) := by rw [← hX.out]; exact Blk.new w _ _
    have HG0 : Hid (Below X w (w.alloc (.cells #[.int .i64 2, .int .i64 S, .int .i64 P, .int .i64 0, .int .u32 a4] 24))) := by rw [← hX.out]; exact (Below.refl _ _).alloc (Nat.le_refl _) _
    have HSZ : Hid (w.heap.size = X) := hXX
    clear M1 O1 hlen hgt hD hX hk2
    rw [hXX]
    go_enter Tryd.func5, Tryd.ntmps5
    go_wp2_with (first
      | (go_at_call 12; go_in)
      | (go_at_call 8; (with_reducible refine (HP.out _ (HWD.out.below HG0.out (Nat.le_of_eq HSZ.out))).mono ?_); rintro e w1 hp; obtain ⟨x1, y1, rfl, hB, hcc, hb⟩ := hp.sized HLN.out; have HB1 := Lib.hid hB; have HC1 := Lib.hid hcc.2; have HX1 := Lib.hid (HX0.out.later hb); have HG1 := Lib.hid (HG0.out.trans (hb.mono (Nat.le_trans (Nat.le_of_eq HSZ.out.symm) HG0.out.size))); clear hp hB hcc hb HP)
      | (go_at_call 14; (with_reducible refine (HGT.out _ _ _ HB1.out HC1.out (HWD.out.below HG1.out (Nat.le_of_eq HSZ.out))).mono ?_); rintro e w2 ⟨rfl, hb⟩; have HX2 := Lib.hid ((HX1.out.later hb).alloc (.cells #[.int .i64 2, .int .i64 S, .int .i64 P, .int .i64 0, .int .u32 a4] 24)); obtain ⟨j0, j1, j2, j3, j4⟩ := cells5 HX2.out; have HG2 := Lib.hid (HG1.out.trans (hb.mono (Nat.le_trans (Nat.le_of_eq HSZ.out.symm) HG1.out.size))); have HG3 := Lib.hid (HG2.out.alloc (Nat.le_trans (Nat.le_of_eq HSZ.out.symm) HG2.out.size) (.cells #[.int .i64 2, .int .i64 S, .int .i64 P, .int .i64 0, .int .u32 a4] 24)); clear hb HGT)
      | (go_at_call 10; (with_reducible refine (HM.out _).mono ?_); rintro e w3 ⟨rfl, hb⟩; have HX3 := Lib.hid (HX2.out.later hb); obtain ⟨l0, l1, l2, l3, l4⟩ := cells5 HX3.out; have HG4 := Lib.hid (HG3.out.trans (hb.mono (Nat.le_trans (Nat.le_of_eq HSZ.out.symm) HG3.out.size))); clear hb HM)
      | (go_at_call 10; (with_reducible refine (HM2.out _).mono ?_); rintro e w4 ⟨rfl, hb⟩; have HG5 := Lib.hid (HG4.out.trans (hb.mono (Nat.le_trans (Nat.le_of_eq HSZ.out.symm) HG4.out.size))); clear hb HM2)
      | (go_at_call 13; (with_reducible refine (awake_any8 (HWD.out.below HG5.out (Nat.le_of_eq HSZ.out))).mono ?_); rintro e w7 ⟨rfl, g⟩; have HZ := Lib.hid (HG5.out.trans (g.mono (Nat.le_trans (Nat.le_of_eq HSZ.out.symm) HG5.out.size))); clear g))
    go_ret
    exact ⟨rfl, HZ.out⟩
  · by_cases hC0 : C = 0
    · subst hC0
      have hk3 : a3.tmod 4 = 3 := hk2.trans hk
      have HM : Hid (∀ w, Calls Tryd.prog 10 #[.agg #[.int .i64 3, .int .i64 2, .int .i64 1, .int .i64 1, .int .u32 0], .int .i64 0] w fun e w' => e = .returned (.bool false) ∧ Below w.heap.size w w') := fun w => by
        have := entryMay_any 3 2 1 1 0 0 (by unfold EnOk I64; dsimp only; omega) w
        rw [decide_eq_false (by decide)] at this
        exact this
      have hC3 : a2.tmod 7 = 0 := hC2
      have HG0 : Hid (∀ cs, Below w.heap.size w (w.alloc (.cells cs 24))) := fun cs => (Below.refl _ _).alloc (Nat.le_refl _) _
      clear hC2 hC hk2 hPP
      go_enter Tryd.func5, Tryd.ntmps5
      go_wp2_with (first
        | (go_at_call 10; (with_reducible refine (HM.out _).mono ?_); rintro e w3 ⟨rfl, hb⟩; have HG4 := Lib.hid ((HG0.out _).trans (hb.mono (HG0.out _).size)); clear hb HM)
        | (go_at_call 13; (with_reducible refine (awake_any8 (HWD.out.later HG4.out)).mono ?_); rintro e w7 ⟨rfl, g⟩; have HZ := Lib.hid (HG4.out.trans (g.mono HG4.out.size)); clear g))
      go_ret
      exact ⟨rfl, HZ.out⟩
    have hP2 : 2 ≤ P := by
      rw [← hP.out]
      have hCC : C = 1 ∨ C = 2 ∨ C = 3 ∨ C = 4 ∨ C = 5 ∨ C = 6 := by omega
      rcases hCC with rfl | rfl | rfl | rfl | rfl | rfl <;> decide
    have hC00 : ¬ (C : Int) = 0 := by omega
    obtain ⟨P1, hP1⟩ : ∃ K, P - 1 = K := ⟨_, rfl⟩
    obtain ⟨W1, hW1⟩ : ∃ K, 16 * P1 = K := ⟨_, rfl⟩
    obtain ⟨hw1, hw2⟩ : 16 ≤ W1 ∧ W1 ≤ 1008 := by omega
    obtain ⟨N1, hN1⟩ : ∃ K, a1 % W1 = K := ⟨_, rfl⟩
    have hN2 : a1.tmod W1 = N1 := by rw [Int.tmod_eq_emod_of_nonneg (by omega)]; exact hN1
    have hN3 : 0 ≤ N1 := by rw [← hN1]; exact Int.emod_nonneg _ (by omega)
    have hN4 : N1 < W1 := by rw [← hN1]; exact Int.emod_lt_of_pos _ (by omega)
    obtain ⟨N, hN⟩ : ∃ K, 1 + N1 = K := ⟨_, rfl⟩
    obtain ⟨hn1, hn2⟩ : 1 ≤ N ∧ N ≤ 1008 := by omega
    obtain ⟨NN, hNN⟩ : ∃ K, N + 15 = K := ⟨_, rfl⟩
    obtain ⟨Q, hQ⟩ : ∃ K, NN / 16 = K := ⟨_, rfl⟩
    have hQ2 : NN.tdiv 16 = Q := by rw [Int.tdiv_eq_ediv_of_nonneg (by omega)]; exact hQ
    obtain ⟨hq1, hq2⟩ : 1 ≤ Q ∧ Q ≤ 63 := by omega
    have hW0 : ¬ W1 = 0 := by omega
    have hk3 : a3.tmod 4 = 3 := hk2.trans hk
    have M1 : MayE (3, S, Q, N, a4) (C : Int) := by unfold MayE; rw [Int.toNat_natCast, hP.out]; dsimp only; omega
    have O1 : EnOk (3, S, Q, N, a4) := by unfold EnOk I64; dsimp only; omega
    have HP := Lib.hid (fun w (h : Wid w) => entryPut_ok M1 O1 w h)
    have hlen := enB_len (3, S, Q, N, a4)
    have hgt := getE_enB M1 O1
    have HM : Hid (∀ w, Calls Tryd.prog 10 #[.agg #[.int .i64 3, .int .i64 S, .int .i64 Q, .int .i64 N, .int .u32 a4], .int .i64 C] w fun e w' => e = .returned (.bool true) ∧ Below w.heap.size w w') := fun w => by
      have := entryMay_any 3 S Q N a4 C O1 w
      rw [decide_eq_true M1] at this
      exact this
    obtain ⟨D, hD⟩ := named (enB (3, S, Q, N, a4))
    rw [hD.out] at HP hlen hgt
    have HLN := Lib.hid hlen
    have HGT : Hid (∀ (w1 : World) (a : Option Addr) (c' : Nat), Bytes w1 a 16 D → 16 ≤ c' → Wid w1 → Calls Tryd.prog 14 #[.slice a 16 c', .int .i64 C] w1 fun e w' => e = .returned (.tuple #[.agg #[.int .i64 3, .int .i64 S, .int .i64 Q, .int .i64 N, .int .u32 a4], .int .i64 0]) ∧ Below w1.heap.size w1 w') := fun w1 a c' h h2 hw1 => (entryGet_any w1 a 16 c' _ C h h2 hw1).mono fun e w' h => by rw [hgt] at h; exact h
    obtain ⟨X, hX⟩ := named w.heap.size
    have hXX := hX.out
    have HX0 : Hid (Blk (w.alloc (.cells #[.int .i64 3, .int .i64 S, .int .i64 Q, .int .i64 N, .int .u32 a4] 24)) X 24 #[.int .i64 3, .int .i64 S, .int .i64 Q, .int .i64 N, .int .u32 a4]) := by rw [← hX.out]; exact Blk.new w _ _
    have HG0 : Hid (Below X w (w.alloc (.cells #[.int .i64 3, .int .i64 S, .int .i64 Q, .int .i64 N, .int .u32 a4] 24))) := by rw [← hX.out]; exact (Below.refl _ _).alloc (Nat.le_refl _) _
    have HSZ : Hid (w.heap.size = X) := hXX
    clear M1 O1 hlen hgt hD hX hk2
    rw [hXX]
    go_enter Tryd.func5, Tryd.ntmps5
    go_wp2_with (first
      | (go_at_call 12; go_in)
      | (go_at_call 8; (with_reducible refine (HP.out _ (HWD.out.below HG0.out (Nat.le_of_eq HSZ.out))).mono ?_); rintro e w1 hp; obtain ⟨x1, y1, rfl, hB, hcc, hb⟩ := hp.sized HLN.out; have HB1 := Lib.hid hB; have HC1 := Lib.hid hcc.2; have HX1 := Lib.hid (HX0.out.later hb); have HG1 := Lib.hid (HG0.out.trans (hb.mono (Nat.le_trans (Nat.le_of_eq HSZ.out.symm) HG0.out.size))); clear hp hB hcc hb HP)
      | (go_at_call 14; (with_reducible refine (HGT.out _ _ _ HB1.out HC1.out (HWD.out.below HG1.out (Nat.le_of_eq HSZ.out))).mono ?_); rintro e w2 ⟨rfl, hb⟩; have HX2 := Lib.hid ((HX1.out.later hb).alloc (.cells #[.int .i64 3, .int .i64 S, .int .i64 Q, .int .i64 N, .int .u32 a4] 24)); obtain ⟨j0, j1, j2, j3, j4⟩ := cells5 HX2.out; have HG2 := Lib.hid (HG1.out.trans (hb.mono (Nat.le_trans (Nat.le_of_eq HSZ.out.symm) HG1.out.size))); have HG3 := Lib.hid (HG2.out.alloc (Nat.le_trans (Nat.le_of_eq HSZ.out.symm) HG2.out.size) (.cells #[.int .i64 3, .int .i64 S, .int .i64 Q, .int .i64 N, .int .u32 a4] 24)); clear hb HGT)
      | (go_at_call 10; (with_reducible refine (HM.out _).mono ?_); rintro e w3 ⟨rfl, hb⟩; have HX3 := Lib.hid (HX2.out.later hb); obtain ⟨l0, l1, l2, l3, l4⟩ := cells5 HX3.out; have HG4 := Lib.hid (HG3.out.trans (hb.mono (Nat.le_trans (Nat.le_of_eq HSZ.out.symm) HG3.out.size))); clear hb HM)
      | (go_at_call 13; (with_reducible refine (awake_any8 (HWD.out.below HG4.out (Nat.le_of_eq HSZ.out))).mono ?_); rintro e w7 ⟨rfl, g⟩; have HZ := Lib.hid (HG4.out.trans (g.mono (Nat.le_trans (Nat.le_of_eq HSZ.out.symm) HG4.out.size))); clear g))
    go_ret
    exact ⟨rfl, HZ.out⟩

set_option maxRecDepth 100000 in
theorem lifted (os : Os) (started : os.Started) (H : Type) (enc : TypeId × Value → H) :
    ReturnsInHanded {} Tryd.checked os 5 .any (fun w args => (Rows.entryBackSpec.pre enc Tryd.prog Tryd.f5 [] false w args ∧ laidMetH Tryd.prog laid8 w) ∧ sizedMet enc Tryd.prog Tryd.f5 (OpenSpec.ofChange Rows.entryBackSpec) false w args) (Rows.entryBackSpec.post enc Tryd.prog Tryd.f5 false true false false) := by
  refine returnsInHanded_of_change_and (C := Tryd.checked) (X := fun w _ => laidMetH Tryd.prog laid8 w) (fun _ _ _ hh h => h.of_heap hh) own started (by kernel_rfl) Tryd.func5
    (ChangeSpec.witness_shaped (enc := enc) (C := Tryd.checked) (os := os) (X := fun w _ => laidMetH Tryd.prog laid8 w) false (World.doorLaid Tryd.prog 400 os) #[.int .u16 0, .int .u16 0, .int .u8 0, .int .u8 0, .int .u32 0] 8 rfl (World.shaped_of_RefB (by kernel_rfl) (by kernel_rfl)) (by kernel_rfl) (by kernel_rfl) (by kernel_rfl) (door_met os _)) ?_
  intro W base args ds gs before hval0 hW _ _ hL _
  have hval : ∀ (j : Nat) t v, Tryd.f5.params[j]? = some t → args[j]? = some v → Value.okWide Tryd.prog W .any base t v := hval0
  have hW' := hW
  obtain ⟨p, q, hA0, hV, rfl, hfz, hnd⟩ := hW
  have hA : DataW.TrodAll enc Tryd.prog W 0 (fun _ => true) true Tryd.f5.params.toList args.toList ds p := hA0
  rw [Tryd.params5] at hA hval
  obtain ⟨v0, vs0, d0, ds0, p0, q0, hargs, rfl, rfl, h0, r0⟩ := trodAll_cons hA
  obtain ⟨v1, vs1, d1, ds1, p1, q1, rfl, rfl, rfl, h1, r1⟩ := trodAll_cons r0
  obtain ⟨v2, vs2, d2, ds2, p2, q2, rfl, rfl, rfl, h2, r2⟩ := trodAll_cons r1
  obtain ⟨v3, vs3, d3, ds3, p3, q3, rfl, rfl, rfl, h3, r3⟩ := trodAll_cons r2
  obtain ⟨v4, vs4, d4, ds4, p4, q4, rfl, rfl, rfl, h4, r4⟩ := trodAll_cons r3
  obtain ⟨rfl, rfl, rfl⟩ := trodAll_nil r4
  obtain rfl : args = #[v0, v1, v2, v3, v4] := by cases args; simp_all
  obtain ⟨rfl, rfl⟩ := trodVars_none hV
  have k0 := h0
  have lt0 : ∀ x ∈ p0, x.block < W.heap.size := by obtain ⟨m, hm⟩ := k0; exact DataW.trod_lt m _ _ _ hm
  obtain ⟨a0, rfl, _, _, w0⟩ := open_int Tryd.underlying39 (hval 0 39 v0 rfl rfl) h0
  have k1 := h1
  have lt1 : ∀ x ∈ p1, x.block < W.heap.size := by obtain ⟨m, hm⟩ := k1; exact DataW.trod_lt m _ _ _ hm
  obtain ⟨a1, rfl, _, _, w1⟩ := open_int Tryd.underlying39 (hval 1 39 v1 rfl rfl) h1
  have k2 := h2
  have lt2 : ∀ x ∈ p2, x.block < W.heap.size := by obtain ⟨m, hm⟩ := k2; exact DataW.trod_lt m _ _ _ hm
  obtain ⟨a2, rfl, _, _, w2⟩ := open_int Tryd.underlying5 (hval 2 5 v2 rfl rfl) h2
  have k3 := h3
  have lt3 : ∀ x ∈ p3, x.block < W.heap.size := by obtain ⟨m, hm⟩ := k3; exact DataW.trod_lt m _ _ _ hm
  obtain ⟨a3, rfl, _, _, w3⟩ := open_int Tryd.underlying5 (hval 3 5 v3 rfl rfl) h3
  have k4 := h4
  have lt4 : ∀ x ∈ p4, x.block < W.heap.size := by obtain ⟨m, hm⟩ := k4; exact DataW.trod_lt m _ _ _ hm
  obtain ⟨a4, rfl, _, _, w4⟩ := open_int Tryd.underlying22 (hval 4 22 v4 rfl rfl) h4
  clear hA0 hval0
  refine (walk a0 a1 a2 a3 a4 W w0 w1 w2 w3 w4 (Lib.hid (wid_of_laid hL))).mono fun e W' ⟨he, bel⟩ => ?_
  subst he
  exact ⟨_, rfl, _, _, _, [], _, [], hW', trodAll_mk1 (shut_bool Tryd.underlying4 _), (trodAll_cons_mk (Below.trod laidOut (by kernel_rfl) (of_decide_eq_true (by kernel_rfl)) k0 bel lt0) (trodAll_cons_mk (Below.trod laidOut (by kernel_rfl) (of_decide_eq_true (by kernel_rfl)) k1 bel lt1) (trodAll_cons_mk (Below.trod laidOut (by kernel_rfl) (of_decide_eq_true (by kernel_rfl)) k2 bel lt2) (trodAll_cons_mk (Below.trod laidOut (by kernel_rfl) (of_decide_eq_true (by kernel_rfl)) k3 bel lt3) (trodAll_cons_mk (Below.trod laidOut (by kernel_rfl) (of_decide_eq_true (by kernel_rfl)) k4 bel lt4) trodAll_mk0))))), rfl, bel.frame _, fun h => by cases h⟩

theorem over : Rows.entryBackRow.holds Tryd.pinned (OpenSpec.ofChange Rows.entryBackSpec) :=
  OpenClaim.holds_of_wide 5 Tryd.f5 rfl rfl rfl rfl rfl rfl rfl ⟨rfl, rfl, rfl, rfl, rfl⟩ rfl rfl rfl rfl rfl (by kernel_rfl) Tryd.func5 (by kernel_rfl)
    (of_decide_eq_true (by kernel_rfl)) (by unfold Func.isWrapper; first | (rw [if_pos (by decide +kernel)]; kernel_rfl) | (rw [if_neg (by decide +kernel)]; exact ⟨rfl, rfl⟩))
    (fun os started H enc _ => lifted os started H enc)

/-- The statement: the row's card, its listed variable tied to the program's text. -/
theorem proved : Rows.EntryBackCardSaid :=
  Claim7.holds_tied_plain_at .later [] [.data] true (true, "e0b7cfd3de9f31e07b616b5c378574e112246cc00a1ec29ffeb7ff8201922e66") false
    over (fun _ h => by cases h) (by kernel_rfl) (fun _ h => by cases h) entryBack_row_tie rfl ⟨rfl, rfl⟩ (by kernel_rfl) rfl
    (fun f fn hf hfn => by
      obtain rfl : f = 5 := Option.some.inj ((show Tryd.prog.funcNamed "matryoshka/matryoshkalaw7.EntryBack" = some 5 by kernel_rfl).symm.trans hf) |>.symm
      obtain rfl : fn = Tryd.f5 := (Option.some.inj (Tryd.func5.symm.trans hfn)).symm
      exact ⟨by kernel_rfl, fun j t ht => by
        rw [Tryd.params5] at ht
        have hm : t ∈ [39, 39, 5, 5, 22] := by simpa using Array.mem_of_getElem? ht
        have hall : ([39, 39, 5, 5, 22].all fun u => !Tryd.prog.wantsStandIn u) = true := by kernel_rfl
        exact (show Tryd.prog.wantsStandIn t = false by simpa using List.all_eq_true.1 hall t hm)⟩)
    (by kernel_rfl)
#print axioms proved
end Go.Proofs.YtondacmkgaabkaaDoor.entryBack
