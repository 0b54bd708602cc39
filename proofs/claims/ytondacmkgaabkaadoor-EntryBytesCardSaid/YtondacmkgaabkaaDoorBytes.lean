/-
  Proved: 'matryoshkalaw7.EntryBytes' returns true for every input, and each argument reads afterwards as before: the statement EntryBytesSaid as given. Conditions: none beyond the row's own.
-/
import Derived.Test.YtondacmkgaabkaaDoorRows
import Derived.Test.YtondacmkgaabkaaDoorV8
import Derived.Test.YtondacmkgaabkaaDoorTie
import Derived.Test.YtondacmkgaabkaaDoorCards
import Derived.SevenTiedAt
import Derived.LaidLaws
import Derived.Stop.Joined
import Derived.Test.YtondacmkgaabkaaDoorF8
import Derived.Test.YtondacmkgaabkaaDoorG8
import Derived.WalkKit
import Derived.ProofKit
import Derived.OpenShut
import Derived.ShutString
import Derived.ChangeOld
import Derived.Below
namespace Go.Proofs.YtondacmkgaabkaaDoor.entryBytes
open Go.ChangeShapes Go.WideShapes Go.ChangeAt Go.RowKit
open Go.ChangeMaps (open_string shut_string)
set_option linter.unusedVariables false

theorem own : ownKnob Tryd.prog.godebug = none := by kernel_rfl
theorem laidOut : laidOutB Tryd.prog = true := by kernel_rfl

set_option maxRecDepth 100000 in
set_option maxHeartbeats 4000000 in
theorem walk (a0 : Int) (a1 : Int) (a2 : Int) (a3 : Int) (a4 : Int) (w : World) (w0 : (Lit.int .u16 a0).wf = true) (w1 : (Lit.int .u16 a1).wf = true) (w2 : (Lit.int .u8 a2).wf = true) (w3 : (Lit.int .u8 a3).wf = true) (w4 : (Lit.int .u8 a4).wf = true) (HWD : Hid (Wid w)) :
    Calls Tryd.prog 6 #[.int .u16 a0, .int .u16 a1, .int .u8 a2, .int .u8 a3, .int .u8 a4] w fun e w' => e = .returned (.bool true) ∧ Below w.heap.size w w' := by
  have b0 := bounds_u16 w0
  have b1 := bounds_u16 w1
  have b2 := bounds_u8 w2
  have b3 := bounds_u8 w3
  have b4 := bounds_u8 w4
  obtain ⟨C, hC⟩ : ∃ C : Nat, a2 % 7 = C := ⟨(a2 % 7).toNat, by omega⟩
  have hC2 : a2.tmod 7 = C := by rw [Int.tmod_eq_emod_of_nonneg (by omega)]; exact hC
  have hC6 : C ≤ 6 := by omega
  obtain ⟨P, hP⟩ := named ((2 : Int) ^ C)
  have hPb := pow_le6 (c := (C : Int)) (by omega)
  rw [Int.toNat_natCast, hP.out] at hPb
  obtain ⟨hp1, hp2⟩ := hPb
  have hPP : wrap64 (2 ^ C) = P := by rw [hP.out]; unfold wrap64; omega
  obtain ⟨S1, hS1⟩ : ∃ K, a0 % 60000 = K := ⟨_, rfl⟩
  have hS2 : a0.tmod 60000 = S1 := by rw [Int.tmod_eq_emod_of_nonneg (by omega)]; exact hS1
  obtain ⟨hS3, hS4⟩ : 0 ≤ S1 ∧ S1 < 60000 := by omega
  obtain ⟨S, hS⟩ : ∃ K, 2 + S1 = K := ⟨_, rfl⟩
  obtain ⟨hs1, hs2⟩ : 2 ≤ S ∧ S ≤ 60001 := by omega
  obtain ⟨Q, hQ⟩ : ∃ C : Nat, a3 % 16 = C := ⟨(a3 % 16).toNat, by omega⟩
  have hQ2 : a3.tmod 16 = Q := by rw [Int.tmod_eq_emod_of_nonneg (by omega)]; exact hQ
  have hQ6 : Q < 16 := by omega
  obtain ⟨R, hR⟩ : ∃ K, a4 % 255 = K := ⟨_, rfl⟩
  have hR2 : a4.tmod 255 = R := by rw [Int.tmod_eq_emod_of_nonneg (by omega)]; exact hR
  obtain ⟨hR3, hR4⟩ : 0 ≤ R ∧ R < 255 := by omega
  obtain ⟨T, hT⟩ : ∃ K, 1 + R = K := ⟨_, rfl⟩
  obtain ⟨ht1, ht2⟩ : 1 ≤ T ∧ T < 256 := by omega
  have M1 : MayE (2, S, P, 0, a1) (C : Int) := by unfold MayE; rw [Int.toNat_natCast, hP.out]; dsimp only; omega
  have O1 : EnOk (2, S, P, 0, a1) := by unfold EnOk I64; dsimp only; omega
  have HP := Lib.hid (fun w (h : Wid w) => entryPut_own M1 O1 w h)
  have hlen := enB_len (2, S, P, 0, a1)
  have hbd := getD_bd (enB_bd (2, S, P, 0, a1)) Q (by omega)
  obtain ⟨V, hV, hV1, hV2⟩ := xor_turn hbd.1 hbd.2 ht1 ht2
  obtain ⟨k, s, n, z, m, err, hA, hE, hcase⟩ := got_is (getE ((enB (2, S, P, 0, a1)).set Q V) C)
  have hcase2 : (err = 3 ∧ k = 0 ∧ s = 0 ∧ n = 0 ∧ z = 0 ∧ m = 0) ∨ (err = 0 ∧ (k ≠ 2 ∨ (k = 2 ∧ s ≠ S) ∨ (k = 2 ∧ s = S ∧ n ≠ P) ∨ (k = 2 ∧ s = S ∧ n = P ∧ z ≠ 0) ∨ (k = 2 ∧ s = S ∧ n = P ∧ z = 0 ∧ m ≠ a1))) := by
    rcases hcase with ⟨_, h1, h2, h3, h4, h5, h6⟩ | ⟨h1, h2⟩
    · exact Or.inl ⟨h1, h2, h3, h4, h5, h6⟩
    · refine Or.inr ⟨h2, ?_⟩
      have hne := turned hQ6 hV1 hV2 h1
      by_cases q1 : k = 2
      · by_cases q2 : s = S
        · by_cases q3 : n = P
          · by_cases q4 : z = 0
            · exact Or.inr (Or.inr (Or.inr (Or.inr ⟨q1, q2, q3, q4, fun e => hne (by rw [q1, q2, q3, q4, e])⟩)))
            · exact Or.inr (Or.inr (Or.inr (Or.inl ⟨q1, q2, q3, q4⟩)))
          · exact Or.inr (Or.inr (Or.inl ⟨q1, q2, q3⟩))
        · exact Or.inr (Or.inl ⟨q1, q2⟩)
      · exact Or.inl q1
  obtain ⟨D, hD⟩ := named (enB (2, S, P, 0, a1))
  rw [hD.out] at HP hlen hbd hV hV2 hA hE hcase
  obtain ⟨v0, hv0⟩ := named (D.getD Q 0)
  rw [hv0.out] at hbd hV hV2
  have HGT : Hid (∀ (w1 : World) (a : Option Addr) (c' : Nat), Bytes w1 a 16 (D.set Q V) → 16 ≤ c' → Wid w1 → Calls Tryd.prog 14 #[.slice a 16 c', .int .i64 C] w1 fun e w' => e = .returned (.tuple #[.agg #[.int .i64 k, .int .i64 s, .int .i64 n, .int .i64 z, .int .u32 m], .int .i64 err]) ∧ Below w1.heap.size w1 w') := fun w1 a c' h h2 hw1 => (entryGet_any w1 a 16 c' _ C h h2 hw1).mono fun e w' h => h.at hA hE
  obtain ⟨X, hX⟩ := named w.heap.size
  have hXX := hX.out
  have HX0 : Hid (Blk (w.alloc (.cells #[.int .i64 2, .int .i64 S, .int .i64 P, .int .i64 0, .int .u32 a1] 24)) X 24 #[.int .i64 2, .int .i64 S, .int .i64 P, .int .i64 0, .int .u32 a1]) := by rw [← hX.out]; exact Blk.new w _ _
  have HG0 : Hid (Below X w (w.alloc (.cells #[.int .i64 2, .int .i64 S, .int .i64 P, .int .i64 0, .int .u32 a1] 24))) := by rw [← hX.out]; exact (Below.refl _ _).alloc (Nat.le_refl _) _
  have HSZ : Hid (w.heap.size = X) := hXX
  have HV1 := Lib.hid hV1
  clear w0 w1 w2 w3 w4 M1 O1 hlen hcase hA hE hV1 hV2 hD hX
  obtain ⟨hbd1, hbd2⟩ := hbd
  rw [hXX]
  rcases hcase2 with ⟨rfl, rfl, rfl, rfl, rfl, rfl⟩ | ⟨rfl, h | ⟨rfl, h⟩ | ⟨rfl, rfl, h⟩ | ⟨rfl, rfl, rfl, h⟩ | ⟨rfl, rfl, rfl, rfl, h⟩⟩
  · go_enter Tryd.func6, Tryd.ntmps6
    go_wp2_with (first
      | (go_at_call 12; go_in)
      | (go_at_call 8; (with_reducible refine (HP.out _ (HWD.out.below HG0.out (Nat.le_of_eq HSZ.out))).mono ?_); rintro e w1 ⟨g, c1, rfl, hO, hb⟩; have hXg : X < g := (by have h1 := (hO.1.lt g rfl).1; have h2 := HX0.out.lt; omega); have hcell : w1.cell? ⟨g, Q, none⟩ = some (.int .u8 v0) := (by rw [hO.cell Q hQ6, hv0.out]); have hfr := hO.free Q; have HO := Lib.hid (hO.put Q V HV1.out); have HX1 := Lib.hid ((HX0.out.later hb).other (B' := g) (i := Q) (by omega) (.int .u8 V)); have HG1 := Lib.hid ((HG0.out.trans (hb.mono (Nat.le_trans (Nat.le_of_eq HSZ.out.symm) HG0.out.size))).setCell (p := ⟨g, Q, none⟩) (Nat.le_of_lt hXg) (.int .u8 V)); clear hO hb HP)
      | (go_at_call 14; (with_reducible refine (HGT.out _ _ _ HO.out.bytes.1 HO.out.capOk (HWD.out.below HG1.out (Nat.le_of_eq HSZ.out))).mono ?_); rintro e w2 ⟨rfl, hb⟩; have HX2 := Lib.hid ((HX1.out.later hb).alloc (.cells #[.int .i64 0, .int .i64 0, .int .i64 0, .int .i64 0, .int .u32 0] 24)); obtain ⟨j0, j1, j2, j3, j4⟩ := cells5 HX2.out; have HG2 := Lib.hid (HG1.out.trans (hb.mono (Nat.le_trans (Nat.le_of_eq HSZ.out.symm) HG1.out.size))); have HG3 := Lib.hid (HG2.out.alloc (Nat.le_trans (Nat.le_of_eq HSZ.out.symm) HG2.out.size) (.cells #[.int .i64 0, .int .i64 0, .int .i64 0, .int .i64 0, .int .u32 0] 24)); clear hb HGT)
      | (go_at_call 13; (with_reducible refine (awake_any8 (HWD.out.below HG3.out (Nat.le_of_eq HSZ.out))).mono ?_); rintro e w7 ⟨rfl, g⟩; have HZ := Lib.hid (HG3.out.trans (g.mono (Nat.le_trans (Nat.le_of_eq HSZ.out.symm) HG3.out.size))); clear g))
    go_ret
    exact ⟨rfl, HZ.out⟩
  · go_enter Tryd.func6, Tryd.ntmps6
    go_wp2_with (first
      | (go_at_call 12; go_in)
      | (go_at_call 8; (with_reducible refine (HP.out _ (HWD.out.below HG0.out (Nat.le_of_eq HSZ.out))).mono ?_); rintro e w1 ⟨g, c1, rfl, hO, hb⟩; have hXg : X < g := (by have h1 := (hO.1.lt g rfl).1; have h2 := HX0.out.lt; omega); have hcell : w1.cell? ⟨g, Q, none⟩ = some (.int .u8 v0) := (by rw [hO.cell Q hQ6, hv0.out]); have hfr := hO.free Q; have HO := Lib.hid (hO.put Q V HV1.out); have HX1 := Lib.hid ((HX0.out.later hb).other (B' := g) (i := Q) (by omega) (.int .u8 V)); have HG1 := Lib.hid ((HG0.out.trans (hb.mono (Nat.le_trans (Nat.le_of_eq HSZ.out.symm) HG0.out.size))).setCell (p := ⟨g, Q, none⟩) (Nat.le_of_lt hXg) (.int .u8 V)); clear hO hb HP)
      | (go_at_call 14; (with_reducible refine (HGT.out _ _ _ HO.out.bytes.1 HO.out.capOk (HWD.out.below HG1.out (Nat.le_of_eq HSZ.out))).mono ?_); rintro e w2 ⟨rfl, hb⟩; have HX2 := Lib.hid ((HX1.out.later hb).alloc (.cells #[.int .i64 k, .int .i64 s, .int .i64 n, .int .i64 z, .int .u32 m] 24)); obtain ⟨j0, j1, j2, j3, j4⟩ := cells5 HX2.out; have HG2 := Lib.hid (HG1.out.trans (hb.mono (Nat.le_trans (Nat.le_of_eq HSZ.out.symm) HG1.out.size))); have HG3 := Lib.hid (HG2.out.alloc (Nat.le_trans (Nat.le_of_eq HSZ.out.symm) HG2.out.size) (.cells #[.int .i64 k, .int .i64 s, .int .i64 n, .int .i64 z, .int .u32 m] 24)); clear hb HGT)
      | (go_at_call 13; (with_reducible refine (awake_any8 (HWD.out.below HG3.out (Nat.le_of_eq HSZ.out))).mono ?_); rintro e w7 ⟨rfl, g⟩; have HZ := Lib.hid (HG3.out.trans (g.mono (Nat.le_trans (Nat.le_of_eq HSZ.out.symm) HG3.out.size))); clear g))
    go_ret
    exact ⟨rfl, HZ.out⟩
  · go_enter Tryd.func6, Tryd.ntmps6
    go_wp2_with (first
      | (go_at_call 12; go_in)
      | (go_at_call 8; (with_reducible refine (HP.out _ (HWD.out.below HG0.out (Nat.le_of_eq HSZ.out))).mono ?_); rintro e w1 ⟨g, c1, rfl, hO, hb⟩; have hXg : X < g := (by have h1 := (hO.1.lt g rfl).1; have h2 := HX0.out.lt; omega); have hcell : w1.cell? ⟨g, Q, none⟩ = some (.int .u8 v0) := (by rw [hO.cell Q hQ6, hv0.out]); have hfr := hO.free Q; have HO := Lib.hid (hO.put Q V HV1.out); have HX1 := Lib.hid ((HX0.out.later hb).other (B' := g) (i := Q) (by omega) (.int .u8 V)); have HG1 := Lib.hid ((HG0.out.trans (hb.mono (Nat.le_trans (Nat.le_of_eq HSZ.out.symm) HG0.out.size))).setCell (p := ⟨g, Q, none⟩) (Nat.le_of_lt hXg) (.int .u8 V)); clear hO hb HP)
      | (go_at_call 14; (with_reducible refine (HGT.out _ _ _ HO.out.bytes.1 HO.out.capOk (HWD.out.below HG1.out (Nat.le_of_eq HSZ.out))).mono ?_); rintro e w2 ⟨rfl, hb⟩; have HX2 := Lib.hid ((HX1.out.later hb).alloc (.cells #[.int .i64 2, .int .i64 s, .int .i64 n, .int .i64 z, .int .u32 m] 24)); obtain ⟨j0, j1, j2, j3, j4⟩ := cells5 HX2.out; have HG2 := Lib.hid (HG1.out.trans (hb.mono (Nat.le_trans (Nat.le_of_eq HSZ.out.symm) HG1.out.size))); have HG3 := Lib.hid (HG2.out.alloc (Nat.le_trans (Nat.le_of_eq HSZ.out.symm) HG2.out.size) (.cells #[.int .i64 2, .int .i64 s, .int .i64 n, .int .i64 z, .int .u32 m] 24)); clear hb HGT)
      | (go_at_call 13; (with_reducible refine (awake_any8 (HWD.out.below HG3.out (Nat.le_of_eq HSZ.out))).mono ?_); rintro e w7 ⟨rfl, g⟩; have HZ := Lib.hid (HG3.out.trans (g.mono (Nat.le_trans (Nat.le_of_eq HSZ.out.symm) HG3.out.size))); clear g))
    go_ret
    exact ⟨rfl, HZ.out⟩
  · go_enter Tryd.func6, Tryd.ntmps6
    go_wp2_with (first
      | (go_at_call 12; go_in)
      | (go_at_call 8; (with_reducible refine (HP.out _ (HWD.out.below HG0.out (Nat.le_of_eq HSZ.out))).mono ?_); rintro e w1 ⟨g, c1, rfl, hO, hb⟩; have hXg : X < g := (by have h1 := (hO.1.lt g rfl).1; have h2 := HX0.out.lt; omega); have hcell : w1.cell? ⟨g, Q, none⟩ = some (.int .u8 v0) := (by rw [hO.cell Q hQ6, hv0.out]); have hfr := hO.free Q; have HO := Lib.hid (hO.put Q V HV1.out); have HX1 := Lib.hid ((HX0.out.later hb).other (B' := g) (i := Q) (by omega) (.int .u8 V)); have HG1 := Lib.hid ((HG0.out.trans (hb.mono (Nat.le_trans (Nat.le_of_eq HSZ.out.symm) HG0.out.size))).setCell (p := ⟨g, Q, none⟩) (Nat.le_of_lt hXg) (.int .u8 V)); clear hO hb HP)
      | (go_at_call 14; (with_reducible refine (HGT.out _ _ _ HO.out.bytes.1 HO.out.capOk (HWD.out.below HG1.out (Nat.le_of_eq HSZ.out))).mono ?_); rintro e w2 ⟨rfl, hb⟩; have HX2 := Lib.hid ((HX1.out.later hb).alloc (.cells #[.int .i64 2, .int .i64 s, .int .i64 n, .int .i64 z, .int .u32 m] 24)); obtain ⟨j0, j1, j2, j3, j4⟩ := cells5 HX2.out; have HG2 := Lib.hid (HG1.out.trans (hb.mono (Nat.le_trans (Nat.le_of_eq HSZ.out.symm) HG1.out.size))); have HG3 := Lib.hid (HG2.out.alloc (Nat.le_trans (Nat.le_of_eq HSZ.out.symm) HG2.out.size) (.cells #[.int .i64 2, .int .i64 s, .int .i64 n, .int .i64 z, .int .u32 m] 24)); clear hb HGT)
      | (go_at_call 13; (with_reducible refine (awake_any8 (HWD.out.below HG3.out (Nat.le_of_eq HSZ.out))).mono ?_); rintro e w7 ⟨rfl, g⟩; have HZ := Lib.hid (HG3.out.trans (g.mono (Nat.le_trans (Nat.le_of_eq HSZ.out.symm) HG3.out.size))); clear g))
    go_ret
    exact ⟨rfl, HZ.out⟩
  · go_enter Tryd.func6, Tryd.ntmps6
    go_wp2_with (first
      | (go_at_call 12; go_in)
      | (go_at_call 8; (with_reducible refine (HP.out _ (HWD.out.below HG0.out (Nat.le_of_eq HSZ.out))).mono ?_); rintro e w1 ⟨g, c1, rfl, hO, hb⟩; have hXg : X < g := (by have h1 := (hO.1.lt g rfl).1; have h2 := HX0.out.lt; omega); have hcell : w1.cell? ⟨g, Q, none⟩ = some (.int .u8 v0) := (by rw [hO.cell Q hQ6, hv0.out]); have hfr := hO.free Q; have HO := Lib.hid (hO.put Q V HV1.out); have HX1 := Lib.hid ((HX0.out.later hb).other (B' := g) (i := Q) (by omega) (.int .u8 V)); have HG1 := Lib.hid ((HG0.out.trans (hb.mono (Nat.le_trans (Nat.le_of_eq HSZ.out.symm) HG0.out.size))).setCell (p := ⟨g, Q, none⟩) (Nat.le_of_lt hXg) (.int .u8 V)); clear hO hb HP)
      | (go_at_call 14; (with_reducible refine (HGT.out _ _ _ HO.out.bytes.1 HO.out.capOk (HWD.out.below HG1.out (Nat.le_of_eq HSZ.out))).mono ?_); rintro e w2 ⟨rfl, hb⟩; have HX2 := Lib.hid ((HX1.out.later hb).alloc (.cells #[.int .i64 2, .int .i64 s, .int .i64 n, .int .i64 z, .int .u32 m] 24)); obtain ⟨j0, j1, j2, j3, j4⟩ := cells5 HX2.out; have HG2 := Lib.hid (HG1.out.trans (hb.mono (Nat.le_trans (Nat.le_of_eq HSZ.out.symm) HG1.out.size))); have HG3 := Lib.hid (HG2.out.alloc (Nat.le_trans (Nat.le_of_eq HSZ.out.symm) HG2.out.size) (.cells #[.int .i64 2, .int .i64 s, .int .i64 n, .int .i64 z, .int .u32 m] 24)); clear hb HGT)
      | (go_at_call 13; (with_reducible refine (awake_any8 (HWD.out.below HG3.out (Nat.le_of_eq HSZ.out))).mono ?_); rintro e w7 ⟨rfl, g⟩; have HZ := Lib.hid (HG3.out.trans (g.mono (Nat.le_trans (Nat.le_of_eq HSZ.out.symm) HG3.out.size))); clear g))
    go_ret
    exact ⟨rfl, HZ.out⟩
  · go_enter Tryd.func6, Tryd.ntmps6
    go_wp2_with (first
      | (go_at_call 12; go_in)
      | (go_at_call 8; (with_reducible refine (HP.out _ (HWD.out.below HG0.out (Nat.le_of_eq HSZ.out))).mono ?_); rintro e w1 ⟨g, c1, rfl, hO, hb⟩; have hXg : X < g := (by have h1 := (hO.1.lt g rfl).1; have h2 := HX0.out.lt; omega); have hcell : w1.cell? ⟨g, Q, none⟩ = some (.int .u8 v0) := (by rw [hO.cell Q hQ6, hv0.out]); have hfr := hO.free Q; have HO := Lib.hid (hO.put Q V HV1.out); have HX1 := Lib.hid ((HX0.out.later hb).other (B' := g) (i := Q) (by omega) (.int .u8 V)); have HG1 := Lib.hid ((HG0.out.trans (hb.mono (Nat.le_trans (Nat.le_of_eq HSZ.out.symm) HG0.out.size))).setCell (p := ⟨g, Q, none⟩) (Nat.le_of_lt hXg) (.int .u8 V)); clear hO hb HP)
      | (go_at_call 14; (with_reducible refine (HGT.out _ _ _ HO.out.bytes.1 HO.out.capOk (HWD.out.below HG1.out (Nat.le_of_eq HSZ.out))).mono ?_); rintro e w2 ⟨rfl, hb⟩; have HX2 := Lib.hid ((HX1.out.later hb).alloc (.cells #[.int .i64 2, .int .i64 s, .int .i64 n, .int .i64 0, .int .u32 m] 24)); obtain ⟨j0, j1, j2, j3, j4⟩ := cells5 HX2.out; have HG2 := Lib.hid (HG1.out.trans (hb.mono (Nat.le_trans (Nat.le_of_eq HSZ.out.symm) HG1.out.size))); have HG3 := Lib.hid (HG2.out.alloc (Nat.le_trans (Nat.le_of_eq HSZ.out.symm) HG2.out.size) (.cells #[.int .i64 2, .int .i64 s, .int .i64 n, .int .i64 0, .int .u32 m] 24)); clear hb HGT)
      | (go_at_call 13; (with_reducible refine (awake_any8 (HWD.out.below HG3.out (Nat.le_of_eq HSZ.out))).mono ?_); rintro e w7 ⟨rfl, g⟩; have HZ := Lib.hid (HG3.out.trans (g.mono (Nat.le_trans (Nat.le_of_eq HSZ.out.symm) HG3.out.size))); clear g))
    go_ret
    exact ⟨rfl, HZ.out⟩

set_option maxRecDepth 100000 in
theorem lifted (os : Os) (started : os.Started) (H : Type) (enc : TypeId × Value → H) :
    ReturnsInHanded {} Tryd.checked os 6 .any (fun w args => (Rows.entryBytesSpec.pre enc Tryd.prog Tryd.f6 [] false w args ∧ laidMetH Tryd.prog laid8 w) ∧ sizedMet enc Tryd.prog Tryd.f6 (OpenSpec.ofChange Rows.entryBytesSpec) false w args) (Rows.entryBytesSpec.post enc Tryd.prog Tryd.f6 false true false false) := by
  refine returnsInHanded_of_change_and (C := Tryd.checked) (X := fun w _ => laidMetH Tryd.prog laid8 w) (fun _ _ _ hh h => h.of_heap hh) own started (by kernel_rfl) Tryd.func6
    (ChangeSpec.witness_shaped (enc := enc) (C := Tryd.checked) (os := os) (X := fun w _ => laidMetH Tryd.prog laid8 w) false (World.doorLaid Tryd.prog 400 os) #[.int .u16 0, .int .u16 0, .int .u8 0, .int .u8 0, .int .u8 0] 8 rfl (World.shaped_of_RefB (by kernel_rfl) (by kernel_rfl)) (by kernel_rfl) (by kernel_rfl) (by kernel_rfl) (door_met os _)) ?_
  intro W base args ds gs before hval0 hW _ _ hL _
  have hval : ∀ (j : Nat) t v, Tryd.f6.params[j]? = some t → args[j]? = some v → Value.okWide Tryd.prog W .any base t v := hval0
  have hW' := hW
  obtain ⟨p, q, hA0, hV, rfl, hfz, hnd⟩ := hW
  have hA : DataW.TrodAll enc Tryd.prog W 0 (fun _ => true) true Tryd.f6.params.toList args.toList ds p := hA0
  rw [Tryd.params6] at hA hval
  obtain ⟨v0, vs0, d0, ds0, p0, q0, hargs, rfl, rfl, h0, r0⟩ := trodAll_cons hA
  obtain ⟨v1, vs1, d1, ds1, p1, q1, rfl, rfl, rfl, h1, r1⟩ := trodAll_cons r0
  obtain ⟨v2, vs2, d2, ds2, p2, q2, rfl, rfl, rfl, h2, r2⟩ := trodAll_cons r1
  obtain ⟨v3, vs3, d3, ds3, p3, q3, rfl, rfl, rfl, h3, r3⟩ := trodAll_cons r2
  obtain ⟨v4, vs4, d4, ds4, p4, q4, rfl, rfl, rfl, h4, r4⟩ := trodAll_cons r3
  obtain ⟨rfl, rfl, rfl⟩ := trodAll_nil r4
  obtain rfl : args = #[v0, v1, v2, v3, v4] := by cases args; simp_all
  obtain ⟨rfl, rfl⟩ := trodVars_none hV
  have k0 := h0
  have lt0 : ∀ x ∈ p0, x.block < W.heap.size := by obtain ⟨m, hm⟩ := k0; exact DataW.trod_lt m _ _ _ hm
  obtain ⟨a0, rfl, _, _, w0⟩ := open_int Tryd.underlying39 (hval 0 39 v0 rfl rfl) h0
  have k1 := h1
  have lt1 : ∀ x ∈ p1, x.block < W.heap.size := by obtain ⟨m, hm⟩ := k1; exact DataW.trod_lt m _ _ _ hm
  obtain ⟨a1, rfl, _, _, w1⟩ := open_int Tryd.underlying39 (hval 1 39 v1 rfl rfl) h1
  have k2 := h2
  have lt2 : ∀ x ∈ p2, x.block < W.heap.size := by obtain ⟨m, hm⟩ := k2; exact DataW.trod_lt m _ _ _ hm
  obtain ⟨a2, rfl, _, _, w2⟩ := open_int Tryd.underlying5 (hval 2 5 v2 rfl rfl) h2
  have k3 := h3
  have lt3 : ∀ x ∈ p3, x.block < W.heap.size := by obtain ⟨m, hm⟩ := k3; exact DataW.trod_lt m _ _ _ hm
  obtain ⟨a3, rfl, _, _, w3⟩ := open_int Tryd.underlying5 (hval 3 5 v3 rfl rfl) h3
  have k4 := h4
  have lt4 : ∀ x ∈ p4, x.block < W.heap.size := by obtain ⟨m, hm⟩ := k4; exact DataW.trod_lt m _ _ _ hm
  obtain ⟨a4, rfl, _, _, w4⟩ := open_int Tryd.underlying5 (hval 4 5 v4 rfl rfl) h4
  clear hA0 hval0
  refine (walk a0 a1 a2 a3 a4 W w0 w1 w2 w3 w4 (Lib.hid (wid_of_laid hL))).mono fun e W' ⟨he, bel⟩ => ?_
  subst he
  exact ⟨_, rfl, _, _, _, [], _, [], hW', trodAll_mk1 (shut_bool Tryd.underlying4 _), (trodAll_cons_mk (Below.trod laidOut (by kernel_rfl) (of_decide_eq_true (by kernel_rfl)) k0 bel lt0) (trodAll_cons_mk (Below.trod laidOut (by kernel_rfl) (of_decide_eq_true (by kernel_rfl)) k1 bel lt1) (trodAll_cons_mk (Below.trod laidOut (by kernel_rfl) (of_decide_eq_true (by kernel_rfl)) k2 bel lt2) (trodAll_cons_mk (Below.trod laidOut (by kernel_rfl) (of_decide_eq_true (by kernel_rfl)) k3 bel lt3) (trodAll_cons_mk (Below.trod laidOut (by kernel_rfl) (of_decide_eq_true (by kernel_rfl)) k4 bel lt4) trodAll_mk0))))), rfl, bel.frame _, fun h => by cases h⟩

theorem over : Rows.entryBytesRow.holds Tryd.pinned (OpenSpec.ofChange Rows.entryBytesSpec) :=
  OpenClaim.holds_of_wide 6 Tryd.f6 rfl rfl rfl rfl rfl rfl rfl ⟨rfl, rfl, rfl, rfl, rfl⟩ rfl rfl rfl rfl rfl (by kernel_rfl) Tryd.func6 (by kernel_rfl)
    (of_decide_eq_true (by kernel_rfl)) (by unfold Func.isWrapper; first | (rw [if_pos (by decide +kernel)]; kernel_rfl) | (rw [if_neg (by decide +kernel)]; exact ⟨rfl, rfl⟩))
    (fun os started H enc _ => lifted os started H enc)

/-- The statement: the row's card, its listed variable tied to the program's text. -/
theorem proved : Rows.EntryBytesCardSaid :=
  Claim7.holds_tied_plain_at .later [] [.data] true (true, "e0b7cfd3de9f31e07b616b5c378574e112246cc00a1ec29ffeb7ff8201922e66") false
    over (fun _ h => by cases h) (by kernel_rfl) (fun _ h => by cases h) entryBytes_row_tie rfl ⟨rfl, rfl⟩ (by kernel_rfl) rfl
    (fun f fn hf hfn => by
      obtain rfl : f = 6 := Option.some.inj ((show Tryd.prog.funcNamed "matryoshka/matryoshkalaw7.EntryBytes" = some 6 by kernel_rfl).symm.trans hf) |>.symm
      obtain rfl : fn = Tryd.f6 := (Option.some.inj (Tryd.func6.symm.trans hfn)).symm
      exact ⟨by kernel_rfl, fun j t ht => by
        rw [Tryd.params6] at ht
        have hm : t ∈ [39, 39, 5, 5, 5] := by simpa using Array.mem_of_getElem? ht
        have hall : ([39, 39, 5, 5, 5].all fun u => !Tryd.prog.wantsStandIn u) = true := by kernel_rfl
        exact (show Tryd.prog.wantsStandIn t = false by simpa using List.all_eq_true.1 hall t hm)⟩)
    (by kernel_rfl)
#print axioms proved
end Go.Proofs.YtondacmkgaabkaaDoor.entryBytes
