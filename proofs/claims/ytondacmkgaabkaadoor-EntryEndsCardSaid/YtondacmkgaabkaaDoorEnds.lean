/-
  Proved: 'matryoshkalaw7.EntryEnds' returns true for every input, and each argument reads afterwards as before: the statement EntryEndsSaid as given. Conditions: none beyond the row's own.
-/
import Derived.Test.YtondacmkgaabkaaDoorRows
import Derived.Test.YtondacmkgaabkaaDoorV8
import Derived.Test.YtondacmkgaabkaaDoorTie
import Derived.Test.YtondacmkgaabkaaDoorCards
import Derived.SevenTiedAt
import Derived.LaidLaws
import Derived.Stop.Joined
import Derived.Test.YtondacmkgaabkaaDoorF8
import Derived.WalkKit
import Derived.ProofKit
import Derived.OpenShut
import Derived.ShutString
import Derived.ChangeOld
import Derived.Below
namespace Go.Proofs.YtondacmkgaabkaaDoor.entryEnds
open Go.ChangeShapes Go.WideShapes Go.ChangeAt Go.RowKit
open Go.ChangeMaps (open_string shut_string)
set_option linter.unusedVariables false

theorem own : ownKnob Tryd.prog.godebug = none := by kernel_rfl
theorem laidOut : laidOutB Tryd.prog = true := by kernel_rfl

set_option maxRecDepth 100000 in
set_option maxHeartbeats 4000000 in
theorem walk (a0 : Int) (a1 : Int) (w : World) (w0 : (Lit.int .u8 a0).wf = true) (w1 : (Lit.int .u8 a1).wf = true) (HWD : Hid (Wid w)) :
    Calls Tryd.prog 7 #[.int .u8 a0, .int .u8 a1] w fun e w' => e = .returned (.bool true) ∧ Below w.heap.size w w' := by
  have b0 := bounds_u8 w0
  have b1 := bounds_u8 w1
  obtain ⟨C, hC⟩ : ∃ C : Nat, a0 % 7 = C := ⟨(a0 % 7).toNat, by omega⟩
  have hC2 : a0.tmod 7 = C := by rw [Int.tmod_eq_emod_of_nonneg (by omega)]; exact hC
  have hC6 : C ≤ 6 := by omega
  obtain ⟨P, hP⟩ := named ((2 : Int) ^ C)
  have hPb := pow_le6 (c := (C : Int)) (by omega)
  rw [Int.toNat_natCast, hP.out] at hPb
  obtain ⟨hp1, hp2⟩ := hPb
  have hPP : wrap64 (2 ^ C) = P := by rw [hP.out]; unfold wrap64; omega
  obtain ⟨K1, hK1⟩ : ∃ K, a1 % 63 = K := ⟨_, rfl⟩
  have hK2 : a1.tmod 63 = K1 := by rw [Int.tmod_eq_emod_of_nonneg (by omega)]; exact hK1
  obtain ⟨hK3, hK4⟩ : 0 ≤ K1 ∧ K1 ≤ 62 := by omega
  obtain ⟨Kk, hKk⟩ : ∃ K, 1 + K1 = K := ⟨_, rfl⟩
  obtain ⟨A1, hA1⟩ : ∃ A, 65536 - P = A := ⟨_, rfl⟩
  obtain ⟨A2, hA2⟩ : ∃ A, 65537 - P = A := ⟨_, rfl⟩
  obtain ⟨Z1, hZ1⟩ : ∃ A, 16 * Kk = A := ⟨_, rfl⟩
  obtain ⟨Z2, hZ2⟩ : ∃ A, Z1 + 1 = A := ⟨_, rfl⟩
  obtain ⟨Z3, hZ3⟩ : ∃ A, Z1 - 16 = A := ⟨_, rfl⟩
  obtain ⟨ha1, ha2⟩ : 65472 ≤ A1 ∧ A1 ≤ 65535 := by omega
  obtain ⟨ha3, ha4⟩ : 65473 ≤ A2 ∧ A2 ≤ 65536 := by omega
  obtain ⟨hk1, hk2⟩ : 1 ≤ Kk ∧ Kk ≤ 63 := by omega
  obtain ⟨hz1, hz2⟩ : 16 ≤ Z1 ∧ Z1 ≤ 1008 := by omega
  have M1 : MayE (2, A1, P, 0, 0) (C : Int) := by unfold MayE; rw [Int.toNat_natCast, hP.out]; dsimp only; omega
  have M2 : ¬ MayE (2, A2, P, 0, 0) (C : Int) := by unfold MayE; rw [Int.toNat_natCast, hP.out]; dsimp only; omega
  have M3 : ¬ MayE (2, 1, P, 0, 0) (C : Int) := by unfold MayE; rw [Int.toNat_natCast, hP.out]; dsimp only; omega
  have M4 : MayE (3, 2, Kk, Z1, 0) (C : Int) ↔ Kk < P := by unfold MayE; rw [Int.toNat_natCast, hP.out]; dsimp only; omega
  have M5 : ¬ MayE (3, 2, Kk, Z2, 0) (C : Int) := by unfold MayE; rw [Int.toNat_natCast, hP.out]; dsimp only; omega
  have M6 : ¬ MayE (3, 2, Kk, Z3, 0) (C : Int) := by unfold MayE; rw [Int.toNat_natCast, hP.out]; dsimp only; omega
  have HM1 : Hid (∀ w, Calls Tryd.prog 10 #[.agg #[.int .i64 2, .int .i64 A1, .int .i64 P, .int .i64 0, .int .u32 0], .int .i64 C] w fun e w' => e = .returned (.bool true) ∧ Below w.heap.size w w') := fun w => by
    have := entryMay_any 2 A1 P 0 0 C (by unfold EnOk I64; dsimp only; omega) w
    rw [decide_eq_true M1] at this; exact this
  have HM2 : Hid (∀ w, Calls Tryd.prog 10 #[.agg #[.int .i64 2, .int .i64 A2, .int .i64 P, .int .i64 0, .int .u32 0], .int .i64 C] w fun e w' => e = .returned (.bool false) ∧ Below w.heap.size w w') := fun w => by
    have := entryMay_any 2 A2 P 0 0 C (by unfold EnOk I64; dsimp only; omega) w
    rw [decide_eq_false M2] at this; exact this
  have HM3 : Hid (∀ w, Calls Tryd.prog 10 #[.agg #[.int .i64 2, .int .i64 1, .int .i64 P, .int .i64 0, .int .u32 0], .int .i64 C] w fun e w' => e = .returned (.bool false) ∧ Below w.heap.size w w') := fun w => by
    have := entryMay_any 2 1 P 0 0 C (by unfold EnOk I64; dsimp only; omega) w
    rw [decide_eq_false M3] at this; exact this
  have HM4 : Hid (∀ w, Calls Tryd.prog 10 #[.agg #[.int .i64 3, .int .i64 2, .int .i64 Kk, .int .i64 Z1, .int .u32 0], .int .i64 C] w fun e w' => e = .returned (.bool (decide (Kk < P))) ∧ Below w.heap.size w w') := fun w => by
    have := entryMay_any 3 2 Kk Z1 0 C (by unfold EnOk I64; dsimp only; omega) w
    rw [show decide (MayE (3, 2, Kk, Z1, 0) (C : Int)) = decide (Kk < P) from decide_eq_decide.2 M4] at this; exact this
  have HM5 : Hid (∀ w, Calls Tryd.prog 10 #[.agg #[.int .i64 3, .int .i64 2, .int .i64 Kk, .int .i64 Z2, .int .u32 0], .int .i64 C] w fun e w' => e = .returned (.bool false) ∧ Below w.heap.size w w') := fun w => by
    have := entryMay_any 3 2 Kk Z2 0 C (by unfold EnOk I64; dsimp only; omega) w
    rw [decide_eq_false M5] at this; exact this
  have HM6 : Hid (∀ w, Calls Tryd.prog 10 #[.agg #[.int .i64 3, .int .i64 2, .int .i64 Kk, .int .i64 Z3, .int .u32 0], .int .i64 C] w fun e w' => e = .returned (.bool false) ∧ Below w.heap.size w w') := fun w => by
    have := entryMay_any 3 2 Kk Z3 0 C (by unfold EnOk I64; dsimp only; omega) w
    rw [decide_eq_false M6] at this; exact this
  clear M1 M2 M3 M4 M5 M6 w0 w1
  go_enter Tryd.func7, Tryd.ntmps7
  go_wp2_with (first
    | (go_at_call 10; (with_reducible refine (HM1.out _).mono ?_); rintro e w1 ⟨rfl, g⟩; have HG1 := Lib.hid g; clear g HM1)
    | (go_at_call 10; (with_reducible refine (HM2.out _).mono ?_); rintro e w2 ⟨rfl, g⟩; have HG2 := Lib.hid (HG1.out.trans (g.mono HG1.out.size)); clear g HM2)
    | (go_at_call 10; (with_reducible refine (HM3.out _).mono ?_); rintro e w3 ⟨rfl, g⟩; have HG3 := Lib.hid (HG2.out.trans (g.mono HG2.out.size)); clear g HM3)
    | (go_at_call 10; (with_reducible refine (HM4.out _).mono ?_); rintro e w4 ⟨rfl, g⟩; have HG4 := Lib.hid (HG3.out.trans (g.mono HG3.out.size)); clear g HM4)
    | (go_at_call 10; (with_reducible refine (HM5.out _).mono ?_); rintro e w5 ⟨rfl, g⟩; have HG5 := Lib.hid (HG4.out.trans (g.mono HG4.out.size)); clear g HM5)
    | (go_at_call 10; (with_reducible refine (HM6.out _).mono ?_); rintro e w6 ⟨rfl, g⟩; have HG6 := Lib.hid (HG5.out.trans (g.mono HG5.out.size)); clear g HM6)
    | (go_at_call 13; (with_reducible refine (awake_any8 (HWD.out.later HG6.out)).mono ?_); rintro e w7 ⟨rfl, g⟩; have HZ := Lib.hid (HG6.out.trans (g.mono HG6.out.size)); clear g))
  go_ret
  exact ⟨rfl, HZ.out⟩

set_option maxRecDepth 100000 in
theorem lifted (os : Os) (started : os.Started) (H : Type) (enc : TypeId × Value → H) :
    ReturnsInHanded {} Tryd.checked os 7 .any (fun w args => (Rows.entryEndsSpec.pre enc Tryd.prog Tryd.f7 [] false w args ∧ laidMetH Tryd.prog laid8 w) ∧ sizedMet enc Tryd.prog Tryd.f7 (OpenSpec.ofChange Rows.entryEndsSpec) false w args) (Rows.entryEndsSpec.post enc Tryd.prog Tryd.f7 false true false false) := by
  refine returnsInHanded_of_change_and (C := Tryd.checked) (X := fun w _ => laidMetH Tryd.prog laid8 w) (fun _ _ _ hh h => h.of_heap hh) own started (by kernel_rfl) Tryd.func7
    (ChangeSpec.witness_shaped (enc := enc) (C := Tryd.checked) (os := os) (X := fun w _ => laidMetH Tryd.prog laid8 w) false (World.doorLaid Tryd.prog 400 os) #[.int .u8 0, .int .u8 0] 8 rfl (World.shaped_of_RefB (by kernel_rfl) (by kernel_rfl)) (by kernel_rfl) (by kernel_rfl) (by kernel_rfl) (door_met os _)) ?_
  intro W base args ds gs before hval0 hW _ _ hL _
  have hval : ∀ (j : Nat) t v, Tryd.f7.params[j]? = some t → args[j]? = some v → Value.okWide Tryd.prog W .any base t v := hval0
  have hW' := hW
  obtain ⟨p, q, hA0, hV, rfl, hfz, hnd⟩ := hW
  have hA : DataW.TrodAll enc Tryd.prog W 0 (fun _ => true) true Tryd.f7.params.toList args.toList ds p := hA0
  rw [Tryd.params7] at hA hval
  obtain ⟨v0, vs0, d0, ds0, p0, q0, hargs, rfl, rfl, h0, r0⟩ := trodAll_cons hA
  obtain ⟨v1, vs1, d1, ds1, p1, q1, rfl, rfl, rfl, h1, r1⟩ := trodAll_cons r0
  obtain ⟨rfl, rfl, rfl⟩ := trodAll_nil r1
  obtain rfl : args = #[v0, v1] := by cases args; simp_all
  obtain ⟨rfl, rfl⟩ := trodVars_none hV
  have k0 := h0
  have lt0 : ∀ x ∈ p0, x.block < W.heap.size := by obtain ⟨m, hm⟩ := k0; exact DataW.trod_lt m _ _ _ hm
  obtain ⟨a0, rfl, _, _, w0⟩ := open_int Tryd.underlying5 (hval 0 5 v0 rfl rfl) h0
  have k1 := h1
  have lt1 : ∀ x ∈ p1, x.block < W.heap.size := by obtain ⟨m, hm⟩ := k1; exact DataW.trod_lt m _ _ _ hm
  obtain ⟨a1, rfl, _, _, w1⟩ := open_int Tryd.underlying5 (hval 1 5 v1 rfl rfl) h1
  clear hA0 hval0
  refine (walk a0 a1 W w0 w1 (Lib.hid (wid_of_laid hL))).mono fun e W' ⟨he, bel⟩ => ?_
  subst he
  exact ⟨_, rfl, _, _, _, [], _, [], hW', trodAll_mk1 (shut_bool Tryd.underlying4 _), (trodAll_cons_mk (Below.trod laidOut (by kernel_rfl) (of_decide_eq_true (by kernel_rfl)) k0 bel lt0) (trodAll_cons_mk (Below.trod laidOut (by kernel_rfl) (of_decide_eq_true (by kernel_rfl)) k1 bel lt1) trodAll_mk0)), rfl, bel.frame _, fun h => by cases h⟩

theorem over : Rows.entryEndsRow.holds Tryd.pinned (OpenSpec.ofChange Rows.entryEndsSpec) :=
  OpenClaim.holds_of_wide 7 Tryd.f7 rfl rfl rfl rfl rfl rfl rfl ⟨rfl, rfl, rfl, rfl, rfl⟩ rfl rfl rfl rfl rfl (by kernel_rfl) Tryd.func7 (by kernel_rfl)
    (of_decide_eq_true (by kernel_rfl)) (by unfold Func.isWrapper; first | (rw [if_pos (by decide +kernel)]; kernel_rfl) | (rw [if_neg (by decide +kernel)]; exact ⟨rfl, rfl⟩))
    (fun os started H enc _ => lifted os started H enc)

/-- The statement: the row's card, its listed variable tied to the program's text. -/
theorem proved : Rows.EntryEndsCardSaid :=
  Claim7.holds_tied_plain_at .later [] [.data] true (true, "e0b7cfd3de9f31e07b616b5c378574e112246cc00a1ec29ffeb7ff8201922e66") false
    over (fun _ h => by cases h) (by kernel_rfl) (fun _ h => by cases h) entryEnds_row_tie rfl ⟨rfl, rfl⟩ (by kernel_rfl) rfl
    (fun f fn hf hfn => by
      obtain rfl : f = 7 := Option.some.inj ((show Tryd.prog.funcNamed "matryoshka/matryoshkalaw7.EntryEnds" = some 7 by kernel_rfl).symm.trans hf) |>.symm
      obtain rfl : fn = Tryd.f7 := (Option.some.inj (Tryd.func7.symm.trans hfn)).symm
      exact ⟨by kernel_rfl, fun j t ht => by
        rw [Tryd.params7] at ht
        have hm : t ∈ [5] := by
          have := Array.mem_of_getElem? ht
          simp at this ⊢
          omega
        have hall : ([5].all fun u => !Tryd.prog.wantsStandIn u) = true := by kernel_rfl
        exact (show Tryd.prog.wantsStandIn t = false by simpa using List.all_eq_true.1 hall t hm)⟩)
    (by kernel_rfl)
#print axioms proved
end Go.Proofs.YtondacmkgaabkaaDoor.entryEnds
