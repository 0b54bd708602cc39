/-
  Proved: 'matryoshkalaw13.MapTurns' returns true for every input: the statement MapTurnsSaid as given. Conditions: none beyond the row's own.
-/
import Derived.Test.YtjaaieamlgghhaaRows
import Derived.Test.YtjaaieamlgghhaaVa
import Derived.WalkKit
import Derived.ProofKit
import Derived.OpenShut
import Derived.ShutString
import Derived.ChangeOld
import Derived.Below
namespace Go.Proofs.Ytjaaieamlgghhaa.mapTurns
open Go.ChangeShapes Go.WideShapes Go.ChangeAt Go.RowKit
open Go.ChangeMaps (open_string shut_string)
set_option linter.unusedVariables false

theorem own : ownKnob Try.prog.godebug = none := by kernel_rfl
theorem laidOut : laidOutB Try.prog = true := by kernel_rfl

set_option maxRecDepth 100000 in
set_option maxHeartbeats 4000000 in
theorem walk (a0 : Option Addr) (len0 cap0 : Nat) (a1 : ByteArray) (a2 : ByteArray) (a3 : Bool) (w : World) (w0 : BmsArg w a0 len0 cap0) (w1 : a1.size ≤ maxLen) (w2 : a2.size ≤ maxLen) :
    Calls Try.prog 7 #[.slice a0 len0 cap0, .string a1, .string a2, .bool a3] w fun e w' => e = .returned (.bool true) ∧ Below w.heap.size w w' := by
  have HLT := Lib.hid (fun (W : World) (hb : Below w.heap.size w W) => let13 W a0 len0 cap0 (w0.later hb))
  have HAW : Hid (∀ W, Below w.heap.size w W → Calls Try.prog 30 #[] W fun e w' => e = .returned (.bool true) ∧ Below w.heap.size w w') := fun W hb => (awake13 W).mono fun e w' h => ⟨h.1, hb.trans (h.2.mono hb.size)⟩
  have HB0 := Lib.hid (Below.refl w.heap.size w)
  have hcs : 1000 < a1.size ∨ (a1.size ≤ 1000 ∧ 1000 < a2.size) ∨ (a1.size ≤ 1000 ∧ a2.size ≤ 1000) := by omega
  unfold maxLen at w1 w2
  rcases hcs with h1 | ⟨h1, h2⟩ | ⟨h1, h2⟩
  case inl =>
    have d1 : decide ((1000 : Int) < a1.size) = true := decide_eq_true (by omega)
    go_enter Try.func7, Try.ntmps7
    go_wp2_with (first
      | (go_at_call 29; (with_reducible refine (HLT.out _ HB0.out).mono ?_); rintro e w2 ⟨G, rfl, h, hg⟩; have HB2 := Lib.hid h; clear h hg; cases G)
      | (go_at_call 30; (with_reducible refine (HAW.out _ HB2.out).mono ?_); rintro e w9 ⟨rfl, hb9⟩))
    all_goals (go_ret; exact ⟨rfl, hb9⟩)
  case inr.inl =>
    have d1 : decide ((1000 : Int) < a1.size) = false := decide_eq_false (by omega)
    have d2 : decide ((1000 : Int) < a2.size) = true := decide_eq_true (by omega)
    go_enter Try.func7, Try.ntmps7
    go_wp2_with (first
      | (go_at_call 29; (with_reducible refine (HLT.out _ HB0.out).mono ?_); rintro e w2 ⟨G, rfl, h, hg⟩; have HB2 := Lib.hid h; clear h hg; cases G)
      | (go_at_call 30; (with_reducible refine (HAW.out _ HB2.out).mono ?_); rintro e w9 ⟨rfl, hb9⟩))
    all_goals (go_ret; exact ⟨rfl, hb9⟩)
  have d1 : decide ((1000 : Int) < a1.size) = false := decide_eq_false (by omega)
  have d2 : decide ((1000 : Int) < a2.size) = false := decide_eq_false (by omega)
  have HNU := Lib.hid (fun (z : Int) (hz : I64 z) (w : World) => num13 z hz w)
  go_enter Try.func7, Try.ntmps7
  go_wp2_with (first
    | (go_at_call 29; (with_reducible refine (HLT.out _ HB0.out).mono ?_); rintro e w2 ⟨G, rfl, h, hg⟩; have HGG := Lib.hid hg; have HB2 := Lib.hid h; clear h hg; cases G)
    | (go_at_call 30; (with_reducible refine (HAW.out _ HB2.out).mono ?_); rintro e w9 ⟨rfl, hb9⟩)
    | (go_at_call 31; (with_reducible obtain ⟨B, hlt⟩ := Lt.of (HGG.out (by first | rfl | trivial))); have HL2 := Lib.hid (hlt.later HB2.out); (with_reducible refine HL2.out.none.mono ?_); rintro e w3 ⟨ax3, c3, rfl, hN, hb⟩; have HD0 := Lib.hid hN.d; have HB3 := Lib.hid (HB2.out.trans (hb.mono HB2.out.size)); have HL3 := Lib.hid (HL2.out.later hb); clear hlt hN hb; have HS0 := Lib.hid (Below.refl w3.heap.size w3); obtain ⟨⟨B1, z1⟩, hR1⟩ := named (addB B a1); have hz1 : I64 z1 := (by have := addB_z B a1; rw [hR1.out] at this; exact this); have ez1 : (z1 == z1) = true := (by simp); obtain ⟨⟨B2, z2⟩, hR2⟩ := named (dropB B a1); have hz2 : I64 z2 := (by have := dropB_z B a1; rw [hR2.out] at this; exact this); have ez2 : (z2 == z2) = true := (by simp); obtain ⟨⟨B3, z3⟩, hR3⟩ := named (turnB B a1 a3); have hz3 : I64 z3 := (by have := turnB_z B a1 a3; rw [hR3.out] at this; exact this); have ez3 : (z3 == z3) = true := (by simp); obtain ⟨⟨B4, z4⟩, hR4⟩ := named (clearB B a1); have hz4 : I64 z4 := (by have := clearB_z B a1; rw [hR4.out] at this; exact this); have ez4 : (z4 == z4) = true := (by simp); obtain ⟨⟨B5, z5⟩, hR5⟩ := named (mergeB B a1 a2); have hz5 : I64 z5 := (by have := mergeB_z B a1 a2; rw [hR5.out] at this; exact this); have ez5 : (z5 == z5) = true := (by simp); have HAP : Hid (∀ W, Below w3.heap.size w3 W → Calls Try.prog 32 #[.slice a0 len0 cap0, .string a1] W fun e w' => ∃ (a : Option Addr) (n c : Nat), e = .returned (.tuple #[.slice a n c, .int .i64 z1]) ∧ BmsD w' a n c B1 ∧ Below w3.heap.size w3 w' ∧ Below W.heap.size W w') := (fun W hs => ((hR1.out ▸ mapsAdd _ a0 len0 cap0 B (HL3.out.later hs).d a1 (by omega) : Calls Try.prog 32 #[.slice a0 len0 cap0, .string a1] W (GiveB W (B1, z1)))).mono fun e w' ⟨a, n, c, e1, e2, e3⟩ => ⟨a, n, c, e1, e2.d, hs.trans (e3.mono hs.size), e3⟩); have HAR : Hid (∀ W, Below w3.heap.size w3 W → Calls Try.prog 33 #[.slice a0 len0 cap0, .string a1] W fun e w' => ∃ (a : Option Addr) (n c : Nat), e = .returned (.tuple #[.slice a n c, .int .i64 z1]) ∧ BmsD w' a n c B1 ∧ Below w3.heap.size w3 w' ∧ Below W.heap.size W w') := (fun W hs => ((hR1.out ▸ refAddMap _ a0 len0 cap0 B (HL3.out.later hs).d a1 (by omega) : Calls Try.prog 33 #[.slice a0 len0 cap0, .string a1] W (GiveB W (B1, z1)))).mono fun e w' ⟨a, n, c, e1, e2, e3⟩ => ⟨a, n, c, e1, e2.d, hs.trans (e3.mono hs.size), e3⟩); have HDP : Hid (∀ W, Below w3.heap.size w3 W → Calls Try.prog 34 #[.slice a0 len0 cap0, .string a1] W fun e w' => ∃ (a : Option Addr) (n c : Nat), e = .returned (.tuple #[.slice a n c, .int .i64 z2]) ∧ BmsD w' a n c B2 ∧ Below w3.heap.size w3 w' ∧ Below W.heap.size W w') := (fun W hs => ((hR2.out ▸ mapsDrop _ a0 len0 cap0 B (HL3.out.later hs).d a1 : Calls Try.prog 34 #[.slice a0 len0 cap0, .string a1] W (GiveB W (B2, z2)))).mono fun e w' ⟨a, n, c, e1, e2, e3⟩ => ⟨a, n, c, e1, e2.d, hs.trans (e3.mono hs.size), e3⟩); have HDR : Hid (∀ W, Below w3.heap.size w3 W → Calls Try.prog 35 #[.slice a0 len0 cap0, .string a1] W fun e w' => ∃ (a : Option Addr) (n c : Nat), e = .returned (.tuple #[.slice a n c, .int .i64 z2]) ∧ BmsD w' a n c B2 ∧ Below w3.heap.size w3 w' ∧ Below W.heap.size W w') := (fun W hs => ((hR2.out ▸ refDropMap _ a0 len0 cap0 B (HL3.out.later hs).d a1 : Calls Try.prog 35 #[.slice a0 len0 cap0, .string a1] W (GiveB W (B2, z2)))).mono fun e w' ⟨a, n, c, e1, e2, e3⟩ => ⟨a, n, c, e1, e2.d, hs.trans (e3.mono hs.size), e3⟩); have HTP : Hid (∀ W, Below w3.heap.size w3 W → Calls Try.prog 36 #[.slice a0 len0 cap0, .string a1, .bool a3] W fun e w' => ∃ (a : Option Addr) (n c : Nat), e = .returned (.tuple #[.slice a n c, .int .i64 z3]) ∧ BmsD w' a n c B3 ∧ Below w3.heap.size w3 w' ∧ Below W.heap.size W w') := (fun W hs => ((hR3.out ▸ mapsTurn _ a0 len0 cap0 B (HL3.out.later hs).d a1 a3 : Calls Try.prog 36 #[.slice a0 len0 cap0, .string a1, .bool a3] W (GiveB W (B3, z3)))).mono fun e w' ⟨a, n, c, e1, e2, e3⟩ => ⟨a, n, c, e1, e2.d, hs.trans (e3.mono hs.size), e3⟩); have HTR : Hid (∀ W, Below w3.heap.size w3 W → Calls Try.prog 37 #[.slice a0 len0 cap0, .string a1, .bool a3] W fun e w' => ∃ (a : Option Addr) (n c : Nat), e = .returned (.tuple #[.slice a n c, .int .i64 z3]) ∧ BmsD w' a n c B3 ∧ Below w3.heap.size w3 w' ∧ Below W.heap.size W w') := (fun W hs => ((hR3.out ▸ refTurnMap _ a0 len0 cap0 B (HL3.out.later hs).d a1 a3 : Calls Try.prog 37 #[.slice a0 len0 cap0, .string a1, .bool a3] W (GiveB W (B3, z3)))).mono fun e w' ⟨a, n, c, e1, e2, e3⟩ => ⟨a, n, c, e1, e2.d, hs.trans (e3.mono hs.size), e3⟩); have HCP : Hid (∀ W, Below w3.heap.size w3 W → Calls Try.prog 38 #[.slice a0 len0 cap0, .string a1] W fun e w' => ∃ (a : Option Addr) (n c : Nat), e = .returned (.tuple #[.slice a n c, .int .i64 z4]) ∧ BmsD w' a n c B4 ∧ Below w3.heap.size w3 w' ∧ Below W.heap.size W w') := (fun W hs => ((hR4.out ▸ mapsClear _ a0 len0 cap0 B (HL3.out.later hs).d a1 : Calls Try.prog 38 #[.slice a0 len0 cap0, .string a1] W (GiveB W (B4, z4)))).mono fun e w' ⟨a, n, c, e1, e2, e3⟩ => ⟨a, n, c, e1, e2.d, hs.trans (e3.mono hs.size), e3⟩); have HCR : Hid (∀ W, Below w3.heap.size w3 W → Calls Try.prog 39 #[.slice a0 len0 cap0, .string a1] W fun e w' => ∃ (a : Option Addr) (n c : Nat), e = .returned (.tuple #[.slice a n c, .int .i64 z4]) ∧ BmsD w' a n c B4 ∧ Below w3.heap.size w3 w' ∧ Below W.heap.size W w') := (fun W hs => ((hR4.out ▸ refClearMap _ a0 len0 cap0 B (HL3.out.later hs).d a1 : Calls Try.prog 39 #[.slice a0 len0 cap0, .string a1] W (GiveB W (B4, z4)))).mono fun e w' ⟨a, n, c, e1, e2, e3⟩ => ⟨a, n, c, e1, e2.d, hs.trans (e3.mono hs.size), e3⟩); have HMP : Hid (∀ W, Below w3.heap.size w3 W → Calls Try.prog 40 #[.slice a0 len0 cap0, .string a1, .string a2] W fun e w' => ∃ (a : Option Addr) (n c : Nat), e = .returned (.tuple #[.slice a n c, .int .i64 z5]) ∧ BmsD w' a n c B5 ∧ Below w3.heap.size w3 w' ∧ Below W.heap.size W w') := (fun W hs => ((hR5.out ▸ mapsMerge _ a0 len0 cap0 B (HL3.out.later hs).d (HL3.out.later hs).l1 a1 a2 : Calls Try.prog 40 #[.slice a0 len0 cap0, .string a1, .string a2] W (GiveB W (B5, z5)))).mono fun e w' ⟨a, n, c, e1, e2, e3⟩ => ⟨a, n, c, e1, e2.d, hs.trans (e3.mono hs.size), e3⟩); have HMR : Hid (∀ W, Below w3.heap.size w3 W → Calls Try.prog 41 #[.slice a0 len0 cap0, .string a1, .string a2] W fun e w' => ∃ (a : Option Addr) (n c : Nat), e = .returned (.tuple #[.slice a n c, .int .i64 z5]) ∧ BmsD w' a n c B5 ∧ Below w3.heap.size w3 w' ∧ Below W.heap.size W w') := (fun W hs => ((hR5.out ▸ refMergeMap _ a0 len0 cap0 B (HL3.out.later hs).d (HL3.out.later hs).l1 a1 a2 : Calls Try.prog 41 #[.slice a0 len0 cap0, .string a1, .string a2] W (GiveB W (B5, z5)))).mono fun e w' ⟨a, n, c, e1, e2, e3⟩ => ⟨a, n, c, e1, e2.d, hs.trans (e3.mono hs.size), e3⟩); clear hR1 hR2 hR3 hR4 hR5)
    | (go_at_call 32; (with_reducible refine (HAP.out _ HS0.out).mono ?_); rintro e v1 ⟨p1, n1, q1, rfl, hD, hs, hb⟩; have HD1 := Lib.hid hD; have HS1 := Lib.hid hs; have HD0 := Lib.hid (HD0.out.later hb); clear hD hs hb HAP)
    | (go_at_call 33; (with_reducible refine (HAR.out _ HS1.out).mono ?_); rintro e v2 ⟨p2, n2, q2, rfl, hD, hs, hb⟩; have HD2 := Lib.hid hD; have HS2 := Lib.hid hs; have HD0 := Lib.hid (HD0.out.later hb); have HD1 := Lib.hid (HD1.out.later hb); clear hD hs hb HAR)
    | (go_at_call 34; (with_reducible refine (HDP.out _ HS2.out).mono ?_); rintro e v3 ⟨p3, n3, q3, rfl, hD, hs, hb⟩; have HD3 := Lib.hid hD; have HS3 := Lib.hid hs; have HD0 := Lib.hid (HD0.out.later hb); have HD1 := Lib.hid (HD1.out.later hb); have HD2 := Lib.hid (HD2.out.later hb); clear hD hs hb HDP)
    | (go_at_call 35; (with_reducible refine (HDR.out _ HS3.out).mono ?_); rintro e v4 ⟨p4, n4, q4, rfl, hD, hs, hb⟩; have HD4 := Lib.hid hD; have HS4 := Lib.hid hs; have HD0 := Lib.hid (HD0.out.later hb); have HD1 := Lib.hid (HD1.out.later hb); have HD2 := Lib.hid (HD2.out.later hb); have HD3 := Lib.hid (HD3.out.later hb); clear hD hs hb HDR)
    | (go_at_call 36; (with_reducible refine (HTP.out _ HS4.out).mono ?_); rintro e v5 ⟨p5, n5, q5, rfl, hD, hs, hb⟩; have HD5 := Lib.hid hD; have HS5 := Lib.hid hs; have HD0 := Lib.hid (HD0.out.later hb); have HD1 := Lib.hid (HD1.out.later hb); have HD2 := Lib.hid (HD2.out.later hb); have HD3 := Lib.hid (HD3.out.later hb); have HD4 := Lib.hid (HD4.out.later hb); clear hD hs hb HTP)
    | (go_at_call 37; (with_reducible refine (HTR.out _ HS5.out).mono ?_); rintro e v6 ⟨p6, n6, q6, rfl, hD, hs, hb⟩; have HD6 := Lib.hid hD; have HS6 := Lib.hid hs; have HD0 := Lib.hid (HD0.out.later hb); have HD1 := Lib.hid (HD1.out.later hb); have HD2 := Lib.hid (HD2.out.later hb); have HD3 := Lib.hid (HD3.out.later hb); have HD4 := Lib.hid (HD4.out.later hb); have HD5 := Lib.hid (HD5.out.later hb); clear hD hs hb HTR)
    | (go_at_call 38; (with_reducible refine (HCP.out _ HS6.out).mono ?_); rintro e v7 ⟨p7, n7, q7, rfl, hD, hs, hb⟩; have HD7 := Lib.hid hD; have HS7 := Lib.hid hs; have HD0 := Lib.hid (HD0.out.later hb); have HD1 := Lib.hid (HD1.out.later hb); have HD2 := Lib.hid (HD2.out.later hb); have HD3 := Lib.hid (HD3.out.later hb); have HD4 := Lib.hid (HD4.out.later hb); have HD5 := Lib.hid (HD5.out.later hb); have HD6 := Lib.hid (HD6.out.later hb); clear hD hs hb HCP)
    | (go_at_call 39; (with_reducible refine (HCR.out _ HS7.out).mono ?_); rintro e v8 ⟨p8, n8, q8, rfl, hD, hs, hb⟩; have HD8 := Lib.hid hD; have HS8 := Lib.hid hs; have HD0 := Lib.hid (HD0.out.later hb); have HD1 := Lib.hid (HD1.out.later hb); have HD2 := Lib.hid (HD2.out.later hb); have HD3 := Lib.hid (HD3.out.later hb); have HD4 := Lib.hid (HD4.out.later hb); have HD5 := Lib.hid (HD5.out.later hb); have HD6 := Lib.hid (HD6.out.later hb); have HD7 := Lib.hid (HD7.out.later hb); clear hD hs hb HCR)
    | (go_at_call 40; (with_reducible refine (HMP.out _ HS8.out).mono ?_); rintro e v9 ⟨p9, n9, q9, rfl, hD, hs, hb⟩; have HD9 := Lib.hid hD; have HS9 := Lib.hid hs; have HD0 := Lib.hid (HD0.out.later hb); have HD1 := Lib.hid (HD1.out.later hb); have HD2 := Lib.hid (HD2.out.later hb); have HD3 := Lib.hid (HD3.out.later hb); have HD4 := Lib.hid (HD4.out.later hb); have HD5 := Lib.hid (HD5.out.later hb); have HD6 := Lib.hid (HD6.out.later hb); have HD7 := Lib.hid (HD7.out.later hb); have HD8 := Lib.hid (HD8.out.later hb); clear hD hs hb HMP)
    | (go_at_call 41; (with_reducible refine (HMR.out _ HS9.out).mono ?_); rintro e v10 ⟨p10, n10, q10, rfl, hD, hs, hb⟩; have HD10 := Lib.hid hD; have HS10 := Lib.hid hs; have HD0 := Lib.hid (HD0.out.later hb); have HD1 := Lib.hid (HD1.out.later hb); have HD2 := Lib.hid (HD2.out.later hb); have HD3 := Lib.hid (HD3.out.later hb); have HD4 := Lib.hid (HD4.out.later hb); have HD5 := Lib.hid (HD5.out.later hb); have HD6 := Lib.hid (HD6.out.later hb); have HD7 := Lib.hid (HD7.out.later hb); have HD8 := Lib.hid (HD8.out.later hb); have HD9 := Lib.hid (HD9.out.later hb); clear hD hs hb HMR)
    | (go_at_call 43; (with_reducible refine (HNU.out _ (by assumption) _).mono ?_); rintro e w' ⟨rfl, hw⟩; obtain rfl := hw.symm)
    | (go_at_call 42; (with_reducible refine (mapsSame HD1.out HD2.out (Below.refl _ _) (Below.refl _ _)).mono ?_); rintro e v11 ⟨rfl, hb⟩; have HS11 := Lib.hid (HS10.out.trans (hb.mono HS10.out.size)); have HD0 := Lib.hid (HD0.out.later hb); have HD3 := Lib.hid (HD3.out.later hb); have HD4 := Lib.hid (HD4.out.later hb); have HD5 := Lib.hid (HD5.out.later hb); have HD6 := Lib.hid (HD6.out.later hb); have HD7 := Lib.hid (HD7.out.later hb); have HD8 := Lib.hid (HD8.out.later hb); have HD9 := Lib.hid (HD9.out.later hb); have HD10 := Lib.hid (HD10.out.later hb); clear hb HD1 HD2)
    | (go_at_call 42; (with_reducible refine (mapsSame HD3.out HD4.out (Below.refl _ _) (Below.refl _ _)).mono ?_); rintro e v12 ⟨rfl, hb⟩; have HS12 := Lib.hid (HS11.out.trans (hb.mono HS11.out.size)); have HD0 := Lib.hid (HD0.out.later hb); have HD5 := Lib.hid (HD5.out.later hb); have HD6 := Lib.hid (HD6.out.later hb); have HD7 := Lib.hid (HD7.out.later hb); have HD8 := Lib.hid (HD8.out.later hb); have HD9 := Lib.hid (HD9.out.later hb); have HD10 := Lib.hid (HD10.out.later hb); clear hb HD3 HD4)
    | (go_at_call 42; (with_reducible refine (mapsSame HD5.out HD6.out (Below.refl _ _) (Below.refl _ _)).mono ?_); rintro e v13 ⟨rfl, hb⟩; have HS13 := Lib.hid (HS12.out.trans (hb.mono HS12.out.size)); have HD0 := Lib.hid (HD0.out.later hb); have HD7 := Lib.hid (HD7.out.later hb); have HD8 := Lib.hid (HD8.out.later hb); have HD9 := Lib.hid (HD9.out.later hb); have HD10 := Lib.hid (HD10.out.later hb); clear hb HD5 HD6)
    | (go_at_call 42; (with_reducible refine (mapsSame HD7.out HD8.out (Below.refl _ _) (Below.refl _ _)).mono ?_); rintro e v14 ⟨rfl, hb⟩; have HS14 := Lib.hid (HS13.out.trans (hb.mono HS13.out.size)); have HD0 := Lib.hid (HD0.out.later hb); have HD9 := Lib.hid (HD9.out.later hb); have HD10 := Lib.hid (HD10.out.later hb); clear hb HD7 HD8)
    | (go_at_call 42; (with_reducible refine (mapsSame HD9.out HD10.out (Below.refl _ _) (Below.refl _ _)).mono ?_); rintro e v15 ⟨rfl, hb⟩; have HS15 := Lib.hid (HS14.out.trans (hb.mono HS14.out.size)); have HD0 := Lib.hid (HD0.out.later hb); clear hb HD9 HD10)
    | (go_at_call 42; (with_reducible refine (mapsSame HL3.out.d HD0.out HS15.out (Below.refl _ _)).mono ?_); rintro e v16 ⟨rfl, hb⟩; have HS16 := Lib.hid (HS15.out.trans (hb.mono HS15.out.size)); have HB16 := Lib.hid (HB3.out.trans (HS16.out.mono HB3.out.size)); clear hb HD0)
    | (go_at_call 30; (with_reducible refine (HAW.out _ HB16.out).mono ?_); rintro e w9 ⟨rfl, hb9⟩))
  all_goals (go_ret; exact ⟨rfl, hb9⟩)

set_option maxRecDepth 100000 in
theorem lifted (os : Os) (started : os.Started) (H : Type) (enc : TypeId × Value → H) :
    ReturnsInHanded {} Try.checked os 7 .any (Rows.mapTurnsSpec.pre6 enc Try.prog Try.f7 Rows.mapTurnsRow.domain false) (Rows.mapTurnsSpec.post enc Try.prog Try.f7 false true false false) := by
  refine returnsInHanded_of_change (C := Try.checked) own started (by kernel_rfl) Try.func7
    (ChangeSpec.witness6 (enc := enc) (C := Try.checked) false ⟨#[], #[.slice none 0 0, .string ByteArray.empty, .string ByteArray.empty, .bool false], []⟩ 8 (by kernel_rfl) (by kernel_rfl) (by kernel_rfl) (by kernel_rfl)) ?_
  intro W base args ds gs before hval0 hW hcnd _
  have hval : ∀ (j : Nat) t v, Try.f7.params[j]? = some t → args[j]? = some v → Value.okWide Try.prog W .any base t v := hval0
  have hW' := hW
  obtain ⟨p, q, hA0, hV, rfl, hfz, hnd⟩ := hW
  have hA : DataW.TrodAll enc Try.prog W 0 (fun _ => true) true Try.f7.params.toList args.toList ds p := hA0
  rw [Try.params7] at hA hval
  obtain ⟨v0, vs0, d0, ds0, p0, q0, hargs, rfl, rfl, h0, r0⟩ := trodAll_cons hA
  obtain ⟨v1, vs1, d1, ds1, p1, q1, rfl, rfl, rfl, h1, r1⟩ := trodAll_cons r0
  obtain ⟨v2, vs2, d2, ds2, p2, q2, rfl, rfl, rfl, h2, r2⟩ := trodAll_cons r1
  obtain ⟨v3, vs3, d3, ds3, p3, q3, rfl, rfl, rfl, h3, r3⟩ := trodAll_cons r2
  obtain ⟨rfl, rfl, rfl⟩ := trodAll_nil r3
  obtain rfl : args = #[v0, v1, v2, v3] := by cases args; simp_all
  obtain ⟨rfl, rfl⟩ := trodVars_none hV
  have k0 := h0
  have lt0 : ∀ x ∈ p0, x.block < W.heap.size := by obtain ⟨m, hm⟩ := k0; exact DataW.trod_lt m _ _ _ hm
  obtain ⟨a0, len0, cap0, rfl⟩ := okWide_slice Try.underlying26 (hval 0 26 v0 rfl rfl)
  have w0 := bms_open h0
  have k1 := h1
  have lt1 : ∀ x ∈ p1, x.block < W.heap.size := by obtain ⟨m, hm⟩ := k1; exact DataW.trod_lt m _ _ _ hm
  obtain ⟨a1, rfl, _, _, w1⟩ := open_string Try.underlying9 (hval 1 9 v1 rfl rfl) h1
  have k2 := h2
  have lt2 : ∀ x ∈ p2, x.block < W.heap.size := by obtain ⟨m, hm⟩ := k2; exact DataW.trod_lt m _ _ _ hm
  obtain ⟨a2, rfl, _, _, w2⟩ := open_string Try.underlying9 (hval 2 9 v2 rfl rfl) h2
  have k3 := h3
  have lt3 : ∀ x ∈ p3, x.block < W.heap.size := by obtain ⟨m, hm⟩ := k3; exact DataW.trod_lt m _ _ _ hm
  obtain ⟨a3, rfl, _, _⟩ := open_bool Try.underlying4 (hval 3 4 v3 rfl rfl) h3
  clear hA0 hval0
  refine (walk a0 len0 cap0 a1 a2 a3 W w0 w1 w2).mono fun e W' ⟨he, bel⟩ => ?_
  subst he
  exact ⟨_, rfl, _, _, _, [], _, [], hW', trodAll_mk1 (shut_bool Try.underlying4 _), (trodAll_cons_mk (Below.trod laidOut (by kernel_rfl) (of_decide_eq_true (by kernel_rfl)) k0 bel lt0) (trodAll_cons_mk (Below.trod laidOut (by kernel_rfl) (of_decide_eq_true (by kernel_rfl)) k1 bel lt1) (trodAll_cons_mk (Below.trod laidOut (by kernel_rfl) (of_decide_eq_true (by kernel_rfl)) k2 bel lt2) (trodAll_cons_mk (Below.trod laidOut (by kernel_rfl) (of_decide_eq_true (by kernel_rfl)) k3 bel lt3) trodAll_mk0)))), rfl, bel.frame _, fun h => by cases h⟩

theorem over : Rows.mapTurnsRow.holds Try.pinned (OpenSpec.ofChange Rows.mapTurnsSpec) :=
  OpenClaim.holds_of_wide 7 Try.f7 rfl rfl rfl rfl rfl rfl rfl ⟨rfl, rfl, rfl, rfl, rfl⟩ rfl rfl rfl rfl rfl (by kernel_rfl) Try.func7 (by kernel_rfl)
    (of_decide_eq_true (by kernel_rfl)) (by unfold Func.isWrapper; first | (rw [if_pos (by decide +kernel)]; kernel_rfl) | (rw [if_neg (by decide +kernel)]; exact ⟨rfl, rfl⟩))
    (fun os started H enc _ => lifted os started H enc)

/-- The statement. -/
theorem proved : Rows.MapTurnsSaid := over
#print axioms proved
end Go.Proofs.Ytjaaieamlgghhaa.mapTurns
