/-
  Proved: 'matryoshkalaw6.SlotBack' returns true for every input, and each argument reads afterwards as before: the statement SlotBackSaid as given. Conditions: none beyond the row's own.
-/
import Derived.Test.YtpjlnanalielmaaRows
import Derived.Test.YtpjlnanalielmaaO7
import Derived.Deep.RegionHeld3
import Derived.WalkKit
import Derived.ProofKit
import Derived.OpenShut
import Derived.ShutString
import Derived.ChangeOld
import Derived.Below
namespace Go.Proofs.Ytpjlnanalielmaa.slotBack
open Go.ChangeShapes Go.WideShapes Go.ChangeAt Go.RowKit
open Go.ChangeMaps (open_string shut_string)
set_option linter.unusedVariables false

theorem own : ownKnob Try.prog.godebug = none := by kernel_rfl
theorem laidOut : laidOutB Try.prog = true := by kernel_rfl

def Two (w : World) (X g : Nat) (a b c d e : Int) (W : World) : Prop := Blk W X 24 #[.int .i64 a, .int .i64 b, .int .i64 c, .int .u32 d] ∧ Blk W (X + 1) 24 #[.int .i64 e, .int .i64 b, .int .i64 c, .int .u32 d] ∧ Reads slV W (some ⟨g, 0, none⟩) 2 [(a, b, c, d), (e, b, c, d)] ∧ Below X w W
theorem Two.later {w W W' : World} {X g : Nat} {a b c d e : Int} (h : Two w X g a b c d e W) (hb : Below W.heap.size W W') : Two w X g a b c d e W' :=
  ⟨h.1.later hb, h.2.1.later hb, h.2.2.1.later hb, h.2.2.2.trans (hb.mono (by have := h.1.lt; omega))⟩
theorem Two.drew {w W : World} {X g : Nat} {a b c d e : Int} (h : Two w X g a b c d e W) : Two w X g a b c d e W.drew := h.later (Below.refl _ _).drew
theorem Two.cells {w W : World} {X g : Nat} {a b c d e : Int} (h : Two w X g a b c d e W) :
    (W.cell? ⟨X, 0, none⟩ = some (.int .i64 a) ∧ W.cell? ⟨X, 1, none⟩ = some (.int .i64 b) ∧ W.cell? ⟨X, 2, none⟩ = some (.int .i64 c) ∧ W.cell? ⟨X, 3, none⟩ = some (.int .u32 d)) ∧
    (W.cell? ⟨X + 1, 0, none⟩ = some (.int .i64 e) ∧ W.cell? ⟨X + 1, 1, none⟩ = some (.int .i64 b) ∧ W.cell? ⟨X + 1, 2, none⟩ = some (.int .i64 c) ∧ W.cell? ⟨X + 1, 3, none⟩ = some (.int .u32 d)) ∧
    (W.cell? ⟨g, 0, none⟩ = some (.int .i64 a) ∧ W.cell? ⟨g, 1, none⟩ = some (.int .i64 b) ∧ W.cell? ⟨g, 2, none⟩ = some (.int .i64 c) ∧ W.cell? ⟨g, 3, none⟩ = some (.int .u32 d)) ∧
    (W.cell? ⟨g, 4, none⟩ = some (.int .i64 e) ∧ W.cell? ⟨g, 5, none⟩ = some (.int .i64 b) ∧ W.cell? ⟨g, 6, none⟩ = some (.int .i64 c) ∧ W.cell? ⟨g, 7, none⟩ = some (.int .u32 d)) := by
  refine ⟨cells4 h.1, cells4 h.2.1, ?_, ?_⟩
  · have := slot_cells h.2.2.1 0 a b c d rfl
    exact this
  · have := slot_cells h.2.2.1 1 e b c d rfl
    exact this

set_option maxRecDepth 100000 in
set_option maxHeartbeats 4000000 in
theorem walk (a0 : Int) (a1 : Int) (a2 : Int) (a3 : Int) (a4 : Bool) (w : World) (w0 : (Lit.int .u16 a0).wf = true) (w1 : (Lit.int .u16 a1).wf = true) (w2 : (Lit.int .u16 a2).wf = true) (w3 : (Lit.int .u32 a3).wf = true) :
    Calls Try.prog 6 #[.int .u16 a0, .int .u16 a1, .int .u16 a2, .int .u32 a3, .bool a4] w fun e w' => e = .returned (.bool true) ∧ Below w.heap.size w w' := by
  have b0 := bounds_u16 w0
  have b1 := bounds_u16 w1
  have b2 := bounds_u16 w2
  have b3 := bounds_u32 w3
  obtain ⟨Q, hQ⟩ : ∃ Q, 2 + a0 = Q := ⟨_, rfl⟩
  obtain ⟨S1, hS1⟩ : ∃ S1, a1 % 65000 = S1 := ⟨_, rfl⟩
  have hS2 : a1.tmod 65000 = S1 := by rw [Int.tmod_eq_emod_of_nonneg (by omega)]; exact hS1
  have hS3 : 0 ≤ S1 ∧ S1 < 65000 := by omega
  obtain ⟨hS4, hS5⟩ := hS3
  obtain ⟨S, hS⟩ : ∃ S, 2 + S1 = S := ⟨_, rfl⟩
  obtain ⟨C, hC⟩ : ∃ C, 1 + a2 = C := ⟨_, rfl⟩
  obtain ⟨T, hT⟩ : ∃ T, Q - 1 = T := ⟨_, rfl⟩
  have hq1 : 2 ≤ Q := by omega
  have hq2 : Q ≤ 65537 := by omega
  have hs1 : 2 ≤ S := by omega
  have hs2 : S ≤ 65001 := by omega
  have hc1 : 1 ≤ C := by omega
  have hc2 : C ≤ 65536 := by omega
  have ms : May (Q, S, C, a3) := by unfold May; dsimp only; omega
  have mt : May (T, S, C, a3) := by unfold May; dsimp only; omega
  have os : SlOk (Q, S, C, a3) := by unfold SlOk In64; dsimp only; omega
  have ot : SlOk (T, S, C, a3) := by unfold SlOk In64; dsimp only; omega
  have hTQ : T < Q := by omega
  have HP : Hid (∀ w, Calls Try.prog 9 #[.agg #[.int .i64 Q, .int .i64 S, .int .i64 C, .int .u32 a3]] w (PutPost w (slB (Q, S, C, a3)) 0)) := fun w => slotPut_ok ms os w
  have HP2 : Hid (∀ w, Calls Try.prog 9 #[.agg #[.int .i64 T, .int .i64 S, .int .i64 C, .int .u32 a3]] w (PutPost w (slB (T, S, C, a3)) 0)) := fun w => slotPut_ok mt ot w
  have g1 := getS_slB ms os
  have g2 := getS_slB mt ot
  have l1 := slB_len (Q, S, C, a3)
  have l2 := slB_len (T, S, C, a3)
  obtain ⟨D, hD⟩ := named (slB (Q, S, C, a3))
  obtain ⟨E, hE⟩ := named (slB (T, S, C, a3))
  rw [hD.out] at HP g1 l1
  rw [hE.out] at HP2 g2 l2
  have HL1 := Lib.hid l1
  have HL2 := Lib.hid l2
  have HGT : Hid (∀ (a : Option Addr) (c : Nat) (w : World), Bytes w a 16 D → 16 ≤ c → Calls Try.prog 13 #[.slice a 16 c] w fun e w' => e = .returned (.tuple #[.agg #[.int .i64 Q, .int .i64 S, .int .i64 C, .int .u32 a3], .int .i64 0]) ∧ Below w.heap.size w w') := fun a c w h1 h2 => (slotGet_any w a 16 c D h1 h2).mono fun e w' h => by rw [g1] at h; exact h.yes
  have HOA : Hid (ordS (getS D) (getS E) = [(Q, S, C, a3), (T, S, C, a3)]) := by
    rw [Hid, g1, g2]
    show (if Q < T then _ else _) = _
    rw [if_neg (by omega)]
  have HOB : Hid (ordS (getS E) (getS D) = [(Q, S, C, a3), (T, S, C, a3)]) := by
    rw [Hid, g1, g2]
    show (if T < Q then _ else _) = _
    rw [if_pos hTQ]
  obtain ⟨X, hX⟩ := named w.heap.size
  have hXX := hX.out
  have HX1 : Hid (Blk ((w.alloc (.cells #[.int .i64 Q, .int .i64 S, .int .i64 C, .int .u32 a3] 24)).alloc (.cells #[.int .i64 T, .int .i64 S, .int .i64 C, .int .u32 a3] 24)) X 24 #[.int .i64 Q, .int .i64 S, .int .i64 C, .int .u32 a3]) := by rw [← hX.out]; exact (Blk.new w _ _).alloc _
  have HY1 : Hid (Blk ((w.alloc (.cells #[.int .i64 Q, .int .i64 S, .int .i64 C, .int .u32 a3] 24)).alloc (.cells #[.int .i64 T, .int .i64 S, .int .i64 C, .int .u32 a3] 24)) (X + 1) 24 #[.int .i64 T, .int .i64 S, .int .i64 C, .int .u32 a3]) := by
    have := Blk.new (w.alloc (.cells #[.int .i64 Q, .int .i64 S, .int .i64 C, .int .u32 a3] 24)) 24 #[.int .i64 T, .int .i64 S, .int .i64 C, .int .u32 a3]
    rwa [World.size_alloc, hX.out] at this
  have HG1 : Hid (Below X w ((w.alloc (.cells #[.int .i64 Q, .int .i64 S, .int .i64 C, .int .u32 a3] 24)).alloc (.cells #[.int .i64 T, .int .i64 S, .int .i64 C, .int .u32 a3] 24))) := by rw [← hX.out]; exact ((Below.refl _ _).alloc (Nat.le_refl _) _).alloc (by simp) _
  clear ms mt os ot g1 g2 l1 l2 hD hE w0 w1 w2 w3 hTQ hX
  rw [hXX]
  have HSZ : Hid (w.heap.size = X) := hXX
  cases a4
  · go_enter Try.func6, Try.ntmps6
    go_wp2_with (first
      | (go_at_call 11; go_in)
      | (go_at_call 9; (with_reducible refine (HP.out _).mono ?_); rintro e wa hp; obtain ⟨xa, ya, rfl, hB, hc, hb⟩ := hp.sized HL1.out; have HBa := Lib.hid hB; have HCa := Lib.hid hc.2; have HXa := Lib.hid (HX1.out.later hb); have HYa := Lib.hid (HY1.out.later hb); obtain ⟨m0, m1, m2, m3⟩ := cells4 HYa.out; have HGa := Lib.hid (HG1.out.trans (hb.mono (Nat.le_trans (Nat.le_of_eq HSZ.out.symm) HG1.out.size))); clear hp hB hc hb HP)
      | (go_at_call 9; (with_reducible refine (HP2.out _).mono ?_); rintro e wb hp; obtain ⟨xb, yb, rfl, hB, hc, hb⟩ := hp.sized HL2.out; have HBb := Lib.hid hB; have HCb := Lib.hid hc.2; have HBa2 := Lib.hid (HBa.out.later hb); have HXb := Lib.hid (HXa.out.later hb); have HYb := Lib.hid (HYa.out.later hb); have HGb := Lib.hid (HGa.out.trans (hb.mono (Nat.le_trans (Nat.le_of_eq HSZ.out.symm) HGa.out.size))); clear hp hB hc hb HP2)
      | (go_at_call 13; (with_reducible refine (HGT.out _ _ _ HBa2.out HCa.out).mono ?_); rintro e wc ⟨rfl, hb⟩; have hb' := hb.alloc (Nat.le_trans hb.size (Nat.le_refl _)) (.cells #[.int .i64 Q, .int .i64 S, .int .i64 C, .int .u32 a3] 24); have HcA := Lib.hid (HBa2.out.later hb'); have HcE := Lib.hid (HBb.out.later hb'); have HcX := Lib.hid (HXb.out.later hb'); have HcY := Lib.hid (HYb.out.later hb'); obtain ⟨n0, n1, n2, n3⟩ := cells4 HcX.out; have HcG := Lib.hid (HGb.out.trans (hb'.mono (Nat.le_trans (Nat.le_of_eq HSZ.out.symm) HGb.out.size))); clear hb hb' HGT)
      | (go_at_call 16; (with_reducible refine (order_at (K := 2) HcA.out HCa.out HcE.out HCb.out HOA.out rfl).mono ?_); rintro e wd ⟨xd, yd, rfl, g1, g2⟩; have HBAd := Lib.hid (HcA.out.later g2); have HBEd := Lib.hid (HcE.out.later g2); have HXd := Lib.hid (HcX.out.later g2); have HYd := Lib.hid (HcY.out.later g2); have HWd := Lib.hid (g1.reads sl_rowed).1; have HOd := Lib.hid g1; have HGd := Lib.hid (HcG.out.trans (g2.mono (Nat.le_trans (Nat.le_of_eq HSZ.out.symm) HcG.out.size))); clear g1 g2)
      | (go_at_call 16; (with_reducible refine (order_at (K := 2) HBEd.out HCb.out HBAd.out HCa.out HOB.out rfl).mono ?_); rintro e wf ⟨xf, yf, rfl, g1, g2⟩; have HBAf := Lib.hid (HBAd.out.later g2); have HBEf := Lib.hid (HBEd.out.later g2); have HXf := Lib.hid (HXd.out.later g2); have HYf := Lib.hid (HYd.out.later g2); have HWf := Lib.hid (g1.reads sl_rowed).1; have HOf := Lib.hid g1; have HGf := Lib.hid (HGd.out.trans (g2.mono (Nat.le_trans (Nat.le_of_eq HSZ.out.symm) HGd.out.size))); clear g1 g2))
    obtain ⟨g, cg, hg⟩ := HOf.out.lies1 (by omega)
    cases hg
    have HS1 : Hid (Two w X g Q S C a3 T wf.drew) := Lib.hid (Two.drew ⟨HXf.out, HYf.out, HWf.out, HGf.out⟩)
    clear m0 m1 m2 m3 n0 n1 n2 n3
    refine wp_region_held_drew (S := fun W' => Two w X g Q S C a3 T W') (by kernel_rfl) (by first | exact HS2.out | exact HS1.out) (fun hHeld => ?_)
    refine wpAnyH_take (i := 0) (oi := _) (v := ?vu0) rfl (by kernel_rfl) (by kernel_rfl) (by kernel_rfl) (fun _ _ _ h => h) (Or.inl ⟨by rfl, ?hyu0⟩) (by assumption) ?restu0
    case hyu0 => (intro wz hSw; obtain ⟨⟨s0, s1, s2, s3⟩, ⟨s4, s5, s6, s7⟩, ⟨s8, s9, s10, s11⟩, ⟨s12, s13, s14, s15⟩⟩ := hSw.cells; go_simp; try with_reducible rfl)
    (try simp only [List.getElem_toArray, List.getElem_cons_zero, Act.put, List.setIfInBounds_toArray, List.set_cons_zero, List.set_cons_succ])
    refine wpAnyH_take (i := 1) (oi := _) (v := ?vu1) rfl (by kernel_rfl) (by kernel_rfl) (by kernel_rfl) (fun _ _ _ h => h) (Or.inl ⟨by rfl, ?hyu1⟩) (by assumption) ?restu1
    case hyu1 => (intro wz hSw; obtain ⟨⟨s0, s1, s2, s3⟩, ⟨s4, s5, s6, s7⟩, ⟨s8, s9, s10, s11⟩, ⟨s12, s13, s14, s15⟩⟩ := hSw.cells; go_simp; try with_reducible rfl)
    (try simp only [List.getElem_toArray, List.getElem_cons_zero, List.getElem_cons_succ, Act.put, List.setIfInBounds_toArray, List.set_cons_zero, List.set_cons_succ])
    refine wpAnyH_take (i := 2) (oi := _) (v := ?vu2) rfl (by kernel_rfl) (by kernel_rfl) (by kernel_rfl) (fun _ _ _ h => h) (Or.inl ⟨by rfl, ?hyu2⟩) (by assumption) ?restu2
    case hyu2 => (intro wz hSw; obtain ⟨⟨s0, s1, s2, s3⟩, ⟨s4, s5, s6, s7⟩, ⟨s8, s9, s10, s11⟩, ⟨s12, s13, s14, s15⟩⟩ := hSw.cells; go_simp; try with_reducible rfl)
    (try simp only [List.getElem_toArray, List.getElem_cons_zero, List.getElem_cons_succ, Act.put, List.setIfInBounds_toArray, List.set_cons_zero, List.set_cons_succ])
    refine wpAnyH_take (i := 3) (oi := _) (v := ?vu3) rfl (by kernel_rfl) (by kernel_rfl) (by kernel_rfl) (fun _ _ _ h => h) (Or.inl ⟨by rfl, ?hyu3⟩) (by assumption) ?restu3
    case hyu3 => (intro wz hSw; obtain ⟨⟨s0, s1, s2, s3⟩, ⟨s4, s5, s6, s7⟩, ⟨s8, s9, s10, s11⟩, ⟨s12, s13, s14, s15⟩⟩ := hSw.cells; go_simp; try with_reducible rfl)
    (try simp only [List.getElem_toArray, List.getElem_cons_zero, List.getElem_cons_succ, Act.put, List.setIfInBounds_toArray, List.set_cons_zero, List.set_cons_succ])
    refine wpAnyH_take (i := 4) (oi := _) (v := ?vu4) rfl (by kernel_rfl) (by kernel_rfl) (by kernel_rfl) (fun _ _ _ h => h) (Or.inl ⟨by rfl, ?hyu4⟩) (by assumption) ?restu4
    case hyu4 => (intro wz hSw; obtain ⟨⟨s0, s1, s2, s3⟩, ⟨s4, s5, s6, s7⟩, ⟨s8, s9, s10, s11⟩, ⟨s12, s13, s14, s15⟩⟩ := hSw.cells; go_simp; try with_reducible rfl)
    (try simp only [List.getElem_toArray, List.getElem_cons_zero, List.getElem_cons_succ, Act.put, List.setIfInBounds_toArray, List.set_cons_zero, List.set_cons_succ])
    refine wpAnyH_take (i := 5) (oi := _) (v := ?vu5) rfl (by kernel_rfl) (by kernel_rfl) (by kernel_rfl) (fun _ _ _ h => h) (Or.inl ⟨by rfl, ?hyu5⟩) (by assumption) ?restu5
    case hyu5 => (intro wz hSw; obtain ⟨⟨s0, s1, s2, s3⟩, ⟨s4, s5, s6, s7⟩, ⟨s8, s9, s10, s11⟩, ⟨s12, s13, s14, s15⟩⟩ := hSw.cells; go_simp; try with_reducible rfl)
    (try simp only [List.getElem_toArray, List.getElem_cons_zero, List.getElem_cons_succ, Act.put, List.setIfInBounds_toArray, List.set_cons_zero, List.set_cons_succ])
    refine wpAnyH_take (i := 6) (oi := _) (v := ?vu6) rfl (by kernel_rfl) (by kernel_rfl) (by kernel_rfl) (fun _ _ _ h => h) (Or.inl ⟨by rfl, ?hyu6⟩) (by assumption) ?restu6
    case hyu6 => (intro wz hSw; obtain ⟨⟨s0, s1, s2, s3⟩, ⟨s4, s5, s6, s7⟩, ⟨s8, s9, s10, s11⟩, ⟨s12, s13, s14, s15⟩⟩ := hSw.cells; go_simp; try with_reducible rfl)
    (try simp only [List.getElem_toArray, List.getElem_cons_zero, List.getElem_cons_succ, Act.put, List.setIfInBounds_toArray, List.set_cons_zero, List.set_cons_succ])
    refine wpAnyH_take (i := 7) (oi := _) (v := ?vu7) rfl (by kernel_rfl) (by kernel_rfl) (by kernel_rfl) (fun _ _ _ h => h) (Or.inl ⟨by rfl, ?hyu7⟩) (by assumption) ?restu7
    case hyu7 => (intro wz hSw; obtain ⟨⟨s0, s1, s2, s3⟩, ⟨s4, s5, s6, s7⟩, ⟨s8, s9, s10, s11⟩, ⟨s12, s13, s14, s15⟩⟩ := hSw.cells; go_simp; try with_reducible rfl)
    (try simp only [List.getElem_toArray, List.getElem_cons_zero, List.getElem_cons_succ, Act.put, List.setIfInBounds_toArray, List.set_cons_zero, List.set_cons_succ])
    refine wpAnyH_take (i := 8) (oi := _) (v := ?vu8) rfl (by kernel_rfl) (by kernel_rfl) (by kernel_rfl) (fun _ _ _ h => h) (Or.inl ⟨by rfl, ?hyu8⟩) (by assumption) ?restu8
    case hyu8 => (intro wz hSw; obtain ⟨⟨s0, s1, s2, s3⟩, ⟨s4, s5, s6, s7⟩, ⟨s8, s9, s10, s11⟩, ⟨s12, s13, s14, s15⟩⟩ := hSw.cells; go_simp; try with_reducible rfl)
    (try simp only [List.getElem_toArray, List.getElem_cons_zero, List.getElem_cons_succ, Act.put, List.setIfInBounds_toArray, List.set_cons_zero, List.set_cons_succ])
    refine wpAnyH_take (i := 9) (oi := _) (v := ?vu9) rfl (by kernel_rfl) (by kernel_rfl) (by kernel_rfl) (fun _ _ _ h => h) (Or.inl ⟨by rfl, ?hyu9⟩) (by assumption) ?restu9
    case hyu9 => (intro wz hSw; obtain ⟨⟨s0, s1, s2, s3⟩, ⟨s4, s5, s6, s7⟩, ⟨s8, s9, s10, s11⟩, ⟨s12, s13, s14, s15⟩⟩ := hSw.cells; go_simp; try with_reducible rfl)
    (try simp only [List.getElem_toArray, List.getElem_cons_zero, List.getElem_cons_succ, Act.put, List.setIfInBounds_toArray, List.set_cons_zero, List.set_cons_succ])
    refine wpAnyH_take (i := 10) (oi := _) (v := ?vu10) rfl (by kernel_rfl) (by kernel_rfl) (by kernel_rfl) (fun _ _ _ h => h) (Or.inl ⟨by rfl, ?hyu10⟩) (by assumption) ?restu10
    case hyu10 => (intro wz hSw; obtain ⟨⟨s0, s1, s2, s3⟩, ⟨s4, s5, s6, s7⟩, ⟨s8, s9, s10, s11⟩, ⟨s12, s13, s14, s15⟩⟩ := hSw.cells; go_simp; try with_reducible rfl)
    (try simp only [List.getElem_toArray, List.getElem_cons_zero, List.getElem_cons_succ, Act.put, List.setIfInBounds_toArray, List.set_cons_zero, List.set_cons_succ])
    refine wpAnyH_take (i := 11) (oi := _) (v := ?vu11) rfl (by kernel_rfl) (by kernel_rfl) (by kernel_rfl) (fun _ _ _ h => h) (Or.inl ⟨by rfl, ?hyu11⟩) (by assumption) ?restu11
    case hyu11 => (intro wz hSw; obtain ⟨⟨s0, s1, s2, s3⟩, ⟨s4, s5, s6, s7⟩, ⟨s8, s9, s10, s11⟩, ⟨s12, s13, s14, s15⟩⟩ := hSw.cells; go_simp; try with_reducible rfl)
    (try simp only [List.getElem_toArray, List.getElem_cons_zero, List.getElem_cons_succ, Act.put, List.setIfInBounds_toArray, List.set_cons_zero, List.set_cons_succ])
    refine wpAnyH_take (i := 12) (oi := _) (v := ?vu12) rfl (by kernel_rfl) (by kernel_rfl) (by kernel_rfl) (fun _ _ _ h => h) (Or.inl ⟨by rfl, ?hyu12⟩) (by assumption) ?restu12
    case hyu12 => (intro wz hSw; obtain ⟨⟨s0, s1, s2, s3⟩, ⟨s4, s5, s6, s7⟩, ⟨s8, s9, s10, s11⟩, ⟨s12, s13, s14, s15⟩⟩ := hSw.cells; go_simp; try with_reducible rfl)
    (try simp only [List.getElem_toArray, List.getElem_cons_zero, List.getElem_cons_succ, Act.put, List.setIfInBounds_toArray, List.set_cons_zero, List.set_cons_succ])
    refine wpAnyH_take (i := 13) (oi := _) (v := ?vu13) rfl (by kernel_rfl) (by kernel_rfl) (by kernel_rfl) (fun _ _ _ h => h) (Or.inl ⟨by rfl, ?hyu13⟩) (by assumption) ?restu13
    case hyu13 => (intro wz hSw; obtain ⟨⟨s0, s1, s2, s3⟩, ⟨s4, s5, s6, s7⟩, ⟨s8, s9, s10, s11⟩, ⟨s12, s13, s14, s15⟩⟩ := hSw.cells; go_simp; try with_reducible rfl)
    (try simp only [List.getElem_toArray, List.getElem_cons_zero, List.getElem_cons_succ, Act.put, List.setIfInBounds_toArray, List.set_cons_zero, List.set_cons_succ])
    refine wpAnyH_take (i := 14) (oi := _) (v := ?vu14) rfl (by kernel_rfl) (by kernel_rfl) (by kernel_rfl) (fun _ _ _ h => h) (Or.inl ⟨by rfl, ?hyu14⟩) (by assumption) ?restu14
    case hyu14 => (intro wz hSw; obtain ⟨⟨s0, s1, s2, s3⟩, ⟨s4, s5, s6, s7⟩, ⟨s8, s9, s10, s11⟩, ⟨s12, s13, s14, s15⟩⟩ := hSw.cells; go_simp; try with_reducible rfl)
    (try simp only [List.getElem_toArray, List.getElem_cons_zero, List.getElem_cons_succ, Act.put, List.setIfInBounds_toArray, List.set_cons_zero, List.set_cons_succ])
    refine wpAnyH_take (i := 15) (oi := _) (v := ?vu15) rfl (by kernel_rfl) (by kernel_rfl) (by kernel_rfl) (fun _ _ _ h => h) (Or.inl ⟨by rfl, ?hyu15⟩) (by assumption) ?restu15
    case hyu15 => (intro wz hSw; obtain ⟨⟨s0, s1, s2, s3⟩, ⟨s4, s5, s6, s7⟩, ⟨s8, s9, s10, s11⟩, ⟨s12, s13, s14, s15⟩⟩ := hSw.cells; go_simp; try with_reducible rfl)
    (try simp only [List.getElem_toArray, List.getElem_cons_zero, List.getElem_cons_succ, Act.put, List.setIfInBounds_toArray, List.set_cons_zero, List.set_cons_succ])
    refine wpAnyH_take (i := 16) (oi := _) (v := ?vu16) rfl (by kernel_rfl) (by kernel_rfl) (by kernel_rfl) (fun _ _ _ h => h) (Or.inl ⟨by rfl, ?hyu16⟩) (by assumption) ?restu16
    case hyu16 => (intro wz hSw; obtain ⟨⟨s0, s1, s2, s3⟩, ⟨s4, s5, s6, s7⟩, ⟨s8, s9, s10, s11⟩, ⟨s12, s13, s14, s15⟩⟩ := hSw.cells; go_simp; try with_reducible rfl)
    (try simp only [List.getElem_toArray, List.getElem_cons_zero, List.getElem_cons_succ, Act.put, List.setIfInBounds_toArray, List.set_cons_zero, List.set_cons_succ])
    refine wpAnyH_take (i := 17) (oi := _) (v := ?vu17) rfl (by kernel_rfl) (by kernel_rfl) (by kernel_rfl) (fun _ _ _ h => h) (Or.inl ⟨by rfl, ?hyu17⟩) (by assumption) ?restu17
    case hyu17 => (intro wz hSw; obtain ⟨⟨s0, s1, s2, s3⟩, ⟨s4, s5, s6, s7⟩, ⟨s8, s9, s10, s11⟩, ⟨s12, s13, s14, s15⟩⟩ := hSw.cells; go_simp; try with_reducible rfl)
    (try simp only [List.getElem_toArray, List.getElem_cons_zero, List.getElem_cons_succ, Act.put, List.setIfInBounds_toArray, List.set_cons_zero, List.set_cons_succ])
    refine wpAnyH_ready (rs := [18]) (by kernel_rfl) (by simp) ?_
    refine AllReadyH.cons (o := _) rfl (fun K hK => ?_) AllReadyH.nil
    rw [if_pos (by rfl)]
    go_simp
    (go_at_call 12; (with_reducible refine (awake_any7 _).mono ?_); rintro e wz ⟨rfl, hz⟩; have HS2 := Lib.hid (HS1.out.later hz); clear hz)
    dsimp only
    refine hK.out _ _ (by first | exact HS2.out | exact HS1.out) (fun hHeld => ?_)
    clear hK K
    (try simp only [List.getElem_toArray, List.getElem_cons_zero, List.getElem_cons_succ, Act.put, List.setIfInBounds_toArray, List.set_cons_zero, List.set_cons_succ])
    refine wpAnyH_take (i := 19) (oi := _) (v := ?vu19) rfl (by kernel_rfl) (by kernel_rfl) (by kernel_rfl) (fun _ _ _ h => h) (Or.inl ⟨by rfl, ?hyu19⟩) (by assumption) ?restu19
    case hyu19 => (intro wz hSw; obtain ⟨⟨s0, s1, s2, s3⟩, ⟨s4, s5, s6, s7⟩, ⟨s8, s9, s10, s11⟩, ⟨s12, s13, s14, s15⟩⟩ := hSw.cells; go_simp; try with_reducible rfl)
    (try simp only [List.getElem_toArray, List.getElem_cons_zero, List.getElem_cons_succ, Act.put, List.setIfInBounds_toArray, List.set_cons_zero, List.set_cons_succ])
    refine wpAnyH_take (i := 20) (oi := _) (v := ?vu20) rfl (by kernel_rfl) (by kernel_rfl) (by kernel_rfl) (fun _ _ _ h => h) (Or.inl ⟨by rfl, ?hyu20⟩) (by assumption) ?restu20
    case hyu20 => (intro wz hSw; obtain ⟨⟨s0, s1, s2, s3⟩, ⟨s4, s5, s6, s7⟩, ⟨s8, s9, s10, s11⟩, ⟨s12, s13, s14, s15⟩⟩ := hSw.cells; go_simp; try with_reducible rfl)
    (try simp only [List.getElem_toArray, List.getElem_cons_zero, List.getElem_cons_succ, Act.put, List.setIfInBounds_toArray, List.set_cons_zero, List.set_cons_succ])
    refine wpAnyH_done (by kernel_rfl) ?_ _
    go_wp2
    go_ret
    exact ⟨rfl, HS2.out.2.2.2⟩
  · go_enter Try.func6, Try.ntmps6
    go_wp2_with (first
      | (go_at_call 11; go_in)
      | (go_at_call 9; (with_reducible refine (HP.out _).mono ?_); rintro e wa hp; obtain ⟨xa, ya, rfl, hB, hc, hb⟩ := hp.sized HL1.out; have HBa := Lib.hid hB; have HCa := Lib.hid hc.2; have HXa := Lib.hid (HX1.out.later hb); have HYa := Lib.hid (HY1.out.later hb); obtain ⟨m0, m1, m2, m3⟩ := cells4 HYa.out; have HGa := Lib.hid (HG1.out.trans (hb.mono (Nat.le_trans (Nat.le_of_eq HSZ.out.symm) HG1.out.size))); clear hp hB hc hb HP)
      | (go_at_call 9; (with_reducible refine (HP2.out _).mono ?_); rintro e wb hp; obtain ⟨xb, yb, rfl, hB, hc, hb⟩ := hp.sized HL2.out; have HBb := Lib.hid hB; have HCb := Lib.hid hc.2; have HBa2 := Lib.hid (HBa.out.later hb); have HXb := Lib.hid (HXa.out.later hb); have HYb := Lib.hid (HYa.out.later hb); have HGb := Lib.hid (HGa.out.trans (hb.mono (Nat.le_trans (Nat.le_of_eq HSZ.out.symm) HGa.out.size))); clear hp hB hc hb HP2)
      | (go_at_call 13; (with_reducible refine (HGT.out _ _ _ HBa2.out HCa.out).mono ?_); rintro e wc ⟨rfl, hb⟩; have hb' := hb.alloc (Nat.le_trans hb.size (Nat.le_refl _)) (.cells #[.int .i64 Q, .int .i64 S, .int .i64 C, .int .u32 a3] 24); have HcA := Lib.hid (HBa2.out.later hb'); have HcE := Lib.hid (HBb.out.later hb'); have HcX := Lib.hid (HXb.out.later hb'); have HcY := Lib.hid (HYb.out.later hb'); obtain ⟨n0, n1, n2, n3⟩ := cells4 HcX.out; have HcG := Lib.hid (HGb.out.trans (hb'.mono (Nat.le_trans (Nat.le_of_eq HSZ.out.symm) HGb.out.size))); clear hb hb' HGT)
      | (go_at_call 16; (with_reducible refine (order_at (K := 2) HcA.out HCa.out HcE.out HCb.out HOA.out rfl).mono ?_); rintro e wd ⟨xd, yd, rfl, g1, g2⟩; have HBAd := Lib.hid (HcA.out.later g2); have HBEd := Lib.hid (HcE.out.later g2); have HXd := Lib.hid (HcX.out.later g2); have HYd := Lib.hid (HcY.out.later g2); have HWd := Lib.hid (g1.reads sl_rowed).1; have HOd := Lib.hid g1; have HGd := Lib.hid (HcG.out.trans (g2.mono (Nat.le_trans (Nat.le_of_eq HSZ.out.symm) HcG.out.size))); clear g1 g2))
    obtain ⟨g, cg, hg⟩ := HOd.out.lies1 (by omega)
    cases hg
    have HS1 : Hid (Two w X g Q S C a3 T wd.drew) := Lib.hid (Two.drew ⟨HXd.out, HYd.out, HWd.out, HGd.out⟩)
    clear m0 m1 m2 m3 n0 n1 n2 n3
    refine wp_region_held_drew (S := fun W' => Two w X g Q S C a3 T W') (by kernel_rfl) (by first | exact HS2.out | exact HS1.out) (fun hHeld => ?_)
    refine wpAnyH_take (i := 0) (oi := _) (v := ?vv0) rfl (by kernel_rfl) (by kernel_rfl) (by kernel_rfl) (fun _ _ _ h => h) (Or.inl ⟨by rfl, ?hyv0⟩) (by assumption) ?restv0
    case hyv0 => (intro wz hSw; obtain ⟨⟨s0, s1, s2, s3⟩, ⟨s4, s5, s6, s7⟩, ⟨s8, s9, s10, s11⟩, ⟨s12, s13, s14, s15⟩⟩ := hSw.cells; go_simp; try with_reducible rfl)
    (try simp only [List.getElem_toArray, List.getElem_cons_zero, Act.put, List.setIfInBounds_toArray, List.set_cons_zero, List.set_cons_succ])
    refine wpAnyH_take (i := 1) (oi := _) (v := ?vv1) rfl (by kernel_rfl) (by kernel_rfl) (by kernel_rfl) (fun _ _ _ h => h) (Or.inl ⟨by rfl, ?hyv1⟩) (by assumption) ?restv1
    case hyv1 => (intro wz hSw; obtain ⟨⟨s0, s1, s2, s3⟩, ⟨s4, s5, s6, s7⟩, ⟨s8, s9, s10, s11⟩, ⟨s12, s13, s14, s15⟩⟩ := hSw.cells; go_simp; try with_reducible rfl)
    (try simp only [List.getElem_toArray, List.getElem_cons_zero, List.getElem_cons_succ, Act.put, List.setIfInBounds_toArray, List.set_cons_zero, List.set_cons_succ])
    refine wpAnyH_take (i := 2) (oi := _) (v := ?vv2) rfl (by kernel_rfl) (by kernel_rfl) (by kernel_rfl) (fun _ _ _ h => h) (Or.inl ⟨by rfl, ?hyv2⟩) (by assumption) ?restv2
    case hyv2 => (intro wz hSw; obtain ⟨⟨s0, s1, s2, s3⟩, ⟨s4, s5, s6, s7⟩, ⟨s8, s9, s10, s11⟩, ⟨s12, s13, s14, s15⟩⟩ := hSw.cells; go_simp; try with_reducible rfl)
    (try simp only [List.getElem_toArray, List.getElem_cons_zero, List.getElem_cons_succ, Act.put, List.setIfInBounds_toArray, List.set_cons_zero, List.set_cons_succ])
    refine wpAnyH_take (i := 3) (oi := _) (v := ?vv3) rfl (by kernel_rfl) (by kernel_rfl) (by kernel_rfl) (fun _ _ _ h => h) (Or.inl ⟨by rfl, ?hyv3⟩) (by assumption) ?restv3
    case hyv3 => (intro wz hSw; obtain ⟨⟨s0, s1, s2, s3⟩, ⟨s4, s5, s6, s7⟩, ⟨s8, s9, s10, s11⟩, ⟨s12, s13, s14, s15⟩⟩ := hSw.cells; go_simp; try with_reducible rfl)
    (try simp only [List.getElem_toArray, List.getElem_cons_zero, List.getElem_cons_succ, Act.put, List.setIfInBounds_toArray, List.set_cons_zero, List.set_cons_succ])
    refine wpAnyH_take (i := 4) (oi := _) (v := ?vv4) rfl (by kernel_rfl) (by kernel_rfl) (by kernel_rfl) (fun _ _ _ h => h) (Or.inl ⟨by rfl, ?hyv4⟩) (by assumption) ?restv4
    case hyv4 => (intro wz hSw; obtain ⟨⟨s0, s1, s2, s3⟩, ⟨s4, s5, s6, s7⟩, ⟨s8, s9, s10, s11⟩, ⟨s12, s13, s14, s15⟩⟩ := hSw.cells; go_simp; try with_reducible rfl)
    (try simp only [List.getElem_toArray, List.getElem_cons_zero, List.getElem_cons_succ, Act.put, List.setIfInBounds_toArray, List.set_cons_zero, List.set_cons_succ])
    refine wpAnyH_take (i := 5) (oi := _) (v := ?vv5) rfl (by kernel_rfl) (by kernel_rfl) (by kernel_rfl) (fun _ _ _ h => h) (Or.inl ⟨by rfl, ?hyv5⟩) (by assumption) ?restv5
    case hyv5 => (intro wz hSw; obtain ⟨⟨s0, s1, s2, s3⟩, ⟨s4, s5, s6, s7⟩, ⟨s8, s9, s10, s11⟩, ⟨s12, s13, s14, s15⟩⟩ := hSw.cells; go_simp; try with_reducible rfl)
    (try simp only [List.getElem_toArray, List.getElem_cons_zero, List.getElem_cons_succ, Act.put, List.setIfInBounds_toArray, List.set_cons_zero, List.set_cons_succ])
    refine wpAnyH_take (i := 6) (oi := _) (v := ?vv6) rfl (by kernel_rfl) (by kernel_rfl) (by kernel_rfl) (fun _ _ _ h => h) (Or.inl ⟨by rfl, ?hyv6⟩) (by assumption) ?restv6
    case hyv6 => (intro wz hSw; obtain ⟨⟨s0, s1, s2, s3⟩, ⟨s4, s5, s6, s7⟩, ⟨s8, s9, s10, s11⟩, ⟨s12, s13, s14, s15⟩⟩ := hSw.cells; go_simp; try with_reducible rfl)
    (try simp only [List.getElem_toArray, List.getElem_cons_zero, List.getElem_cons_succ, Act.put, List.setIfInBounds_toArray, List.set_cons_zero, List.set_cons_succ])
    refine wpAnyH_take (i := 7) (oi := _) (v := ?vv7) rfl (by kernel_rfl) (by kernel_rfl) (by kernel_rfl) (fun _ _ _ h => h) (Or.inl ⟨by rfl, ?hyv7⟩) (by assumption) ?restv7
    case hyv7 => (intro wz hSw; obtain ⟨⟨s0, s1, s2, s3⟩, ⟨s4, s5, s6, s7⟩, ⟨s8, s9, s10, s11⟩, ⟨s12, s13, s14, s15⟩⟩ := hSw.cells; go_simp; try with_reducible rfl)
    (try simp only [List.getElem_toArray, List.getElem_cons_zero, List.getElem_cons_succ, Act.put, List.setIfInBounds_toArray, List.set_cons_zero, List.set_cons_succ])
    refine wpAnyH_take (i := 8) (oi := _) (v := ?vv8) rfl (by kernel_rfl) (by kernel_rfl) (by kernel_rfl) (fun _ _ _ h => h) (Or.inl ⟨by rfl, ?hyv8⟩) (by assumption) ?restv8
    case hyv8 => (intro wz hSw; obtain ⟨⟨s0, s1, s2, s3⟩, ⟨s4, s5, s6, s7⟩, ⟨s8, s9, s10, s11⟩, ⟨s12, s13, s14, s15⟩⟩ := hSw.cells; go_simp; try with_reducible rfl)
    (try simp only [List.getElem_toArray, List.getElem_cons_zero, List.getElem_cons_succ, Act.put, List.setIfInBounds_toArray, List.set_cons_zero, List.set_cons_succ])
    refine wpAnyH_take (i := 9) (oi := _) (v := ?vv9) rfl (by kernel_rfl) (by kernel_rfl) (by kernel_rfl) (fun _ _ _ h => h) (Or.inl ⟨by rfl, ?hyv9⟩) (by assumption) ?restv9
    case hyv9 => (intro wz hSw; obtain ⟨⟨s0, s1, s2, s3⟩, ⟨s4, s5, s6, s7⟩, ⟨s8, s9, s10, s11⟩, ⟨s12, s13, s14, s15⟩⟩ := hSw.cells; go_simp; try with_reducible rfl)
    (try simp only [List.getElem_toArray, List.getElem_cons_zero, List.getElem_cons_succ, Act.put, List.setIfInBounds_toArray, List.set_cons_zero, List.set_cons_succ])
    refine wpAnyH_take (i := 10) (oi := _) (v := ?vv10) rfl (by kernel_rfl) (by kernel_rfl) (by kernel_rfl) (fun _ _ _ h => h) (Or.inl ⟨by rfl, ?hyv10⟩) (by assumption) ?restv10
    case hyv10 => (intro wz hSw; obtain ⟨⟨s0, s1, s2, s3⟩, ⟨s4, s5, s6, s7⟩, ⟨s8, s9, s10, s11⟩, ⟨s12, s13, s14, s15⟩⟩ := hSw.cells; go_simp; try with_reducible rfl)
    (try simp only [List.getElem_toArray, List.getElem_cons_zero, List.getElem_cons_succ, Act.put, List.setIfInBounds_toArray, List.set_cons_zero, List.set_cons_succ])
    refine wpAnyH_take (i := 11) (oi := _) (v := ?vv11) rfl (by kernel_rfl) (by kernel_rfl) (by kernel_rfl) (fun _ _ _ h => h) (Or.inl ⟨by rfl, ?hyv11⟩) (by assumption) ?restv11
    case hyv11 => (intro wz hSw; obtain ⟨⟨s0, s1, s2, s3⟩, ⟨s4, s5, s6, s7⟩, ⟨s8, s9, s10, s11⟩, ⟨s12, s13, s14, s15⟩⟩ := hSw.cells; go_simp; try with_reducible rfl)
    (try simp only [List.getElem_toArray, List.getElem_cons_zero, List.getElem_cons_succ, Act.put, List.setIfInBounds_toArray, List.set_cons_zero, List.set_cons_succ])
    refine wpAnyH_take (i := 12) (oi := _) (v := ?vv12) rfl (by kernel_rfl) (by kernel_rfl) (by kernel_rfl) (fun _ _ _ h => h) (Or.inl ⟨by rfl, ?hyv12⟩) (by assumption) ?restv12
    case hyv12 => (intro wz hSw; obtain ⟨⟨s0, s1, s2, s3⟩, ⟨s4, s5, s6, s7⟩, ⟨s8, s9, s10, s11⟩, ⟨s12, s13, s14, s15⟩⟩ := hSw.cells; go_simp; try with_reducible rfl)
    (try simp only [List.getElem_toArray, List.getElem_cons_zero, List.getElem_cons_succ, Act.put, List.setIfInBounds_toArray, List.set_cons_zero, List.set_cons_succ])
    refine wpAnyH_take (i := 13) (oi := _) (v := ?vv13) rfl (by kernel_rfl) (by kernel_rfl) (by kernel_rfl) (fun _ _ _ h => h) (Or.inl ⟨by rfl, ?hyv13⟩) (by assumption) ?restv13
    case hyv13 => (intro wz hSw; obtain ⟨⟨s0, s1, s2, s3⟩, ⟨s4, s5, s6, s7⟩, ⟨s8, s9, s10, s11⟩, ⟨s12, s13, s14, s15⟩⟩ := hSw.cells; go_simp; try with_reducible rfl)
    (try simp only [List.getElem_toArray, List.getElem_cons_zero, List.getElem_cons_succ, Act.put, List.setIfInBounds_toArray, List.set_cons_zero, List.set_cons_succ])
    refine wpAnyH_take (i := 14) (oi := _) (v := ?vv14) rfl (by kernel_rfl) (by kernel_rfl) (by kernel_rfl) (fun _ _ _ h => h) (Or.inl ⟨by rfl, ?hyv14⟩) (by assumption) ?restv14
    case hyv14 => (intro wz hSw; obtain ⟨⟨s0, s1, s2, s3⟩, ⟨s4, s5, s6, s7⟩, ⟨s8, s9, s10, s11⟩, ⟨s12, s13, s14, s15⟩⟩ := hSw.cells; go_simp; try with_reducible rfl)
    (try simp only [List.getElem_toArray, List.getElem_cons_zero, List.getElem_cons_succ, Act.put, List.setIfInBounds_toArray, List.set_cons_zero, List.set_cons_succ])
    refine wpAnyH_take (i := 15) (oi := _) (v := ?vv15) rfl (by kernel_rfl) (by kernel_rfl) (by kernel_rfl) (fun _ _ _ h => h) (Or.inl ⟨by rfl, ?hyv15⟩) (by assumption) ?restv15
    case hyv15 => (intro wz hSw; obtain ⟨⟨s0, s1, s2, s3⟩, ⟨s4, s5, s6, s7⟩, ⟨s8, s9, s10, s11⟩, ⟨s12, s13, s14, s15⟩⟩ := hSw.cells; go_simp; try with_reducible rfl)
    (try simp only [List.getElem_toArray, List.getElem_cons_zero, List.getElem_cons_succ, Act.put, List.setIfInBounds_toArray, List.set_cons_zero, List.set_cons_succ])
    refine wpAnyH_take (i := 16) (oi := _) (v := ?vv16) rfl (by kernel_rfl) (by kernel_rfl) (by kernel_rfl) (fun _ _ _ h => h) (Or.inl ⟨by rfl, ?hyv16⟩) (by assumption) ?restv16
    case hyv16 => (intro wz hSw; obtain ⟨⟨s0, s1, s2, s3⟩, ⟨s4, s5, s6, s7⟩, ⟨s8, s9, s10, s11⟩, ⟨s12, s13, s14, s15⟩⟩ := hSw.cells; go_simp; try with_reducible rfl)
    (try simp only [List.getElem_toArray, List.getElem_cons_zero, List.getElem_cons_succ, Act.put, List.setIfInBounds_toArray, List.set_cons_zero, List.set_cons_succ])
    refine wpAnyH_take (i := 17) (oi := _) (v := ?vv17) rfl (by kernel_rfl) (by kernel_rfl) (by kernel_rfl) (fun _ _ _ h => h) (Or.inl ⟨by rfl, ?hyv17⟩) (by assumption) ?restv17
    case hyv17 => (intro wz hSw; obtain ⟨⟨s0, s1, s2, s3⟩, ⟨s4, s5, s6, s7⟩, ⟨s8, s9, s10, s11⟩, ⟨s12, s13, s14, s15⟩⟩ := hSw.cells; go_simp; try with_reducible rfl)
    (try simp only [List.getElem_toArray, List.getElem_cons_zero, List.getElem_cons_succ, Act.put, List.setIfInBounds_toArray, List.set_cons_zero, List.set_cons_succ])
    refine wpAnyH_ready (rs := [18]) (by kernel_rfl) (by simp) ?_
    refine AllReadyH.cons (o := _) rfl (fun K hK => ?_) AllReadyH.nil
    rw [if_pos (by rfl)]
    go_simp
    (go_at_call 12; (with_reducible refine (awake_any7 _).mono ?_); rintro e wz ⟨rfl, hz⟩; have HS2 := Lib.hid (HS1.out.later hz); clear hz)
    dsimp only
    refine hK.out _ _ (by first | exact HS2.out | exact HS1.out) (fun hHeld => ?_)
    clear hK K
    (try simp only [List.getElem_toArray, List.getElem_cons_zero, List.getElem_cons_succ, Act.put, List.setIfInBounds_toArray, List.set_cons_zero, List.set_cons_succ])
    refine wpAnyH_take (i := 19) (oi := _) (v := ?vv19) rfl (by kernel_rfl) (by kernel_rfl) (by kernel_rfl) (fun _ _ _ h => h) (Or.inl ⟨by rfl, ?hyv19⟩) (by assumption) ?restv19
    case hyv19 => (intro wz hSw; obtain ⟨⟨s0, s1, s2, s3⟩, ⟨s4, s5, s6, s7⟩, ⟨s8, s9, s10, s11⟩, ⟨s12, s13, s14, s15⟩⟩ := hSw.cells; go_simp; try with_reducible rfl)
    (try simp only [List.getElem_toArray, List.getElem_cons_zero, List.getElem_cons_succ, Act.put, List.setIfInBounds_toArray, List.set_cons_zero, List.set_cons_succ])
    refine wpAnyH_take (i := 20) (oi := _) (v := ?vv20) rfl (by kernel_rfl) (by kernel_rfl) (by kernel_rfl) (fun _ _ _ h => h) (Or.inl ⟨by rfl, ?hyv20⟩) (by assumption) ?restv20
    case hyv20 => (intro wz hSw; obtain ⟨⟨s0, s1, s2, s3⟩, ⟨s4, s5, s6, s7⟩, ⟨s8, s9, s10, s11⟩, ⟨s12, s13, s14, s15⟩⟩ := hSw.cells; go_simp; try with_reducible rfl)
    (try simp only [List.getElem_toArray, List.getElem_cons_zero, List.getElem_cons_succ, Act.put, List.setIfInBounds_toArray, List.set_cons_zero, List.set_cons_succ])
    refine wpAnyH_done (by kernel_rfl) ?_ _
    go_wp2
    go_ret
    exact ⟨rfl, HS2.out.2.2.2⟩

set_option maxRecDepth 100000 in
theorem lifted (os : Os) (started : os.Started) (H : Type) (enc : TypeId × Value → H) :
    ReturnsInHanded {} Try.checked os 6 .any (Rows.slotBackSpec.pre6 enc Try.prog Try.f6 Rows.slotBackRow.domain false) (Rows.slotBackSpec.post enc Try.prog Try.f6 false true false false) := by
  refine returnsInHanded_of_change (C := Try.checked) own started (by kernel_rfl) Try.func6
    (ChangeSpec.witness6 (enc := enc) (C := Try.checked) false ⟨#[], #[.int .u16 0, .int .u16 0, .int .u16 0, .int .u32 0, .bool false], []⟩ 8 (by kernel_rfl) (by kernel_rfl) (by kernel_rfl) (by kernel_rfl)) ?_
  intro W base args ds gs before hval0 hW hcnd _
  have hval : ∀ (j : Nat) t v, Try.f6.params[j]? = some t → args[j]? = some v → Value.okWide Try.prog W .any base t v := hval0
  have hW' := hW
  obtain ⟨p, q, hA0, hV, rfl, hfz, hnd⟩ := hW
  have hA : DataW.TrodAll enc Try.prog W 0 (fun _ => true) true Try.f6.params.toList args.toList ds p := hA0
  rw [Try.params6] at hA hval
  obtain ⟨v0, vs0, d0, ds0, p0, q0, hargs, rfl, rfl, h0, r0⟩ := trodAll_cons hA
  obtain ⟨v1, vs1, d1, ds1, p1, q1, rfl, rfl, rfl, h1, r1⟩ := trodAll_cons r0
  obtain ⟨v2, vs2, d2, ds2, p2, q2, rfl, rfl, rfl, h2, r2⟩ := trodAll_cons r1
  obtain ⟨v3, vs3, d3, ds3, p3, q3, rfl, rfl, rfl, h3, r3⟩ := trodAll_cons r2
  obtain ⟨v4, vs4, d4, ds4, p4, q4, rfl, rfl, rfl, h4, r4⟩ := trodAll_cons r3
  obtain ⟨rfl, rfl, rfl⟩ := trodAll_nil r4
  obtain rfl : args = #[v0, v1, v2, v3, v4] := by cases args; simp_all
  obtain ⟨rfl, rfl⟩ := trodVars_none hV
  have k0 := h0
  have lt0 : ∀ x ∈ p0, x.block < W.heap.size := by obtain ⟨m, hm⟩ := k0; exact DataW.trod_lt m _ _ _ hm
  obtain ⟨a0, rfl, _, _, w0⟩ := open_int Try.underlying43 (hval 0 43 v0 rfl rfl) h0
  have k1 := h1
  have lt1 : ∀ x ∈ p1, x.block < W.heap.size := by obtain ⟨m, hm⟩ := k1; exact DataW.trod_lt m _ _ _ hm
  obtain ⟨a1, rfl, _, _, w1⟩ := open_int Try.underlying43 (hval 1 43 v1 rfl rfl) h1
  have k2 := h2
  have lt2 : ∀ x ∈ p2, x.block < W.heap.size := by obtain ⟨m, hm⟩ := k2; exact DataW.trod_lt m _ _ _ hm
  obtain ⟨a2, rfl, _, _, w2⟩ := open_int Try.underlying43 (hval 2 43 v2 rfl rfl) h2
  have k3 := h3
  have lt3 : ∀ x ∈ p3, x.block < W.heap.size := by obtain ⟨m, hm⟩ := k3; exact DataW.trod_lt m _ _ _ hm
  obtain ⟨a3, rfl, _, _, w3⟩ := open_int Try.underlying22 (hval 3 22 v3 rfl rfl) h3
  have k4 := h4
  have lt4 : ∀ x ∈ p4, x.block < W.heap.size := by obtain ⟨m, hm⟩ := k4; exact DataW.trod_lt m _ _ _ hm
  obtain ⟨a4, rfl, _, _⟩ := open_bool Try.underlying4 (hval 4 4 v4 rfl rfl) h4
  clear hA0 hval0
  refine (walk a0 a1 a2 a3 a4 W w0 w1 w2 w3).mono fun e W' ⟨he, bel⟩ => ?_
  subst he
  exact ⟨_, rfl, _, _, _, [], _, [], hW', trodAll_mk1 (shut_bool Try.underlying4 _), (trodAll_cons_mk (Below.trod laidOut (by kernel_rfl) (of_decide_eq_true (by kernel_rfl)) k0 bel lt0) (trodAll_cons_mk (Below.trod laidOut (by kernel_rfl) (of_decide_eq_true (by kernel_rfl)) k1 bel lt1) (trodAll_cons_mk (Below.trod laidOut (by kernel_rfl) (of_decide_eq_true (by kernel_rfl)) k2 bel lt2) (trodAll_cons_mk (Below.trod laidOut (by kernel_rfl) (of_decide_eq_true (by kernel_rfl)) k3 bel lt3) (trodAll_cons_mk (Below.trod laidOut (by kernel_rfl) (of_decide_eq_true (by kernel_rfl)) k4 bel lt4) trodAll_mk0))))), rfl, bel.frame _, fun h => by cases h⟩

theorem over : Rows.slotBackRow.holds Try.pinned (OpenSpec.ofChange Rows.slotBackSpec) :=
  OpenClaim.holds_of_wide 6 Try.f6 rfl rfl rfl rfl rfl rfl rfl ⟨rfl, rfl, rfl, rfl, rfl⟩ rfl rfl rfl rfl rfl (by kernel_rfl) Try.func6 (by kernel_rfl)
    (of_decide_eq_true (by kernel_rfl)) (by unfold Func.isWrapper; first | (rw [if_pos (by decide +kernel)]; kernel_rfl) | (rw [if_neg (by decide +kernel)]; exact ⟨rfl, rfl⟩))
    (fun os started H enc _ => lifted os started H enc)

/-- The statement. -/
theorem proved : Rows.SlotBackSaid := over
#print axioms proved
end Go.Proofs.Ytpjlnanalielmaa.slotBack
