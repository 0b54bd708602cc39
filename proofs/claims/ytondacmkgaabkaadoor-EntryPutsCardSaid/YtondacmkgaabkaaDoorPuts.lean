/-
  Proved: 'matryoshkalaw7.EntryPuts' returns true for every input (any entry, any cluster), and each argument reads afterwards as before: the statement EntryPutsSaid as given. Conditions: none beyond the row's own.
-/
import Derived.Test.YtondacmkgaabkaaDoorRows
import Derived.Test.YtondacmkgaabkaaDoorV8
import Derived.Test.YtondacmkgaabkaaDoorTie
import Derived.Test.YtondacmkgaabkaaDoorCards
import Derived.SevenTiedAt
import Derived.LaidLaws
import Derived.Stop.Joined
import Derived.Test.YtondacmkgaabkaaDoorF8
import Derived.Deep.RegionHeld3
import Derived.WalkKit
import Derived.ProofKit
import Derived.OpenShut
import Derived.ShutString
import Derived.ChangeOld
import Derived.Below
namespace Go.Proofs.YtondacmkgaabkaaDoor.entryPuts
open Go.ChangeShapes Go.WideShapes Go.ChangeAt Go.RowKit
open Go.ChangeMaps (open_string shut_string)
set_option linter.unusedVariables false

theorem own : ownKnob Tryd.prog.godebug = none := by kernel_rfl
theorem laidOut : laidOutB Tryd.prog = true := by kernel_rfl

def Puts (w : World) (X : Nat) (k s n z m : Int) (x y : Option Addr) (N : Nat) (L : List Int) (W : World) : Prop := Blk W X 24 #[.int .i64 k, .int .i64 s, .int .i64 n, .int .i64 z, .int .u32 m] ∧ Bytes W x N L ∧ Bytes W y N L ∧ Below X w W
theorem Puts.later {w W W' : World} {X : Nat} {k s n z m : Int} {x y : Option Addr} {N : Nat} {L : List Int} (H : Puts w X k s n z m x y N L W) (hb : Below W.heap.size W W') : Puts w X k s n z m x y N L W' :=
  ⟨H.1.later hb, H.2.1.later hb, H.2.2.1.later hb, H.2.2.2.trans (hb.mono (by have := H.1.lt; omega))⟩

set_option maxRecDepth 100000 in
set_option maxHeartbeats 4000000 in
theorem walk (g0 s0 n0 z0 m0 : Int) (a1 : Int) (w : World) (w0 : EnOk (g0, s0, n0, z0, m0)) (w1 : (Lit.int .i64 a1).wf = true) (HWD : Hid (Wid w)) :
    Calls Tryd.prog 3 #[.agg #[.int .i64 g0, .int .i64 s0, .int .i64 n0, .int .i64 z0, .int .u32 m0], .int .i64 a1] w fun e w' => e = .returned (.bool true) ∧ Below w.heap.size w w' := by
  obtain ⟨L, err, hf, hr⟩ := entry_both (c := a1) w0
  obtain ⟨N, HN⟩ := named L.length
  have HF := Lib.hid hf
  have HR := Lib.hid hr
  have hm1 := fun w => entryMay_any g0 s0 n0 z0 m0 a1 w0 w
  have hm2 := fun w => refMay_any g0 s0 n0 z0 m0 a1 w0 w
  obtain ⟨B, hB⟩ := named (decide (MayE (g0, s0, n0, z0, m0) a1))
  rw [hB.out] at hm1 hm2
  have HM1 := Lib.hid hm1
  have HM2 := Lib.hid hm2
  obtain ⟨U, hU⟩ := named (strOfNums L)
  have HNM := Lib.hid (fun w => num_any8 err w)
  obtain ⟨X, hX⟩ := named w.heap.size
  have hXX := hX.out
  have HX0 : Hid (Blk (w.alloc (.cells #[.int .i64 g0, .int .i64 s0, .int .i64 n0, .int .i64 z0, .int .u32 m0] 24)) X 24 #[.int .i64 g0, .int .i64 s0, .int .i64 n0, .int .i64 z0, .int .u32 m0]) := by rw [← hX.out]; exact Blk.new w _ _
  have HG0 : Hid (Below X w (w.alloc (.cells #[.int .i64 g0, .int .i64 s0, .int .i64 n0, .int .i64 z0, .int .u32 m0] 24))) := by rw [← hX.out]; exact (Below.refl _ _).alloc (Nat.le_refl _) _
  have HSZ : Hid (w.heap.size = X) := hXX
  clear hf hr w0 w1 hm1 hm2 hB
  rw [hXX]
  go_enter Tryd.func3, Tryd.ntmps3
  go_wp2_with (first
    | (go_at_call 8; (with_reducible refine (HF.out _ (HWD.out.below HG0.out (Nat.le_of_eq HSZ.out))).mono ?_); rintro e w1 hp; obtain ⟨x1, y1, rfl, hB, _, hb⟩ := hp.sized HN.out; have HB1 := Lib.hid hB; have HX1 := Lib.hid (HX0.out.later hb); obtain ⟨j0, j1, j2, j3, j4⟩ := cells5 HX1.out; have HG1 := Lib.hid (HG0.out.trans (hb.mono (Nat.le_trans (Nat.le_of_eq HSZ.out.symm) HG0.out.size))); clear hp hB hb HF)
    | (go_at_call 9; (with_reducible refine (HR.out _).mono ?_); rintro e w2 hp; obtain ⟨x2, y2, rfl, hB, _, hb⟩ := hp.sized HN.out; have HS0 : Hid (Puts w X g0 s0 n0 z0 m0 x1 x2 N L w2.drew) := Lib.hid ⟨HX1.out.later hb.drew, HB1.out.later hb.drew, hB.drew, HG1.out.trans (hb.drew.mono (Nat.le_trans (Nat.le_of_eq HSZ.out.symm) HG1.out.size))⟩; clear hp hB hb HR))
  refine wp_region_held_drew (S := fun W' => Puts w X g0 s0 n0 z0 m0 x1 x2 N L W') (by kernel_rfl) (by first | exact HS3.out | exact HS2.out | exact HS1.out | exact HS0.out) (fun hHeld => ?_)
  refine wpAnyH_take (i := 0) (oi := _) (v := ?vp0) rfl (by kernel_rfl) (by kernel_rfl) (by kernel_rfl) (fun _ _ _ h => h) (Or.inl ⟨by rfl, ?hyp0⟩) (by assumption) ?restp0
  case hyp0 => (intro wz hSw; obtain ⟨i0, i1, i2, i3, i4⟩ := cells5 hSw.1; have v1 := conv_str hSw.2.1 y1; have v2 := conv_str hSw.2.2.1 y2; rw [hU.out] at v1 v2; go_simp; try with_reducible rfl)
  (try simp only [List.getElem_toArray, List.getElem_cons_zero, Act.put, List.setIfInBounds_toArray, List.set_cons_zero, List.set_cons_succ])
  refine wpAnyH_take (i := 1) (oi := _) (v := ?vp1) rfl (by kernel_rfl) (by kernel_rfl) (by kernel_rfl) (fun _ _ _ h => h) (Or.inl ⟨by rfl, ?hyp1⟩) (by assumption) ?restp1
  case hyp1 => (intro wz hSw; obtain ⟨i0, i1, i2, i3, i4⟩ := cells5 hSw.1; have v1 := conv_str hSw.2.1 y1; have v2 := conv_str hSw.2.2.1 y2; rw [hU.out] at v1 v2; go_simp; try with_reducible rfl)
  (try simp only [List.getElem_toArray, List.getElem_cons_zero, List.getElem_cons_succ, Act.put, List.setIfInBounds_toArray, List.set_cons_zero, List.set_cons_succ])
  refine wpAnyH_take (i := 3) (oi := _) (v := ?vp3) rfl (by kernel_rfl) (by kernel_rfl) (by kernel_rfl) (fun _ _ _ h => h) (Or.inl ⟨by rfl, ?hyp3⟩) (by assumption) ?restp3
  case hyp3 => (intro wz hSw; obtain ⟨i0, i1, i2, i3, i4⟩ := cells5 hSw.1; have v1 := conv_str hSw.2.1 y1; have v2 := conv_str hSw.2.2.1 y2; rw [hU.out] at v1 v2; go_simp; try with_reducible rfl)
  (try simp only [List.getElem_toArray, List.getElem_cons_zero, List.getElem_cons_succ, Act.put, List.setIfInBounds_toArray, List.set_cons_zero, List.set_cons_succ])
  refine wpAnyH_take (i := 4) (oi := _) (v := ?vp4) rfl (by kernel_rfl) (by kernel_rfl) (by kernel_rfl) (fun _ _ _ h => h) (Or.inl ⟨by rfl, ?hyp4⟩) (by assumption) ?restp4
  case hyp4 => (intro wz hSw; obtain ⟨i0, i1, i2, i3, i4⟩ := cells5 hSw.1; have v1 := conv_str hSw.2.1 y1; have v2 := conv_str hSw.2.2.1 y2; rw [hU.out] at v1 v2; go_simp; try with_reducible rfl)
  (try simp only [List.getElem_toArray, List.getElem_cons_zero, List.getElem_cons_succ, Act.put, List.setIfInBounds_toArray, List.set_cons_zero, List.set_cons_succ])
  refine wpAnyH_ready (rs := [2]) (by kernel_rfl) (by simp) ?_
  refine AllReadyH.cons (o := _) rfl (fun K hK => ?_) AllReadyH.nil
  rw [if_pos (by rfl)]
  go_simp
  (go_at_call 10; (with_reducible refine (HM1.out _).mono ?_); rintro e w3 ⟨rfl, g⟩; have HS1 := Lib.hid (HS0.out.later g); clear g)
  dsimp only
  refine hK.out _ _ (by first | exact HS3.out | exact HS2.out | exact HS1.out | exact HS0.out) (fun hHeld => ?_)
  clear hK K
  (try simp only [List.getElem_toArray, List.getElem_cons_zero, List.getElem_cons_succ, Act.put, List.setIfInBounds_toArray, List.set_cons_zero, List.set_cons_succ])
  refine wpAnyH_ready (rs := [5]) (by kernel_rfl) (by simp) ?_
  refine AllReadyH.cons (o := _) rfl (fun K hK => ?_) AllReadyH.nil
  rw [if_pos (by rfl)]
  go_simp
  (go_at_call 11; (with_reducible refine (HM2.out _).mono ?_); rintro e w4 ⟨rfl, g⟩; have HS2 := Lib.hid (HS1.out.later g); clear g)
  dsimp only
  refine hK.out _ _ (by first | exact HS3.out | exact HS2.out | exact HS1.out | exact HS0.out) (fun hHeld => ?_)
  clear hK K
  (try simp only [List.getElem_toArray, List.getElem_cons_zero, List.getElem_cons_succ, Act.put, List.setIfInBounds_toArray, List.set_cons_zero, List.set_cons_succ])
  refine wpAnyH_take (i := 6) (oi := _) (v := ?vp6) rfl (by kernel_rfl) (by kernel_rfl) (by kernel_rfl) (fun _ _ _ h => h) (Or.inl ⟨by rfl, ?hyp6⟩) (by assumption) ?restp6
  case hyp6 => (intro wz hSw; obtain ⟨i0, i1, i2, i3, i4⟩ := cells5 hSw.1; have v1 := conv_str hSw.2.1 y1; have v2 := conv_str hSw.2.2.1 y2; rw [hU.out] at v1 v2; go_simp; try with_reducible rfl)
  (try simp only [List.getElem_toArray, List.getElem_cons_zero, List.getElem_cons_succ, Act.put, List.setIfInBounds_toArray, List.set_cons_zero, List.set_cons_succ])
  refine wpAnyH_take (i := 7) (oi := _) (v := ?vp7) rfl (by kernel_rfl) (by kernel_rfl) (by kernel_rfl) (fun _ _ _ h => h) (Or.inl ⟨by rfl, ?hyp7⟩) (by assumption) ?restp7
  case hyp7 => (intro wz hSw; obtain ⟨i0, i1, i2, i3, i4⟩ := cells5 hSw.1; have v1 := conv_str hSw.2.1 y1; have v2 := conv_str hSw.2.2.1 y2; rw [hU.out] at v1 v2; go_simp; try with_reducible rfl)
  (try simp only [List.getElem_toArray, List.getElem_cons_zero, List.getElem_cons_succ, Act.put, List.setIfInBounds_toArray, List.set_cons_zero, List.set_cons_succ])
  refine wpAnyH_take (i := 8) (oi := _) (v := ?vp8) rfl (by kernel_rfl) (by kernel_rfl) (by kernel_rfl) (fun _ _ _ h => h) (Or.inl ⟨by rfl, ?hyp8⟩) (by assumption) ?restp8
  case hyp8 => (intro wz hSw; obtain ⟨i0, i1, i2, i3, i4⟩ := cells5 hSw.1; have v1 := conv_str hSw.2.1 y1; have v2 := conv_str hSw.2.2.1 y2; rw [hU.out] at v1 v2; go_simp; try with_reducible rfl)
  (try simp only [List.getElem_toArray, List.getElem_cons_zero, List.getElem_cons_succ, Act.put, List.setIfInBounds_toArray, List.set_cons_zero, List.set_cons_succ])
  refine wpAnyH_take (i := 9) (oi := _) (v := ?vp9) rfl (by kernel_rfl) (by kernel_rfl) (by kernel_rfl) (fun _ _ _ h => h) (Or.inl ⟨by rfl, ?hyp9⟩) (by assumption) ?restp9
  case hyp9 => (intro wz hSw; obtain ⟨i0, i1, i2, i3, i4⟩ := cells5 hSw.1; have v1 := conv_str hSw.2.1 y1; have v2 := conv_str hSw.2.2.1 y2; rw [hU.out] at v1 v2; go_simp; try with_reducible rfl)
  (try simp only [List.getElem_toArray, List.getElem_cons_zero, List.getElem_cons_succ, Act.put, List.setIfInBounds_toArray, List.set_cons_zero, List.set_cons_succ])
  refine wpAnyH_take (i := 10) (oi := _) (v := ?vp10) rfl (by kernel_rfl) (by kernel_rfl) (by kernel_rfl) (fun _ _ _ h => h) (Or.inl ⟨by rfl, ?hyp10⟩) (by assumption) ?restp10
  case hyp10 => (intro wz hSw; obtain ⟨i0, i1, i2, i3, i4⟩ := cells5 hSw.1; have v1 := conv_str hSw.2.1 y1; have v2 := conv_str hSw.2.2.1 y2; rw [hU.out] at v1 v2; go_simp; try with_reducible rfl)
  (try simp only [List.getElem_toArray, List.getElem_cons_zero, List.getElem_cons_succ, Act.put, List.setIfInBounds_toArray, List.set_cons_zero, List.set_cons_succ])
  refine wpAnyH_take (i := 11) (oi := _) (v := ?vp11) rfl (by kernel_rfl) (by kernel_rfl) (by kernel_rfl) (fun _ _ _ h => h) (Or.inl ⟨by rfl, ?hyp11⟩) (by assumption) ?restp11
  case hyp11 => (intro wz hSw; obtain ⟨i0, i1, i2, i3, i4⟩ := cells5 hSw.1; have v1 := conv_str hSw.2.1 y1; have v2 := conv_str hSw.2.2.1 y2; rw [hU.out] at v1 v2; go_simp; try with_reducible rfl)
  (try simp only [List.getElem_toArray, List.getElem_cons_zero, List.getElem_cons_succ, Act.put, List.setIfInBounds_toArray, List.set_cons_zero, List.set_cons_succ])
  refine wpAnyH_take (i := 12) (oi := _) (v := ?vp12) rfl (by kernel_rfl) (by kernel_rfl) (by kernel_rfl) (fun _ _ _ h => h) (Or.inl ⟨by rfl, ?hyp12⟩) (by assumption) ?restp12
  case hyp12 => (intro wz hSw; obtain ⟨i0, i1, i2, i3, i4⟩ := cells5 hSw.1; have v1 := conv_str hSw.2.1 y1; have v2 := conv_str hSw.2.2.1 y2; rw [hU.out] at v1 v2; go_simp; try with_reducible rfl)
  (try simp only [List.getElem_toArray, List.getElem_cons_zero, List.getElem_cons_succ, Act.put, List.setIfInBounds_toArray, List.set_cons_zero, List.set_cons_succ])
  refine wpAnyH_take (i := 13) (oi := _) (v := ?vp13) rfl (by kernel_rfl) (by kernel_rfl) (by kernel_rfl) (fun _ _ _ h => h) (Or.inl ⟨by rfl, ?hyp13⟩) (by assumption) ?restp13
  case hyp13 => (intro wz hSw; obtain ⟨i0, i1, i2, i3, i4⟩ := cells5 hSw.1; have v1 := conv_str hSw.2.1 y1; have v2 := conv_str hSw.2.2.1 y2; rw [hU.out] at v1 v2; go_simp; try with_reducible rfl)
  (try simp only [List.getElem_toArray, List.getElem_cons_zero, List.getElem_cons_succ, Act.put, List.setIfInBounds_toArray, List.set_cons_zero, List.set_cons_succ])
  refine wpAnyH_take (i := 14) (oi := _) (v := ?vp14) rfl (by kernel_rfl) (by kernel_rfl) (by kernel_rfl) (fun _ _ _ h => h) (Or.inl ⟨by rfl, ?hyp14⟩) (by assumption) ?restp14
  case hyp14 => (intro wz hSw; obtain ⟨i0, i1, i2, i3, i4⟩ := cells5 hSw.1; have v1 := conv_str hSw.2.1 y1; have v2 := conv_str hSw.2.2.1 y2; rw [hU.out] at v1 v2; go_simp; try with_reducible rfl)
  (try simp only [List.getElem_toArray, List.getElem_cons_zero, List.getElem_cons_succ, Act.put, List.setIfInBounds_toArray, List.set_cons_zero, List.set_cons_succ])
  refine wpAnyH_take (i := 15) (oi := _) (v := ?vp15) rfl (by kernel_rfl) (by kernel_rfl) (by kernel_rfl) (fun _ _ _ h => h) (Or.inl ⟨by rfl, ?hyp15⟩) (by assumption) ?restp15
  case hyp15 => (intro wz hSw; obtain ⟨i0, i1, i2, i3, i4⟩ := cells5 hSw.1; have v1 := conv_str hSw.2.1 y1; have v2 := conv_str hSw.2.2.1 y2; rw [hU.out] at v1 v2; go_simp; try with_reducible rfl)
  (try simp only [List.getElem_toArray, List.getElem_cons_zero, List.getElem_cons_succ, Act.put, List.setIfInBounds_toArray, List.set_cons_zero, List.set_cons_succ])
  refine wpAnyH_take (i := 17) (oi := _) (v := ?vp17) rfl (by kernel_rfl) (by kernel_rfl) (by kernel_rfl) (fun _ _ _ h => h) (Or.inl ⟨by rfl, ?hyp17⟩) (by assumption) ?restp17
  case hyp17 => (intro wz hSw; obtain ⟨i0, i1, i2, i3, i4⟩ := cells5 hSw.1; have v1 := conv_str hSw.2.1 y1; have v2 := conv_str hSw.2.2.1 y2; rw [hU.out] at v1 v2; go_simp; try with_reducible rfl)
  (try simp only [List.getElem_toArray, List.getElem_cons_zero, List.getElem_cons_succ, Act.put, List.setIfInBounds_toArray, List.set_cons_zero, List.set_cons_succ])
  refine wpAnyH_ready (rs := [16]) (by kernel_rfl) (by simp) ?_
  refine AllReadyH.cons (o := _) rfl (fun K hK => ?_) AllReadyH.nil
  rw [if_pos (by rfl)]
  go_simp
  (go_at_call 12; (with_reducible refine (HNM.out _).mono ?_); rintro e w5 ⟨rfl, rfl⟩)
  dsimp only
  refine hK.out _ _ (by first | exact HS3.out | exact HS2.out | exact HS1.out | exact HS0.out) (fun hHeld => ?_)
  clear hK K
  (try simp only [List.getElem_toArray, List.getElem_cons_zero, List.getElem_cons_succ, Act.put, List.setIfInBounds_toArray, List.set_cons_zero, List.set_cons_succ])
  refine wpAnyH_take (i := 18) (oi := _) (v := ?vp18) rfl (by kernel_rfl) (by kernel_rfl) (by kernel_rfl) (fun _ _ _ h => h) (Or.inl ⟨by rfl, ?hyp18⟩) (by assumption) ?restp18
  case hyp18 => (intro wz hSw; obtain ⟨i0, i1, i2, i3, i4⟩ := cells5 hSw.1; have v1 := conv_str hSw.2.1 y1; have v2 := conv_str hSw.2.2.1 y2; rw [hU.out] at v1 v2; go_simp; try with_reducible rfl)
  (try simp only [List.getElem_toArray, List.getElem_cons_zero, List.getElem_cons_succ, Act.put, List.setIfInBounds_toArray, List.set_cons_zero, List.set_cons_succ])
  refine wpAnyH_take (i := 19) (oi := _) (v := ?vp19) rfl (by kernel_rfl) (by kernel_rfl) (by kernel_rfl) (fun _ _ _ h => h) (Or.inl ⟨by rfl, ?hyp19⟩) (by assumption) ?restp19
  case hyp19 => (intro wz hSw; obtain ⟨i0, i1, i2, i3, i4⟩ := cells5 hSw.1; have v1 := conv_str hSw.2.1 y1; have v2 := conv_str hSw.2.2.1 y2; rw [hU.out] at v1 v2; go_simp; try with_reducible rfl)
  (try simp only [List.getElem_toArray, List.getElem_cons_zero, List.getElem_cons_succ, Act.put, List.setIfInBounds_toArray, List.set_cons_zero, List.set_cons_succ])
  refine wpAnyH_take (i := 20) (oi := _) (v := ?vp20) rfl (by kernel_rfl) (by kernel_rfl) (by kernel_rfl) (fun _ _ _ h => h) (Or.inl ⟨by rfl, ?hyp20⟩) (by assumption) ?restp20
  case hyp20 => (intro wz hSw; obtain ⟨i0, i1, i2, i3, i4⟩ := cells5 hSw.1; have v1 := conv_str hSw.2.1 y1; have v2 := conv_str hSw.2.2.1 y2; rw [hU.out] at v1 v2; go_simp; try with_reducible rfl)
  (try simp only [List.getElem_toArray, List.getElem_cons_zero, List.getElem_cons_succ, Act.put, List.setIfInBounds_toArray, List.set_cons_zero, List.set_cons_succ])
  refine wpAnyH_ready (rs := [21]) (by kernel_rfl) (by simp) ?_
  refine AllReadyH.cons (o := _) rfl (fun K hK => ?_) AllReadyH.nil
  rw [if_pos (by rfl)]
  go_simp
  (go_at_call 13; have hs2 := HS2.out.2.2.2; (with_reducible refine (awake_any8 (HWD.out.below hs2 (Nat.le_of_eq HSZ.out))).mono ?_); clear hs2; rintro e w6 ⟨rfl, g⟩; have HS3 := Lib.hid (HS2.out.later g); clear g)
  dsimp only
  refine hK.out _ _ (by first | exact HS3.out | exact HS2.out | exact HS1.out | exact HS0.out) (fun hHeld => ?_)
  clear hK K
  (try simp only [List.getElem_toArray, List.getElem_cons_zero, List.getElem_cons_succ, Act.put, List.setIfInBounds_toArray, List.set_cons_zero, List.set_cons_succ])
  refine wpAnyH_take (i := 22) (oi := _) (v := ?vp22) rfl (by kernel_rfl) (by kernel_rfl) (by kernel_rfl) (fun _ _ _ h => h) (Or.inl ⟨by rfl, ?hyp22⟩) (by assumption) ?restp22
  case hyp22 => (intro wz hSw; obtain ⟨i0, i1, i2, i3, i4⟩ := cells5 hSw.1; have v1 := conv_str hSw.2.1 y1; have v2 := conv_str hSw.2.2.1 y2; rw [hU.out] at v1 v2; go_simp; try with_reducible rfl)
  (try simp only [List.getElem_toArray, List.getElem_cons_zero, List.getElem_cons_succ, Act.put, List.setIfInBounds_toArray, List.set_cons_zero, List.set_cons_succ])
  refine wpAnyH_take (i := 23) (oi := _) (v := ?vp23) rfl (by kernel_rfl) (by kernel_rfl) (by kernel_rfl) (fun _ _ _ h => h) (Or.inl ⟨by rfl, ?hyp23⟩) (by assumption) ?restp23
  case hyp23 => (intro wz hSw; obtain ⟨i0, i1, i2, i3, i4⟩ := cells5 hSw.1; have v1 := conv_str hSw.2.1 y1; have v2 := conv_str hSw.2.2.1 y2; rw [hU.out] at v1 v2; go_simp; try with_reducible rfl)
  (try simp only [List.getElem_toArray, List.getElem_cons_zero, List.getElem_cons_succ, Act.put, List.setIfInBounds_toArray, List.set_cons_zero, List.set_cons_succ])
  refine wpAnyH_done (by kernel_rfl) ?_ _
  go_wp2
  go_ret
  exact ⟨rfl, HS3.out.2.2.2⟩

set_option maxRecDepth 100000 in
theorem lifted (os : Os) (started : os.Started) (H : Type) (enc : TypeId × Value → H) :
    ReturnsInHanded {} Tryd.checked os 3 .any (fun w args => (Rows.entryPutsSpec.pre enc Tryd.prog Tryd.f3 [] false w args ∧ laidMetH Tryd.prog laid8 w) ∧ sizedMet enc Tryd.prog Tryd.f3 (OpenSpec.ofChange Rows.entryPutsSpec) false w args) (Rows.entryPutsSpec.post enc Tryd.prog Tryd.f3 false true false false) := by
  refine returnsInHanded_of_change_and (C := Tryd.checked) (X := fun w _ => laidMetH Tryd.prog laid8 w) (fun _ _ _ hh h => h.of_heap hh) own started (by kernel_rfl) Tryd.func3
    (ChangeSpec.witness_shaped (enc := enc) (C := Tryd.checked) (os := os) (X := fun w _ => laidMetH Tryd.prog laid8 w) false (World.doorLaid Tryd.prog 400 os) #[.agg #[.int .i64 0, .int .i64 0, .int .i64 0, .int .i64 0, .int .u32 0], .int .i64 0] 8 rfl (World.shaped_of_RefB (by kernel_rfl) (by kernel_rfl)) (by kernel_rfl) (by kernel_rfl) (by kernel_rfl) (door_met os _)) ?_
  intro W base args ds gs before hval0 hW _ _ hL _
  have hval : ∀ (j : Nat) t v, Tryd.f3.params[j]? = some t → args[j]? = some v → Value.okWide Tryd.prog W .any base t v := hval0
  have hW' := hW
  obtain ⟨p, q, hA0, hV, rfl, hfz, hnd⟩ := hW
  have hA : DataW.TrodAll enc Tryd.prog W 0 (fun _ => true) true Tryd.f3.params.toList args.toList ds p := hA0
  rw [Tryd.params3] at hA hval
  obtain ⟨v0, vs0, d0, ds0, p0, q0, hargs, rfl, rfl, h0, r0⟩ := trodAll_cons hA
  obtain ⟨v1, vs1, d1, ds1, p1, q1, rfl, rfl, rfl, h1, r1⟩ := trodAll_cons r0
  obtain ⟨rfl, rfl, rfl⟩ := trodAll_nil r1
  obtain rfl : args = #[v0, v1] := by cases args; simp_all
  obtain ⟨rfl, rfl⟩ := trodVars_none hV
  have k0 := h0
  have lt0 : ∀ x ∈ p0, x.block < W.heap.size := by obtain ⟨m, hm⟩ := k0; exact DataW.trod_lt m _ _ _ hm
  obtain ⟨g0, s0, n0, z0, m0, rfl, w0⟩ := entry_open (hval 0 24 v0 rfl rfl) h0
  have k1 := h1
  have lt1 : ∀ x ∈ p1, x.block < W.heap.size := by obtain ⟨m, hm⟩ := k1; exact DataW.trod_lt m _ _ _ hm
  obtain ⟨a1, rfl, _, _, w1⟩ := open_int Tryd.underlying3 (hval 1 3 v1 rfl rfl) h1
  clear hA0 hval0
  refine (walk g0 s0 n0 z0 m0 a1 W w0 w1 (Lib.hid (wid_of_laid hL))).mono fun e W' ⟨he, bel⟩ => ?_
  subst he
  exact ⟨_, rfl, _, _, _, [], _, [], hW', trodAll_mk1 (shut_bool Tryd.underlying4 _), (trodAll_cons_mk (Below.trod laidOut (by kernel_rfl) (of_decide_eq_true (by kernel_rfl)) k0 bel lt0) (trodAll_cons_mk (Below.trod laidOut (by kernel_rfl) (of_decide_eq_true (by kernel_rfl)) k1 bel lt1) trodAll_mk0)), rfl, bel.frame _, fun h => by cases h⟩

theorem over : Rows.entryPutsRow.holds Tryd.pinned (OpenSpec.ofChange Rows.entryPutsSpec) :=
  OpenClaim.holds_of_wide 3 Tryd.f3 rfl rfl rfl rfl rfl rfl rfl ⟨rfl, rfl, rfl, rfl, rfl⟩ rfl rfl rfl rfl rfl (by kernel_rfl) Tryd.func3 (by kernel_rfl)
    (of_decide_eq_true (by kernel_rfl)) (by unfold Func.isWrapper; first | (rw [if_pos (by decide +kernel)]; kernel_rfl) | (rw [if_neg (by decide +kernel)]; exact ⟨rfl, rfl⟩))
    (fun os started H enc _ => lifted os started H enc)

/-- The statement: the row's card, its listed variable tied to the program's text. -/
theorem proved : Rows.EntryPutsCardSaid :=
  Claim7.holds_tied_plain_at .later [] [.data] true (true, "e0b7cfd3de9f31e07b616b5c378574e112246cc00a1ec29ffeb7ff8201922e66") false
    over (fun _ h => by cases h) (by kernel_rfl) (fun _ h => by cases h) entryPuts_row_tie rfl ⟨rfl, rfl⟩ (by kernel_rfl) rfl
    (fun f fn hf hfn => by
      obtain rfl : f = 3 := Option.some.inj ((show Tryd.prog.funcNamed "matryoshka/matryoshkalaw7.EntryPuts" = some 3 by kernel_rfl).symm.trans hf) |>.symm
      obtain rfl : fn = Tryd.f3 := (Option.some.inj (Tryd.func3.symm.trans hfn)).symm
      exact ⟨by kernel_rfl, fun j t ht => by
        rw [Tryd.params3] at ht
        have hm : t ∈ [24, 3] := by simpa using Array.mem_of_getElem? ht
        have hall : ([24, 3].all fun u => !Tryd.prog.wantsStandIn u) = true := by kernel_rfl
        exact (show Tryd.prog.wantsStandIn t = false by simpa using List.all_eq_true.1 hall t hm)⟩)
    (by kernel_rfl)
#print axioms proved
end Go.Proofs.YtondacmkgaabkaaDoor.entryPuts
