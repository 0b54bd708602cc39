/-
  What the reference's Entry and GetEntry answer (layer 7). Conditions: the fields are numbers of their types; the slice reads as bytes.
-/
import Derived.Test.YtdffgnpldapciaaGreatDoorB8
import Derived.Deep.RegionHeld3
namespace Go.Proofs.YtdffgnpldapciaaGreatDoor
open Go.RowKit
set_option linter.unusedVariables false

set_option maxHeartbeats 1600000 in
theorem refEntry_arg {k s n z m c : Int} (h : ¬ MayE (k, s, n, z, m) c) (ho : EnOk (k, s, n, z, m)) (w : World) : Calls Tryz.prog 65 #[.agg #[.int .i64 k, .int .i64 s, .int .i64 n, .int .i64 z, .int .u32 m], .int .i64 c] w (PutPost w [] 1) := by
  have h1 := fun w => refMay_any k s n z m c ho w
  rw [decide_eq_false h] at h1
  have H1 := Lib.hid h1
  have HG0 : Hid (Below w.heap.size w (w.alloc (.cells #[.int .i64 k, .int .i64 s, .int .i64 n, .int .i64 z, .int .u32 m] 91))) := (Below.refl _ _).alloc (Nat.le_refl _) _
  clear h1 h ho
  go_enter Tryz.func65, Tryz.ntmps65
  go_wp2_with (go_at_call 81; (with_reducible refine (H1.out _).mono ?_); rintro e w1 ⟨rfl, g⟩; have HG := Lib.hid (HG0.out.trans (g.mono HG0.out.size)); clear g)
  go_ret2
  exact ⟨none, 0, rfl, none_bytes _, ⟨fun _ => rfl, Nat.le_refl _⟩, HG.out⟩
set_option maxHeartbeats 1600000 in
theorem refEntry_ok {k s n z m c : Int} (h : MayE (k, s, n, z, m) c) (ho : EnOk (k, s, n, z, m)) (w : World) : Calls Tryz.prog 65 #[.agg #[.int .i64 k, .int .i64 s, .int .i64 n, .int .i64 z, .int .u32 m], .int .i64 c] w (PutPost w (enB (k, s, n, z, m)) 0) := by
  have h1 := fun w => refMay_any k s n z m c ho w
  rw [decide_eq_true h] at h1
  have hln := enB_len (k, s, n, z, m)
  obtain ⟨⟨p1, p2⟩, ⟨p3, p4⟩, ⟨p5, p6⟩, p7, p8⟩ := h.bounds
  obtain ⟨_, _, _, _, p9, p10⟩ := ho
  dsimp only at p1 p2 p3 p4 p5 p6 p7 p8 p9 p10
  obtain ⟨Kd, rfl⟩ : ∃ Q : Nat, k = Q := ⟨k.toNat, by omega⟩
  obtain ⟨S, rfl⟩ : ∃ Q : Nat, s = Q := ⟨s.toNat, by omega⟩
  obtain ⟨N, rfl⟩ : ∃ Q : Nat, n = Q := ⟨n.toNat, by omega⟩
  obtain ⟨Z, rfl⟩ : ∃ Q : Nat, z = Q := ⟨z.toNat, by omega⟩
  obtain ⟨M, rfl⟩ : ∃ Q : Nat, m = Q := ⟨m.toNat, by omega⟩
  have q1 : (256 : Nat) ^ 1 = 256 := by decide
  have q2 : (256 : Nat) ^ 2 = 65536 := by decide
  have q4 : (256 : Nat) ^ 4 = 4294967296 := by decide
  have e0 : enB ((Kd : Int), (S : Int), (N : Int), (Z : Int), (M : Int)) = [] ++ numB false 1 Kd ++ numB false 1 0 ++ numB false 2 N ++ numB false 4 S ++ numB false 4 Z ++ numB false 4 M := rfl
  rw [e0] at hln ⊢
  have n1 := fun w => refNum_any none 0 0 1 Kd 1 [] w (none_bytes w) (fun _ => rfl) (by omega) rfl (by omega) (by omega) (by omega) (by omega)
  obtain ⟨L1, hL1⟩ := named ([] ++ numB false 1 Kd)
  rw [hL1.out] at n1 hln ⊢
  have n2 := fun a c w h1 h2 => refNum_any a 1 c 1 0 1 L1 w h1 h2 (by omega) rfl (by omega) (by omega) (by omega) (by omega)
  obtain ⟨L2, hL2⟩ := named (L1 ++ numB false 1 0)
  rw [hL2.out] at n2 hln ⊢
  have n3 := fun a c w h1 h2 => refNum_any a 2 c 2 N 2 L2 w h1 h2 (by omega) rfl (by omega) (by omega) (by omega) (by omega)
  obtain ⟨L3, hL3⟩ := named (L2 ++ numB false 2 N)
  rw [hL3.out] at n3 hln ⊢
  have n4 := fun a c w h1 h2 => refNum_any a 4 c 4 S 4 L3 w h1 h2 (by omega) rfl (by omega) (by omega) (by omega) (by omega)
  obtain ⟨L4, hL4⟩ := named (L3 ++ numB false 4 S)
  rw [hL4.out] at n4 hln ⊢
  have n5 := fun a c w h1 h2 => refNum_any a 8 c 4 Z 4 L4 w h1 h2 (by omega) rfl (by omega) (by omega) (by omega) (by omega)
  obtain ⟨L5, hL5⟩ := named (L4 ++ numB false 4 Z)
  rw [hL5.out] at n5 hln ⊢
  have n6 := fun a c w h1 h2 => refNum_any a 12 c 4 M 4 L5 w h1 h2 (by omega) rfl (by omega) (by omega) (by omega) (by omega)
  obtain ⟨L6, hL6⟩ := named (L5 ++ numB false 4 M)
  rw [hL6.out] at n6 hln ⊢
  have HN1 := Lib.hid n1
  have HN2 := Lib.hid n2
  have HN3 := Lib.hid n3
  have HN4 := Lib.hid n4
  have HN5 := Lib.hid n5
  have HN6 := Lib.hid n6
  have HLN := Lib.hid hln
  have H1 := Lib.hid h1
  have e4 : IntKind.i64.wrap (M : Int) = M := by rw [IntKind.wrap_i64]; omega
  obtain ⟨X, hX⟩ := named w.heap.size
  have HX0 : Hid (Blk (w.alloc (.cells #[.int .i64 Kd, .int .i64 S, .int .i64 N, .int .i64 Z, .int .u32 M] 91)) X 91 #[.int .i64 Kd, .int .i64 S, .int .i64 N, .int .i64 Z, .int .u32 M] ∧ Below X w (w.alloc (.cells #[.int .i64 Kd, .int .i64 S, .int .i64 N, .int .i64 Z, .int .u32 M] 91))) := by
    rw [← hX.out]
    exact ⟨Blk.new w _ _, (Below.refl _ _).alloc (Nat.le_refl _) _⟩
  have hXX := hX.out
  clear n1 n2 n3 n4 n5 n6 h1 hL1 hL2 hL3 hL4 hL5 hL6 hln e0 h p9 p10
  go_enter Tryz.func65, Tryz.ntmps65
  go_wp2_with (go_at_call 81; (with_reducible refine (H1.out _).mono ?_); rintro e w0 ⟨rfl, g⟩; have HS0 : Hid (Blk w0.drew X 91 #[.int .i64 Kd, .int .i64 S, .int .i64 N, .int .i64 Z, .int .u32 M] ∧ Below X w w0.drew) := Lib.hid ⟨HX0.out.1.later g.drew, (HX0.out.2.trans (g.mono (by have := HX0.out.1.lt; omega))).drew⟩; clear g H1)
  refine wp_region_held_drew (S := fun W' => Blk W' X 91 #[.int .i64 Kd, .int .i64 S, .int .i64 N, .int .i64 Z, .int .u32 M] ∧ Below X w W') (by kernel_rfl) (by first | exact HS6.out | exact HS5.out | exact HS4.out | exact HS3.out | exact HS2.out | exact HS1.out | exact HS0.out) (fun hHeld => ?_)
  refine wpAnyH_take (i := 0) (oi := _) (v := ?vs0) rfl (by kernel_rfl) (by kernel_rfl) (by kernel_rfl) (fun _ _ _ h => h) (Or.inl ⟨by rfl, ?hys0⟩) (by assumption) ?rests0
  case hys0 => (intro wz hSw; obtain ⟨k0, k1, k2, k3, k4⟩ := cells5 hSw.1; go_simp; try with_reducible rfl)
  (try simp only [List.getElem_toArray, List.getElem_cons_zero, Act.put, List.setIfInBounds_toArray, List.set_cons_zero, List.set_cons_succ])
  refine wpAnyH_take (i := 1) (oi := _) (v := ?vs1) rfl (by kernel_rfl) (by kernel_rfl) (by kernel_rfl) (fun _ _ _ h => h) (Or.inl ⟨by rfl, ?hys1⟩) (by assumption) ?rests1
  case hys1 => (intro wz hSw; obtain ⟨k0, k1, k2, k3, k4⟩ := cells5 hSw.1; go_simp; try with_reducible rfl)
  (try simp only [List.getElem_toArray, List.getElem_cons_zero, List.getElem_cons_succ, Act.put, List.setIfInBounds_toArray, List.set_cons_zero, List.set_cons_succ])
  refine wpAnyH_take (i := 4) (oi := _) (v := ?vs4) rfl (by kernel_rfl) (by kernel_rfl) (by kernel_rfl) (fun _ _ _ h => h) (Or.inl ⟨by rfl, ?hys4⟩) (by assumption) ?rests4
  case hys4 => (intro wz hSw; obtain ⟨k0, k1, k2, k3, k4⟩ := cells5 hSw.1; go_simp; try with_reducible rfl)
  (try simp only [List.getElem_toArray, List.getElem_cons_zero, List.getElem_cons_succ, Act.put, List.setIfInBounds_toArray, List.set_cons_zero, List.set_cons_succ])
  refine wpAnyH_take (i := 5) (oi := _) (v := ?vs5) rfl (by kernel_rfl) (by kernel_rfl) (by kernel_rfl) (fun _ _ _ h => h) (Or.inl ⟨by rfl, ?hys5⟩) (by assumption) ?rests5
  case hys5 => (intro wz hSw; obtain ⟨k0, k1, k2, k3, k4⟩ := cells5 hSw.1; go_simp; try with_reducible rfl)
  (try simp only [List.getElem_toArray, List.getElem_cons_zero, List.getElem_cons_succ, Act.put, List.setIfInBounds_toArray, List.set_cons_zero, List.set_cons_succ])
  refine wpAnyH_take (i := 7) (oi := _) (v := ?vs7) rfl (by kernel_rfl) (by kernel_rfl) (by kernel_rfl) (fun _ _ _ h => h) (Or.inl ⟨by rfl, ?hys7⟩) (by assumption) ?rests7
  case hys7 => (intro wz hSw; obtain ⟨k0, k1, k2, k3, k4⟩ := cells5 hSw.1; go_simp; try with_reducible rfl)
  (try simp only [List.getElem_toArray, List.getElem_cons_zero, List.getElem_cons_succ, Act.put, List.setIfInBounds_toArray, List.set_cons_zero, List.set_cons_succ])
  refine wpAnyH_take (i := 8) (oi := _) (v := ?vs8) rfl (by kernel_rfl) (by kernel_rfl) (by kernel_rfl) (fun _ _ _ h => h) (Or.inl ⟨by rfl, ?hys8⟩) (by assumption) ?rests8
  case hys8 => (intro wz hSw; obtain ⟨k0, k1, k2, k3, k4⟩ := cells5 hSw.1; go_simp; try with_reducible rfl)
  (try simp only [List.getElem_toArray, List.getElem_cons_zero, List.getElem_cons_succ, Act.put, List.setIfInBounds_toArray, List.set_cons_zero, List.set_cons_succ])
  refine wpAnyH_take (i := 10) (oi := _) (v := ?vs10) rfl (by kernel_rfl) (by kernel_rfl) (by kernel_rfl) (fun _ _ _ h => h) (Or.inl ⟨by rfl, ?hys10⟩) (by assumption) ?rests10
  case hys10 => (intro wz hSw; obtain ⟨k0, k1, k2, k3, k4⟩ := cells5 hSw.1; go_simp; try with_reducible rfl)
  (try simp only [List.getElem_toArray, List.getElem_cons_zero, List.getElem_cons_succ, Act.put, List.setIfInBounds_toArray, List.set_cons_zero, List.set_cons_succ])
  refine wpAnyH_take (i := 11) (oi := _) (v := ?vs11) rfl (by kernel_rfl) (by kernel_rfl) (by kernel_rfl) (fun _ _ _ h => h) (Or.inl ⟨by rfl, ?hys11⟩) (by assumption) ?rests11
  case hys11 => (intro wz hSw; obtain ⟨k0, k1, k2, k3, k4⟩ := cells5 hSw.1; go_simp; try with_reducible rfl)
  (try simp only [List.getElem_toArray, List.getElem_cons_zero, List.getElem_cons_succ, Act.put, List.setIfInBounds_toArray, List.set_cons_zero, List.set_cons_succ])
  refine wpAnyH_take (i := 13) (oi := _) (v := ?vs13) rfl (by kernel_rfl) (by kernel_rfl) (by kernel_rfl) (fun _ _ _ h => h) (Or.inl ⟨by rfl, ?hys13⟩) (by assumption) ?rests13
  case hys13 => (intro wz hSw; obtain ⟨k0, k1, k2, k3, k4⟩ := cells5 hSw.1; go_simp; try with_reducible rfl)
  (try simp only [List.getElem_toArray, List.getElem_cons_zero, List.getElem_cons_succ, Act.put, List.setIfInBounds_toArray, List.set_cons_zero, List.set_cons_succ])
  refine wpAnyH_take (i := 14) (oi := _) (v := ?vs14) rfl (by kernel_rfl) (by kernel_rfl) (by kernel_rfl) (fun _ _ _ h => h) (Or.inl ⟨by rfl, ?hys14⟩) (by assumption) ?rests14
  case hys14 => (intro wz hSw; obtain ⟨k0, k1, k2, k3, k4⟩ := cells5 hSw.1; go_simp; try with_reducible rfl)
  (try simp only [List.getElem_toArray, List.getElem_cons_zero, List.getElem_cons_succ, Act.put, List.setIfInBounds_toArray, List.set_cons_zero, List.set_cons_succ])
  refine wpAnyH_take (i := 15) (oi := _) (v := ?vs15) rfl (by kernel_rfl) (by kernel_rfl) (by kernel_rfl) (fun _ _ _ h => h) (Or.inl ⟨by rfl, ?hys15⟩) (by assumption) ?rests15
  case hys15 => (intro wz hSw; obtain ⟨k0, k1, k2, k3, k4⟩ := cells5 hSw.1; go_simp; try with_reducible rfl)
  (try simp only [List.getElem_toArray, List.getElem_cons_zero, List.getElem_cons_succ, Act.put, List.setIfInBounds_toArray, List.set_cons_zero, List.set_cons_succ])
  refine wpAnyH_ready (rs := [2]) (by kernel_rfl) (by simp) ?_
  refine AllReadyH.cons (o := _) rfl (fun K hK => ?_) AllReadyH.nil
  rw [if_pos (by rfl)]
  go_simp
  (go_at_call 64; (refine (HN1.out _ ).mono ?_); rintro e w1 ⟨a1, c1, rfl, g1, g2, g3⟩; have HB1 := Lib.hid g1; have HC1 := Lib.hid g2; have HS1 : Hid (Blk w1 X 91 #[.int .i64 Kd, .int .i64 S, .int .i64 N, .int .i64 Z, .int .u32 M] ∧ Below X w w1) := ⟨HS0.out.1.later g3, HS0.out.2.trans (g3.mono (by have := HS0.out.1.lt; omega))⟩; clear g1 g2 g3)
  dsimp only
  refine hK.out _ _ (by first | exact HS6.out | exact HS5.out | exact HS4.out | exact HS3.out | exact HS2.out | exact HS1.out | exact HS0.out) (fun hHeld => ?_)
  clear hK K
  (try simp only [List.getElem_toArray, List.getElem_cons_zero, List.getElem_cons_succ, Act.put, List.setIfInBounds_toArray, List.set_cons_zero, List.set_cons_succ])
  refine wpAnyH_ready (rs := [3]) (by kernel_rfl) (by simp) ?_
  refine AllReadyH.cons (o := _) rfl (fun K hK => ?_) AllReadyH.nil
  rw [if_pos (by rfl)]
  go_simp
  (go_at_call 64; (refine (HN2.out a1 c1 _ HB1.out HC1.out.1).mono ?_); rintro e w2 ⟨a2, c2, rfl, g1, g2, g3⟩; have HB2 := Lib.hid g1; have HC2 := Lib.hid g2; have HS2 : Hid (Blk w2 X 91 #[.int .i64 Kd, .int .i64 S, .int .i64 N, .int .i64 Z, .int .u32 M] ∧ Below X w w2) := ⟨HS1.out.1.later g3, HS1.out.2.trans (g3.mono (by have := HS1.out.1.lt; omega))⟩; clear g1 g2 g3)
  dsimp only
  refine hK.out _ _ (by first | exact HS6.out | exact HS5.out | exact HS4.out | exact HS3.out | exact HS2.out | exact HS1.out | exact HS0.out) (fun hHeld => ?_)
  clear hK K
  (try simp only [List.getElem_toArray, List.getElem_cons_zero, List.getElem_cons_succ, Act.put, List.setIfInBounds_toArray, List.set_cons_zero, List.set_cons_succ])
  refine wpAnyH_ready (rs := [6]) (by kernel_rfl) (by simp) ?_
  refine AllReadyH.cons (o := _) rfl (fun K hK => ?_) AllReadyH.nil
  rw [if_pos (by rfl)]
  go_simp
  (go_at_call 64; (refine (HN3.out a2 c2 _ HB2.out HC2.out.1).mono ?_); rintro e w3 ⟨a3, c3, rfl, g1, g2, g3⟩; have HB3 := Lib.hid g1; have HC3 := Lib.hid g2; have HS3 : Hid (Blk w3 X 91 #[.int .i64 Kd, .int .i64 S, .int .i64 N, .int .i64 Z, .int .u32 M] ∧ Below X w w3) := ⟨HS2.out.1.later g3, HS2.out.2.trans (g3.mono (by have := HS2.out.1.lt; omega))⟩; clear g1 g2 g3)
  dsimp only
  refine hK.out _ _ (by first | exact HS6.out | exact HS5.out | exact HS4.out | exact HS3.out | exact HS2.out | exact HS1.out | exact HS0.out) (fun hHeld => ?_)
  clear hK K
  (try simp only [List.getElem_toArray, List.getElem_cons_zero, List.getElem_cons_succ, Act.put, List.setIfInBounds_toArray, List.set_cons_zero, List.set_cons_succ])
  refine wpAnyH_ready (rs := [9]) (by kernel_rfl) (by simp) ?_
  refine AllReadyH.cons (o := _) rfl (fun K hK => ?_) AllReadyH.nil
  rw [if_pos (by rfl)]
  go_simp
  (go_at_call 64; (refine (HN4.out a3 c3 _ HB3.out HC3.out.1).mono ?_); rintro e w4 ⟨a4, c4, rfl, g1, g2, g3⟩; have HB4 := Lib.hid g1; have HC4 := Lib.hid g2; have HS4 : Hid (Blk w4 X 91 #[.int .i64 Kd, .int .i64 S, .int .i64 N, .int .i64 Z, .int .u32 M] ∧ Below X w w4) := ⟨HS3.out.1.later g3, HS3.out.2.trans (g3.mono (by have := HS3.out.1.lt; omega))⟩; clear g1 g2 g3)
  dsimp only
  refine hK.out _ _ (by first | exact HS6.out | exact HS5.out | exact HS4.out | exact HS3.out | exact HS2.out | exact HS1.out | exact HS0.out) (fun hHeld => ?_)
  clear hK K
  (try simp only [List.getElem_toArray, List.getElem_cons_zero, List.getElem_cons_succ, Act.put, List.setIfInBounds_toArray, List.set_cons_zero, List.set_cons_succ])
  refine wpAnyH_ready (rs := [12]) (by kernel_rfl) (by simp) ?_
  refine AllReadyH.cons (o := _) rfl (fun K hK => ?_) AllReadyH.nil
  rw [if_pos (by rfl)]
  go_simp
  (go_at_call 64; (refine (HN5.out a4 c4 _ HB4.out HC4.out.1).mono ?_); rintro e w5 ⟨a5, c5, rfl, g1, g2, g3⟩; have HB5 := Lib.hid g1; have HC5 := Lib.hid g2; have HS5 : Hid (Blk w5 X 91 #[.int .i64 Kd, .int .i64 S, .int .i64 N, .int .i64 Z, .int .u32 M] ∧ Below X w w5) := ⟨HS4.out.1.later g3, HS4.out.2.trans (g3.mono (by have := HS4.out.1.lt; omega))⟩; clear g1 g2 g3)
  dsimp only
  refine hK.out _ _ (by first | exact HS6.out | exact HS5.out | exact HS4.out | exact HS3.out | exact HS2.out | exact HS1.out | exact HS0.out) (fun hHeld => ?_)
  clear hK K
  (try simp only [List.getElem_toArray, List.getElem_cons_zero, List.getElem_cons_succ, Act.put, List.setIfInBounds_toArray, List.set_cons_zero, List.set_cons_succ])
  refine wpAnyH_ready (rs := [16]) (by kernel_rfl) (by simp) ?_
  refine AllReadyH.cons (o := _) rfl (fun K hK => ?_) AllReadyH.nil
  rw [if_pos (by rfl)]
  go_simp
  (go_at_call 64; (refine (HN6.out a5 c5 _ HB5.out HC5.out.1).mono ?_); rintro e w6 ⟨a6, c6, rfl, g1, g2, g3⟩; have HB6 := Lib.hid g1; have HC6 := Lib.hid g2; have HS6 : Hid (Blk w6 X 91 #[.int .i64 Kd, .int .i64 S, .int .i64 N, .int .i64 Z, .int .u32 M] ∧ Below X w w6) := ⟨HS5.out.1.later g3, HS5.out.2.trans (g3.mono (by have := HS5.out.1.lt; omega))⟩; clear g1 g2 g3)
  dsimp only
  refine hK.out _ _ (by first | exact HS6.out | exact HS5.out | exact HS4.out | exact HS3.out | exact HS2.out | exact HS1.out | exact HS0.out) (fun hHeld => ?_)
  clear hK K
  (try simp only [List.getElem_toArray, List.getElem_cons_zero, List.getElem_cons_succ, Act.put, List.setIfInBounds_toArray, List.set_cons_zero, List.set_cons_succ])
  refine wpAnyH_take (i := 17) (oi := _) (v := ?vs17) rfl (by kernel_rfl) (by kernel_rfl) (by kernel_rfl) (fun _ _ _ h => h) (Or.inl ⟨by rfl, ?hys17⟩) (by assumption) ?rests17
  case hys17 => (intro wz hSw; obtain ⟨k0, k1, k2, k3, k4⟩ := cells5 hSw.1; go_simp; try with_reducible rfl)
  (try simp only [List.getElem_toArray, List.getElem_cons_zero, List.getElem_cons_succ, Act.put, List.setIfInBounds_toArray, List.set_cons_zero, List.set_cons_succ])
  refine wpAnyH_take (i := 18) (oi := _) (v := ?vs18) rfl (by kernel_rfl) (by kernel_rfl) (by kernel_rfl) (fun _ _ _ h => h) (Or.inl ⟨by rfl, ?hys18⟩) (by assumption) ?rests18
  case hys18 => (intro wz hSw; obtain ⟨k0, k1, k2, k3, k4⟩ := cells5 hSw.1; go_simp; try with_reducible rfl)
  (try simp only [List.getElem_toArray, List.getElem_cons_zero, List.getElem_cons_succ, Act.put, List.setIfInBounds_toArray, List.set_cons_zero, List.set_cons_succ])
  refine wpAnyH_done (by kernel_rfl) ?_ _
  go_wp2
  go_ret2
  exact PutPost.of_sized HLN.out HB6.out HC6.out (by rw [hX.out]; exact HS6.out.2)
end Go.Proofs.YtdffgnpldapciaaGreatDoor
