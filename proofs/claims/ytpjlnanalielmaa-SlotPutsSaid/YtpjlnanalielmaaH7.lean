/-
  What the reference's Slot, GetSlot, Slots and Order answer (layer 6). Conditions: the fields are numbers of their types; the slices read as bytes; the lists read alike.
-/
import Derived.Test.YtpjlnanalielmaaG7
import Derived.RegionTactic
namespace Go.Proofs.Ytpjlnanalielmaa
open Go.RowKit
set_option linter.unusedVariables false

theorem refNum_any (a : Option Addr) (len cap v : Nat) (l : List Int) (w : World) (hB : Bytes w a len l) (hnil : a = none → cap = 0) (hlen : len ≤ 100000) (hv : v < 4294967296) :
    Calls Try.prog 20 #[.slice a len cap, .int .i64 4, .int .i64 v] w fun e w' => ∃ a' c', e = .returned (.slice a' (len + 4) c') ∧ Bytes w' a' (len + 4) (l ++ numB false 4 v) ∧ ((a' = none → c' = 0) ∧ len + 4 ≤ c') ∧ Below w.heap.size w w' := by
  have HP : Hid (Calls Try.prog 28 #[.slice a len cap, .int .i64 4, .bool false, .int .u64 v] w (PutPost w (l ++ numB false 4 v) 0)) := refPut_ok a len cap 4 v l false w hB hnil hlen (by omega) (by omega) (fits4 hv)
  have hL : (l ++ numB false 4 v).length = len + 4 := by rw [List.length_append, numB_len, hB.1]
  obtain ⟨D, hD⟩ := named (l ++ numB false 4 v)
  rw [hD.out] at HP hL ⊢
  have HL := Lib.hid hL
  have e1 : IntKind.u64.wrap (v : Int) = v := by rw [IntKind.wrap_u64]; omega
  clear hL hD hB
  go_enter Try.func20, Try.ntmps20
  go_wp2_with (go_at_call 28; refine HP.out.mono ?_; rintro e w1 hp; obtain ⟨a1, c1, rfl, g1, g2, g3⟩ := hp.sized HL.out; have HB := Lib.hid g1; have HC := Lib.hid g2; have HG := Lib.hid g3; clear hp g1 g2 g3)
  go_ret
  exact ⟨a1, c1, rfl, HB.out, HC.out, HG.out⟩
theorem refAt_any (a : Option Addr) (len cap p : Nat) (P : Int) (l : List Int) (w : World) (hB : Bytes w a len l) (hp : p + 4 ≤ len) (hP : (p : Int) = P) :
    Calls Try.prog 22 #[.slice a len cap, .int .i64 P, .int .i64 4] w fun e w' => e = .returned (.int .i64 (getTo false 4 p l 4 : Nat)) ∧ w = w' := by
  have HG : Hid (Calls Try.prog 30 #[.slice a len cap, .int .i64 P, .int .i64 4, .bool false] w fun e w' => e = .returned (.tuple #[.int .u64 (getTo false 4 p l 4 : Nat), .int .i64 0]) ∧ w = w') := by
    have := refGet_ok a len cap 4 p l false w hB (by omega) (by omega) hp
    rw [hP] at this
    exact this
  have hs := small_getTo hB.small.2 p
  obtain ⟨V, hV⟩ := named (getTo false 4 p l 4)
  rw [hV.out] at HG hs ⊢
  have e1 : IntKind.i64.wrap (V : Int) = V := by rw [IntKind.wrap_i64]; omega
  clear hB hP hp hV
  go_enter Try.func22, Try.ntmps22
  go_wp2_with (go_at_call 30; refine HG.out.mono ?_; rintro e w1 ⟨rfl, rfl⟩)
  go_ret
  exact ⟨rfl, rfl⟩

set_option maxHeartbeats 1600000 in
theorem refSlot_arg {q s c m : Int} (h : ¬ May (q, s, c, m)) (w : World) : Calls Try.prog 10 #[.agg (slV (q, s, c, m)).toArray] w (PutPost w [] 1) := by
  have hc : q < 1 ∨ (1 ≤ q ∧ 2147483648 < q) ∨ (1 ≤ q ∧ q ≤ 2147483648 ∧ s < 2) ∨ (1 ≤ q ∧ q ≤ 2147483648 ∧ 2 ≤ s ∧ 65536 < s) ∨ (1 ≤ q ∧ q ≤ 2147483648 ∧ 2 ≤ s ∧ s ≤ 65536 ∧ c < 1) ∨ (1 ≤ q ∧ q ≤ 2147483648 ∧ 2 ≤ s ∧ s ≤ 65536 ∧ 1 ≤ c ∧ 1048576 < c) := by
    unfold May at h
    dsimp only at h
    omega
  unfold slV
  have HG : Hid (Below w.heap.size w (w.alloc (.cells #[.int .i64 q, .int .i64 s, .int .i64 c, .int .u32 m] 24))) := (Below.refl _ _).alloc (Nat.le_refl _) _
  clear h
  rcases hc with h1 | ⟨h1, h2⟩ | ⟨h1, h2, h3⟩ | ⟨h1, h2, h3, h4⟩ | ⟨h1, h2, h3, h4, h5⟩ | ⟨h1, h2, h3, h4, h5, h6⟩
  all_goals
    go_enter Try.func10, Try.ntmps10
    go_wp2
    go_ret2
    exact ⟨none, 0, rfl, none_bytes _, ⟨fun _ => rfl, Nat.le_refl _⟩, HG.out⟩
theorem cells4 {W : World} {X : Nat} {a b c d : Value} (h : Blk W X 24 #[a, b, c, d]) : W.cell? ⟨X, 0, none⟩ = some a ∧ W.cell? ⟨X, 1, none⟩ = some b ∧ W.cell? ⟨X, 2, none⟩ = some c ∧ W.cell? ⟨X, 3, none⟩ = some d := by
  rw [h.cell, h.cell, h.cell, h.cell]
  exact ⟨rfl, rfl, rfl, rfl⟩
set_option maxHeartbeats 1600000 in
theorem refSlot_ok {q s c m : Int} (h : May (q, s, c, m)) (ho : SlOk (q, s, c, m)) (w : World) : Calls Try.prog 10 #[.agg (slV (q, s, c, m)).toArray] w (PutPost w (slB (q, s, c, m)) 0) := by
  have hln := slB_len (q, s, c, m)
  obtain ⟨⟨p1, p2⟩, ⟨p3, p4⟩, p5, p6⟩ := h
  obtain ⟨_, _, _, p7, p8⟩ := ho
  dsimp only at p1 p2 p3 p4 p5 p6 p7 p8
  obtain ⟨Q, rfl⟩ : ∃ Q : Nat, q = Q := ⟨q.toNat, by omega⟩
  obtain ⟨S, rfl⟩ : ∃ Q : Nat, s = Q := ⟨s.toNat, by omega⟩
  obtain ⟨C, rfl⟩ : ∃ Q : Nat, c = Q := ⟨c.toNat, by omega⟩
  obtain ⟨M, rfl⟩ : ∃ Q : Nat, m = Q := ⟨m.toNat, by omega⟩
  have e0 : slB ((Q : Int), (S : Int), (C : Int), (M : Int)) = [] ++ numB false 4 Q ++ numB false 4 S ++ numB false 4 C ++ numB false 4 M := rfl
  rw [e0] at hln ⊢
  have n1 := fun w => refNum_any none 0 0 Q [] w (none_bytes w) (fun _ => rfl) (by omega) (by omega)
  obtain ⟨L1, hL1⟩ := named ([] ++ numB false 4 Q)
  rw [hL1.out] at n1 hln ⊢
  have n2 := fun a c w h1 h2 => refNum_any a 4 c S L1 w h1 h2 (by omega) (by omega)
  obtain ⟨L2, hL2⟩ := named (L1 ++ numB false 4 S)
  rw [hL2.out] at n2 hln ⊢
  have n3 := fun a c w h1 h2 => refNum_any a 8 c C L2 w h1 h2 (by omega) (by omega)
  obtain ⟨L3, hL3⟩ := named (L2 ++ numB false 4 C)
  rw [hL3.out] at n3 hln ⊢
  have n4 := fun a c w h1 h2 => refNum_any a 12 c M L3 w h1 h2 (by omega) (by omega)
  obtain ⟨L4, hL4⟩ := named (L3 ++ numB false 4 M)
  rw [hL4.out] at n4 hln ⊢
  have HN1 := Lib.hid n1
  have HN2 := Lib.hid n2
  have HN3 := Lib.hid n3
  have HN4 := Lib.hid n4
  have HLN := Lib.hid hln
  have e4 : IntKind.i64.wrap (M : Int) = M := by rw [IntKind.wrap_i64]; omega
  unfold slV
  obtain ⟨X, hX⟩ := named w.heap.size
  have HS0 : Hid (Blk (w.alloc (.cells #[.int .i64 Q, .int .i64 S, .int .i64 C, .int .u32 M] 24)).drew X 24 #[.int .i64 Q, .int .i64 S, .int .i64 C, .int .u32 M] ∧ Below X w (w.alloc (.cells #[.int .i64 Q, .int .i64 S, .int .i64 C, .int .u32 M] 24)).drew) := by
    rw [← hX.out]
    exact ⟨Blk.new w _ _, ((Below.refl _ _).alloc (Nat.le_refl _) _).drew⟩
  have hXX := hX.out
  clear n1 n2 n3 n4 hL1 hL2 hL3 hL4 hln e0 p7 p8
  go_enter Try.func10, Try.ntmps10
  go_wp2_with fail
  refine wp_region_held_drew (S := fun W' => Blk W' X 24 #[.int .i64 Q, .int .i64 S, .int .i64 C, .int .u32 M] ∧ Below X w W') (by kernel_rfl) (by first | exact HS4.out | exact HS3.out | exact HS2.out | exact HS1.out | exact HS0.out) (fun hHeld => ?_)
  refine wpAnyH_take (i := 0) (oi := _) (v := ?vs0) rfl (by kernel_rfl) (by kernel_rfl) (by kernel_rfl) (fun _ _ _ h => h) (Or.inl ⟨by rfl, ?hys0⟩) (by assumption) ?rests0
  case hys0 => (intro wz hSw; obtain ⟨k0, k1, k2, k3⟩ := cells4 hSw.1; go_simp; try with_reducible rfl)
  (try simp only [List.getElem_toArray, List.getElem_cons_zero, Act.put, List.setIfInBounds_toArray, List.set_cons_zero, List.set_cons_succ])
  refine wpAnyH_take (i := 1) (oi := _) (v := ?vs1) rfl (by kernel_rfl) (by kernel_rfl) (by kernel_rfl) (fun _ _ _ h => h) (Or.inl ⟨by rfl, ?hys1⟩) (by assumption) ?rests1
  case hys1 => (intro wz hSw; obtain ⟨k0, k1, k2, k3⟩ := cells4 hSw.1; go_simp; try with_reducible rfl)
  (try simp only [List.getElem_toArray, List.getElem_cons_zero, List.getElem_cons_succ, Act.put, List.setIfInBounds_toArray, List.set_cons_zero, List.set_cons_succ])
  refine wpAnyH_take (i := 3) (oi := _) (v := ?vs3) rfl (by kernel_rfl) (by kernel_rfl) (by kernel_rfl) (fun _ _ _ h => h) (Or.inl ⟨by rfl, ?hys3⟩) (by assumption) ?rests3
  case hys3 => (intro wz hSw; obtain ⟨k0, k1, k2, k3⟩ := cells4 hSw.1; go_simp; try with_reducible rfl)
  (try simp only [List.getElem_toArray, List.getElem_cons_zero, List.getElem_cons_succ, Act.put, List.setIfInBounds_toArray, List.set_cons_zero, List.set_cons_succ])
  refine wpAnyH_take (i := 4) (oi := _) (v := ?vs4) rfl (by kernel_rfl) (by kernel_rfl) (by kernel_rfl) (fun _ _ _ h => h) (Or.inl ⟨by rfl, ?hys4⟩) (by assumption) ?rests4
  case hys4 => (intro wz hSw; obtain ⟨k0, k1, k2, k3⟩ := cells4 hSw.1; go_simp; try with_reducible rfl)
  (try simp only [List.getElem_toArray, List.getElem_cons_zero, List.getElem_cons_succ, Act.put, List.setIfInBounds_toArray, List.set_cons_zero, List.set_cons_succ])
  refine wpAnyH_take (i := 6) (oi := _) (v := ?vs6) rfl (by kernel_rfl) (by kernel_rfl) (by kernel_rfl) (fun _ _ _ h => h) (Or.inl ⟨by rfl, ?hys6⟩) (by assumption) ?rests6
  case hys6 => (intro wz hSw; obtain ⟨k0, k1, k2, k3⟩ := cells4 hSw.1; go_simp; try with_reducible rfl)
  (try simp only [List.getElem_toArray, List.getElem_cons_zero, List.getElem_cons_succ, Act.put, List.setIfInBounds_toArray, List.set_cons_zero, List.set_cons_succ])
  refine wpAnyH_take (i := 7) (oi := _) (v := ?vs7) rfl (by kernel_rfl) (by kernel_rfl) (by kernel_rfl) (fun _ _ _ h => h) (Or.inl ⟨by rfl, ?hys7⟩) (by assumption) ?rests7
  case hys7 => (intro wz hSw; obtain ⟨k0, k1, k2, k3⟩ := cells4 hSw.1; go_simp; try with_reducible rfl)
  (try simp only [List.getElem_toArray, List.getElem_cons_zero, List.getElem_cons_succ, Act.put, List.setIfInBounds_toArray, List.set_cons_zero, List.set_cons_succ])
  refine wpAnyH_take (i := 9) (oi := _) (v := ?vs9) rfl (by kernel_rfl) (by kernel_rfl) (by kernel_rfl) (fun _ _ _ h => h) (Or.inl ⟨by rfl, ?hys9⟩) (by assumption) ?rests9
  case hys9 => (intro wz hSw; obtain ⟨k0, k1, k2, k3⟩ := cells4 hSw.1; go_simp; try with_reducible rfl)
  (try simp only [List.getElem_toArray, List.getElem_cons_zero, List.getElem_cons_succ, Act.put, List.setIfInBounds_toArray, List.set_cons_zero, List.set_cons_succ])
  refine wpAnyH_take (i := 10) (oi := _) (v := ?vs10) rfl (by kernel_rfl) (by kernel_rfl) (by kernel_rfl) (fun _ _ _ h => h) (Or.inl ⟨by rfl, ?hys10⟩) (by assumption) ?rests10
  case hys10 => (intro wz hSw; obtain ⟨k0, k1, k2, k3⟩ := cells4 hSw.1; go_simp; try with_reducible rfl)
  (try simp only [List.getElem_toArray, List.getElem_cons_zero, List.getElem_cons_succ, Act.put, List.setIfInBounds_toArray, List.set_cons_zero, List.set_cons_succ])
  refine wpAnyH_take (i := 11) (oi := _) (v := ?vs11) rfl (by kernel_rfl) (by kernel_rfl) (by kernel_rfl) (fun _ _ _ h => h) (Or.inl ⟨by rfl, ?hys11⟩) (by assumption) ?rests11
  case hys11 => (intro wz hSw; obtain ⟨k0, k1, k2, k3⟩ := cells4 hSw.1; go_simp; try with_reducible rfl)
  (try simp only [List.getElem_toArray, List.getElem_cons_zero, List.getElem_cons_succ, Act.put, List.setIfInBounds_toArray, List.set_cons_zero, List.set_cons_succ])
  refine wpAnyH_ready (rs := [2]) (by kernel_rfl) (by simp) ?_
  refine AllReadyH.cons (o := _) rfl (fun K hK => ?_) AllReadyH.nil
  rw [if_pos (by rfl)]
  go_simp
  (go_at_call 20; (refine (HN1.out _ ).mono ?_); rintro e w1 ⟨a1, c1, rfl, g1, g2, g3⟩; have HB1 := Lib.hid g1; have HC1 := Lib.hid g2; have HS1 : Hid (Blk w1 X 24 #[.int .i64 Q, .int .i64 S, .int .i64 C, .int .u32 M] ∧ Below X w w1) := ⟨HS0.out.1.later g3, HS0.out.2.trans (g3.mono (by have := HS0.out.1.lt; omega))⟩; clear g1 g2 g3)
  dsimp only
  refine hK.out _ _ (by first | exact HS4.out | exact HS3.out | exact HS2.out | exact HS1.out | exact HS0.out) (fun hHeld => ?_)
  clear hK K
  (try simp only [List.getElem_toArray, List.getElem_cons_zero, List.getElem_cons_succ, Act.put, List.setIfInBounds_toArray, List.set_cons_zero, List.set_cons_succ])
  refine wpAnyH_ready (rs := [5]) (by kernel_rfl) (by simp) ?_
  refine AllReadyH.cons (o := _) rfl (fun K hK => ?_) AllReadyH.nil
  rw [if_pos (by rfl)]
  go_simp
  (go_at_call 20; (refine (HN2.out a1 c1 _ HB1.out HC1.out.1).mono ?_); rintro e w2 ⟨a2, c2, rfl, g1, g2, g3⟩; have HB2 := Lib.hid g1; have HC2 := Lib.hid g2; have HS2 : Hid (Blk w2 X 24 #[.int .i64 Q, .int .i64 S, .int .i64 C, .int .u32 M] ∧ Below X w w2) := ⟨HS1.out.1.later g3, HS1.out.2.trans (g3.mono (by have := HS1.out.1.lt; omega))⟩; clear g1 g2 g3)
  dsimp only
  refine hK.out _ _ (by first | exact HS4.out | exact HS3.out | exact HS2.out | exact HS1.out | exact HS0.out) (fun hHeld => ?_)
  clear hK K
  (try simp only [List.getElem_toArray, List.getElem_cons_zero, List.getElem_cons_succ, Act.put, List.setIfInBounds_toArray, List.set_cons_zero, List.set_cons_succ])
  refine wpAnyH_ready (rs := [8]) (by kernel_rfl) (by simp) ?_
  refine AllReadyH.cons (o := _) rfl (fun K hK => ?_) AllReadyH.nil
  rw [if_pos (by rfl)]
  go_simp
  (go_at_call 20; (refine (HN3.out a2 c2 _ HB2.out HC2.out.1).mono ?_); rintro e w3 ⟨a3, c3, rfl, g1, g2, g3⟩; have HB3 := Lib.hid g1; have HC3 := Lib.hid g2; have HS3 : Hid (Blk w3 X 24 #[.int .i64 Q, .int .i64 S, .int .i64 C, .int .u32 M] ∧ Below X w w3) := ⟨HS2.out.1.later g3, HS2.out.2.trans (g3.mono (by have := HS2.out.1.lt; omega))⟩; clear g1 g2 g3)
  dsimp only
  refine hK.out _ _ (by first | exact HS4.out | exact HS3.out | exact HS2.out | exact HS1.out | exact HS0.out) (fun hHeld => ?_)
  clear hK K
  (try simp only [List.getElem_toArray, List.getElem_cons_zero, List.getElem_cons_succ, Act.put, List.setIfInBounds_toArray, List.set_cons_zero, List.set_cons_succ])
  refine wpAnyH_ready (rs := [12]) (by kernel_rfl) (by simp) ?_
  refine AllReadyH.cons (o := _) rfl (fun K hK => ?_) AllReadyH.nil
  rw [if_pos (by rfl)]
  go_simp
  (go_at_call 20; (refine (HN4.out a3 c3 _ HB3.out HC3.out.1).mono ?_); rintro e w4 ⟨a4, c4, rfl, g1, g2, g3⟩; have HB4 := Lib.hid g1; have HC4 := Lib.hid g2; have HS4 : Hid (Blk w4 X 24 #[.int .i64 Q, .int .i64 S, .int .i64 C, .int .u32 M] ∧ Below X w w4) := ⟨HS3.out.1.later g3, HS3.out.2.trans (g3.mono (by have := HS3.out.1.lt; omega))⟩; clear g1 g2 g3)
  dsimp only
  refine hK.out _ _ (by first | exact HS4.out | exact HS3.out | exact HS2.out | exact HS1.out | exact HS0.out) (fun hHeld => ?_)
  clear hK K
  (try simp only [List.getElem_toArray, List.getElem_cons_zero, List.getElem_cons_succ, Act.put, List.setIfInBounds_toArray, List.set_cons_zero, List.set_cons_succ])
  refine wpAnyH_take (i := 13) (oi := _) (v := ?vs13) rfl (by kernel_rfl) (by kernel_rfl) (by kernel_rfl) (fun _ _ _ h => h) (Or.inl ⟨by rfl, ?hys13⟩) (by assumption) ?rests13
  case hys13 => (intro wz hSw; obtain ⟨k0, k1, k2, k3⟩ := cells4 hSw.1; go_simp; try with_reducible rfl)
  (try simp only [List.getElem_toArray, List.getElem_cons_zero, List.getElem_cons_succ, Act.put, List.setIfInBounds_toArray, List.set_cons_zero, List.set_cons_succ])
  refine wpAnyH_take (i := 14) (oi := _) (v := ?vs14) rfl (by kernel_rfl) (by kernel_rfl) (by kernel_rfl) (fun _ _ _ h => h) (Or.inl ⟨by rfl, ?hys14⟩) (by assumption) ?rests14
  case hys14 => (intro wz hSw; obtain ⟨k0, k1, k2, k3⟩ := cells4 hSw.1; go_simp; try with_reducible rfl)
  (try simp only [List.getElem_toArray, List.getElem_cons_zero, List.getElem_cons_succ, Act.put, List.setIfInBounds_toArray, List.set_cons_zero, List.set_cons_succ])
  refine wpAnyH_done (by kernel_rfl) ?_ _
  go_wp2
  go_ret2
  exact PutPost.of_sized HLN.out HB4.out HC4.out (by rw [hX.out]; exact HS4.out.2)
end Go.Proofs.Ytpjlnanalielmaa
