/-
  What the project's own encode answers (package slot). Conditions: the fields within their bounds.
-/
import Derived.Test.YtpjlnanalielmaaC7
namespace Go.Proofs.Ytpjlnanalielmaa
open Go.RowKit
set_option linter.unusedVariables false

/-- What encode has: the slot, its result, the sector that it writes. -/
def Enc (w0 : World) (X : Nat) (cs Z R : Array Value) (W : World) : Prop := Blk W X 24 cs ∧ Blk W (X + 1) 48 Z ∧ Blk W (X + 2) 48 R ∧ Below X w0 W
theorem Enc.first (w : World) (cs Z : Array Value) : Enc w w.heap.size cs Z Z (((w.alloc (.cells cs 24)).alloc (.cells Z 48)).alloc (.cells Z 48)) := by
  have h1 := Blk.new (w.alloc (.cells cs 24)) 48 Z
  have h2 := Blk.new ((w.alloc (.cells cs 24)).alloc (.cells Z 48)) 48 Z
  rw [World.size_alloc] at h1 h2
  rw [World.size_alloc] at h2
  exact ⟨((Blk.new w _ cs).alloc _).alloc _, h1.alloc _, h2, (((Below.refl _ _).alloc (Nat.le_refl _) _).alloc (by simp) _).alloc (by simp; omega) _⟩
theorem Enc.size {w0 W : World} {X : Nat} {cs Z R : Array Value} (h : Enc w0 X cs Z R W) : X + 2 < W.heap.size := h.2.2.1.lt
theorem Enc.called {w0 W W' : World} {X : Nat} {cs Z R : Array Value} (h : Enc w0 X cs Z R W) (hb : Below W.heap.size W W') : Enc w0 X cs Z R W' := by
  have hs := h.size
  exact ⟨h.1.later hb, h.2.1.later hb, h.2.2.1.later hb, h.2.2.2.trans (hb.mono (by omega))⟩
theorem Enc.stored {w0 W : World} {X : Nat} {cs Z R : Array Value} (h : Enc w0 X cs Z R W) (R' : Array Value) : Enc w0 X cs Z R' (W.setRow (X + 2) R') :=
  ⟨(setRow_other _ _ _ _ (by omega)).trans h.1, (setRow_other _ _ _ _ (by omega)).trans h.2.1, setRow_heap _ _ _ _ _ _ h.2.2.1, below_setRow h.2.2.2 (by omega) _⟩
theorem Enc.f0 {w0 W : World} {X : Nat} {a b c d : Value} {Z R : Array Value} (h : Enc w0 X #[a, b, c, d] Z R W) : W.cell? ⟨X, 0, none⟩ = some a ∧ W.cell? ⟨X, 1, none⟩ = some b ∧ W.cell? ⟨X, 2, none⟩ = some c ∧ W.cell? ⟨X, 3, none⟩ = some d := by
  rw [h.1.cell, h.1.cell, h.1.cell, h.1.cell]
  exact ⟨rfl, rfl, rfl, rfl⟩

set_option maxHeartbeats 1600000 in
theorem encode_any7 (w : World) (q s c m : Nat) (hq : q < 4294967296) (hs : s < 4294967296) (hc : c < 4294967296) (hm : m < 4294967296) :
    Calls Try.prog 19 #[.agg #[.int .i64 q, .int .i64 s, .int .i64 c, .int .u32 m]] w fun e w' => e = .returned (.agg (arrV (numB false 4 q ++ numB false 4 s ++ numB false 4 c ++ numB false 4 m))) ∧ Below w.heap.size w w' := by
  have e1 : IntKind.u64.wrap (q : Int) = q := by rw [IntKind.wrap_u64]; omega
  have e2 : IntKind.u64.wrap (s : Int) = s := by rw [IntKind.wrap_u64]; omega
  have e3 : IntKind.u64.wrap (c : Int) = c := by rw [IntKind.wrap_u64]; omega
  have e4 : IntKind.u64.wrap (m : Int) = m := by rw [IntKind.wrap_u64]; omega
  have hz : ∀ w, (zeroValue 48).run Try.prog w = .ok (.agg (arrV (noughts 16))) w := fun w => by kernel_rfl
  have n0 : (noughts 16).length = 16 := rfl
  have l1 := overB_len (l := noughts 16) (p := 0) (d := numB false 4 q) (by rw [numB_len, n0]; omega)
  have b1 := overB_small (l := noughts 16) (p := 0) (d := numB false 4 q) (by rw [numB_len, n0]; omega) (small16 n0 (noughts_bd 16)) (numB_bd false 4 q)
  have h1 := fun w => with_any7 w (noughts 16) n0 (noughts_bd 16) 0 0 q (Or.inl ⟨rfl, rfl⟩) hq
  rw [n0] at l1
  have hA := over_all q s c m
  rw [← hA]
  obtain ⟨L1, hL1⟩ := named (overB (noughts 16) 0 (numB false 4 q))
  rw [hL1.out] at l1 b1 h1 ⊢
  have l2 := overB_len (l := L1) (p := 4) (d := numB false 4 s) (by rw [numB_len, l1]; omega)
  have b2 := overB_small (l := L1) (p := 4) (d := numB false 4 s) (by rw [numB_len, l1]; omega) b1 (numB_bd false 4 s)
  have h2 := fun w => with_any7 w L1 l1 b1.2 1 4 s (Or.inr (Or.inl ⟨rfl, rfl⟩)) hs
  rw [l1] at l2
  obtain ⟨L2, hL2⟩ := named (overB L1 4 (numB false 4 s))
  rw [hL2.out] at l2 b2 h2 ⊢
  have l3 := overB_len (l := L2) (p := 8) (d := numB false 4 c) (by rw [numB_len, l2]; omega)
  have b3 := overB_small (l := L2) (p := 8) (d := numB false 4 c) (by rw [numB_len, l2]; omega) b2 (numB_bd false 4 c)
  have h3 := fun w => with_any7 w L2 l2 b2.2 2 8 c (Or.inr (Or.inr (Or.inl ⟨rfl, rfl⟩))) hc
  rw [l2] at l3
  obtain ⟨L3, hL3⟩ := named (overB L2 8 (numB false 4 c))
  rw [hL3.out] at l3 b3 h3 ⊢
  have l4 := overB_len (l := L3) (p := 12) (d := numB false 4 m) (by rw [numB_len, l3]; omega)
  have h4 := fun w => with_any7 w L3 l3 b3.2 3 12 m (Or.inr (Or.inr (Or.inr ⟨rfl, rfl⟩))) hm
  rw [l3] at l4
  obtain ⟨L4, hL4⟩ := named (overB L3 12 (numB false 4 m))
  rw [hL4.out] at l4 h4 ⊢
  have s0 := (arrV_size (noughts 16)).trans n0
  have s1 := (arrV_size L1).trans l1
  have s2 := (arrV_size L2).trans l2
  have s3 := (arrV_size L3).trans l3
  have s4 := (arrV_size L4).trans l4
  have o1 := Lib.hid (arrV_one L1)
  have o2 := Lib.hid (arrV_one L2)
  have o3 := Lib.hid (arrV_one L3)
  have o4 := Lib.hid (arrV_one L4)
  obtain ⟨R0, hR0⟩ := named (arrV (noughts 16))
  obtain ⟨R1, hR1⟩ := named (arrV L1)
  obtain ⟨R2, hR2⟩ := named (arrV L2)
  obtain ⟨R3, hR3⟩ := named (arrV L3)
  obtain ⟨R4, hR4⟩ := named (arrV L4)
  rw [hR0.out] at hz s0 h1
  rw [hR1.out] at s1 h1 h2 o1
  rw [hR2.out] at s2 h2 h3 o2
  rw [hR3.out] at s3 h3 h4 o3
  rw [hR4.out] at s4 h4 o4 ⊢
  have i0 : Hid ((Try.prog.info? 48).map (·.size) = some R0.size) := by rw [Hid, s0]; exact sec_size
  have i1 : Hid ((Try.prog.info? 48).map (·.size) = some R1.size) := by rw [Hid, s1]; exact sec_size
  have i2 : Hid ((Try.prog.info? 48).map (·.size) = some R2.size) := by rw [Hid, s2]; exact sec_size
  have i3 : Hid ((Try.prog.info? 48).map (·.size) = some R3.size) := by rw [Hid, s3]; exact sec_size
  have i4 : Hid ((Try.prog.info? 48).map (·.size) = some R4.size) := by rw [Hid, s4]; exact sec_size
  have z1 : Hid (R0.size = R1.size) := by rw [Hid, s0, s1]
  have z2 : Hid (R1.size = R2.size) := by rw [Hid, s1, s2]
  have z3 : Hid (R2.size = R3.size) := by rw [Hid, s2, s3]
  have z4 : Hid (R0.size = R4.size) := by rw [Hid, s0, s4]
  have H1 := Lib.hid h1
  have H2 := Lib.hid h2
  have H3 := Lib.hid h3
  have H4 := Lib.hid h4
  have HE0 := Lib.hid (Enc.first w #[.int .i64 q, .int .i64 s, .int .i64 c, .int .u32 m] R0)
  obtain ⟨c0, _, _, _⟩ := HE0.out.f0
  obtain ⟨X, hX⟩ := named w.heap.size
  have hXX := hX.out
  rw [hX.out] at HE0 c0 ⊢
  clear h1 h2 h3 h4 s0 s1 s2 s3 s4 hA l1 l2 l3 l4 b1 b2 b3 hL1 hL2 hL3 hL4 hR0 hR1 hR2 hR3 hR4 n0 hq hs hc hm
  go_enter Try.func19, Try.ntmps19
  go_wp2_with (first
    | (refine wpList_load_row rfl 48 (.tmp 3) rfl (X + 2) rfl 48 R0 (0, 0) _ HE0.out.2.2.1 Try.underlying48 rfl i0.out ?_)
    | (go_at_call 27; (with_reducible refine (H1.out _).mono ?_); rintro e w1 ⟨rfl, g⟩; have HE1 := Lib.hid ((HE0.out.called g).stored R1); have HC1 := Lib.hid (HE0.out.called g); obtain ⟨_, c1, _, _⟩ := HE1.out.f0; clear g)
    | (refine wpList_store_row rfl 48 (.tmp 3) (.tmp 8) rfl (X + 2) R1 rfl rfl 48 R0 HC1.out.2.2.1 i1.out z1.out o1.out ?_)
    | (refine wpList_load_row rfl 48 (.tmp 3) rfl (X + 2) rfl 48 R1 (0, 0) _ HE1.out.2.2.1 Try.underlying48 rfl i1.out ?_)
    | (go_at_call 27; (with_reducible refine (H2.out _).mono ?_); rintro e w2 ⟨rfl, g⟩; have HE2 := Lib.hid ((HE1.out.called g).stored R2); have HC2 := Lib.hid (HE1.out.called g); obtain ⟨_, _, c2, _⟩ := HE2.out.f0; clear g)
    | (refine wpList_store_row rfl 48 (.tmp 3) (.tmp 13) rfl (X + 2) R2 rfl rfl 48 R1 HC2.out.2.2.1 i2.out z2.out o2.out ?_)
    | (refine wpList_load_row rfl 48 (.tmp 3) rfl (X + 2) rfl 48 R2 (0, 0) _ HE2.out.2.2.1 Try.underlying48 rfl i2.out ?_)
    | (go_at_call 27; (with_reducible refine (H3.out _).mono ?_); rintro e w3 ⟨rfl, g⟩; have HE3 := Lib.hid ((HE2.out.called g).stored R3); have HC3 := Lib.hid (HE2.out.called g); obtain ⟨_, _, _, c3⟩ := HE3.out.f0; clear g)
    | (refine wpList_store_row rfl 48 (.tmp 3) (.tmp 18) rfl (X + 2) R3 rfl rfl 48 R2 HC3.out.2.2.1 i3.out z3.out o3.out ?_)
    | (refine wpList_load_row rfl 48 (.tmp 3) rfl (X + 2) rfl 48 R3 (0, 0) _ HE3.out.2.2.1 Try.underlying48 rfl i3.out ?_)
    | (go_at_call 27; (with_reducible refine (H4.out _).mono ?_); rintro e w4 ⟨rfl, g⟩; have HE4 := Lib.hid (HE3.out.called g); clear g)
    | (refine wpList_store_row rfl 48 (.tmp 2) (.tmp 23) rfl (X + 1) R4 rfl rfl 48 R0 HE4.out.2.1 i4.out z4.out o4.out ?_))
  refine bodyPost_ret (v := .agg R4) (results_cell_row rfl _ _ (X + 1) 48 R4 (0, 0) _ rfl ?_ Try.underlying48 rfl i4.out) rfl ⟨rfl, ?_⟩
  · exact setRow_heap _ (X + 1) R0 R4 _ _ HE4.out.2.1
  · exact below_setRow HE4.out.2.2.2 (by omega) _
end Go.Proofs.Ytpjlnanalielmaa
