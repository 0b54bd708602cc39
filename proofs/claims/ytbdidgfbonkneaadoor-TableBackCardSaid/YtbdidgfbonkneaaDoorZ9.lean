/-
  What appendLeaf answers (layer 8). Conditions: the leaf's entries may be where they are; the bytes so far are the caller's own; the table of widths reads.
-/
import Derived.Test.YtbdidgfbonkneaaDoorG9
import Derived.Test.YtbdidgfbonkneaaDoorH9
import Derived.Test.YtbdidgfbonkneaaDoorE8
namespace Go.Proofs.YtbdidgfbonkneaaDoor
open Go.RowKit
set_option linter.unusedVariables false

theorem encode9 (v : Nat) (w : World) (hv : v < 65536) : Calls Tryd.prog 21 #[.int .i64 v] w fun e w' => ∃ a c, e = .returned (.slice a 2 c) ∧ Own w' w.heap.size (.slice a 2 c) 2 (numB false 2 v) ∧ Below w.heap.size w w' := by
  have q2 : (256 : Nat) ^ 2 = 65536 := by decide
  have n1 := Lib.hid (fun w => step8 none 0 0 2 v 2 2 v [] w (none_bytes w) (fun _ => rfl) (by omega) rfl rfl (by omega) (by omega) (by omega) (by omega) rfl)
  have wu : IntKind.u64.wrap (v : Int) = v := by rw [IntKind.wrap_u64]; omega
  go_enter Tryd.func21, Tryd.ntmps21
  go_wp2_with (go_at_call 39; (with_reducible refine (n1.out _).mono ?_); intro e w1 h; obtain ⟨a, c, rfl, g1, g2, g3⟩ := h.next; have HO := Lib.hid g1; have HB := Lib.hid g3; clear h g1 g2 g3)
  go_ret
  exact ⟨a, c, rfl, HO.out, HB.out⟩
theorem Own.later9 {w w' : World} {base n : Nat} {v : Value} {xs : List Int} (h : Own w base v n xs) (hb : Below w.heap.size w w') : Own w' base v n xs :=
  ⟨h.1.kept (grown_of_below hb) (by
    cases v.ownBlock with
    | none => exact Or.inl rfl
    | some k => exact Or.inr (by simp)), h.2⟩
/-- What a call that appends holds: the bytes so far, what lay there before. -/
def Ap (w0 : World) (B : Nat) (a : Option Addr) (n c : Nat) (l : List Int) (w : World) : Prop := Own w B (.slice a n c) n l ∧ Below w0.heap.size w0 w ∧ w0.heap.size ≤ B ∧ B ≤ w.heap.size
section
variable {w0 w w' : World} {B n c : Nat} {a : Option Addr} {l : List Int}
theorem Ap.later (h : Ap w0 B a n c l w) (hb : Below w.heap.size w w') : Ap w0 B a n c l w' := ⟨h.1.later9 hb, h.2.1.trans (hb.mono h.2.1.size), h.2.2.1, Nat.le_trans h.2.2.2 hb.size⟩
theorem Ap.alloc (h : Ap w0 B a n c l w) (o : Obj) : Ap w0 B a n c l (w.alloc o) := h.later ((Below.refl _ _).alloc (Nat.le_refl _) _)
theorem Ap.drew (h : Ap w0 B a n c l w) : Ap w0 B a n c l w.drew := h.later (Below.refl _ _).drew
theorem Ap.app (h : Ap w0 B a n c l w) {a' : Option Addr} {n' c' : Nat} {l' : List Int} (ho : Own w' B (.slice a' n' c') n' l') (hg : w.grownBy w' (Value.slice a n c).ownBlock) : Ap w0 B a' n' c' l' w' :=
  ⟨ho, h.1.below h.2.1 hg h.2.1.size h.2.2.1, h.2.2.1, Nat.le_trans h.2.2.2 hg.size⟩
end
set_option maxRecDepth 100000 in
set_option maxHeartbeats 3200000 in
theorem appendLeaf9 (w0 w : World) (B : Nat) (a : Option Addr) (n c : Nat) (l : List Int) (i : Nat) (al : Option Addr) (cl : Nat) (xs : List En) (cc : Int) (hA : Ap w0 B a n c l w) (hn : n ≤ 1000000) (hi : i < 65536) (hL : LfR w0 (al, 8, cl, xs)) (hm : ∀ k, k < 8 → MayE (lfAt xs k) cc) (hW : Wid w0) :
    Calls Tryd.prog 20 #[.slice a n c, .int .i64 i, .slice al 8 cl, .int .i64 cc] w fun e w' => ∃ a' c', e = .returned (.slice a' (n + 130) c') ∧ Ap w0 B a' (n + 130) c' (l ++ leafB i xs) w' := by
  have HA := Lib.hid hA
  have HL := Lib.hid hL
  have HWD := Lib.hid hW
  have HM := Lib.hid hm
  have HE := Lib.hid (fun w => encode9 i w hi)
  have hlen := hL.len
  dsimp only at hlen
  have HLN := Lib.hid hlen
  clear hA hL hW hm hlen
  go_enter Tryd.func20, Tryd.ntmps20
  go_wp2_with (first
    | (go_at_call 21; (with_reducible refine (HE.out _).mono ?_); rintro e w1 ⟨a1, c1, rfl, g1, g2⟩; have HA1 := Lib.hid (HA.out.later g2); have HB1 := Lib.hid g1.bytes; clear g1 g2)
    | (at_builtin; refine append_bytes rfl _ _ rfl B _ n l rfl HA1.out.1 a1 2 c1 _ rfl HB1.out.2 HB1.out.1 (by omega) HA1.out.2.2.2 ?_; intro a2 c2 w2 h1 h2; have HA2 := Lib.hid (HA1.out.app h1 h2); clear h1 h2))
  go_loopw [0, 19] (fun s iv wr => ∃ (j : Nat) (a' : Option Addr) (c' : Nat), j ≤ 8 ∧ s = .slice a' (n + 2 + 16 * j) c' ∧ iv = .int .i64 j ∧ Hid (Ap w0 B a' (n + 2 + 16 * j) c' (l ++ numB false 2 i ++ (xs.take j).flatMap enB) wr)) (fun _ iv _ => 8 - (intOf iv).toNat)
  case atStart => exact ⟨0, a2, c2, Nat.zero_le _, rfl, rfl, by rw [List.take_zero, List.flatMap_nil, List.append_nil]; exact HA2.out⟩
  case round =>
    obtain ⟨j, a', c', hj, rfl, rfl, HP⟩ := hrel
    obtain ⟨M, hM⟩ := named (n + 2 + 16 * j)
    rw [hM.out] at HP ⊢
    have hMb : M ≤ 2000000 := by rw [← hM.out]; omega
    by_cases hlt : j < 8
    · obtain ⟨b, off, e1, hs, x1, x2, x3, x4, x5⟩ := (HL.out.later HP.out.2.1).at j hlt
      dsimp only at e1 hs x1 x2 x3 x4 x5
      subst e1
      have hmj := HM.out j hlt
      have hls : l ++ numB false 2 i ++ (xs.take (j + 1)).flatMap enB = l ++ numB false 2 i ++ (xs.take j).flatMap enB ++ enB (lfAt xs j) := by
        have := HLN.out
        rw [List.take_succ_eq_append_getElem (by omega), List.flatMap_append, lfAt_in (by omega)]
        simp only [List.flatMap_cons, List.flatMap_nil, List.append_nil, List.append_assoc]
      have hMn : M + 16 = n + 2 + 16 * (j + 1) := by rw [← hM.out]; omega
      obtain ⟨L, hLd⟩ := named (l ++ numB false 2 i ++ (xs.take j).flatMap enB)
      rw [hLd.out] at HP hls
      obtain ⟨⟨v1, v2, v3, v4, v5⟩, HV⟩ := named (lfAt xs j)
      rw [HV.out] at x1 x2 x3 x4 x5 hs hmj hls
      dsimp only at x1 x2 x3 x4 x5
      clear HV
      have HPE := Lib.hid (fun w hw => entryPut_own hmj hs w hw)
      have HN := Lib.hid (HP.out.alloc (.cells #[.int .i64 v1, .int .i64 v2, .int .i64 v3, .int .i64 v4, .int .u32 v5] 47))
      have HWN := Lib.hid (HWD.out.later HN.out.2.1)
      have HLS := Lib.hid hls
      have HMN := Lib.hid hMn
      clear hs hmj hls hMn
      go_wp2_with (first
        | (go_at_call 38; (with_reducible refine (HPE.out _ HWN.out).mono ?_); rintro e w4 ⟨g4, c4, rfl, g1, g2⟩; have HA4 := Lib.hid (HN.out.later g2); have HB4 := Lib.hid g1.bytes; clear g1 g2)
        | (at_builtin; refine append_bytes rfl _ _ rfl B _ M L rfl HA4.out.1 (some ⟨g4, 0, none⟩) 16 c4 _ rfl HB4.out.2 HB4.out.1 (by omega) HA4.out.2.2.2 ?_; intro a5 c5 w5 h1 h2; have HA5 := Lib.hid (HA4.out.app h1 h2); clear h1 h2))
      go_roundw
      case rel =>
        refine ⟨j + 1, a5, c5, by omega, by rw [HMN.out], by go_num, ?_⟩
        rw [← HMN.out, HLS.out]
        exact HA5.out
      case measure => simp [intOf]; omega
    · have hj8 : j = 8 := by omega
      subst hj8
      have ht : xs.take 8 = xs := by rw [List.take_of_length_le (by have := HLN.out; omega)]
      rw [ht] at HP
      have hM2 : M = n + 130 := by rw [← hM.out]
      go_wp2
      go_ret
      rw [← hM2]
      refine ⟨a', c', rfl, ?_⟩
      unfold leafB
      rw [← List.append_assoc]
      exact HP.out
end Go.Proofs.YtbdidgfbonkneaaDoor
