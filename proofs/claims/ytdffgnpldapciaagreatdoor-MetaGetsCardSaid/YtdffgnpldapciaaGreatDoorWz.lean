/-
  What layer 14 needs: boxes of metas, Great, Right, tables read and written, the encoding of a meta (14.1, 14.2). Conditions: stated at each.
-/
import Derived.Test.YtdffgnpldapciaaGreatDoorT0
import Derived.Deep.MidRow
import Derived.RegionTactic
import Derived.Deep.QuietTactic
import Derived.BigQuiet
import Derived.Test.YtdffgnpldapciaaGreatDoorI8
import Derived.Test.YtdffgnpldapciaaGreatDoorF9
import Derived.Test.YtdffgnpldapciaaGreatDoorH9
import Derived.Test.YtdffgnpldapciaaGreatDoorE8
import Derived.Test.YtdffgnpldapciaaGreatDoorSa
import Derived.Test.YtdffgnpldapciaaGreatDoorD9
import Derived.Test.YtdffgnpldapciaaGreatDoorSy
import Derived.Test.YtdffgnpldapciaaGreatDoorSx
import Derived.Deep.RegionHeld3
import Derived.Test.YtdffgnpldapciaaGreatDoorF7
namespace Go.Proofs.YtdffgnpldapciaaGreatDoor
open Go.RowKit
set_option linter.unusedVariables false

theorem within9 (n a b : Int) (w : World) : Calls Tryz.prog 74 #[.int .i64 n, .int .i64 a, .int .i64 b] w fun e w' => e = .returned (.bool (decide (a ≤ n ∧ n ≤ b))) ∧ w = w' := by
  by_cases h1 : a ≤ n
  · by_cases h2 : n ≤ b
    · go_enter Tryz.func74, Tryz.ntmps74
      go_wp2
      go_ret
      exact ⟨by simp [h1, h2], rfl⟩
    · go_enter Tryz.func74, Tryz.ntmps74
      go_wp2
      go_ret
      exact ⟨by simp; omega, rfl⟩
  · go_enter Tryz.func74, Tryz.ntmps74
    go_wp2
    go_ret
    exact ⟨by simp; omega, rfl⟩
theorem within9_is {n a b : Int} {B : Bool} (h : decide (a ≤ n ∧ n ≤ b) = B) (w : World) : Calls Tryz.prog 74 #[.int .i64 n, .int .i64 a, .int .i64 b] w fun e w' => e = .returned (.bool B) ∧ w = w' := by
  have := within9 n a b w
  rwa [h] at this
theorem absent9 (a : Option Addr) (len cap : Nat) (B : Bool) (hB : decide (len = 0) = B) (w : World) : Calls Tryz.prog 75 #[.slice a len cap] w fun e w' => e = .returned (.bool B) ∧ w = w' := by
  subst hB
  by_cases h : len = 0
  · subst h
    go_enter Tryz.func75, Tryz.ntmps75
    go_wp2
    go_ret
    exact ⟨rfl, rfl⟩
  · go_enter Tryz.func75, Tryz.ntmps75
    go_wp2
    go_ret
    exact ⟨by simp [h], rfl⟩
theorem run_max9 (P : Program) (ts : Array TypeId) (t : TypeId) (x y : Int) (w : World) : (Builtin.max_ ts t #[.int .i64 x, .int .i64 y]).run P w = .ok (.int .i64 (if x < y then y else x)) w := by
  simp [Builtin.max_, Builtin.max2]
theorem below9 (n : Int) (j : Nat) (hj : j ≤ 100000) (hn : -1000000000000 ≤ n) (hn2 : n ≤ 9223372036854775807) (w : World) : Calls Tryz.prog 78 #[.int .i64 n, .int .i64 j] w fun e w' => e = .returned (.int .i64 (belowN n.toNat j : Nat)) ∧ w = w' := by
  obtain ⟨K, hK⟩ := named (belowN n.toNat j)
  unfold belowN at hK
  rw [show belowN n.toNat j = K from hK.out]
  have hKo := hK.out
  have m1 : ∀ w : World, (Builtin.max_ #[3, 3] 3 #[.int .i64 (n - j * 8), .int .i64 0]).run Tryz.prog w = .ok (.int .i64 (n.toNat - j * 8 : Nat)) w := fun w => by
    rw [run_max9]
    congr 2
    split <;> omega
  have m2 : ∀ w : World, (Builtin.min_ #[3, 3] 3 #[.int .i64 (n.toNat - j * 8 : Nat), .int .i64 8]).run Tryz.prog w = .ok (.int .i64 K) w := fun w => by
    rw [run_min9]
    congr 2
    split <;> omega
  obtain ⟨M, hM⟩ := named (n.toNat - j * 8)
  rw [hM.out] at m1 m2
  have e1 : IntKind.i64.wrap ((j : Int) * 8) = j * 8 := by rw [IntKind.wrap_i64]; omega
  have e2 : IntKind.i64.wrap (n - (j : Int) * 8) = n - j * 8 := by rw [IntKind.wrap_i64]; omega
  clear hK hM hKo
  go_enter Tryz.func78, Tryz.ntmps78
  go_wp2
  go_ret
  exact ⟨rfl, rfl⟩
set_option maxHeartbeats 1600000 in
theorem blank9 (a : Option Addr) (len cap : Nat) (xs : List En) (w : World) (h : Reads enV w a len xs) (hok : ∀ x ∈ xs, EnOk x) : Calls Tryz.prog 77 #[.slice a len cap] w fun e w' => e = .returned (.bool (decide (¬ liveL xs))) ∧ Below w.heap.size w w' := by
  have hl := h.1
  have hlen := h.2.1
  have HR := Lib.hid h
  clear h
  obtain ⟨R, hR⟩ := named (decide (¬ liveL xs))
  rw [hR.out]
  have HRf : Hid (∀ k, k < len → (lfAt xs k).1 ≠ 0 → R = false) := fun k hk h0 => by
    rw [← hR.out, decide_eq_false_iff_not, Classical.not_not]
    exact liveL_at.2 ⟨k, by omega, h0⟩
  have HRt : Hid ((∀ k, k < len → (lfAt xs k).1 = 0) → R = true) := fun h => by
    rw [← hR.out, decide_eq_true_iff]
    intro hv
    obtain ⟨k, hk, h0⟩ := liveL_at.1 hv
    exact h0 (h k (by omega))
  clear hR
  go_enter Tryz.func77, Tryz.ntmps77
  go_wp2
  go_loopw [7] (fun i wr => ∃ j : Nat, j ≤ len ∧ i = .int .i64 j ∧ Hid (∀ k, k < j → (lfAt xs k).1 = 0) ∧ Hid (Below w.heap.size w wr)) (fun i _ => len - (intOf i).toNat)
  case atStart => exact ⟨0, Nat.zero_le _, rfl, fun k hk => by omega, Below.refl _ _⟩
  case round =>
    obtain ⟨j, hj, rfl, HJ, HG⟩ := hrel
    by_cases hlt : j < len
    · obtain ⟨b, off, rfl, x1, x2, x3, x4, x5⟩ := en_at (HR.out.later HG.out) j hlt
      have hs := hok (lfAt xs j) (by rw [lfAt_in (by omega)]; exact List.getElem_mem _)
      obtain ⟨hs1, _⟩ := hs
      have HN : Hid (Below w.heap.size w (wr.alloc (.cells #[.int .i64 (lfAt xs j).1, .int .i64 (lfAt xs j).2.1, .int .i64 (lfAt xs j).2.2.1, .int .i64 (lfAt xs j).2.2.2.1, .int .u32 (lfAt xs j).2.2.2.2] 91))) := HG.out.alloc HG.out.size _
      have hne : (lfAt xs j).1 ≠ 0 → R = false := HRf.out j hlt
      have heq : (lfAt xs j).1 = 0 → Hid (∀ k, k < j + 1 → (lfAt xs k).1 = 0) := fun h k hk => by
        by_cases e : k = j
        · rw [e]; exact h
        · exact HJ.out k (by omega)
      obtain ⟨⟨v1, v2, v3, v4, v5⟩, HV⟩ := named (lfAt xs j)
      rw [HV.out] at x1 x2 x3 x4 x5 hne heq HN hs1
      dsimp only at x1 x2 x3 x4 x5 hne heq HN hs1
      clear HV
      by_cases h0 : v1 = 0
      · subst h0
        have HQ2 := heq rfl
        clear hne heq
        go_wp2
        go_roundw
        case rel => exact ⟨j + 1, by omega, by go_num, HQ2, HN.out⟩
        case measure => simp [intOf]; omega
      · have hr : R = false := hne h0
        subst hr
        clear hne heq
        go_wp2
        go_ret
        exact ⟨rfl, HN.out⟩
    · have hr : R = true := HRt.out fun k hk => HJ.out k (by omega)
      subst hr
      go_wp2
      go_ret
      exact ⟨rfl, HG.out⟩
/-- The entries from m on. -/
theorem Reads.drop9 {w : World} {b off len : Nat} {xs : List En} (h : Reads enV w (some ⟨b, off, none⟩) len xs) (m : Nat) (hm : m ≤ len) : Reads enV w (some ⟨b, off + m * 5, none⟩) (len - m) (xs.drop m) := by
  obtain ⟨h1, h2, h3⟩ := h
  refine ⟨by rw [List.length_drop, h1], by omega, ?_⟩
  rcases h3 with h3 | ⟨b', off', e, hlt, hc⟩
  · exact Or.inl (by omega)
  · cases e
    refine Or.inr ⟨b, off + m * 5, rfl, hlt, fun j u hu => ?_⟩
    have hs : xs.flatMap enV = (xs.take m).flatMap enV ++ (xs.drop m).flatMap enV := by rw [← List.flatMap_append, List.take_append_drop]
    have hl : ((xs.take m).flatMap enV).length = m * 5 := by rw [flat_len enV_len, List.length_take, Nat.min_eq_left (by omega)]
    rw [Nat.add_assoc]
    refine hc (m * 5 + j) u ?_
    rw [hs, List.getElem?_append_right (by omega), hl, Nat.add_sub_cancel_left]
    exact hu
theorem slice_tail9 {b off len cap p : Nat} (h1 : p ≤ len) (h2 : len ≤ cap) : ∃ O, (∀ w' : World, (Instr.slice 88 (.slice (some ⟨b, off, none⟩) len cap) (some (.int .i64 p)) none none).run Tryz.prog w' = .ok (.slice (some ⟨b, O, none⟩) (len - p) (cap - p)) w') ∧ (O = off + p * 5 ∨ p = len) := by
  have hinf : (Tryz.prog.info? 91).map (fun i => i.size) = some 5 := entry_size
  obtain ⟨i0, hi0, hi1⟩ := Option.map_eq_some_iff.1 hinf
  by_cases b2 : cap = p
  · subst b2
    have b1 : len = cap := by omega
    subst b1
    refine ⟨off, fun w' => ?_, Or.inr rfl⟩
    simp [Instr.slice, Instr.sliceBounds, Instr.sliceBound, asIntOf, run_underlying Tryz.underlying88, sizeOf, typeInfo, hi0, go_sem]
  · refine ⟨off + p * 5, fun w' => ?_, Or.inl rfl⟩
    simp [Instr.slice, Instr.sliceBounds, Instr.sliceBound, asIntOf, run_underlying Tryz.underlying88, sizeOf, typeInfo, hi0, hi1, h1, b2, Addr.add, go_sem]
theorem Reads.tail9 {w : World} {b off len O : Nat} {xs : List En} (h : Reads enV w (some ⟨b, off, none⟩) len xs) (m : Nat) (hm : m ≤ len) (hO : O = off + m * 5 ∨ m = len) : Reads enV w (some ⟨b, O, none⟩) (len - m) (xs.drop m) := by
  rcases hO with rfl | rfl
  · exact h.drop9 m hm
  · rw [Nat.sub_self, List.drop_eq_nil_of_le (Nat.le_of_eq h.1)]
    exact Reads.nil _ _ _
end Go.Proofs.YtdffgnpldapciaaGreatDoor
namespace Go.Proofs.YtdffgnpldapciaaGreatDoor
open Go.RowKit
set_option linter.unusedVariables false

def okLeaf (xs : List En) (c : Int) : Prop := xs.length = 8 ∧ liveL xs ∧ ∀ k, k < 8 → MayE (lfAt xs k) c
theorem mayC {k s n z m c : Int} (ho : EnOk (k, s, n, z, m)) {B : Bool} (hB : decide (MayE (k, s, n, z, m) c) = B) (w : World) : Calls Tryz.prog 91 #[.agg #[.int .i64 k, .int .i64 s, .int .i64 n, .int .i64 z, .int .u32 m], .int .i64 c] w fun e w' => e = .returned (.bool B) ∧ Below w.heap.size w w' := by
  subst hB
  exact entryMay_any k s n z m c ho w
set_option maxHeartbeats 1600000 in
theorem leaf9 (a : Option Addr) (len cap : Nat) (xs : List En) (c : Int) (R : Bool) (hR1 : R = true → okLeaf xs c) (hR2 : okLeaf xs c → R = true) (w : World) (h : LfR w (a, len, cap, xs)) : Calls Tryz.prog 76 #[.slice a len cap, .int .i64 c] w fun e w' => e = .returned (.bool R) ∧ Below w.heap.size w w' := by
  have hl : xs.length = len := h.len
  have HL := Lib.hid h
  by_cases h8 : len = 8
  · subst h8
    have HB := Lib.hid (blank9 a 8 cap xs w h.1 h.2.2.2)
    by_cases hv : liveL xs
    · have e0 : decide (¬ liveL xs) = false := by simp [hv]
      rw [e0] at HB
      have HRf : Hid (∀ k, k < 8 → ¬ MayE (lfAt xs k) c → R = false) := fun k hk h0 => by
        cases R with
        | false => rfl
        | true => exact absurd ((hR1 rfl).2.2 k hk) h0
      have HRt : Hid ((∀ k, k < 8 → MayE (lfAt xs k) c) → R = true) := fun h => hR2 ⟨hl, hv, h⟩
      clear hR1 hR2 h e0
      go_enter Tryz.func76, Tryz.ntmps76
      go_wp2_with (go_at_call 77; (with_reducible refine HB.out.mono ?_); rintro e w1 ⟨rfl, g⟩; have HG1 := Lib.hid g; clear g)
      go_loopw [16] (fun i wr => ∃ j : Nat, j ≤ 8 ∧ i = .int .i64 j ∧ Hid (∀ k, k < j → MayE (lfAt xs k) c) ∧ Hid (Below w.heap.size w wr)) (fun i _ => 8 - (intOf i).toNat)
      case atStart => exact ⟨0, Nat.zero_le _, rfl, fun k hk => by omega, HG1.out⟩
      case round =>
        obtain ⟨j, hj, rfl, HJ, HG⟩ := hrel
        by_cases hlt : j < 8
        · obtain ⟨b, off, e1, hs, x1, x2, x3, x4, x5⟩ := (HL.out.later HG.out).at j hlt
          dsimp only at e1 hs x1 x2 x3 x4 x5
          subst e1
          have HN : Hid (Below w.heap.size w (wr.alloc (.cells #[.int .i64 (lfAt xs j).1, .int .i64 (lfAt xs j).2.1, .int .i64 (lfAt xs j).2.2.1, .int .i64 (lfAt xs j).2.2.2.1, .int .u32 (lfAt xs j).2.2.2.2] 91))) := HG.out.alloc HG.out.size _
          have hne : ¬ MayE (lfAt xs j) c → R = false := HRf.out j hlt
          have heq : MayE (lfAt xs j) c → Hid (∀ k, k < j + 1 → MayE (lfAt xs k) c) := fun h k hk => by
            by_cases e : k = j
            · rw [e]; exact h
            · exact HJ.out k (by omega)
          obtain ⟨⟨v1, v2, v3, v4, v5⟩, HV⟩ := named (lfAt xs j)
          rw [HV.out] at x1 x2 x3 x4 x5 hne heq HN hs
          dsimp only at x1 x2 x3 x4 x5 HN
          clear HV
          by_cases hm : MayE (v1, v2, v3, v4, v5) c
          · have HM := Lib.hid (fun w => mayC hs (decide_eq_true hm) w)
            have HQ2 := heq hm
            clear hne heq hs hm
            go_wp2_with (go_at_call 91; (with_reducible refine (HM.out _).mono ?_); rintro e w2 ⟨rfl, g⟩; have HN2 := Lib.hid (HN.out.trans (g.mono (HN.out.size))); clear g)
            go_roundw
            case rel => exact ⟨j + 1, by omega, by go_num, HQ2, HN2.out⟩
            case measure => simp [intOf]; omega
          · have HM := Lib.hid (fun w => mayC hs (decide_eq_false hm) w)
            have hr : R = false := hne hm
            subst hr
            clear hne heq hs hm
            go_wp2_with (go_at_call 91; (with_reducible refine (HM.out _).mono ?_); rintro e w2 ⟨rfl, g⟩; have HN2 := Lib.hid (HN.out.trans (g.mono (HN.out.size))); clear g)
            go_ret
            exact ⟨rfl, HN2.out⟩
        · have hr : R = true := HRt.out fun k hk => HJ.out k (by omega)
          subst hr
          go_wp2
          go_ret
          exact ⟨rfl, HG.out⟩
    · have e0 : decide (¬ liveL xs) = true := by simp [hv]
      rw [e0] at HB
      have hr : R = false := by
        cases R with
        | false => rfl
        | true => exact absurd (hR1 rfl).2.1 hv
      subst hr
      clear hR1 hR2 h e0
      go_enter Tryz.func76, Tryz.ntmps76
      go_wp2_with (go_at_call 77; (with_reducible refine HB.out.mono ?_); rintro e w1 ⟨rfl, g⟩; have HG1 := Lib.hid g; clear g)
      go_ret
      exact ⟨rfl, HG1.out⟩
  · have hr : R = false := by
      cases R with
      | false => rfl
      | true => exact absurd (hl.symm.trans (hR1 rfl).1) h8
    subst hr
    clear hR1 hR2 h
    go_enter Tryz.func76, Tryz.ntmps76
    go_wp2
    go_ret
    exact ⟨rfl, Below.refl _ _⟩
end Go.Proofs.YtdffgnpldapciaaGreatDoor
namespace Go.Proofs.YtdffgnpldapciaaGreatDoor
open Go.RowKit
set_option linter.unusedVariables false

theorem live_drop {xs : List En} {m : Nat} : liveL (xs.drop m) ↔ ∃ k, m ≤ k ∧ k < xs.length ∧ (lfAt xs k).1 ≠ 0 := by
  rw [liveL_at]
  have e : ∀ k, lfAt (xs.drop m) k = lfAt xs (m + k) := fun k => by
    unfold lfAt
    rw [List.getD_eq_getElem?_getD, List.getD_eq_getElem?_getD, List.getElem?_drop]
  constructor
  · rintro ⟨k, hk, h0⟩
    rw [List.length_drop] at hk
    rw [e] at h0
    exact ⟨m + k, by omega, by omega, h0⟩
  · rintro ⟨k, h1, h2, h0⟩
    refine ⟨k - m, by rw [List.length_drop]; omega, ?_⟩
    rw [e, show m + (k - m) = k by omega]
    exact h0
theorem rightL_iff {xs : List En} {j : Nat} {n c : Int} (hn : 0 ≤ n) : rightL xs j n c ↔ okLeaf xs c ∧ ¬ liveL (xs.drop (belowN n.toNat j)) := by
  unfold rightL okLeaf
  rw [live_drop]
  constructor
  · rintro ⟨h1, h2, k, hk, h0⟩
    refine ⟨⟨h1, liveL_at.2 ⟨k, by omega, h0⟩, fun k hk => (h2 k hk).1⟩, ?_⟩
    rintro ⟨k, g1, g2, g3⟩
    have := (h2 k (by omega)).2 g3
    unfold belowN at g1
    omega
  · rintro ⟨⟨h1, h2, h3⟩, h4⟩
    obtain ⟨k, hk, h0⟩ := liveL_at.1 h2
    refine ⟨h1, fun k hk => ⟨h3 k hk, fun h0 => ?_⟩, k, by omega, h0⟩
    refine Decidable.byContradiction fun hlt => h4 ⟨k, ?_, by omega, h0⟩
    unfold belowN
    omega
theorem leafC {a : Option Addr} {len cap : Nat} {xs : List En} {c : Int} {R : Bool} (hR : R = true ↔ okLeaf xs c) (w : World) (h : LfR w (a, len, cap, xs)) : Calls Tryz.prog 76 #[.slice a len cap, .int .i64 c] w fun e w' => e = .returned (.bool R) ∧ Below w.heap.size w w' :=
  leaf9 a len cap xs c R hR.1 hR.2 w h
theorem blankC {a : Option Addr} {len cap : Nat} {xs : List En} {B : Bool} (hB : decide (¬ liveL xs) = B) (w : World) (h : Reads enV w a len xs) (hok : ∀ x ∈ xs, EnOk x) : Calls Tryz.prog 77 #[.slice a len cap] w fun e w' => e = .returned (.bool B) ∧ Below w.heap.size w w' := by
  subst hB
  exact blank9 a len cap xs w h hok
set_option maxHeartbeats 3200000 in
theorem right9_is (w : World) (a : Option Addr) (len cap : Nat) (ds : List LfD) (n c : Int) (h : TabR w a len ds) (hlen : len ≤ 6000) (R : Bool) (hR : decide (rightT (tbOf ds) n c) = R) : Calls Tryz.prog 52 #[.agg #[.slice a len cap], .int .i64 n, .int .i64 c] w fun e w' => e = .returned (.bool R) ∧ Below w.heap.size w w' := by
  have hR' : R = true ↔ rightM (tbOf ds) n c := by rw [← hR, decide_eq_true_iff]; exact rightM_iff
  have HG0 : Hid (Below w.heap.size w (w.alloc (.cells #[.slice a len cap] 26))) := (Below.refl _ _).alloc (Nat.le_refl _) _
  by_cases hn : 0 ≤ n ∧ n ≤ 4096
  · by_cases hc : 0 ≤ c ∧ c ≤ 6
    · have W1 := Lib.hid (fun w => within9_is (n := n) (a := 0) (b := 4096) (decide_eq_true hn) w)
      have W2 := Lib.hid (fun w => within9_is (n := c) (a := 0) (b := 6) (decide_eq_true hc) w)
      have hlt' := h.tlen
      have HT := Lib.hid h
      have HRL : Hid (R = true ↔ (0 < len → tbAt (tbOf ds) (len - 1) ≠ []) ∧ ∀ i, i < len → tbAt (tbOf ds) i ≠ [] → rightL (tbAt (tbOf ds) i) i n c) := by
        show _ ↔ _
        rw [hR']
        unfold rightM
        rw [hlt']
        exact ⟨fun h => h.2.2, fun h => ⟨hn, hc, h⟩⟩
      clear hR hR' h
      obtain ⟨N, rfl⟩ : ∃ N : Nat, n = N := ⟨n.toNat, by omega⟩
      have HB0 := Lib.hid (Box1.first w (.slice a len cap))
      obtain ⟨X, hX⟩ := named w.heap.size
      have hXX := hX.out
      rw [hX.out] at HB0 ⊢
      go_enter Tryz.func52, Tryz.ntmps52
      go_wp2_with (first
        | (go_at_call 74; (with_reducible refine (W1.out _).mono ?_); rintro e w1 ⟨rfl, rfl⟩)
        | (go_at_call 74; (with_reducible refine (W2.out _).mono ?_); rintro e w1 ⟨rfl, rfl⟩))
      go_loopw [20] (fun i wr => ∃ j : Nat, j ≤ len ∧ i = .int .i64 j ∧ Hid (∀ i, i < j → tbAt (tbOf ds) i ≠ [] → rightL (tbAt (tbOf ds) i) i (↑N) c) ∧ Hid (Box1 X (.slice a len cap) w wr)) (fun i _ => len - (intOf i).toNat)
      case atStart => exact ⟨0, Nat.zero_le _, rfl, fun k hk => by omega, HB0.out⟩
      case round =>
        obtain ⟨j, hj, rfl, HJ, HB⟩ := hrel
        have hTR := HT.out.later (hX.out.symm ▸ HB.out.2)
        have b1 := HB.out.cell
        by_cases hlt : j < len
        · obtain ⟨b, off, al, ll, cl, xs, rfl, hcell, hL, hxs, _⟩ := hTR.at j hlt
          have HXS := Lib.hid hxs
          by_cases h0 : ll = 0
          · subst h0
            have he : xs = [] := List.eq_nil_of_length_eq_zero hL.len
            have HJ2 : Hid (∀ i, i < j + 1 → tbAt (tbOf ds) i ≠ [] → rightL (tbAt (tbOf ds) i) i (↑N) c) := fun i hi hne => by
              by_cases e : i = j
              · subst e
                exact absurd (HXS.out.trans he) hne
              · exact HJ.out i (by omega) hne
            have HA := Lib.hid (fun w => absent9 al 0 cl true (by decide) w)
            clear hTR hL hxs he
            go_wp2_with (go_at_call 75; (with_reducible refine (HA.out _).mono ?_); rintro e w1 ⟨rfl, rfl⟩)
            go_roundw
            case rel => exact ⟨j + 1, by omega, by go_num, HJ2, HB.out⟩
            case measure => simp [intOf]; omega
          · have HA := Lib.hid (fun w => absent9 al ll cl false (by simp [h0]) w)
            have hne : xs ≠ [] := fun e => by
              have := hL.len
              dsimp only at this
              rw [e] at this
              exact h0 this.symm
            have hrl := rightL_iff (xs := xs) (j := j) (n := (N : Int)) (c := c) (by omega)
            have HL := Lib.hid hL
            by_cases hok : okLeaf xs c
            · have HF := Lib.hid (leafC (R := true) ⟨fun _ => hok, fun _ => rfl⟩ wr hL)
              have h8 : ll = 8 := hL.len.symm.trans hok.1
              subst h8
              have HW := Lib.hid (fun w => below9 (N : Int) j (by omega) (by omega) (by omega) w)
              obtain ⟨K, hK⟩ := named (belowN (N : Int).toNat j)
              rw [hK.out] at HW hrl
              have hK8 : K ≤ 8 := by rw [← hK.out]; unfold belowN; omega
              obtain ⟨b', off', rfl⟩ := hL.1.lies (show 0 < 8 by omega)
              obtain ⟨O, hsl, hO⟩ := slice_tail9 (b := b') (off := off') (len := 8) (cap := cl) (p := K) hK8 hL.2.1
              have HRd := Lib.hid (hL.1.tail9 K hK8 hO)
              have hoks : ∀ x ∈ xs.drop K, EnOk x := fun x hx => hL.2.2.2 x (List.mem_of_mem_drop hx)
              clear hK hO
              by_cases hbl : liveL (xs.drop K)
              · have HK := Lib.hid (fun w h => blankC (a := some ⟨b', O, none⟩) (len := 8 - K) (cap := cl - K) (decide_eq_false (Classical.not_not.2 hbl)) w h hoks)
                have hr : R = false := by
                  cases R with
                  | false => rfl
                  | true =>
                    have := (HRL.out.1 rfl).2 j hlt (by rw [HXS.out]; exact hne)
                    rw [HXS.out] at this
                    exact absurd hbl (hrl.1 this).2
                subst hr
                clear hTR hxs hne hrl hok hbl hoks
                go_wp2_with (first
                  | (go_at_call 75; (with_reducible refine (HA.out _).mono ?_); rintro e w1 ⟨rfl, rfl⟩)
                  | (go_at_call 76; (with_reducible refine HF.out.mono ?_); rintro e w1 ⟨rfl, g⟩; have HG1 := Lib.hid g; clear g)
                  | (go_at_call 78; (with_reducible refine (HW.out _).mono ?_); rintro e w2 ⟨rfl, rfl⟩)
                  | (go_at_call 77; (with_reducible refine (HK.out _ (HRd.out.later HG1.out)).mono ?_); rintro e w2 ⟨rfl, g⟩; have HG2 := Lib.hid g; clear g))
                go_ret
                exact ⟨rfl, ((HB.out.later HG1.out).later HG2.out).2⟩
              · have HK := Lib.hid (fun w h => blankC (a := some ⟨b', O, none⟩) (len := 8 - K) (cap := cl - K) (decide_eq_true hbl) w h hoks)
                have hrj : rightL xs j (↑N) c := hrl.2 ⟨hok, hbl⟩
                have HJ2 : Hid (∀ i, i < j + 1 → tbAt (tbOf ds) i ≠ [] → rightL (tbAt (tbOf ds) i) i (↑N) c) := fun i hi hne => by
                  by_cases e : i = j
                  · subst e
                    rw [HXS.out]
                    exact hrj
                  · exact HJ.out i (by omega) hne
                clear hTR hxs hne hrl hok hbl hoks hrj
                go_wp2_with (first
                  | (go_at_call 75; (with_reducible refine (HA.out _).mono ?_); rintro e w1 ⟨rfl, rfl⟩)
                  | (go_at_call 76; (with_reducible refine HF.out.mono ?_); rintro e w1 ⟨rfl, g⟩; have HG1 := Lib.hid g; clear g)
                  | (go_at_call 78; (with_reducible refine (HW.out _).mono ?_); rintro e w2 ⟨rfl, rfl⟩)
                  | (go_at_call 77; (with_reducible refine (HK.out _ (HRd.out.later HG1.out)).mono ?_); rintro e w2 ⟨rfl, g⟩; have HG2 := Lib.hid g; clear g))
                go_roundw
                case rel => exact ⟨j + 1, by omega, by go_num, HJ2, (HB.out.later HG1.out).later HG2.out⟩
                case measure => simp [intOf]; omega
            · have HF := Lib.hid (leafC (R := false) ⟨fun e => (by cases e), fun h => absurd h hok⟩ wr hL)
              have hr : R = false := by
                cases R with
                | false => rfl
                | true =>
                  have := (HRL.out.1 rfl).2 j hlt (by rw [HXS.out]; exact hne)
                  rw [HXS.out] at this
                  exact absurd (hrl.1 this).1 hok
              subst hr
              clear hTR hL hxs hne hrl hok
              go_wp2_with (first
                | (go_at_call 75; (with_reducible refine (HA.out _).mono ?_); rintro e w1 ⟨rfl, rfl⟩)
                | (go_at_call 76; (with_reducible refine HF.out.mono ?_); rintro e w1 ⟨rfl, g⟩; have HG1 := Lib.hid g; clear g))
              go_ret
              exact ⟨rfl, (HB.out.later HG1.out).2⟩
        · have hjl : j = len := by omega
          subst hjl
          by_cases h0 : j = 0
          · subst h0
            have hr : R = true := HRL.out.2 ⟨fun h => by omega, HJ.out⟩
            subst hr
            clear hTR
            go_wp2
            go_ret
            exact ⟨rfl, HB.out.2⟩
          · obtain ⟨b, off, al, ll, cl, xs, rfl, hcell, hL, hxs, _⟩ := hTR.at (j - 1) (by omega)
            have HA : Hid (∀ w, Calls Tryz.prog 75 #[.slice al ll cl] w fun e w' => e = .returned (.bool (!R)) ∧ w = w') := fun w => absent9 al ll cl (!R) (by
              have hl := hL.len
              dsimp only at hl
              cases R with
              | false =>
                have : ¬ (0 < j → tbAt (tbOf ds) (j - 1) ≠ []) := fun h => by cases HRL.out.2 ⟨h, HJ.out⟩
                rw [hxs] at this
                have e : xs = [] := Decidable.byContradiction fun h => this fun _ => h
                rw [e] at hl
                simp [← hl]
              | true =>
                have := (HRL.out.1 rfl).1 (by omega)
                rw [hxs] at this
                have : ll ≠ 0 := fun e => this (List.eq_nil_of_length_eq_zero (hl.trans e))
                simp [this]) w
            have e1 : wrap64 ((j : Int) - 1) = ((j - 1 : Nat) : Int) := by unfold wrap64; omega
            have h00 : ¬ (j : Int) = 0 := by omega
            have h01 : ((j : Int) == 0) = false := by simp [h0]
            have h02 : j - 1 < j := by omega
            clear hTR hL hxs hj hlt
            go_wp2_with (go_at_call 75; (with_reducible refine (HA.out _).mono ?_); rintro e w1 ⟨rfl, rfl⟩)
            go_ret
            exact ⟨by simp, HB.out.2⟩
    · have hr : R = false := by
        cases R with
        | false => rfl
        | true => exact absurd (hR'.1 rfl).2.1 hc
      subst hr
      have W1 := Lib.hid (fun w => within9_is (n := n) (a := 0) (b := 4096) (decide_eq_true hn) w)
      have W2 := Lib.hid (fun w => within9_is (n := c) (a := 0) (b := 6) (decide_eq_false hc) w)
      clear hR hR' h
      go_enter Tryz.func52, Tryz.ntmps52
      go_wp2_with (first
        | (go_at_call 74; (with_reducible refine (W1.out _).mono ?_); rintro e w1 ⟨rfl, rfl⟩)
        | (go_at_call 74; (with_reducible refine (W2.out _).mono ?_); rintro e w1 ⟨rfl, rfl⟩))
      go_ret
      exact ⟨rfl, HG0.out⟩
  · have hr : R = false := by
      cases R with
      | false => rfl
      | true => exact absurd (hR'.1 rfl).1 hn
    subst hr
    have W1 := Lib.hid (fun w => within9_is (n := n) (a := 0) (b := 4096) (decide_eq_false hn) w)
    clear hR hR' h
    go_enter Tryz.func52, Tryz.ntmps52
    go_wp2_with (go_at_call 74; (with_reducible refine (W1.out _).mono ?_); rintro e w1 ⟨rfl, rfl⟩)
    go_ret
    exact ⟨rfl, HG0.out⟩
end Go.Proofs.YtdffgnpldapciaaGreatDoor
namespace Go.Proofs.YtdffgnpldapciaaGreatDoor
open Go.RowKit
set_option linter.unusedVariables false

def leafB (i : Nat) (lf : List En) : List Int := numB false 2 i ++ lf.flatMap enB
def bodyB (T : Tb) : Nat → List Int
  | 0 => []
  | i + 1 => if tbAt T i = [] then bodyB T i else bodyB T i ++ leafB i (tbAt T i)
def cntT (T : Tb) : Nat → Nat
  | 0 => 0
  | i + 1 => if tbAt T i = [] then cntT T i else cntT T i + 1
def tblB (T : Tb) : List Int := numB false 2 (cntT T T.length) ++ bodyB T T.length
def partB (l : List Int) (k : Nat) : List Int := (l.drop k).take 16
/-- The first j entries that stand in l from k on. -/
def entsB (l : List Int) (k : Nat) (c : Int) : Nat → Option (List En)
  | 0 => some []
  | j + 1 => match entsB l k c j with
    | none => none
    | some xs => match getE (partB l (k + j * 16)) c with
      | none => none
      | some x => some (xs ++ [x])
def padTo (T : Tb) (p : Nat) : Tb := T ++ List.replicate (p - T.length) []
/-- The first i leaves that stand in l from k0 on, and where they end. -/
def readI (l : List Int) (k0 : Nat) (c : Int) : Nat → Option (Tb × Nat)
  | 0 => some ([], k0)
  | i + 1 => match readI l k0 c i with
    | none => none
    | some (T, k) => if l.length < k + 130 ∨ getTo false 2 k l 2 < T.length ∨ 512 ≤ getTo false 2 k l 2 then none else
      match entsB l (k + 2) c 8 with
      | none => none
      | some xs => some (padTo T (getTo false 2 k l 2) ++ [xs], k + 130)
noncomputable def readT (l : List Int) (at_ : Int) (n c : Int) : Option (Tb × Nat) := if at_ < 0 ∨ (l.length : Int) < at_ + 2 then none else
  match readI l (at_.toNat + 2) c (getTo false 2 at_.toNat l 2) with
  | none => none
  | some (T, k) => if rightT T n c then some (T, k) else none

theorem entsB_len {l : List Int} {k : Nat} {c : Int} : ∀ {j : Nat} {xs : List En}, entsB l k c j = some xs → xs.length = j
  | 0, xs, h => by
    simp only [entsB, Option.some.injEq] at h
    subst h
    rfl
  | j + 1, xs, h => by
    unfold entsB at h
    cases h1 : entsB l k c j with
    | none => rw [h1] at h; cases h
    | some ys =>
      rw [h1] at h
      dsimp only at h
      cases h2 : getE (partB l (k + j * 16)) c with
      | none => rw [h2] at h; cases h
      | some x =>
        rw [h2] at h
        simp only [Option.some.injEq] at h
        subst h
        rw [List.length_append, entsB_len h1]
        rfl
theorem entsB_may {l : List Int} {k : Nat} {c : Int} (hb : ∀ x ∈ l, 0 ≤ x ∧ x < 256) : ∀ {j : Nat} {xs : List En}, entsB l k c j = some xs → ∀ x ∈ xs, MayE x c ∧ EnOk x
  | 0, xs, h => by
    simp only [entsB, Option.some.injEq] at h
    subst h
    simp
  | j + 1, xs, h => by
    unfold entsB at h
    cases h1 : entsB l k c j with
    | none => rw [h1] at h; cases h
    | some ys =>
      rw [h1] at h
      dsimp only at h
      cases h2 : getE (partB l (k + j * 16)) c with
      | none => rw [h2] at h; cases h
      | some x =>
        rw [h2] at h
        simp only [Option.some.injEq] at h
        subst h
        intro y hy
        rcases List.mem_append.1 hy with hy | hy
        · exact entsB_may hb h1 y hy
        · rw [List.mem_singleton] at hy
          subst hy
          unfold getE at h2
          split at h2
          · rename_i hh
            simp only [Option.some.injEq] at h2
            subst h2
            refine ⟨hh.2.2, enOf_ok fun z hz => hb z ?_⟩
            unfold partB at hz
            exact List.mem_of_mem_drop (List.mem_of_mem_take hz)
          · cases h2
theorem padTo_len (T : Tb) (p : Nat) (h : T.length ≤ p) : (padTo T p).length = p := by
  unfold padTo
  rw [List.length_append, List.length_replicate]
  omega
theorem readI_none {l : List Int} {k0 : Nat} {c : Int} {i : Nat} (h : readI l k0 c i = none) : ∀ d, readI l k0 c (i + d) = none
  | 0 => h
  | d + 1 => by
    show readI l k0 c ((i + d) + 1) = none
    unfold readI
    rw [readI_none h d]
/-- Where so many leaves were read they end within l, and have as many leaves as they may. -/
theorem readI_at {l : List Int} {k0 : Nat} {c : Int} (hb : ∀ x ∈ l, 0 ≤ x ∧ x < 256) (hk : k0 ≤ l.length) : ∀ {i : Nat} {T : Tb} {k : Nat}, readI l k0 c i = some (T, k) → k = k0 + i * 130 ∧ k ≤ l.length ∧ T.length ≤ 512 ∧ ∀ lf ∈ T, lf.length ≤ 8 ∧ ∀ x ∈ lf, EnOk x
  | 0, T, k, h => by
    simp only [readI, Option.some.injEq, Prod.mk.injEq] at h
    obtain ⟨rfl, rfl⟩ := h
    simp [hk]
  | i + 1, T, k, h => by
    unfold readI at h
    cases h1 : readI l k0 c i with
    | none => rw [h1] at h; cases h
    | some p =>
      obtain ⟨T1, k1⟩ := p
      rw [h1] at h
      dsimp only at h
      obtain ⟨e1, e2, e3, e4⟩ := readI_at hb hk h1
      split at h
      · cases h
      · rename_i hc
        cases h2 : entsB l (k1 + 2) c 8 with
        | none => rw [h2] at h; cases h
        | some xs =>
          rw [h2] at h
          simp only [Option.some.injEq, Prod.mk.injEq] at h
          obtain ⟨rfl, rfl⟩ := h
          have hp := padTo_len T1 (getTo false 2 k1 l 2) (by omega)
          refine ⟨by omega, by omega, by rw [List.length_append, hp]; simp only [List.length_cons, List.length_nil]; omega, fun lf hlf => ?_⟩
          rcases List.mem_append.1 hlf with h' | h'
          · unfold padTo at h'
            rcases List.mem_append.1 h' with h' | h'
            · exact e4 lf h'
            · obtain ⟨_, rfl⟩ := List.mem_replicate.1 h'
              simp
          · rw [List.mem_singleton] at h'
            subst h'
            exact ⟨Nat.le_of_eq (entsB_len h2), fun x hx => (entsB_may hb h2 x hx).2⟩
theorem enBs_len : ∀ lf : List En, (lf.flatMap enB).length = lf.length * 16
  | [] => rfl
  | x :: r => by
    rw [List.flatMap_cons, List.length_append, enB_len, enBs_len r, List.length_cons]
    omega
theorem enBs_bd (lf : List En) : ∀ c ∈ lf.flatMap enB, 0 ≤ c ∧ c < 256 := fun c hc => by
  obtain ⟨x, _, h⟩ := List.mem_flatMap.1 hc
  exact enB_bd x c h
theorem bodyB_bd (T : Tb) : ∀ i, ∀ c ∈ bodyB T i, 0 ≤ c ∧ c < 256
  | 0, c, h => by simp [bodyB] at h
  | i + 1, c, h => by
    unfold bodyB at h
    split at h
    · exact bodyB_bd T i c h
    · rcases List.mem_append.1 h with h | h
      · exact bodyB_bd T i c h
      · unfold leafB at h
        rcases List.mem_append.1 h with h | h
        · exact numB_bd _ _ _ c h
        · exact enBs_bd _ c h
theorem tblB_bd (T : Tb) : ∀ c ∈ tblB T, 0 ≤ c ∧ c < 256 := fun c h => by
  unfold tblB at h
  rcases List.mem_append.1 h with h | h
  · exact numB_bd _ _ _ c h
  · exact bodyB_bd _ _ c h
theorem cntT_le (T : Tb) : ∀ i, cntT T i ≤ i
  | 0 => Nat.le_refl _
  | i + 1 => by
    have := cntT_le T i
    unfold cntT
    split <;> omega
theorem bodyB_len {T : Tb} {n c : Int} (h : rightT T n c) : ∀ i, i ≤ T.length → (bodyB T i).length = cntT T i * 130
  | 0, _ => rfl
  | i + 1, hi => by
    have ih := bodyB_len h i (by omega)
    unfold bodyB cntT
    by_cases he : tbAt T i = []
    · rw [if_pos he, if_pos he, ih]
    · rw [if_neg he, if_neg he, List.length_append, ih]
      unfold leafB
      rw [List.length_append, numB_len, enBs_len, (h.2.2.2.2 i (by omega) he).1]
      omega
theorem part_of (l1 : List Int) (x : En) (l2 : List Int) : partB (l1 ++ enB x ++ l2) l1.length = enB x := by
  unfold partB
  rw [List.append_assoc, List.drop_left, List.take_append_of_le_length (by rw [enB_len]; exact Nat.le_refl _), List.take_of_length_le (by rw [enB_len]; exact Nat.le_refl _)]
theorem entsB_back {c : Int} (l1 l2 : List Int) (lf : List En) (h : ∀ x ∈ lf, MayE x c ∧ EnOk x) : ∀ j, j ≤ lf.length → entsB (l1 ++ lf.flatMap enB ++ l2) l1.length c j = some (lf.take j)
  | 0, _ => rfl
  | j + 1, hj => by
    unfold entsB
    rw [entsB_back l1 l2 lf h j (by omega)]
    dsimp only
    have hs : lf = lf.take j ++ (lf[j] :: lf.drop (j + 1)) := by rw [← List.drop_eq_getElem_cons (by omega), List.take_append_drop]
    have hp : partB (l1 ++ lf.flatMap enB ++ l2) (l1.length + j * 16) = enB lf[j] := by
      have e : l1 ++ lf.flatMap enB ++ l2 = (l1 ++ (lf.take j).flatMap enB) ++ enB lf[j] ++ ((lf.drop (j + 1)).flatMap enB ++ l2) := by
        have hf : lf.flatMap enB = (lf.take j).flatMap enB ++ (enB lf[j] ++ (lf.drop (j + 1)).flatMap enB) := by
          conv => lhs; rw [hs]
          rw [List.flatMap_append, List.flatMap_cons]
        rw [hf]
        simp only [List.append_assoc]
      have el : l1.length + j * 16 = (l1 ++ (lf.take j).flatMap enB).length := by
        rw [List.length_append, enBs_len, List.length_take, Nat.min_eq_left (by omega)]
      rw [e, el, part_of]
    rw [hp]
    obtain ⟨m1, m2⟩ := h lf[j] (List.getElem_mem _)
    rw [getE_enB m1 m2]
    dsimp only
    rw [List.take_succ_eq_append_getElem (by omega)]
theorem trim_step (T : Tb) (i : Nat) (hi : i < T.length) (he : tbAt T i ≠ []) : trimN T (i + 1) = padTo (trimN T i) i ++ [tbAt T i] := by
  have e1 : trimN T (i + 1) = T.take (i + 1) := by
    show (if tbAt T i = [] then trimN T i else T.take (i + 1)) = _
    rw [if_neg he]
  have hl := trimN_len T i (by omega)
  rw [e1]
  refine List.ext_getElem ?_ fun j h1 h2 => ?_
  · rw [List.length_append, padTo_len _ _ hl.1, List.length_take]
    simp only [List.length_cons, List.length_nil]
    omega
  · rw [← tbAt_in h1, ← tbAt_in h2]
    rw [List.length_take] at h1
    unfold tbAt
    rw [List.getD_eq_getElem?_getD, List.getD_eq_getElem?_getD, List.getElem?_take, if_pos (by omega), List.getElem?_append, padTo_len _ _ hl.1]
    by_cases hj : j < i
    · rw [if_pos hj]
      unfold padTo
      rw [List.getElem?_append]
      have ha := trimN_at T i (by omega) j
      rw [if_pos hj] at ha
      unfold tbAt at ha
      rw [List.getD_eq_getElem?_getD, List.getD_eq_getElem?_getD] at ha
      by_cases h3 : j < (trimN T i).length
      · rw [if_pos h3]
        exact ha.symm
      · rw [List.getElem?_eq_none (Nat.le_of_not_lt h3)] at ha
        rw [if_neg h3, List.getElem?_replicate]
        rw [← ha]
        split <;> rfl
    · have : j = i := by omega
      subst this
      rw [if_neg hj, Nat.sub_self]
      rfl
theorem trim_right {T : Tb} {n c : Int} (h : rightT T n c) : trimN T T.length = T := by
  rcases hT : T.length with _ | m
  · have : T = [] := List.eq_nil_of_length_eq_zero hT
    rw [this]
    rfl
  · have hne := h.2.2.1 (by omega)
    rw [hT, Nat.add_sub_cancel] at hne
    show (if tbAt T m = [] then trimN T m else T.take (m + 1)) = _
    rw [if_neg hne, ← hT, List.take_length]
theorem num_back (l1 l2 : List Int) (v : Nat) (hv : v < 65536) : getTo false 2 l1.length (l1 ++ numB false 2 v ++ l2) 2 = v := by
  have p2 : (256 : Nat) ^ 2 = 65536 := by decide
  exact get_back l1 l2 false 2 v (fit4 (by omega)) (by omega) (fitsM (by omega) (by omega))
theorem lf_mem_may {T : Tb} {n c : Int} (h : rightT T n c) {i : Nat} (hi : i < T.length) (he : tbAt T i ≠ []) : (∀ x ∈ tbAt T i, MayE x c) ∧ (tbAt T i).length = 8 := by
  obtain ⟨g1, g2, _⟩ := h.2.2.2.2 i hi he
  refine ⟨fun x hx => ?_, g1⟩
  obtain ⟨k, hk, rfl⟩ := List.getElem_of_mem hx
  rw [← lfAt_in hk]
  exact (g2 k (by omega)).1
/-- What was put is read, whatever stands ahead of it and behind. -/
theorem readI_back {T : Tb} {c : Int} (h : rightT T 4096 c) (ho : ∀ lf ∈ T, ∀ x ∈ lf, EnOk x) (l1 l2 : List Int) : ∀ i, i ≤ T.length → readI (l1 ++ bodyB T T.length ++ l2) l1.length c (cntT T i) = some (trimN T i, l1.length + (bodyB T i).length)
  | 0, _ => rfl
  | i + 1, hi => by
    have ih := readI_back h ho l1 l2 i (by omega)
    have h512 := h.2.2.2.1
    by_cases he : tbAt T i = []
    · have e1 : cntT T (i + 1) = cntT T i := by
        show (if tbAt T i = [] then cntT T i else cntT T i + 1) = _
        rw [if_pos he]
      have e2 : bodyB T (i + 1) = bodyB T i := by
        show (if tbAt T i = [] then bodyB T i else _) = _
        rw [if_pos he]
      have e3 : trimN T (i + 1) = trimN T i := by
        show (if tbAt T i = [] then trimN T i else _) = _
        rw [if_pos he]
      rw [e1, e2, e3]
      exact ih
    · have e1 : cntT T (i + 1) = cntT T i + 1 := by
        show (if tbAt T i = [] then cntT T i else cntT T i + 1) = _
        rw [if_neg he]
      have e2 : bodyB T (i + 1) = bodyB T i ++ leafB i (tbAt T i) := by
        show (if tbAt T i = [] then bodyB T i else _) = _
        rw [if_neg he]
      have hpre : ∀ j, i + 1 + j ≤ T.length → ∃ r, bodyB T (i + 1 + j) = bodyB T (i + 1) ++ r := by
        intro j
        induction j with
        | zero => exact fun _ => ⟨[], by simp⟩
        | succ j ihj =>
          intro hj
          obtain ⟨r, hr⟩ := ihj (by omega)
          by_cases hz : tbAt T (i + 1 + j) = []
          · refine ⟨r, ?_⟩
            show (if tbAt T (i + 1 + j) = [] then bodyB T (i + 1 + j) else _) = _
            rw [if_pos hz]
            exact hr
          · refine ⟨r ++ leafB (i + 1 + j) (tbAt T (i + 1 + j)), ?_⟩
            show (if tbAt T (i + 1 + j) = [] then bodyB T (i + 1 + j) else bodyB T (i + 1 + j) ++ leafB (i + 1 + j) (tbAt T (i + 1 + j))) = _
            rw [if_neg hz, hr, List.append_assoc]
      obtain ⟨r, hr⟩ := hpre (T.length - (i + 1)) (by omega)
      rw [show i + 1 + (T.length - (i + 1)) = T.length by omega] at hr
      obtain ⟨m1, m2⟩ := lf_mem_may h (i := i) (by omega) he
      have hm : tbAt T i ∈ T := by rw [tbAt_in (by omega)]; exact List.getElem_mem _
      have hall : l1 ++ bodyB T T.length ++ l2 = (l1 ++ bodyB T i) ++ numB false 2 i ++ ((tbAt T i).flatMap enB ++ (r ++ l2)) := by
        rw [hr, e2]
        unfold leafB
        simp only [List.append_assoc]
      have hall2 : l1 ++ bodyB T T.length ++ l2 = (l1 ++ bodyB T i ++ numB false 2 i) ++ (tbAt T i).flatMap enB ++ (r ++ l2) := by
        rw [hall]
        simp only [List.append_assoc]
      have hk : l1.length + (bodyB T i).length = (l1 ++ bodyB T i).length := by rw [List.length_append]
      have hk2 : l1.length + (bodyB T i).length + 2 = (l1 ++ bodyB T i ++ numB false 2 i).length := by rw [List.length_append, List.length_append, numB_len]
      rw [e1]
      unfold readI
      rw [ih]
      dsimp only
      have hg : getTo false 2 (l1.length + (bodyB T i).length) (l1 ++ bodyB T T.length ++ l2) 2 = i := by
        rw [hall, hk]
        exact num_back _ _ i (by omega)
      have hen : entsB (l1 ++ bodyB T T.length ++ l2) (l1.length + (bodyB T i).length + 2) c 8 = some (tbAt T i) := by
        rw [hall2, hk2]
        have := entsB_back (l1 ++ bodyB T i ++ numB false 2 i) (r ++ l2) (tbAt T i) (fun x hx => ⟨m1 x hx, ho _ hm x hx⟩) 8 (by omega)
        rw [this, List.take_of_length_le (by omega)]
      have hlen : l1.length + (bodyB T i).length + 130 ≤ (l1 ++ bodyB T T.length ++ l2).length := by
        rw [hall2, List.length_append, List.length_append, ← hk2, enBs_len, m2]
        omega
      have hl := trimN_len T i (by omega)
      rw [hg, hen, if_neg (by omega)]
      dsimp only
      rw [← trim_step T i (by omega) he, e2]
      have : (bodyB T i ++ leafB i (tbAt T i)).length = (bodyB T i).length + 130 := by
        unfold leafB
        rw [List.length_append, List.length_append, numB_len, enBs_len, m2]
      rw [this, Nat.add_assoc]
theorem readT_back {T : Tb} {c : Int} (h : rightT T 4096 c) (ho : ∀ lf ∈ T, ∀ x ∈ lf, EnOk x) (l1 l2 : List Int) : readT (l1 ++ tblB T ++ l2) l1.length 4096 c = some (T, l1.length + (tblB T).length) := by
  have hc := cntT_le T T.length
  have h512 := h.2.2.2.1
  have hlen : (tblB T).length = 2 + (bodyB T T.length).length := by
    unfold tblB
    rw [List.length_append, numB_len]
  have hn : getTo false 2 l1.length (l1 ++ tblB T ++ l2) 2 = cntT T T.length := by
    have e : l1 ++ tblB T ++ l2 = l1 ++ numB false 2 (cntT T T.length) ++ (bodyB T T.length ++ l2) := by
      unfold tblB
      simp only [List.append_assoc]
    rw [e]
    exact num_back _ _ _ (by omega)
  have hb := readI_back h ho (l1 ++ numB false 2 (cntT T T.length)) l2 T.length (Nat.le_refl _)
  have e2 : l1 ++ numB false 2 (cntT T T.length) ++ bodyB T T.length ++ l2 = l1 ++ tblB T ++ l2 := by
    unfold tblB
    simp only [List.append_assoc]
  have e3 : (l1 ++ numB false 2 (cntT T T.length)).length = l1.length + 2 := by rw [List.length_append, numB_len]
  rw [e2, e3, trim_right h] at hb
  unfold readT
  rw [if_neg (by rw [List.length_append, List.length_append, hlen]; omega), Int.toNat_natCast, hn, hb]
  dsimp only
  rw [if_pos h, hlen, Nat.add_assoc]
end Go.Proofs.YtdffgnpldapciaaGreatDoor
namespace Go.Proofs.YtdffgnpldapciaaGreatDoor
open Go.RowKit
set_option linter.unusedVariables false

theorem encode9 (v : Nat) (w : World) (hv : v < 65536) : Calls Tryz.prog 88 #[.int .i64 v] w fun e w' => ∃ a c, e = .returned (.slice a 2 c) ∧ Own w' w.heap.size (.slice a 2 c) 2 (numB false 2 v) ∧ Below w.heap.size w w' := by
  have q2 : (256 : Nat) ^ 2 = 65536 := by decide
  have n1 := Lib.hid (fun w => step8 none 0 0 2 v 2 2 v [] w (none_bytes w) (fun _ => rfl) (by omega) rfl rfl (by omega) (by omega) (by omega) (by omega) rfl)
  have wu : IntKind.u64.wrap (v : Int) = v := by rw [IntKind.wrap_u64]; omega
  go_enter Tryz.func88, Tryz.ntmps88
  go_wp2_with (go_at_call 66; (with_reducible refine (n1.out _).mono ?_); intro e w1 h; obtain ⟨a, c, rfl, g1, g2, g3⟩ := h.next; have HO := Lib.hid g1; have HB := Lib.hid g3; clear h g1 g2 g3)
  go_ret
  exact ⟨a, c, rfl, HO.out, HB.out⟩
theorem Own.later9 {w w' : World} {base n : Nat} {v : Value} {xs : List Int} (h : Own w base v n xs) (hb : Below w.heap.size w w') : Own w' base v n xs :=
  ⟨h.1.kept (grown_of_below hb) (by
    cases v.ownBlock with
    | none => exact Or.inl rfl
    | some k => exact Or.inr (by simp)), h.2⟩
/-- What a call that appends holds: the bytes so far, what lay there before. -/
def Ap (w0 : World) (B : Nat) (a : Option Addr) (n c : Nat) (l : List Int) (w : World) : Prop := Own w B (.slice a n c) n l ∧ Below w0.heap.size w0 w ∧ w0.heap.size ≤ B ∧ B ≤ w.heap.size
section
variable {w0 w w' : World} {B n c : Nat} {a : Option Addr} {l : List Int}
theorem Ap.later (h : Ap w0 B a n c l w) (hb : Below w.heap.size w w') : Ap w0 B a n c l w' := ⟨h.1.later9 hb, h.2.1.trans (hb.mono h.2.1.size), h.2.2.1, Nat.le_trans h.2.2.2 hb.size⟩
theorem Ap.alloc (h : Ap w0 B a n c l w) (o : Obj) : Ap w0 B a n c l (w.alloc o) := h.later ((Below.refl _ _).alloc (Nat.le_refl _) _)
theorem Ap.drew (h : Ap w0 B a n c l w) : Ap w0 B a n c l w.drew := h.later (Below.refl _ _).drew
theorem Ap.app (h : Ap w0 B a n c l w) {a' : Option Addr} {n' c' : Nat} {l' : List Int} (ho : Own w' B (.slice a' n' c') n' l') (hg : w.grownBy w' (Value.slice a n c).ownBlock) : Ap w0 B a' n' c' l' w' :=
  ⟨ho, h.1.below h.2.1 hg h.2.1.size h.2.2.1, h.2.2.1, Nat.le_trans h.2.2.2 hg.size⟩
end
set_option maxRecDepth 100000 in
set_option maxHeartbeats 3200000 in
theorem appendLeaf9 (w0 w : World) (B : Nat) (a : Option Addr) (n c : Nat) (l : List Int) (i : Nat) (al : Option Addr) (cl : Nat) (xs : List En) (cc : Int) (hA : Ap w0 B a n c l w) (hn : n ≤ 1000000) (hi : i < 65536) (hL : LfR w0 (al, 8, cl, xs)) (hm : ∀ k, k < 8 → MayE (lfAt xs k) cc) (hW : Wid w0) :
    Calls Tryz.prog 87 #[.slice a n c, .int .i64 i, .slice al 8 cl, .int .i64 cc] w fun e w' => ∃ a' c', e = .returned (.slice a' (n + 130) c') ∧ Ap w0 B a' (n + 130) c' (l ++ leafB i xs) w' := by
  have HA := Lib.hid hA
  have HL := Lib.hid hL
  have HWD := Lib.hid hW
  have HM := Lib.hid hm
  have HE := Lib.hid (fun w => encode9 i w hi)
  have hlen := hL.len
  dsimp only at hlen
  have HLN := Lib.hid hlen
  clear hA hL hW hm hlen
  go_enter Tryz.func87, Tryz.ntmps87
  go_wp2_with (first
    | (go_at_call 88; (with_reducible refine (HE.out _).mono ?_); rintro e w1 ⟨a1, c1, rfl, g1, g2⟩; have HA1 := Lib.hid (HA.out.later g2); have HB1 := Lib.hid g1.bytes; clear g1 g2)
    | (at_builtin; refine append_bytes rfl _ _ rfl B _ n l rfl HA1.out.1 a1 2 c1 _ rfl HB1.out.2 HB1.out.1 (by omega) HA1.out.2.2.2 ?_; intro a2 c2 w2 h1 h2; have HA2 := Lib.hid (HA1.out.app h1 h2); clear h1 h2))
  go_loopw [0, 19] (fun s iv wr => ∃ (j : Nat) (a' : Option Addr) (c' : Nat), j ≤ 8 ∧ s = .slice a' (n + 2 + 16 * j) c' ∧ iv = .int .i64 j ∧ Hid (Ap w0 B a' (n + 2 + 16 * j) c' (l ++ numB false 2 i ++ (xs.take j).flatMap enB) wr)) (fun _ iv _ => 8 - (intOf iv).toNat)
  case atStart => exact ⟨0, a2, c2, Nat.zero_le _, rfl, rfl, by rw [List.take_zero, List.flatMap_nil, List.append_nil]; exact HA2.out⟩
  case round =>
    obtain ⟨j, a', c', hj, rfl, rfl, HP⟩ := hrel
    obtain ⟨M, hM⟩ := named (n + 2 + 16 * j)
    rw [hM.out] at HP ⊢
    have hMb : M ≤ 2000000 := by rw [← hM.out]; omega
    by_cases hlt : j < 8
    · obtain ⟨b, off, e1, hs, x1, x2, x3, x4, x5⟩ := (HL.out.later HP.out.2.1).at j hlt
      dsimp only at e1 hs x1 x2 x3 x4 x5
      subst e1
      have hmj := HM.out j hlt
      have hls : l ++ numB false 2 i ++ (xs.take (j + 1)).flatMap enB = l ++ numB false 2 i ++ (xs.take j).flatMap enB ++ enB (lfAt xs j) := by
        have := HLN.out
        rw [List.take_succ_eq_append_getElem (by omega), List.flatMap_append, lfAt_in (by omega)]
        simp only [List.flatMap_cons, List.flatMap_nil, List.append_nil, List.append_assoc]
      have hMn : M + 16 = n + 2 + 16 * (j + 1) := by rw [← hM.out]; omega
      obtain ⟨L, hLd⟩ := named (l ++ numB false 2 i ++ (xs.take j).flatMap enB)
      rw [hLd.out] at HP hls
      obtain ⟨⟨v1, v2, v3, v4, v5⟩, HV⟩ := named (lfAt xs j)
      rw [HV.out] at x1 x2 x3 x4 x5 hs hmj hls
      dsimp only at x1 x2 x3 x4 x5
      clear HV
      have HPE := Lib.hid (fun w hw => entryPut_own hmj hs w hw)
      have HN := Lib.hid (HP.out.alloc (.cells #[.int .i64 v1, .int .i64 v2, .int .i64 v3, .int .i64 v4, .int .u32 v5] 91))
      have HWN := Lib.hid (HWD.out.later HN.out.2.1)
      have HLS := Lib.hid hls
      have HMN := Lib.hid hMn
      clear hs hmj hls hMn
      go_wp2_with (first
        | (go_at_call 96; (with_reducible refine (HPE.out _ HWN.out).mono ?_); rintro e w4 ⟨g4, c4, rfl, g1, g2⟩; have HA4 := Lib.hid (HN.out.later g2); have HB4 := Lib.hid g1.bytes; clear g1 g2)
        | (at_builtin; refine append_bytes rfl _ _ rfl B _ M L rfl HA4.out.1 (some ⟨g4, 0, none⟩) 16 c4 _ rfl HB4.out.2 HB4.out.1 (by omega) HA4.out.2.2.2 ?_; intro a5 c5 w5 h1 h2; have HA5 := Lib.hid (HA4.out.app h1 h2); clear h1 h2))
      go_roundw
      case rel =>
        refine ⟨j + 1, a5, c5, by omega, by rw [HMN.out], by go_num, ?_⟩
        rw [← HMN.out, HLS.out]
        exact HA5.out
      case measure => simp [intOf]; omega
    · have hj8 : j = 8 := by omega
      subst hj8
      have ht : xs.take 8 = xs := by rw [List.take_of_length_le (by have := HLN.out; omega)]
      rw [ht] at HP
      have hM2 : M = n + 130 := by rw [← hM.out]
      go_wp2
      go_ret
      rw [← hM2]
      refine ⟨a', c', rfl, ?_⟩
      unfold leafB
      rw [← List.append_assoc]
      exact HP.out
end Go.Proofs.YtdffgnpldapciaaGreatDoor
namespace Go.Proofs.YtdffgnpldapciaaGreatDoor
open Go.RowKit
set_option linter.unusedVariables false

theorem Ap.first (w : World) : Ap w w.heap.size none 0 0 [] w := ⟨⟨⟨rfl, Or.inl ⟨rfl, rfl⟩⟩, by simp [Small]⟩, Below.refl _ _, Nat.le_refl _, Nat.le_refl _⟩
set_option maxRecDepth 100000 in
set_option maxHeartbeats 3200000 in
theorem put9_no (w : World) (a : Option Addr) (len cap : Nat) (ds : List LfD) (c : Int) (h : TabR w a len ds) (hlen : len ≤ 6000) (hr : ¬ rightT (tbOf ds) 4096 c) :
    Calls Tryz.prog 68 #[.agg #[.slice a len cap], .int .i64 c] w (PutPost w [] 1) := by
  have HR := Lib.hid (fun w h => right9_is w a len cap ds 4096 c h hlen false (decide_eq_false hr))
  have HT := Lib.hid (h.later ((Below.refl _ _).alloc (Nat.le_refl _) (.cells #[.slice a len cap] 26)))
  go_enter Tryz.func68, Tryz.ntmps68
  go_wp2_with (go_at_call 52; (with_reducible refine (HR.out _ HT.out).mono ?_); rintro e w1 ⟨rfl, g⟩; have HB := Lib.hid (((Below.refl _ _).alloc (Nat.le_refl _) (.cells #[.slice a len cap] 26)).trans (g.mono (by rw [World.size_alloc]; omega))); clear g)
  go_ret2
  exact ⟨none, 0, rfl, none_bytes _, ⟨fun _ => rfl, Nat.le_refl _⟩, HB.out⟩
set_option maxRecDepth 100000 in
set_option maxHeartbeats 3200000 in
theorem put9_ok (w : World) (a : Option Addr) (len cap : Nat) (ds : List LfD) (c : Int) (h : TabR w a len ds) (hlen : len ≤ 6000) (hr : rightT (tbOf ds) 4096 c) (hW : Wid w) :
    Calls Tryz.prog 68 #[.agg #[.slice a len cap], .int .i64 c] w (PutPost w (tblB (tbOf ds)) 0) := by
  have HR := Lib.hid (fun w h => right9_is w a len cap ds 4096 c h hlen true (decide_eq_true hr))
  have HT0 := Lib.hid h
  have HT := Lib.hid (h.later ((Below.refl _ _).alloc (Nat.le_refl _) (.cells #[.slice a len cap] 26)))
  have HRT := Lib.hid hr
  have HWD := Lib.hid hW
  clear h hr hW
  go_enter Tryz.func68, Tryz.ntmps68
  go_wp2_with (go_at_call 52; (with_reducible refine (HR.out _ HT.out).mono ?_); rintro e w1 ⟨rfl, g⟩; have HB := Lib.hid ((Below.refl w.heap.size w).alloc (Nat.le_refl _) (.cells #[.slice a len cap] 26)); have HG := Lib.hid g; have hx := one_cell9 ((Blk.new w 26 #[.slice a len cap]).later g); clear g)
  have HP0 := Lib.hid ((Ap.first w).later (HB.out.trans (HG.out.mono HB.out.size)))
  have hTl : (tbOf ds).length = len := HT0.out.tlen
  obtain ⟨T, hTn⟩ := named (tbOf ds)
  rw [hTn.out] at HRT hTl ⊢
  have h512 : len ≤ 512 := by rw [← hTl]; exact HRT.out.2.2.2.1
  go_loopw [6, 7, 17] (fun cn s iv wr => ∃ (j N : Nat) (a' : Option Addr) (c' : Nat), j ≤ len ∧ Hid (cntT T j = N) ∧ cn = .int .i64 N ∧ s = .slice a' (N * 130) c' ∧ iv = .int .i64 j ∧ Hid (Ap w w.heap.size a' (N * 130) c' (bodyB T j) wr)) (fun _ _ iv _ => len - (intOf iv).toNat)
  case atStart => exact ⟨0, 0, none, 0, Nat.zero_le _, rfl, rfl, rfl, rfl, HP0.out⟩
  case round =>
    obtain ⟨j, N, a', c', hj, HN, rfl, rfl, rfl, HP⟩ := hrel
    have hNj : N ≤ 512 := by have h1 := cntT_le T j; have h2 := HN.out; omega
    obtain ⟨M, hM⟩ := named (N * 130)
    rw [hM.out] at HP ⊢
    have hMb : M ≤ 100000 := by rw [← hM.out]; omega
    by_cases hlt : j < len
    · obtain ⟨b, off, al, ll, cl, xs, e1, x1, hL, htb, _⟩ := HT0.out.at j hlt
      rw [hTn.out] at htb
      subst e1
      have x2 := (HP.out.2.1.cell (p := ⟨b, off + j, none⟩) (block_lt_of_cell x1)).trans x1
      have hll := hL.len
      dsimp only at hll
      by_cases h0 : xs = []
      · subst h0
        obtain rfl : ll = 0 := hll.symm
        have hC : Hid (cntT T (j + 1) = N) := by
          show (if tbAt T j = [] then cntT T j else cntT T j + 1) = N
          rw [if_pos htb]
          exact HN.out
        have hBd : bodyB T (j + 1) = bodyB T j := by
          show (if tbAt T j = [] then bodyB T j else _) = _
          rw [if_pos htb]
        have HBD := Lib.hid hBd
        have HAB := Lib.hid (fun w => absent9 al 0 cl true rfl w)
        clear hBd htb hL hll x1
        go_wp2_with (go_at_call 75; (with_reducible refine (HAB.out _).mono ?_); rintro e w2 ⟨rfl, rfl⟩)
        go_roundw
        case rel => exact ⟨j + 1, N, a', c', by omega, hC, rfl, by rw [hM.out], by go_num, by rw [HBD.out, hM.out]; exact HP.out⟩
        case measure => simp [intOf]; omega
      · have hne : tbAt T j ≠ [] := by rw [htb]; exact h0
        obtain ⟨q1, q2, _⟩ := HRT.out.2.2.2.2 j (by omega) hne
        rw [htb] at q1 q2
        obtain rfl : ll = 8 := hll.symm.trans q1
        have hC : Hid (cntT T (j + 1) = N + 1) := by
          show (if tbAt T j = [] then cntT T j else cntT T j + 1) = N + 1
          rw [if_neg hne, HN.out]
        have hBd : bodyB T (j + 1) = bodyB T j ++ leafB j xs := by
          show (if tbAt T j = [] then bodyB T j else bodyB T j ++ leafB j (tbAt T j)) = _
          rw [if_neg hne, htb]
        have HBD := Lib.hid hBd
        have HAB := Lib.hid (fun w => absent9 al 8 cl false rfl w)
        have HAP := Lib.hid (fun W h => appendLeaf9 w W w.heap.size a' M c' (bodyB T j) j al cl xs c h (by omega) (by omega) hL (fun k hk => (q2 k hk).1) HWD.out)
        have hMN : M + 130 = (N + 1) * 130 := by rw [← hM.out]; omega
        have HMN := Lib.hid hMN
        clear hBd htb hL hll x1 q1 q2 hne hMN
        go_wp2_with (first
          | (go_at_call 75; (with_reducible refine (HAB.out _).mono ?_); rintro e w2 ⟨rfl, rfl⟩)
          | (go_at_call 87; (with_reducible refine (HAP.out _ HP.out).mono ?_); rintro e w3 ⟨a3, c3, rfl, g⟩; have HP2 := Lib.hid g; clear g))
        go_roundw
        case rel => exact ⟨j + 1, N + 1, a3, c3, by omega, hC, by go_num, by rw [HMN.out], by go_num, by rw [HBD.out, ← HMN.out]; exact HP2.out⟩
        case measure => simp [intOf]; omega
    · have hjl : j = len := by omega
      subst hjl
      have HE := Lib.hid (fun w => encode9 N w (by omega))
      have HBY := Lib.hid HP.out.1.bytes
      have HTB : Hid (tblB T = numB false 2 N ++ bodyB T j) := by
        show _ = _
        unfold tblB
        rw [hTl, HN.out]
      go_wp2_with (first
        | (go_at_call 88; (with_reducible refine (HE.out _).mono ?_); rintro e w4 ⟨a4, c4, rfl, g1, g2⟩; have HA4 : Hid (Ap w wr.heap.size a4 2 c4 (numB false 2 N) w4) := ⟨g1, HP.out.2.1.trans (g2.mono HP.out.2.1.size), HP.out.2.1.size, g2.size⟩; have HB4 := Lib.hid (HBY.out.1.later g2); clear g1 g2)
        | (at_builtin; refine append_bytes rfl _ _ rfl wr.heap.size _ 2 (numB false 2 N) rfl HA4.out.1 a' M c' _ rfl HBY.out.2 HB4.out (by omega) HA4.out.2.2.2 ?_; intro a5 c5 w5 h1 h2; have HA5 := Lib.hid (HA4.out.app h1 h2); clear h1 h2))
      go_ret2
      have h5 := HA5.out.1
      rw [← HTB.out, ← hTn.out] at h5
      exact PutPost.own 0 h5 HA5.out.2.1
end Go.Proofs.YtdffgnpldapciaaGreatDoor
namespace Go.Proofs.YtdffgnpldapciaaGreatDoor
open Go.RowKit Go.ChangeShapes Go.WideShapes Go.Deep
set_option linter.unusedVariables false
set_option maxRecDepth 100000

/-- A slice of ints that reads as f. -/
def IntsR (w : World) (a : Option Addr) (len : Nat) (f : Nat → Int) : Prop := len ≤ 9223372036854775807 ∧ (0 < len → ∃ b off, a = some ⟨b, off, none⟩ ∧ b < w.heap.size ∧ ∀ i, i < len → w.cell? ⟨b, off + i, none⟩ = some (.int .i64 (f i)))
theorem IntsR.later {w w' : World} {a : Option Addr} {len : Nat} {f : Nat → Int} (h : IntsR w a len f) (hb : Below w.heap.size w w') : IntsR w' a len f :=
  ⟨h.1, fun h0 => by
    obtain ⟨b, off, h1, h2, h3⟩ := h.2 h0
    exact ⟨b, off, h1, Nat.lt_of_lt_of_le h2 hb.size, fun i hi => (hb.cell (p := ⟨b, off + i, none⟩) h2).trans (h3 i hi)⟩⟩
theorem IntsR.nil (w : World) (a : Option Addr) (f : Nat → Int) : IntsR w a 0 f := ⟨by omega, fun h => absurd h (by omega)⟩
/-- The cells of a shot, of a bitmap. -/
abbrev ShA := ByteArray × Int × Option Addr × Nat × Nat
abbrev MpA := ByteArray × Bool × Option Addr × Nat × Nat
/-- Rows of three cells. -/
def Row3 (w : World) (a : Option Addr) (len : Nat) (c1 c2 c3 : Nat → Value) : Prop := len ≤ 9223372036854775807 ∧ (0 < len → ∃ b off, a = some ⟨b, off, none⟩ ∧ b < w.heap.size ∧ ∀ i, i < len → w.cell? ⟨b, off + i * 3, none⟩ = some (c1 i) ∧ w.cell? ⟨b, off + i * 3 + 1, none⟩ = some (c2 i) ∧ w.cell? ⟨b, off + i * 3 + 2, none⟩ = some (c3 i))
theorem Row3.later {w w' : World} {a : Option Addr} {len : Nat} {c1 c2 c3 : Nat → Value} (h : Row3 w a len c1 c2 c3) (hb : Below w.heap.size w w') : Row3 w' a len c1 c2 c3 :=
  ⟨h.1, fun h0 => by
    obtain ⟨b, off, h1, h2, h3⟩ := h.2 h0
    exact ⟨b, off, h1, Nat.lt_of_lt_of_le h2 hb.size, fun i hi => by
      obtain ⟨x1, x2, x3⟩ := h3 i hi
      exact ⟨(hb.cell (p := ⟨b, off + i * 3, none⟩) h2).trans x1, (hb.cell (p := ⟨b, off + i * 3 + 1, none⟩) h2).trans x2, (hb.cell (p := ⟨b, off + i * 3 + 2, none⟩) h2).trans x3⟩⟩⟩
def ShO (w : World) (a : Option Addr) (len : Nat) (g : Nat → ShA) : Prop := Row3 w a len (fun i => .string (g i).1) (fun i => .int .i64 (g i).2.1) (fun i => .slice (g i).2.2.1 (g i).2.2.2.1 (g i).2.2.2.2) ∧ ∀ i, i < len → I64 (g i).2.1 ∧ (g i).1.size ≤ 9223372036854775807 ∧ TabArg w (g i).2.2.1 (g i).2.2.2.1 (g i).2.2.2.2
def MpO (w : World) (a : Option Addr) (len : Nat) (g : Nat → MpA) : Prop := Row3 w a len (fun i => .string (g i).1) (fun i => .bool (g i).2.1) (fun i => .slice (g i).2.2.1 (g i).2.2.2.1 (g i).2.2.2.2) ∧ ∀ i, i < len → (g i).1.size ≤ 9223372036854775807 ∧ ∃ z, IsSpans w (g i).2.2.1 (g i).2.2.2.1 (g i).2.2.2.2 z
/-- A meta that came in. -/
structure MetaArg (w : World) (c s : Int) (bk : ByteArray) (a0 : Option Addr) (n0 c0 : Nat) (sa : Option Addr) (sn sc : Nat) (ma : Option Addr) (mn mc : Nat) (ca : Option Addr) (cn cc : Nat) : Prop where
  c : I64 c
  s : I64 s
  bk : bk.size ≤ 9223372036854775807
  tab : TabArg w a0 n0 c0
  shots : ∃ g, ShO w sa sn g
  maps : ∃ g, MpO w ma mn g
  counts : ∃ f, IntsR w ca cn f
  sCaps : Caps sa sn sc
  mCaps : Caps ma mn mc
  cCaps : Caps ca cn cc
section
variable {H : Type} {enc : TypeId × Value → H} {W : World} {base : Nat} {held : Bool}
theorem tab_of_trod {fuel : Nat} {cs : List Value} {x : DataW H × List MemPlace} (hlen : cs.length = 1) (hf : DataW.trod enc Tryz.prog W base (fun _ => true) held fuel 26 cs = some x) : ∃ a len cap, cs = [.slice a len cap] ∧ TabArg W a len cap := by
  obtain ⟨xs, q, _, _, _, hxl, hx⟩ := DataW.trod_struct Tryz.underlying26 hf
  have hl : xs.length = 1 := hxl
  obtain ⟨y0, g0⟩ := some_at (xs := xs) 0 (by omega)
  have t0 := (hx 0 _ rfl).trans g0
  have c1 : Tryz.prog.cellsOf 24 = 1 := by kernel_rfl
  have ce : Tryz.prog.cellsOf 88 = 1 := by kernel_rfl
  match cs, hlen with
  | [c0], _ =>
    have t1 : DataW.trod enc Tryz.prog W base (fun _ => true) held q 24 [c0] = some y0 := by simpa [c1, Value.cells] using t0
    rcases open_slice1 Tryz.underlying24 ce t1 with ⟨hc, _⟩ | ⟨a, len, cap, m, n, V, D, Pl, hc, hb, hle, hm, hmm, _, hi⟩
    · obtain rfl : c0 = .slice none 0 0 := by simpa using hc
      exact ⟨none, 0, 0, rfl, ⟨fun _ => rfl, Nat.le_refl _⟩, fun _ => (none, 0, 0), ⟨Nat.zero_le _, fun i hi => by omega, fun h => by omega⟩, fun i hi => by omega⟩
    · obtain rfl : c0 = .slice (some a) len cap := by simpa using hc
      have hmc : m = cap := by simpa using hmm
      subst hmc
      have each : ∀ i, i < len → ∃ g : Option Addr × Nat × Nat, W.cell? (a.add i) = some (.slice g.1 g.2.1 g.2.2) ∧ g.2.1 ≤ maxLen ∧ (g.2.1 ≤ 6000 → ∃ xs, LfR W (g.1, g.2.1, g.2.2, xs)) := fun i hil => by
        obtain ⟨k1, k2⟩ := hi i (by omega)
        obtain ⟨al, ll, cl, e1, e2, e3⟩ := leaf_open k2
        obtain e1 : V i = .slice al ll cl := by simpa using e1
        exact ⟨(al, ll, cl), by rw [k1, e1], e2, e3⟩
      obtain ⟨g, hg⟩ := choose_lt (α := Option Addr × Nat × Nat) each
      refine ⟨some a, len, m, rfl, ⟨fun e => (by cases e), hle⟩, g, ⟨Nat.le_trans hle hm, fun i hil => (hg i hil).2.1, fun h0 => ?_⟩, fun i hil => (hg i hil).2.2⟩
      obtain ⟨b, off, spot⟩ := a
      have hc := (hg 0 h0).1
      have hspot : spot = none := by simpa [Addr.add] using World.cell?_spot hc
      subst hspot
      refine ⟨b, off, rfl, block_lt_of_cell hc, fun i hil => ?_⟩
      have := (hg i hil).1
      rwa [add_none] at this
theorem sh_of_trod {fuel : Nat} {cs : List Value} {x : DataW H × List MemPlace} (hlen : cs.length = 3) (hf : DataW.trod enc Tryz.prog W base (fun _ => true) held fuel 54 cs = some x) : ∃ g : ShA, cs = [.string g.1, .int .i64 g.2.1, .slice g.2.2.1 g.2.2.2.1 g.2.2.2.2] ∧ I64 g.2.1 ∧ g.1.size ≤ 9223372036854775807 ∧ TabArg W g.2.2.1 g.2.2.2.1 g.2.2.2.2 := by
  obtain ⟨xs, q, _, _, _, hxl, hx⟩ := DataW.trod_struct Tryz.underlying54 hf
  have hl : xs.length = 3 := hxl
  have cs0 : Tryz.prog.cellsOf 9 = 1 := by kernel_rfl
  have ci : Tryz.prog.cellsOf 3 = 1 := by kernel_rfl
  have ct : Tryz.prog.cellsOf 26 = 1 := by kernel_rfl
  match cs, hlen with
  | [c0, c1, c2], _ =>
    obtain ⟨y0, g0⟩ := some_at (xs := xs) 0 (by omega)
    obtain ⟨y1, g1⟩ := some_at (xs := xs) 1 (by omega)
    obtain ⟨y2, g2⟩ := some_at (xs := xs) 2 (by omega)
    have t0 := (hx 0 _ rfl).trans g0
    have t1 := (hx 1 _ rfl).trans g1
    have t2 := (hx 2 _ rfl).trans g2
    obtain ⟨nm, e0, _, w0⟩ := DataW.trod_string Tryz.underlying9 t0
    obtain ⟨sz, e1, _, w1⟩ := DataW.trod_int Tryz.underlying3 t1
    have t2' : DataW.trod enc Tryz.prog W base (fun _ => true) held q 26 [c2] = some y2 := by simpa [ct] using t2
    obtain ⟨a, len, cap, e2, hT⟩ := tab_of_trod rfl t2'
    obtain rfl : c0 = .string nm := by simpa [cs0] using e0
    obtain rfl : c1 = .int .i64 sz := by simpa [ci] using e1
    obtain rfl : c2 = .slice a len cap := by simpa using e2
    have b1 := bounds_i64 w1
    exact ⟨(nm, sz, a, len, cap), rfl, by unfold I64; dsimp only; omega, by unfold maxLen at w0; dsimp only; omega, hT⟩
theorem mp_of_trod {fuel : Nat} {cs : List Value} {x : DataW H × List MemPlace} (hlen : cs.length = 3) (hf : DataW.trod enc Tryz.prog W base (fun _ => true) held fuel 57 cs = some x) : ∃ g : MpA, cs = [.string g.1, .bool g.2.1, .slice g.2.2.1 g.2.2.2.1 g.2.2.2.2] ∧ g.1.size ≤ 9223372036854775807 ∧ ∃ z, IsSpans W g.2.2.1 g.2.2.2.1 g.2.2.2.2 z := by
  obtain ⟨xs, q, _, _, _, hxl, hx⟩ := DataW.trod_struct Tryz.underlying57 hf
  have hl : xs.length = 3 := hxl
  have cs0 : Tryz.prog.cellsOf 9 = 1 := by kernel_rfl
  have cb : Tryz.prog.cellsOf 4 = 1 := by kernel_rfl
  have ct : Tryz.prog.cellsOf 55 = 1 := by kernel_rfl
  match cs, hlen with
  | [c0, c1, c2], _ =>
    obtain ⟨y0, g0⟩ := some_at (xs := xs) 0 (by omega)
    obtain ⟨y1, g1⟩ := some_at (xs := xs) 1 (by omega)
    obtain ⟨y2, g2⟩ := some_at (xs := xs) 2 (by omega)
    have t0 := (hx 0 _ rfl).trans g0
    have t1 := (hx 1 _ rfl).trans g1
    have t2 := (hx 2 _ rfl).trans g2
    obtain ⟨nm, e0, _, w0⟩ := DataW.trod_string Tryz.underlying9 t0
    obtain ⟨on, e1, _⟩ := DataW.trod_bool Tryz.underlying4 t1
    have t2' : DataW.trod enc Tryz.prog W base (fun _ => true) held q 55 [c2] = some y2 := by simpa [ct] using t2
    have hsl : ∃ a len cap, c2 = .slice a len cap := by
      rcases open_slice Tryz.underlying55 t2' with ⟨hc, _⟩ | ⟨a, len, cap, m, n, D, Pl, hc, _⟩
      · exact ⟨none, 0, 0, by simpa using hc⟩
      · exact ⟨some a, len, cap, by simpa using hc⟩
    obtain ⟨a, len, cap, rfl⟩ := hsl
    obtain ⟨z, hz⟩ := spans_open (enc := enc) (W := W) (base := base) (held := held) (a := a) (len := len) (cap := cap) (d := y2.1) (p := y2.2) ⟨q, t2'⟩
    obtain rfl : c0 = .string nm := by simpa [cs0] using e0
    obtain rfl : c1 = .bool on := by simpa [cb] using e1
    exact ⟨(nm, on, a, len, cap), rfl, by unfold maxLen at w0; dsimp only; omega, z, hz⟩
/-- A slice of structs of three cells. -/
theorem row3_open {α : Type} [Inhabited α] {t e : TypeId} {fuel : Nat} {cs : List Value} {x : DataW H × List MemPlace} (ht : Tryz.prog.underlying t = some (.slice e)) (hc3 : Tryz.prog.cellsOf e = 3) (f1 f2 f3 : α → Value) (P : α → Prop)
    (each : ∀ {fuel : Nat} {cs : List Value} {x : DataW H × List MemPlace}, cs.length = 3 → DataW.trod enc Tryz.prog W base (fun _ => true) held fuel e cs = some x → ∃ g : α, cs = [f1 g, f2 g, f3 g] ∧ P g)
    (hf : DataW.trod enc Tryz.prog W base (fun _ => true) held fuel t cs = some x) : ∃ a len cap, cs = [.slice a len cap] ∧ Caps a len cap ∧ ∃ g : Nat → α, Row3 W a len (fun i => f1 (g i)) (fun i => f2 (g i)) (fun i => f3 (g i)) ∧ ∀ i, i < len → P (g i) := by
  rcases open_slice ht hf with ⟨rfl, _⟩ | ⟨a, len, cap, m, n, D, Pl, rfl, hb, hl, hm, hmm, _, hx⟩
  · exact ⟨none, 0, 0, rfl, ⟨fun _ => rfl, Nat.le_refl _⟩, fun _ => default, ⟨Nat.zero_le _, fun h => by omega⟩, fun i hi => by omega⟩
  · have hmc : m = cap := by simpa using hmm
    subst hmc
    have one : ∀ i, i < len → ∃ g : α, P g ∧ W.cell? (a.add (i * 3)) = some (f1 g) ∧ W.cell? (a.add (i * 3 + 1)) = some (f2 g) ∧ W.cell? (a.add (i * 3 + 2)) = some (f3 g) := fun i hi => by
      obtain ⟨cs', h1, h2⟩ := hx i (by omega)
      rw [hc3] at h1
      obtain ⟨_, hlen, hcell⟩ := World.cells?_some h1
      obtain ⟨g, he, hp⟩ := each hlen h2
      have k0 := hcell 0 (by omega)
      have k1 := hcell 1 (by omega)
      have k2 := hcell 2 (by omega)
      rw [he, Go.Deep.add_add] at k0 k1 k2
      exact ⟨g, hp, k0, k1, k2⟩
    obtain ⟨g, hg⟩ := choose_lt (α := α) one
    refine ⟨some a, len, m, rfl, ⟨fun e => (by cases e), hl⟩, g, ⟨by unfold maxLen at hm; omega, fun h0 => ?_⟩, fun i hi => (hg i hi).1⟩
    obtain ⟨b, off, spot⟩ := a
    have hc := (hg 0 h0).2.1
    have hspot : spot = none := by simpa [Addr.add] using World.cell?_spot hc
    subst hspot
    refine ⟨b, off, rfl, block_lt_of_cell hc, fun i hi => ?_⟩
    obtain ⟨_, x1, x2, x3⟩ := hg i hi
    rw [add_none] at x1 x2 x3
    exact ⟨x1, x2, x3⟩
set_option maxHeartbeats 1600000 in
theorem meta_open {r : Reach} {b0 : Nat} {v : Value} {d : DataW H} {p : List MemPlace} (hv : Value.okWide Tryz.prog W r b0 31 v) (h : DataW.Trod enc Tryz.prog W base (fun _ => true) held 31 v d p) :
    ∃ (c s : Int) (bk : ByteArray) (a0 : Option Addr) (n0 c0 : Nat) (sa : Option Addr) (sn sc : Nat) (ma : Option Addr) (mn mc : Nat) (ca : Option Addr) (cn cc : Nat),
      v = .agg #[.int .i64 c, .int .i64 s, .string bk, .slice a0 n0 c0, .slice sa sn sc, .slice ma mn mc, .slice ca cn cc] ∧ MetaArg W c s bk a0 n0 c0 sa sn sc ma mn mc ca cn cc := by
  obtain ⟨cs, rfl, hsz⟩ := okWide_struct Tryz.underlying31 hv
  have h7 : cs.size = 7 := hsz.trans (by kernel_rfl)
  obtain ⟨fuel, hf⟩ := h
  obtain ⟨xs, q, _, _, _, hxl, hx⟩ := DataW.trod_struct Tryz.underlying31 hf
  have hl : xs.length = 7 := hxl
  have k1 : Tryz.prog.cellsOf 3 = 1 := by kernel_rfl
  have k2 : Tryz.prog.cellsOf 9 = 1 := by kernel_rfl
  have k3 : Tryz.prog.cellsOf 26 = 1 := by kernel_rfl
  have k4 : Tryz.prog.cellsOf 27 = 1 := by kernel_rfl
  have k5 : Tryz.prog.cellsOf 28 = 1 := by kernel_rfl
  have k6 : Tryz.prog.cellsOf 29 = 1 := by kernel_rfl
  obtain ⟨l⟩ := cs
  match l, h7 with
  | [c0, c1, c2, c3, c4, c5, c6], _ =>
    obtain ⟨y0, g0⟩ := some_at (xs := xs) 0 (by omega)
    obtain ⟨y1, g1⟩ := some_at (xs := xs) 1 (by omega)
    obtain ⟨y2, g2⟩ := some_at (xs := xs) 2 (by omega)
    obtain ⟨y3, g3⟩ := some_at (xs := xs) 3 (by omega)
    obtain ⟨y4, g4⟩ := some_at (xs := xs) 4 (by omega)
    obtain ⟨y5, g5⟩ := some_at (xs := xs) 5 (by omega)
    obtain ⟨y6, g6⟩ := some_at (xs := xs) 6 (by omega)
    have t0 := (hx 0 _ rfl).trans g0
    have t1 := (hx 1 _ rfl).trans g1
    have t2 := (hx 2 _ rfl).trans g2
    have t3 := (hx 3 _ rfl).trans g3
    have t4 := (hx 4 _ rfl).trans g4
    have t5 := (hx 5 _ rfl).trans g5
    have t6 := (hx 6 _ rfl).trans g6
    obtain ⟨c, e0, _, w0⟩ := DataW.trod_int Tryz.underlying3 t0
    obtain ⟨s, e1, _, w1⟩ := DataW.trod_int Tryz.underlying3 t1
    obtain ⟨bk, e2, _, w2⟩ := DataW.trod_string Tryz.underlying9 t2
    have t3' : DataW.trod enc Tryz.prog W base (fun _ => true) held q 26 [c3] = some y3 := by simpa [k3, Value.cells] using t3
    have t4' : DataW.trod enc Tryz.prog W base (fun _ => true) held q 27 [c4] = some y4 := by simpa [k4, Value.cells] using t4
    have t5' : DataW.trod enc Tryz.prog W base (fun _ => true) held q 28 [c5] = some y5 := by simpa [k5, Value.cells] using t5
    have t6' : DataW.trod enc Tryz.prog W base (fun _ => true) held q 29 [c6] = some y6 := by simpa [k6, Value.cells] using t6
    obtain ⟨a0, n0, cc0, e3, hT⟩ := tab_of_trod rfl t3'
    obtain ⟨sa, sn, sc, e4, hsc, gs, hs1, hs2⟩ := row3_open (α := ShA) Tryz.underlying27 (by kernel_rfl) (fun g => .string g.1) (fun g => .int .i64 g.2.1) (fun g => .slice g.2.2.1 g.2.2.2.1 g.2.2.2.2) (fun g => I64 g.2.1 ∧ g.1.size ≤ 9223372036854775807 ∧ TabArg W g.2.2.1 g.2.2.2.1 g.2.2.2.2) sh_of_trod t4'
    obtain ⟨ma, mn, mc, e5, hmc0, gm, hm1, hm2⟩ := row3_open (α := MpA) Tryz.underlying28 (by kernel_rfl) (fun g => .string g.1) (fun g => .bool g.2.1) (fun g => .slice g.2.2.1 g.2.2.2.1 g.2.2.2.2) (fun g => g.1.size ≤ 9223372036854775807 ∧ ∃ z, IsSpans W g.2.2.1 g.2.2.2.1 g.2.2.2.2 z) mp_of_trod t5'
    have hints : ∃ ca cn cc, c6 = .slice ca cn cc ∧ Caps ca cn cc ∧ ∃ f, IntsR W ca cn f := by
      rcases open_slice1 Tryz.underlying29 (by kernel_rfl) t6' with ⟨hc, _⟩ | ⟨a, len, cap, m, n, V, D, Pl, hc, hb, hle, hm, hmm, _, hi⟩
      · exact ⟨none, 0, 0, by simpa using hc, ⟨fun _ => rfl, Nat.le_refl _⟩, fun _ => 0, IntsR.nil _ _ _⟩
      · have hmc : m = cap := by simpa using hmm
        subst hmc
        have each : ∀ i, i < len → ∃ z : Int, W.cell? (a.add i) = some (.int .i64 z) := fun i hil => by
          obtain ⟨k1, k2⟩ := hi i (by omega)
          obtain ⟨z, e, _⟩ := DataW.trod_int Tryz.underlying3 k2
          obtain e : V i = .int .i64 z := by simpa using e
          exact ⟨z, by rw [k1, e]⟩
        obtain ⟨f, hf⟩ := choose_lt (α := Int) each
        refine ⟨some a, len, m, by simpa using hc, ⟨fun e => (by cases e), hle⟩, f, by unfold maxLen at hm; omega, fun h0 => ?_⟩
        obtain ⟨b, off, spot⟩ := a
        have hc := hf 0 h0
        have hspot : spot = none := by simpa [Addr.add] using World.cell?_spot hc
        subst hspot
        refine ⟨b, off, rfl, block_lt_of_cell hc, fun i hil => ?_⟩
        have := hf i hil
        rwa [add_none] at this
    obtain ⟨ca, cn, cc, rfl, hcc, hcn⟩ := hints
    obtain rfl : c0 = .int .i64 c := by simpa [k1, Value.cells] using e0
    obtain rfl : c1 = .int .i64 s := by simpa [k1, Value.cells] using e1
    obtain rfl : c2 = .string bk := by simpa [k2, Value.cells] using e2
    obtain rfl : c3 = .slice a0 n0 cc0 := by simpa using e3
    obtain rfl : c4 = .slice sa sn sc := by simpa using e4
    obtain rfl : c5 = .slice ma mn mc := by simpa using e5
    have b0 := bounds_i64 w0
    have b1 := bounds_i64 w1
    unfold maxLen at w2
    exact ⟨c, s, bk, a0, n0, cc0, sa, sn, sc, ma, mn, mc, ca, cn, cc, rfl, by unfold I64; omega, by unfold I64; omega, by omega, hT, ⟨gs, hs1, hs2⟩, ⟨gm, hm1, hm2⟩, hcn, hsc, hmc0, hcc⟩
end
end Go.Proofs.YtdffgnpldapciaaGreatDoor
namespace Go.Proofs.YtdffgnpldapciaaGreatDoor
open Go.RowKit
set_option linter.unusedVariables false

def mtC (c s : Int) (bk : ByteArray) (a0 : Option Addr) (n0 c0 : Nat) (sa : Option Addr) (sn sc : Nat) (v5 v6 : Value) : Array Value :=
  #[.int .i64 c, .int .i64 s, .string bk, .slice a0 n0 c0, .slice sa sn sc, v5, v6]
theorem mt_cells {W : World} {M : Nat} {c s : Int} {bk : ByteArray} {a0 : Option Addr} {n0 c0 : Nat} {sa : Option Addr} {sn sc : Nat} {v5 v6 : Value} (h : Blk W M 31 (mtC c s bk a0 n0 c0 sa sn sc v5 v6)) :
    W.cell? ⟨M, 0, none⟩ = some (.int .i64 c) ∧ W.cell? ⟨M, 1, none⟩ = some (.int .i64 s) ∧ W.cell? ⟨M, 2, none⟩ = some (.string bk) ∧ W.cell? ⟨M, 3, none⟩ = some (.slice a0 n0 c0) ∧ W.cell? ⟨M, 4, none⟩ = some (.slice sa sn sc) ∧ W.cell? ⟨M, 5, none⟩ = some v5 ∧ W.cell? ⟨M, 6, none⟩ = some v6 := by
  refine ⟨?_, ?_, ?_, ?_, ?_, ?_, ?_⟩ <;> (rw [h.cell]; rfl)
/-- What is small. -/
structure Small9 (bk : ByteArray) (n0 : Nat) (gT : Nat → Option Addr × Nat × Nat) (sn : Nat) (gs : Nat → ShA) (hh : Nat → Nat → Option Addr × Nat × Nat) (mn : Nat) (gm : Nat → MpA) (cn : Nat) : Prop where
  t : ¬ 6000 < greatN gT n0
  hsn : sn ≤ 20
  hmn : mn ≤ 20
  hcn : cn ≤ 20000
  s : ∀ i, i < sn → ¬ 6000 < greatN (hh i) (gs i).2.2.2.1
  m : ∀ i, i < mn → (gm i).2.2.2.1 ≤ 500
def GreatQ (S : Prop) (w : World) (e : Ending) (w' : World) : Prop := ∃ G : Bool, e = .returned (.bool G) ∧ Below w.heap.size w w' ∧ (G = false → S)
theorem GreatQ.yes {S : Prop} {w w' : World} {e : Ending} (h : e = .returned (.bool true)) (hb : Below w.heap.size w w') : GreatQ S w e w' := ⟨true, h, hb, fun h => by cases h⟩
theorem GreatQ.no {S : Prop} {w w' : World} {e : Ending} (h : e = .returned (.bool false)) (hb : Below w.heap.size w w') (hs : S) : GreatQ S w e w' := ⟨false, h, hb, fun _ => hs⟩
end Go.Proofs.YtdffgnpldapciaaGreatDoor
namespace Go.Proofs.YtdffgnpldapciaaGreatDoor
open Go.RowKit
set_option linter.unusedVariables false

theorem row3_mk {α : Type} {cv : α → List Value} {P : Program} {t e : TypeId} {bytes : Nat} (R : Rowed P t e 3 bytes cv) (w : World) (a : Option Addr) (len : Nat) (f : Nat → α) (c1 c2 c3 : Nat → Value) (hcv : ∀ i, cv (f i) = [c1 i, c2 i, c3 i]) (hlen : len ≤ 1000) (h : Row3 w a len c1 c2 c3) : Reads cv w a len ((List.range len).map f) := by
  refine ⟨by simp, by omega, ?_⟩
  by_cases h0 : len = 0
  · exact Or.inl h0
  · obtain ⟨b, off, e, hb, hc⟩ := h.2 (by omega)
    refine Or.inr ⟨b, off, e, hb, fun j u hu => ?_⟩
    have hlt : j < len * 3 := by
      rcases Nat.lt_or_ge j (len * 3) with h' | h'
      · exact h'
      · rw [List.getElem?_eq_none (by rw [flat_len R.len, List.length_map, List.length_range]; exact h')] at hu
        cases hu
    have hd : j / 3 < len := by omega
    have hat := flat_at R.len ((List.range len).map f) (j / 3) (j % 3) _ (by rw [List.getElem?_map, List.getElem?_range hd]; rfl) (Nat.mod_lt _ (by omega))
    rw [show j / 3 * 3 + j % 3 = j by omega, hu, hcv] at hat
    obtain ⟨x1, x2, x3⟩ := hc (j / 3) hd
    have hj : j = j / 3 * 3 + j % 3 := by omega
    obtain hr | hr | hr : j % 3 = 0 ∨ j % 3 = 1 ∨ j % 3 = 2 := by omega
    · rw [hr] at hat
      rw [show off + j = off + j / 3 * 3 by omega, x1]
      exact hat.symm
    · rw [hr] at hat
      rw [show off + j = off + j / 3 * 3 + 1 by omega, x2]
      exact hat.symm
    · rw [hr] at hat
      rw [show off + j = off + j / 3 * 3 + 2 by omega, x3]
      exact hat.symm
theorem flat_iv (l : List Int) : l.flatMap ivV = l.map (Value.int .i64) := by
  induction l with
  | nil => rfl
  | cons a r ih => rw [List.flatMap_cons, ih]; rfl
theorem ints_mk {w : World} {a : Option Addr} {len : Nat} {f : Nat → Int} (h : IntsR w a len f) (hlen : len ≤ 1000000) : Reads ivV w a len ((List.range len).map f) := by
  refine ⟨by simp, by omega, ?_⟩
  by_cases h0 : len = 0
  · exact Or.inl h0
  · obtain ⟨b, off, e, hb, hc⟩ := h.2 (by omega)
    refine Or.inr ⟨b, off, e, hb, fun j u hu => ?_⟩
    rw [flat_iv, List.getElem?_map, List.getElem?_map] at hu
    rcases Nat.lt_or_ge j len with h' | h'
    · rw [List.getElem?_range h'] at hu
      cases hu
      exact hc j h'
    · rw [List.getElem?_eq_none (by rw [List.length_range]; exact h')] at hu
      cases hu
theorem GreatQ.mono {S S' : Prop} {w : World} (hs : S → S') {e : Ending} {w' : World} (h : GreatQ S w e w') : GreatQ S' w e w' := by
  obtain ⟨G, h1, h2, h3⟩ := h
  exact ⟨G, h1, h2, fun h => hs (h3 h)⟩
theorem fit_take {z : List Sp} {n : Nat} (h : ∀ i, i < n → (Lit.int .i64 (spAt z i).1).wf = true ∧ (Lit.int .i64 (spAt z i).2).wf = true) (hn : n ≤ z.length) : SpFit (z.take n) := fun x hx => by
  obtain ⟨i, hi⟩ := List.getElem?_of_mem hx
  have hlt : i < n := by
    have := (List.getElem?_eq_some_iff.1 hi).1
    rw [List.length_take] at this
    omega
  rw [List.getElem?_take_of_lt hlt] at hi
  obtain ⟨k1, k2⟩ := h i hlt
  have e : spAt z i = x := by unfold spAt; rw [List.getD_eq_getElem?_getD, hi]; rfl
  rw [e] at k1 k2
  have b1 := bounds_i64 k1
  have b2 := bounds_i64 k2
  unfold I64
  omega
theorem IsSpans.later {w w' : World} {a : Option Addr} {len cap : Nat} {z : List Sp} (h : IsSpans w a len cap z) (hb : Below w.heap.size w w') : IsSpans w' a len cap z := by
  rcases h with h | ⟨x, h1, h2, h3, h4, h5⟩
  · exact Or.inl h
  · refine Or.inr ⟨x, h1, h2, h3, h4, fun i hi => ?_⟩
    obtain ⟨k1, k2, k3⟩ := h5 i hi
    exact ⟨(hb.cell (block_lt_of_cell k1)).trans k1, (hb.cell (block_lt_of_cell k2)).trans k2, k3⟩
theorem TabArg.later {w w' : World} {a : Option Addr} {len cap : Nat} (h : TabArg w a len cap) (hb : Below w.heap.size w w') : TabArg w' a len cap := by
  obtain ⟨h1, g, h2, h3⟩ := h
  exact ⟨h1, g, h2.later hb, fun i hi h6 => by
    obtain ⟨xs, hx⟩ := h3 i hi h6
    exact ⟨xs, hx.later hb⟩⟩
theorem MetaArg.later {w w' : World} {c s : Int} {bk : ByteArray} {a0 : Option Addr} {n0 c0 : Nat} {sa : Option Addr} {sn sc : Nat} {ma : Option Addr} {mn mc : Nat} {ca : Option Addr} {cn cc : Nat} (h : MetaArg w c s bk a0 n0 c0 sa sn sc ma mn mc ca cn cc) (hb : Below w.heap.size w w') : MetaArg w' c s bk a0 n0 c0 sa sn sc ma mn mc ca cn cc :=
  ⟨h.c, h.s, h.bk, h.tab.later hb, by
    obtain ⟨g, h1, h2⟩ := h.shots
    exact ⟨g, h1.later hb, fun i hi => ⟨(h2 i hi).1, (h2 i hi).2.1, (h2 i hi).2.2.later hb⟩⟩, by
    obtain ⟨g, h1, h2⟩ := h.maps
    exact ⟨g, h1.later hb, fun i hi => ⟨(h2 i hi).1, by obtain ⟨z, hz⟩ := (h2 i hi).2; exact ⟨z, hz.later hb⟩⟩⟩, by
    obtain ⟨f, hf⟩ := h.counts
    exact ⟨f, hf.later hb⟩, h.sCaps, h.mCaps, h.cCaps⟩
end Go.Proofs.YtdffgnpldapciaaGreatDoor
namespace Go.Proofs.YtdffgnpldapciaaGreatDoor
open Go.RowKit
set_option linter.unusedVariables false

set_option maxRecDepth 20000 in
set_option maxHeartbeats 3200000 in
theorem refRight12 (w : World) (x : Mt) (M : MM) (h : MetaD w x M) (hK6 : x.cn ≤ 65536) : Calls Tryz.prog 38 #[.agg (mtA M x)] w (RightE (RightMt M) w) := by
  have hKl : M.K.length = x.cn := h.K.1.1
  by_cases hcr : 0 ≤ M.c ∧ M.c ≤ 6
  · by_cases h8 : M.S.length ≤ 8 ∧ M.B.length ≤ 8
    · exact refRight_main w x M h hcr h8.1 h8.2 (by omega)
    · have hno : Hid (RightMt M → false = true) := fun hr => absurd ⟨hr.nS, hr.nB⟩ h8
      obtain ⟨P, hP⟩ := named (RightMt M)
      rw [hP.out] at hno ⊢
      have hsl := h.S.lens
      have hml := h.B.lens
      obtain ⟨a0, n0, c0, sa, sn, sc, ma, mn, mc, ca, cn, cc⟩ := x
      obtain ⟨c, s, bk, T, S, B, K⟩ := M
      obtain ⟨hc, hs, hbk, hT, hS, hB, hK⟩ := h
      dsimp only [mtA] at hc hs hbk hcr h8 hsl hml hK6 hKl ⊢
      have HRT := Lib.hid (RtS.first w #[.int .i64 c, .int .i64 s, .string bk, .slice a0 n0 c0, .slice sa sn sc, .slice ma mn mc, .slice ca cn cc])
      have HSZ := Lib.hid (fun (n : Int) (hn : I64 n) (w : World) => szQ n c hn hcr w)
      have HNB := Lib.hid (fun (w : World) => nmQ bk hbk w)
      have dc1 : decide (c < 0) = false := decide_eq_false (by omega)
      have dc2 : decide (6 < c) = false := decide_eq_false (by omega)
      have dc3 : decide ((65536 : Int) < cn) = false := decide_eq_false (by omega)
      have HI := Lib.hid hs
      have hcs : decide ((8 : Int) < sn) = true ∨ (decide ((8 : Int) < sn) = false ∧ decide ((8 : Int) < mn) = true) := by
        rcases Nat.lt_or_ge 8 sn with h | h
        · exact Or.inl (decide_eq_true (by omega))
        · exact Or.inr ⟨decide_eq_false (by omega), decide_eq_true (by omega)⟩
      have hsn := hsl.2
      have hmn := hml.2
      clear hcr hs hbk hc hT hS hB hK h8 hKl hsl hml hP
      rcases hcs with k1 | ⟨k1, k2⟩
      all_goals
        go_enter Tryz.func38, Tryz.ntmps38
        cases he : bk.toList.isEmpty
      all_goals
        go_wp2_with (first
          | (go_at_call 59; refine (HSZ.out _ HI.out _).mono ?_; rintro e w1 ⟨B, rfl, h, hr⟩; have HRT := Lib.hid (HRT.out.later h); obtain ⟨m0, m1, m2, m3, m4, m5, m6⟩ := cells7 HRT.out.box; clear h hr; cases B)
          | (go_at_call 60; refine (HNB.out _).mono ?_; rintro e w2 ⟨B, rfl, h, hr⟩; have HRT := Lib.hid (HRT.out.later h); obtain ⟨m0, m1, m2, m3, m4, m5, m6⟩ := cells7 HRT.out.box; clear h hr; cases B))
      all_goals (go_ret; exact RightE.no rfl HRT.out.below hno.out)
  · have hno : Hid (RightMt M → false = true) := fun hr => absurd hr.c hcr
    obtain ⟨P, hP⟩ := named (RightMt M)
    rw [hP.out] at hno ⊢
    obtain ⟨a0, n0, c0, sa, sn, sc, ma, mn, mc, ca, cn, cc⟩ := x
    obtain ⟨c, s, bk, T, S, B, K⟩ := M
    dsimp only [mtA] at hcr ⊢
    have HB : Hid (Below w.heap.size w (w.alloc (.cells #[.int .i64 c, .int .i64 s, .string bk, .slice a0 n0 c0, .slice sa sn sc, .slice ma mn mc, .slice ca cn cc] 31))) := (Below.refl _ _).alloc (Nat.le_refl _) _
    have hcs : c < 0 ∨ (¬ c < 0 ∧ 6 < c) := by omega
    clear hcr h hKl hK6 hP
    rcases hcs with k1 | ⟨k1, k2⟩
    all_goals
      go_enter Tryz.func38, Tryz.ntmps38
      go_wp2
      go_ret
      exact RightE.no rfl HB.out hno.out
end Go.Proofs.YtdffgnpldapciaaGreatDoor
namespace Go.Proofs.YtdffgnpldapciaaGreatDoor
open Go.RowKit
set_option linter.unusedVariables false

theorem mWithin (n lo hi : Int) {R : Bool} (hR : decide (lo ≤ n ∧ n ≤ hi) = R) (w : World) : Calls Tryz.prog 29 #[.int .i64 n, .int .i64 lo, .int .i64 hi] w fun e w' => e = .returned (.bool R) ∧ w' = w := by
  by_cases h1 : lo ≤ n
  · by_cases h2 : n ≤ hi
    · obtain rfl : true = R := by rw [← hR]; exact (decide_eq_true ⟨h1, h2⟩).symm
      have d1 : decide (lo ≤ n) = true := decide_eq_true h1
      have d2 : decide (n ≤ hi) = true := decide_eq_true h2
      clear hR
      go_enter Tryz.func29, Tryz.ntmps29
      go_wp2
      go_ret
      exact ⟨rfl, rfl⟩
    · obtain rfl : false = R := by rw [← hR]; exact (decide_eq_false (fun h => h2 h.2)).symm
      have d1 : decide (lo ≤ n) = true := decide_eq_true h1
      have d2 : decide (n ≤ hi) = false := decide_eq_false h2
      clear hR
      go_enter Tryz.func29, Tryz.ntmps29
      go_wp2
      go_ret
      exact ⟨rfl, rfl⟩
  · obtain rfl : false = R := by rw [← hR]; exact (decide_eq_false (fun h => h1 h.1)).symm
    have d1 : decide (lo ≤ n) = false := decide_eq_false h1
    clear hR
    go_enter Tryz.func29, Tryz.ntmps29
    go_wp2
    go_ret
    exact ⟨rfl, rfl⟩
/-- What a size and a table are together. -/
def contOk (n : Int) (T : Tb) (c : Int) : Prop := sizedM n c ∧ rightT T (n / 2 ^ c.toNat) c
theorem sized_mod {n c : Int} (h1 : 0 ≤ n ∧ n ≤ 4096) : (n / 2 ^ c.toNat * 2 ^ c.toNat = n) ↔ n.tmod (2 ^ c.toNat) = 0 := by
  have h3 : (0 : Int) < 2 ^ c.toNat := Int.pow_pos (by omega)
  rw [Int.tmod_eq_emod_of_nonneg h1.1]
  have := Int.mul_ediv_add_emod n (2 ^ c.toNat)
  rw [Int.mul_comm] at this
  omega
theorem right9_T (a : Option Addr) (len cap : Nat) (T : Tb) (N C P : Nat) (w : World) (h : Tab w a len cap T) (hP : (2 : Int) ^ C = P) {R : Bool} (hR : R = true ↔ rightT T ((N : Int) / 2 ^ C) C) : Calls Tryz.prog 52 #[.agg #[.slice a len cap], (.int .i64 ((N : Int) / P)), .int .i64 C] w fun e w' => e = .returned (.bool R) ∧ Below w.heap.size w w' := by
  obtain ⟨ds, h1, h2, rfl, h3, _⟩ := h
  refine right9_is w a len cap ds _ _ h1 h3 R ?_
  rw [hP] at hR
  cases R with
  | true => exact decide_eq_true (hR.1 rfl)
  | false => exact decide_eq_false fun hh => absurd (hR.2 hh) Bool.false_ne_true
theorem wrapP (P : Nat) (h : P ≤ 64) : IntKind.i64.wrap (P : Int) = P := by
  rw [IntKind.wrap_i64]
  omega
theorem Box1.below {X : Nat} {s : Value} {w0 W : World} (h : Box1 X s w0 W) : Below X w0 W := h.2
set_option maxRecDepth 100000 in
set_option maxHeartbeats 1600000 in
theorem mContents (n c : Int) (a : Option Addr) (len cap : Nat) (T : Tb) (hn : I64 n) (hc : 0 ≤ c ∧ c ≤ 6) (w : World) (h : Tab w a len cap T) {R : Bool} (hR : R = true ↔ contOk n T c) : Calls Tryz.prog 30 #[.int .i64 n, .agg #[.slice a len cap], .int .i64 c] w fun e w' => e = .returned (.bool R) ∧ Below w.heap.size w w' := by
  obtain ⟨C, rfl⟩ : ∃ C : Nat, c = C := ⟨c.toNat, by omega⟩
  have hC : C ≤ 6 := by omega
  have hF : ¬ contOk n T C → false = R := fun hno => by
    cases R with
    | false => rfl
    | true => exact absurd (hR.1 rfl) hno
  have HB1 := Lib.hid (Box1.first w (.slice a len cap))
  by_cases h1 : 0 ≤ n ∧ n ≤ 4096
  · have HW1 := Lib.hid (mWithin n 0 4096 (decide_eq_true h1))
    obtain ⟨N, rfl⟩ : ∃ N : Nat, n = N := ⟨n.toNat, by omega⟩
    have hN : N ≤ 4096 := by omega
    obtain ⟨P, hP, hPP⟩ : ∃ P : Nat, (2 : Int) ^ C = P ∧ 1 ≤ P ∧ P ≤ 64 := by
      have : C = 0 ∨ C = 1 ∨ C = 2 ∨ C = 3 ∨ C = 4 ∨ C = 5 ∨ C = 6 := by omega
      rcases this with rfl | rfl | rfl | rfl | rfl | rfl | rfl
      · exact ⟨1, by decide, by decide, by decide⟩
      · exact ⟨2, by decide, by decide, by decide⟩
      · exact ⟨4, by decide, by decide, by decide⟩
      · exact ⟨8, by decide, by decide, by decide⟩
      · exact ⟨16, by decide, by decide, by decide⟩
      · exact ⟨32, by decide, by decide, by decide⟩
      · exact ⟨64, by decide, by decide, by decide⟩
    have hmod := sized_mod (c := C) h1
    have hsz : sizedM N C ↔ (N : Int) / 2 ^ C * 2 ^ C = N := ⟨fun h => h.2.2, fun h => ⟨h1.1, h1.2, h⟩⟩
    rw [Int.toNat_natCast] at hmod
    rw [hmod, hP] at hsz
    have hm2 : (N : Int).tmod P = ((N % P : Nat) : Int) := by rw [Int.tmod_eq_emod_of_nonneg (by omega)]; omega
    have hPn : ¬ P = 0 := by omega
    have hPw : IntKind.i64.wrap (P : Int) = P := wrapP P hPP.2
    by_cases h2 : N % P = 0
    · have HR := Lib.hid (fun (W : World) (hb : Below w.heap.size w W) => right9_T a len cap T N C P W (h.later hb) hP (R := R) (by
        rw [hR]
        unfold contOk
        rw [Int.toNat_natCast]
        exact ⟨fun h => h.2, fun h' => ⟨hsz.2 (by rw [hm2, h2]; rfl), h'⟩⟩))
      clear hR hF h
      go_enter Tryz.func30, Tryz.ntmps30
      go_wp2_with fail
      refine wp_region_held_drew (S := fun W => W.cell? ⟨w.heap.size, 0, none⟩ = some (.slice a len cap)) (by kernel_rfl) (by first | assumption | exact HB1.out.cell | exact HB1.out.drew.cell | exact (HB2.out).cell) (fun hHeld => ?_)
      refine wpAnyH_take (i := 0) (oi := _) (v := ?vc0) rfl (by kernel_rfl) (by kernel_rfl) (by kernel_rfl) (fun _ _ _ h => h) (Or.inl ⟨by rfl, ?hyc0⟩) (by assumption) ?restc0
      case hyc0 => (intro wz hSw; (try dsimp only at hSw); go_simp; try with_reducible rfl)
      (try simp only [List.getElem_toArray, List.getElem_cons_zero, Act.put, List.setIfInBounds_toArray, List.set_cons_zero, List.set_cons_succ])
      refine wpAnyH_ready (rs := [1]) (by kernel_rfl) (by simp) ?_
      refine AllReadyH.cons (o := _) rfl (fun K hK => ?_) AllReadyH.nil
      rw [if_pos (by rfl)]
      go_simp
      (with_reducible refine (HW1.out _).mono ?_); rintro e w1 ⟨rfl, hw⟩; obtain rfl := hw.symm
      dsimp only
      refine hK.out _ _ (by first | assumption | exact HB1.out.cell | exact HB1.out.drew.cell | exact (HB2.out).cell) (fun hHeld => ?_)
      clear hK K
      (try simp only [List.getElem_toArray, List.getElem_cons_zero, List.getElem_cons_succ, Act.put, List.setIfInBounds_toArray, List.set_cons_zero, List.set_cons_succ])
      refine wpAnyH_take (i := 2) (oi := _) (v := ?vc2) rfl (by kernel_rfl) (by kernel_rfl) (by kernel_rfl) (fun _ _ _ h => h) (Or.inl ⟨by rfl, ?hyc2⟩) (by assumption) ?restc2
      case hyc2 => (intro wz hSw; (try dsimp only at hSw); go_simp; try with_reducible rfl)
      (try simp only [List.getElem_toArray, List.getElem_cons_zero, List.getElem_cons_succ, Act.put, List.setIfInBounds_toArray, List.set_cons_zero, List.set_cons_succ])
      refine wpAnyH_take (i := 3) (oi := _) (v := ?vc3) rfl (by kernel_rfl) (by kernel_rfl) (by kernel_rfl) (fun _ _ _ h => h) (Or.inl ⟨by rfl, ?hyc3⟩) (by assumption) ?restc3
      case hyc3 => (intro wz hSw; (try dsimp only at hSw); go_simp; try with_reducible rfl)
      (try simp only [List.getElem_toArray, List.getElem_cons_zero, List.getElem_cons_succ, Act.put, List.setIfInBounds_toArray, List.set_cons_zero, List.set_cons_succ])
      refine wpAnyH_take (i := 4) (oi := _) (v := ?vc4) rfl (by kernel_rfl) (by kernel_rfl) (by kernel_rfl) (fun _ _ _ h => h) (Or.inl ⟨by rfl, ?hyc4⟩) (by assumption) ?restc4
      case hyc4 => (intro wz hSw; (try dsimp only at hSw); go_simp; try with_reducible rfl)
      (try simp only [List.getElem_toArray, List.getElem_cons_zero, List.getElem_cons_succ, Act.put, List.setIfInBounds_toArray, List.set_cons_zero, List.set_cons_succ])
      refine wpAnyH_take (i := 5) (oi := _) (v := ?vc5) rfl (by kernel_rfl) (by kernel_rfl) (by kernel_rfl) (fun _ _ _ h => h) (Or.inl ⟨by rfl, ?hyc5⟩) (by assumption) ?restc5
      case hyc5 => (intro wz hSw; (try dsimp only at hSw); go_simp; try with_reducible rfl)
      (try simp only [List.getElem_toArray, List.getElem_cons_zero, List.getElem_cons_succ, Act.put, List.setIfInBounds_toArray, List.set_cons_zero, List.set_cons_succ])
      refine wpAnyH_take (i := 6) (oi := _) (v := ?vc6) rfl (by kernel_rfl) (by kernel_rfl) (by kernel_rfl) (fun _ _ _ h => h) (Or.inl ⟨by rfl, ?hyc6⟩) (by assumption) ?restc6
      case hyc6 => (intro wz hSw; (try dsimp only at hSw); go_simp; try with_reducible rfl)
      (try simp only [List.getElem_toArray, List.getElem_cons_zero, List.getElem_cons_succ, Act.put, List.setIfInBounds_toArray, List.set_cons_zero, List.set_cons_succ])
      refine wpAnyH_take (i := 7) (oi := _) (v := ?vc7) rfl (by kernel_rfl) (by kernel_rfl) (by kernel_rfl) (fun _ _ _ h => h) (Or.inl ⟨by rfl, ?hyc7⟩) (by assumption) ?restc7
      case hyc7 => (intro wz hSw; (try dsimp only at hSw); go_simp; try with_reducible rfl)
      (try simp only [List.getElem_toArray, List.getElem_cons_zero, List.getElem_cons_succ, Act.put, List.setIfInBounds_toArray, List.set_cons_zero, List.set_cons_succ])
      refine wpAnyH_take (i := 8) (oi := _) (v := ?vc8) rfl (by kernel_rfl) (by kernel_rfl) (by kernel_rfl) (fun _ _ _ h => h) (Or.inl ⟨by rfl, ?hyc8⟩) (by assumption) ?restc8
      case hyc8 => (intro wz hSw; (try dsimp only at hSw); go_simp; try with_reducible rfl)
      (try simp only [List.getElem_toArray, List.getElem_cons_zero, List.getElem_cons_succ, Act.put, List.setIfInBounds_toArray, List.set_cons_zero, List.set_cons_succ])
      refine wpAnyH_take (i := 9) (oi := _) (v := ?vc9) rfl (by kernel_rfl) (by kernel_rfl) (by kernel_rfl) (fun _ _ _ h => h) (Or.inl ⟨by rfl, ?hyc9⟩) (by assumption) ?restc9
      case hyc9 => (intro wz hSw; (try dsimp only at hSw); go_simp; try with_reducible rfl)
      (try simp only [List.getElem_toArray, List.getElem_cons_zero, List.getElem_cons_succ, Act.put, List.setIfInBounds_toArray, List.set_cons_zero, List.set_cons_succ])
      refine wpAnyH_take (i := 10) (oi := _) (v := ?vc10) rfl (by kernel_rfl) (by kernel_rfl) (by kernel_rfl) (fun _ _ _ h => h) (Or.inl ⟨by rfl, ?hyc10⟩) (by assumption) ?restc10
      case hyc10 => (intro wz hSw; (try dsimp only at hSw); go_simp; try with_reducible rfl)
      (try simp only [List.getElem_toArray, List.getElem_cons_zero, List.getElem_cons_succ, Act.put, List.setIfInBounds_toArray, List.set_cons_zero, List.set_cons_succ])
      refine wpAnyH_take (i := 11) (oi := _) (v := ?vc11) rfl (by kernel_rfl) (by kernel_rfl) (by kernel_rfl) (fun _ _ _ h => h) (Or.inl ⟨by rfl, ?hyc11⟩) (by assumption) ?restc11
      case hyc11 => (intro wz hSw; (try dsimp only at hSw); go_simp; try with_reducible rfl)
      (try simp only [List.getElem_toArray, List.getElem_cons_zero, List.getElem_cons_succ, Act.put, List.setIfInBounds_toArray, List.set_cons_zero, List.set_cons_succ])
      refine wpAnyH_take (i := 12) (oi := _) (v := ?vc12) rfl (by kernel_rfl) (by kernel_rfl) (by kernel_rfl) (fun _ _ _ h => h) (Or.inl ⟨by rfl, ?hyc12⟩) (by assumption) ?restc12
      case hyc12 => (intro wz hSw; (try dsimp only at hSw); go_simp; try with_reducible rfl)
      (try simp only [List.getElem_toArray, List.getElem_cons_zero, List.getElem_cons_succ, Act.put, List.setIfInBounds_toArray, List.set_cons_zero, List.set_cons_succ])
      refine wpAnyH_take (i := 13) (oi := _) (v := ?vc13) rfl (by kernel_rfl) (by kernel_rfl) (by kernel_rfl) (fun _ _ _ h => h) (Or.inl ⟨by rfl, ?hyc13⟩) (by assumption) ?restc13
      case hyc13 => (intro wz hSw; (try dsimp only at hSw); go_simp; try with_reducible rfl)
      (try simp only [List.getElem_toArray, List.getElem_cons_zero, List.getElem_cons_succ, Act.put, List.setIfInBounds_toArray, List.set_cons_zero, List.set_cons_succ])
      refine wpAnyH_take (i := 14) (oi := _) (v := ?vc14) rfl (by kernel_rfl) (by kernel_rfl) (by kernel_rfl) (fun _ _ _ h => h) (Or.inl ⟨by rfl, ?hyc14⟩) (by assumption) ?restc14
      case hyc14 => (intro wz hSw; (try dsimp only at hSw); go_simp; try with_reducible rfl)
      (try simp only [List.getElem_toArray, List.getElem_cons_zero, List.getElem_cons_succ, Act.put, List.setIfInBounds_toArray, List.set_cons_zero, List.set_cons_succ])
      refine wpAnyH_ready (rs := [15]) (by kernel_rfl) (by simp) ?_
      refine AllReadyH.cons (o := _) rfl (fun K hK => ?_) AllReadyH.nil
      rw [if_pos (by rfl)]
      go_simp
      (with_reducible refine (HR.out _ HB1.out.drew.below).mono ?_); rintro e w2 ⟨rfl, hb⟩; have HB2 := Lib.hid (HB1.out.drew.later hb)
      dsimp only
      refine hK.out _ _ (by first | assumption | exact HB1.out.cell | exact HB1.out.drew.cell | exact (HB2.out).cell) (fun hHeld => ?_)
      clear hK K
      (try simp only [List.getElem_toArray, List.getElem_cons_zero, List.getElem_cons_succ, Act.put, List.setIfInBounds_toArray, List.set_cons_zero, List.set_cons_succ])
      refine wpAnyH_take (i := 16) (oi := _) (v := ?vc16) rfl (by kernel_rfl) (by kernel_rfl) (by kernel_rfl) (fun _ _ _ h => h) (Or.inl ⟨by rfl, ?hyc16⟩) (by assumption) ?restc16
      case hyc16 => (intro wz hSw; (try dsimp only at hSw); go_simp; try with_reducible rfl)
      (try simp only [List.getElem_toArray, List.getElem_cons_zero, List.getElem_cons_succ, Act.put, List.setIfInBounds_toArray, List.set_cons_zero, List.set_cons_succ])
      refine wpAnyH_take (i := 17) (oi := _) (v := ?vc17) rfl (by kernel_rfl) (by kernel_rfl) (by kernel_rfl) (fun _ _ _ h => h) (Or.inl ⟨by rfl, ?hyc17⟩) (by assumption) ?restc17
      case hyc17 => (intro wz hSw; (try dsimp only at hSw); go_simp; try with_reducible rfl)
      (try simp only [List.getElem_toArray, List.getElem_cons_zero, List.getElem_cons_succ, Act.put, List.setIfInBounds_toArray, List.set_cons_zero, List.set_cons_succ])
      refine wpAnyH_done (by kernel_rfl) ?_ _
      go_wp2
      go_ret
      exact ⟨rfl, HB2.out.below⟩
    · have hm3 : ((N : Int) % P == 0) = false := by simp; omega
      obtain rfl : false = R := hF fun h' => h2 (by have := hsz.1 h'.1; rw [hm2] at this; omega)
      clear hR hF h
      go_enter Tryz.func30, Tryz.ntmps30
      go_wp2_with fail
      refine wp_region_held_drew (S := fun W => W.cell? ⟨w.heap.size, 0, none⟩ = some (.slice a len cap)) (by kernel_rfl) (by first | assumption | exact HB1.out.cell | exact HB1.out.drew.cell | exact (HB2.out).cell) (fun hHeld => ?_)
      refine wpAnyH_take (i := 0) (oi := _) (v := ?vb0) rfl (by kernel_rfl) (by kernel_rfl) (by kernel_rfl) (fun _ _ _ h => h) (Or.inl ⟨by rfl, ?hyb0⟩) (by assumption) ?restb0
      case hyb0 => (intro wz hSw; (try dsimp only at hSw); go_simp; try with_reducible rfl)
      (try simp only [List.getElem_toArray, List.getElem_cons_zero, Act.put, List.setIfInBounds_toArray, List.set_cons_zero, List.set_cons_succ])
      refine wpAnyH_ready (rs := [1]) (by kernel_rfl) (by simp) ?_
      refine AllReadyH.cons (o := _) rfl (fun K hK => ?_) AllReadyH.nil
      rw [if_pos (by rfl)]
      go_simp
      (with_reducible refine (HW1.out _).mono ?_); rintro e w1 ⟨rfl, hw⟩; obtain rfl := hw.symm
      dsimp only
      refine hK.out _ _ (by first | assumption | exact HB1.out.cell | exact HB1.out.drew.cell | exact (HB2.out).cell) (fun hHeld => ?_)
      clear hK K
      (try simp only [List.getElem_toArray, List.getElem_cons_zero, List.getElem_cons_succ, Act.put, List.setIfInBounds_toArray, List.set_cons_zero, List.set_cons_succ])
      refine wpAnyH_take (i := 2) (oi := _) (v := ?vb2) rfl (by kernel_rfl) (by kernel_rfl) (by kernel_rfl) (fun _ _ _ h => h) (Or.inl ⟨by rfl, ?hyb2⟩) (by assumption) ?restb2
      case hyb2 => (intro wz hSw; (try dsimp only at hSw); go_simp; try with_reducible rfl)
      (try simp only [List.getElem_toArray, List.getElem_cons_zero, List.getElem_cons_succ, Act.put, List.setIfInBounds_toArray, List.set_cons_zero, List.set_cons_succ])
      refine wpAnyH_take (i := 3) (oi := _) (v := ?vb3) rfl (by kernel_rfl) (by kernel_rfl) (by kernel_rfl) (fun _ _ _ h => h) (Or.inl ⟨by rfl, ?hyb3⟩) (by assumption) ?restb3
      case hyb3 => (intro wz hSw; (try dsimp only at hSw); go_simp; try with_reducible rfl)
      (try simp only [List.getElem_toArray, List.getElem_cons_zero, List.getElem_cons_succ, Act.put, List.setIfInBounds_toArray, List.set_cons_zero, List.set_cons_succ])
      refine wpAnyH_take (i := 4) (oi := _) (v := ?vb4) rfl (by kernel_rfl) (by kernel_rfl) (by kernel_rfl) (fun _ _ _ h => h) (Or.inl ⟨by rfl, ?hyb4⟩) (by assumption) ?restb4
      case hyb4 => (intro wz hSw; (try dsimp only at hSw); go_simp; try with_reducible rfl)
      (try simp only [List.getElem_toArray, List.getElem_cons_zero, List.getElem_cons_succ, Act.put, List.setIfInBounds_toArray, List.set_cons_zero, List.set_cons_succ])
      refine wpAnyH_take (i := 5) (oi := _) (v := ?vb5) rfl (by kernel_rfl) (by kernel_rfl) (by kernel_rfl) (fun _ _ _ h => h) (Or.inl ⟨by rfl, ?hyb5⟩) (by assumption) ?restb5
      case hyb5 => (intro wz hSw; (try dsimp only at hSw); go_simp; try with_reducible rfl)
      (try simp only [List.getElem_toArray, List.getElem_cons_zero, List.getElem_cons_succ, Act.put, List.setIfInBounds_toArray, List.set_cons_zero, List.set_cons_succ])
      refine wpAnyH_take (i := 6) (oi := _) (v := ?vb6) rfl (by kernel_rfl) (by kernel_rfl) (by kernel_rfl) (fun _ _ _ h => h) (Or.inl ⟨by rfl, ?hyb6⟩) (by assumption) ?restb6
      case hyb6 => (intro wz hSw; (try dsimp only at hSw); go_simp; try with_reducible rfl)
      (try simp only [List.getElem_toArray, List.getElem_cons_zero, List.getElem_cons_succ, Act.put, List.setIfInBounds_toArray, List.set_cons_zero, List.set_cons_succ])
      refine wpAnyH_take (i := 7) (oi := _) (v := ?vb7) rfl (by kernel_rfl) (by kernel_rfl) (by kernel_rfl) (fun _ _ _ h => h) (Or.inl ⟨by rfl, ?hyb7⟩) (by assumption) ?restb7
      case hyb7 => (intro wz hSw; (try dsimp only at hSw); go_simp; try with_reducible rfl)
      (try simp only [List.getElem_toArray, List.getElem_cons_zero, List.getElem_cons_succ, Act.put, List.setIfInBounds_toArray, List.set_cons_zero, List.set_cons_succ])
      refine wpAnyH_take (i := 8) (oi := _) (v := ?vb8) rfl (by kernel_rfl) (by kernel_rfl) (by kernel_rfl) (fun _ _ _ h => h) (Or.inl ⟨by rfl, ?hyb8⟩) (by assumption) ?restb8
      case hyb8 => (intro wz hSw; (try dsimp only at hSw); go_simp; try with_reducible rfl)
      (try simp only [List.getElem_toArray, List.getElem_cons_zero, List.getElem_cons_succ, Act.put, List.setIfInBounds_toArray, List.set_cons_zero, List.set_cons_succ])
      refine wpAnyH_take (i := 9) (oi := _) (v := ?vb9) rfl (by kernel_rfl) (by kernel_rfl) (by kernel_rfl) (fun _ _ _ h => h) (Or.inl ⟨by rfl, ?hyb9⟩) (by assumption) ?restb9
      case hyb9 => (intro wz hSw; (try dsimp only at hSw); go_simp; try with_reducible rfl)
      (try simp only [List.getElem_toArray, List.getElem_cons_zero, List.getElem_cons_succ, Act.put, List.setIfInBounds_toArray, List.set_cons_zero, List.set_cons_succ])
      refine wpAnyH_take (i := 10) (oi := _) (v := undef) rfl (by kernel_rfl) (by kernel_rfl) (by kernel_rfl) (fun _ _ _ h => h) (Or.inr ⟨by rfl, rfl⟩) (by assumption) ?_
      (try simp only [List.getElem_toArray, List.getElem_cons_zero, List.getElem_cons_succ, Act.put, List.setIfInBounds_toArray, List.set_cons_zero, List.set_cons_succ])
      refine wpAnyH_take (i := 11) (oi := _) (v := undef) rfl (by kernel_rfl) (by kernel_rfl) (by kernel_rfl) (fun _ _ _ h => h) (Or.inr ⟨by rfl, rfl⟩) (by assumption) ?_
      (try simp only [List.getElem_toArray, List.getElem_cons_zero, List.getElem_cons_succ, Act.put, List.setIfInBounds_toArray, List.set_cons_zero, List.set_cons_succ])
      refine wpAnyH_take (i := 12) (oi := _) (v := undef) rfl (by kernel_rfl) (by kernel_rfl) (by kernel_rfl) (fun _ _ _ h => h) (Or.inr ⟨by rfl, rfl⟩) (by assumption) ?_
      (try simp only [List.getElem_toArray, List.getElem_cons_zero, List.getElem_cons_succ, Act.put, List.setIfInBounds_toArray, List.set_cons_zero, List.set_cons_succ])
      refine wpAnyH_take (i := 13) (oi := _) (v := undef) rfl (by kernel_rfl) (by kernel_rfl) (by kernel_rfl) (fun _ _ _ h => h) (Or.inr ⟨by rfl, rfl⟩) (by assumption) ?_
      (try simp only [List.getElem_toArray, List.getElem_cons_zero, List.getElem_cons_succ, Act.put, List.setIfInBounds_toArray, List.set_cons_zero, List.set_cons_succ])
      refine wpAnyH_take (i := 14) (oi := _) (v := undef) rfl (by kernel_rfl) (by kernel_rfl) (by kernel_rfl) (fun _ _ _ h => h) (Or.inr ⟨by rfl, rfl⟩) (by assumption) ?_
      (try simp only [List.getElem_toArray, List.getElem_cons_zero, List.getElem_cons_succ, Act.put, List.setIfInBounds_toArray, List.set_cons_zero, List.set_cons_succ])
      refine wpAnyH_take (i := 15) (oi := _) (v := undef) rfl (by kernel_rfl) (by kernel_rfl) (by kernel_rfl) (fun _ _ _ h => h) (Or.inr ⟨by rfl, rfl⟩) (by assumption) ?_
      (try simp only [List.getElem_toArray, List.getElem_cons_zero, List.getElem_cons_succ, Act.put, List.setIfInBounds_toArray, List.set_cons_zero, List.set_cons_succ])
      refine wpAnyH_take (i := 16) (oi := _) (v := ?vb16) rfl (by kernel_rfl) (by kernel_rfl) (by kernel_rfl) (fun _ _ _ h => h) (Or.inl ⟨by rfl, ?hyb16⟩) (by assumption) ?restb16
      case hyb16 => (intro wz hSw; (try dsimp only at hSw); go_simp; try with_reducible rfl)
      (try simp only [List.getElem_toArray, List.getElem_cons_zero, List.getElem_cons_succ, Act.put, List.setIfInBounds_toArray, List.set_cons_zero, List.set_cons_succ])
      refine wpAnyH_take (i := 17) (oi := _) (v := ?vb17) rfl (by kernel_rfl) (by kernel_rfl) (by kernel_rfl) (fun _ _ _ h => h) (Or.inl ⟨by rfl, ?hyb17⟩) (by assumption) ?restb17
      case hyb17 => (intro wz hSw; (try dsimp only at hSw); go_simp; try with_reducible rfl)
      (try simp only [List.getElem_toArray, List.getElem_cons_zero, List.getElem_cons_succ, Act.put, List.setIfInBounds_toArray, List.set_cons_zero, List.set_cons_succ])
      refine wpAnyH_done (by kernel_rfl) ?_ _
      go_wp2
      go_ret
      exact ⟨rfl, HB1.out.drew.below⟩
  · obtain rfl : false = R := hF fun h' => h1 ⟨h'.1.1, h'.1.2.1⟩
    have HW1 := Lib.hid (mWithin n 0 4096 (decide_eq_false h1))
    clear hR hF h
    go_enter Tryz.func30, Tryz.ntmps30
    go_wp2_with fail
    refine wp_region_held_drew (S := fun W => W.cell? ⟨w.heap.size, 0, none⟩ = some (.slice a len cap)) (by kernel_rfl) (by first | assumption | exact HB1.out.cell | exact HB1.out.drew.cell | exact (HB2.out).cell) (fun hHeld => ?_)
    refine wpAnyH_take (i := 0) (oi := _) (v := ?va0) rfl (by kernel_rfl) (by kernel_rfl) (by kernel_rfl) (fun _ _ _ h => h) (Or.inl ⟨by rfl, ?hya0⟩) (by assumption) ?resta0
    case hya0 => (intro wz hSw; (try dsimp only at hSw); go_simp; try with_reducible rfl)
    (try simp only [List.getElem_toArray, List.getElem_cons_zero, Act.put, List.setIfInBounds_toArray, List.set_cons_zero, List.set_cons_succ])
    refine wpAnyH_ready (rs := [1]) (by kernel_rfl) (by simp) ?_
    refine AllReadyH.cons (o := _) rfl (fun K hK => ?_) AllReadyH.nil
    rw [if_pos (by rfl)]
    go_simp
    (with_reducible refine (HW1.out _).mono ?_); rintro e w1 ⟨rfl, hw⟩; obtain rfl := hw.symm
    dsimp only
    refine hK.out _ _ (by first | assumption | exact HB1.out.cell | exact HB1.out.drew.cell | exact (HB2.out).cell) (fun hHeld => ?_)
    clear hK K
    (try simp only [List.getElem_toArray, List.getElem_cons_zero, List.getElem_cons_succ, Act.put, List.setIfInBounds_toArray, List.set_cons_zero, List.set_cons_succ])
    refine wpAnyH_take (i := 2) (oi := _) (v := ?va2) rfl (by kernel_rfl) (by kernel_rfl) (by kernel_rfl) (fun _ _ _ h => h) (Or.inl ⟨by rfl, ?hya2⟩) (by assumption) ?resta2
    case hya2 => (intro wz hSw; (try dsimp only at hSw); go_simp; try with_reducible rfl)
    (try simp only [List.getElem_toArray, List.getElem_cons_zero, List.getElem_cons_succ, Act.put, List.setIfInBounds_toArray, List.set_cons_zero, List.set_cons_succ])
    refine wpAnyH_take (i := 3) (oi := _) (v := undef) rfl (by kernel_rfl) (by kernel_rfl) (by kernel_rfl) (fun _ _ _ h => h) (Or.inr ⟨by rfl, rfl⟩) (by assumption) ?_
    (try simp only [List.getElem_toArray, List.getElem_cons_zero, List.getElem_cons_succ, Act.put, List.setIfInBounds_toArray, List.set_cons_zero, List.set_cons_succ])
    refine wpAnyH_take (i := 4) (oi := _) (v := undef) rfl (by kernel_rfl) (by kernel_rfl) (by kernel_rfl) (fun _ _ _ h => h) (Or.inr ⟨by rfl, rfl⟩) (by assumption) ?_
    (try simp only [List.getElem_toArray, List.getElem_cons_zero, List.getElem_cons_succ, Act.put, List.setIfInBounds_toArray, List.set_cons_zero, List.set_cons_succ])
    refine wpAnyH_take (i := 5) (oi := _) (v := undef) rfl (by kernel_rfl) (by kernel_rfl) (by kernel_rfl) (fun _ _ _ h => h) (Or.inr ⟨by rfl, rfl⟩) (by assumption) ?_
    (try simp only [List.getElem_toArray, List.getElem_cons_zero, List.getElem_cons_succ, Act.put, List.setIfInBounds_toArray, List.set_cons_zero, List.set_cons_succ])
    refine wpAnyH_take (i := 6) (oi := _) (v := undef) rfl (by kernel_rfl) (by kernel_rfl) (by kernel_rfl) (fun _ _ _ h => h) (Or.inr ⟨by rfl, rfl⟩) (by assumption) ?_
    (try simp only [List.getElem_toArray, List.getElem_cons_zero, List.getElem_cons_succ, Act.put, List.setIfInBounds_toArray, List.set_cons_zero, List.set_cons_succ])
    refine wpAnyH_take (i := 7) (oi := _) (v := undef) rfl (by kernel_rfl) (by kernel_rfl) (by kernel_rfl) (fun _ _ _ h => h) (Or.inr ⟨by rfl, rfl⟩) (by assumption) ?_
    (try simp only [List.getElem_toArray, List.getElem_cons_zero, List.getElem_cons_succ, Act.put, List.setIfInBounds_toArray, List.set_cons_zero, List.set_cons_succ])
    refine wpAnyH_take (i := 8) (oi := _) (v := ?va8) rfl (by kernel_rfl) (by kernel_rfl) (by kernel_rfl) (fun _ _ _ h => h) (Or.inl ⟨by rfl, ?hya8⟩) (by assumption) ?resta8
    case hya8 => (intro wz hSw; (try dsimp only at hSw); go_simp; try with_reducible rfl)
    (try simp only [List.getElem_toArray, List.getElem_cons_zero, List.getElem_cons_succ, Act.put, List.setIfInBounds_toArray, List.set_cons_zero, List.set_cons_succ])
    refine wpAnyH_take (i := 9) (oi := _) (v := ?va9) rfl (by kernel_rfl) (by kernel_rfl) (by kernel_rfl) (fun _ _ _ h => h) (Or.inl ⟨by rfl, ?hya9⟩) (by assumption) ?resta9
    case hya9 => (intro wz hSw; (try dsimp only at hSw); go_simp; try with_reducible rfl)
    (try simp only [List.getElem_toArray, List.getElem_cons_zero, List.getElem_cons_succ, Act.put, List.setIfInBounds_toArray, List.set_cons_zero, List.set_cons_succ])
    refine wpAnyH_take (i := 10) (oi := _) (v := undef) rfl (by kernel_rfl) (by kernel_rfl) (by kernel_rfl) (fun _ _ _ h => h) (Or.inr ⟨by rfl, rfl⟩) (by assumption) ?_
    (try simp only [List.getElem_toArray, List.getElem_cons_zero, List.getElem_cons_succ, Act.put, List.setIfInBounds_toArray, List.set_cons_zero, List.set_cons_succ])
    refine wpAnyH_take (i := 11) (oi := _) (v := undef) rfl (by kernel_rfl) (by kernel_rfl) (by kernel_rfl) (fun _ _ _ h => h) (Or.inr ⟨by rfl, rfl⟩) (by assumption) ?_
    (try simp only [List.getElem_toArray, List.getElem_cons_zero, List.getElem_cons_succ, Act.put, List.setIfInBounds_toArray, List.set_cons_zero, List.set_cons_succ])
    refine wpAnyH_take (i := 12) (oi := _) (v := undef) rfl (by kernel_rfl) (by kernel_rfl) (by kernel_rfl) (fun _ _ _ h => h) (Or.inr ⟨by rfl, rfl⟩) (by assumption) ?_
    (try simp only [List.getElem_toArray, List.getElem_cons_zero, List.getElem_cons_succ, Act.put, List.setIfInBounds_toArray, List.set_cons_zero, List.set_cons_succ])
    refine wpAnyH_take (i := 13) (oi := _) (v := undef) rfl (by kernel_rfl) (by kernel_rfl) (by kernel_rfl) (fun _ _ _ h => h) (Or.inr ⟨by rfl, rfl⟩) (by assumption) ?_
    (try simp only [List.getElem_toArray, List.getElem_cons_zero, List.getElem_cons_succ, Act.put, List.setIfInBounds_toArray, List.set_cons_zero, List.set_cons_succ])
    refine wpAnyH_take (i := 14) (oi := _) (v := undef) rfl (by kernel_rfl) (by kernel_rfl) (by kernel_rfl) (fun _ _ _ h => h) (Or.inr ⟨by rfl, rfl⟩) (by assumption) ?_
    (try simp only [List.getElem_toArray, List.getElem_cons_zero, List.getElem_cons_succ, Act.put, List.setIfInBounds_toArray, List.set_cons_zero, List.set_cons_succ])
    refine wpAnyH_take (i := 15) (oi := _) (v := undef) rfl (by kernel_rfl) (by kernel_rfl) (by kernel_rfl) (fun _ _ _ h => h) (Or.inr ⟨by rfl, rfl⟩) (by assumption) ?_
    (try simp only [List.getElem_toArray, List.getElem_cons_zero, List.getElem_cons_succ, Act.put, List.setIfInBounds_toArray, List.set_cons_zero, List.set_cons_succ])
    refine wpAnyH_take (i := 16) (oi := _) (v := ?va16) rfl (by kernel_rfl) (by kernel_rfl) (by kernel_rfl) (fun _ _ _ h => h) (Or.inl ⟨by rfl, ?hya16⟩) (by assumption) ?resta16
    case hya16 => (intro wz hSw; (try dsimp only at hSw); go_simp; try with_reducible rfl)
    (try simp only [List.getElem_toArray, List.getElem_cons_zero, List.getElem_cons_succ, Act.put, List.setIfInBounds_toArray, List.set_cons_zero, List.set_cons_succ])
    refine wpAnyH_take (i := 17) (oi := _) (v := ?va17) rfl (by kernel_rfl) (by kernel_rfl) (by kernel_rfl) (fun _ _ _ h => h) (Or.inl ⟨by rfl, ?hya17⟩) (by assumption) ?resta17
    case hya17 => (intro wz hSw; (try dsimp only at hSw); go_simp; try with_reducible rfl)
    (try simp only [List.getElem_toArray, List.getElem_cons_zero, List.getElem_cons_succ, Act.put, List.setIfInBounds_toArray, List.set_cons_zero, List.set_cons_succ])
    refine wpAnyH_done (by kernel_rfl) ?_ _
    go_wp2
    go_ret
    exact ⟨rfl, HB1.out.drew.below⟩
end Go.Proofs.YtdffgnpldapciaaGreatDoor
namespace Go.Proofs.YtdffgnpldapciaaGreatDoor
open Go.RowKit
set_option linter.unusedVariables false

def tsV (s : ByteArray) : List Value := [.string s]
theorem ts_rowed : Rowed Tryz.prog 106 9 1 16 tsV where
  under := Tryz.underlying106
  info := by
    have h : (Tryz.prog.info? 9).map (fun i => (i.zero.map (fun z => z.cells.size), i.size, i.bytes)) = some (some 1, 1, 16) := by kernel_rfl
    obtain ⟨i, hi, he⟩ := Option.map_eq_some_iff.1 h
    simp only [Prod.mk.injEq] at he
    obtain ⟨z, hz, hzs⟩ := Option.map_eq_some_iff.1 he.1
    exact ⟨i, z, hi, hz, he.2.1, he.2.2, hzs⟩
  pos := by decide
  small := by decide
  len := fun _ => rfl
  one := fun d u hu => by
    simp only [tsV, List.mem_cons, List.not_mem_nil, or_false] at hu
    subst hu
    rfl
theorem ts_cell {w : World} {a : Option Addr} {n : Nat} {L : List ByteArray} (h : Reads tsV w a n L) (i : Nat) (hi : i < n) : ∃ b off s, a = some ⟨b, off, none⟩ ∧ b < w.heap.size ∧ w.cell? ⟨b, off + i, none⟩ = some (.string s) ∧ L[i]? = some s := by
  obtain ⟨b, off, rfl⟩ := h.lies (by omega)
  have hl := h.1
  have hx : L[i]? = some L[i] := List.getElem?_eq_getElem (by omega)
  have := h.cellAt ts_rowed i 0 _ _ hx rfl
  rw [Nat.mul_one, Nat.add_zero] at this
  exact ⟨b, off, _, rfl, block_lt_of_cell this, this, hx⟩
set_option maxHeartbeats 1600000 in
theorem index_ts {w : World} {a : Option Addr} {n : Nat} (c : Nat) {L : List ByteArray} (h : Reads tsV w a n L) (hn : n ≤ 1000) (y : ByteArray) :
    Calls Tryz.prog 92 #[.slice a n c, .string y] w fun e w' => (∃ i : Int, e = .returned (.int .i64 i) ∧ (0 ≤ i ↔ y ∈ L)) ∧ Below w.heap.size w w' := by
  have hL : L.length = n := h.1
  have HO := Lib.hid h
  clear h
  go_enter Tryz.func92, Tryz.ntmps92
  go_wp2
  go_loopw [8] (fun i wr => ∃ j : Nat, j ≤ n ∧ i = .int .i64 j ∧ Hid (Below w.heap.size w wr) ∧ Hid (∀ x ∈ L.take j, y ≠ x)) (fun i _ => n - (intOf i).toNat)
  case atStart => exact ⟨0, Nat.zero_le _, rfl, Below.refl _ _, fun x hx => by simp at hx⟩
  case round =>
    obtain ⟨j, hj, rfl, HB, HA⟩ := hrel
    by_cases hlt : j < n
    · obtain ⟨b, off, r, rfl, hbl, cj, hr⟩ := ts_cell (HO.out.later HB.out) j hlt
      have HRR := Lib.hid hr
      clear hr
      by_cases hq : y = r
      · have hse := str_yes hq
        have HP := Lib.hid hq
        clear hq
        go_wp2
        go_ret
        exact ⟨⟨j, rfl, fun _ => HP.out ▸ List.mem_of_getElem? HRR.out, fun _ => Int.natCast_nonneg _⟩, HB.out⟩
      · have hse := str_no hq
        have HP := Lib.hid hq
        clear hq
        go_wp2
        go_roundw
        case rel =>
          refine ⟨j + 1, by omega, by go_num, HB.out, fun x hx => ?_⟩
          rw [List.take_add_one, HRR.out] at hx
          rcases List.mem_append.1 hx with hx | hx
          · exact HA.out x hx
          · simp at hx
            rw [hx]
            exact HP.out
        case measure => simp [intOf]; omega
    · obtain rfl : j = n := by omega
      go_wp2
      go_ret
      refine ⟨⟨-1, rfl, fun h => by omega, fun hx => ?_⟩, HB.out⟩
      have := HA.out y (by rw [List.take_of_length_le (by omega)]; exact hx)
      exact absurd rfl this
theorem contains_ts {w : World} {a : Option Addr} {n : Nat} (c : Nat) {L : List ByteArray} (h : Reads tsV w a n L) (hn : n ≤ 1000) (y : ByteArray) {R : Bool} (hR : R = true ↔ y ∈ L) :
    Calls Tryz.prog 79 #[.slice a n c, .string y] w fun e w' => e = .returned (.bool R) ∧ Below w.heap.size w w' := by
  have HI := Lib.hid (index_ts c h hn y)
  clear h
  go_enter Tryz.func79, Tryz.ntmps79
  go_wp2_with (go_at_call 92; refine HI.out.mono ?_; rintro e w' ⟨⟨i, rfl, hi⟩, hb⟩; have HQ := Lib.hid hi; have HB := Lib.hid hb; clear hi hb)
  go_ret
  refine ⟨?_, HB.out⟩
  have : decide (0 ≤ i) = R := by
    rw [Bool.eq_iff_iff, hR]
    simpa using HQ.out
  simp [this]
theorem string_size : (Tryz.prog.info? 9).map (·.size) = some 1 := by kernel_rfl
theorem slice_ts {b o n c k : Nat} (h1 : k ≤ c) (w' : World) : (Instr.slice 106 (.slice (some ⟨b, o, none⟩) n c) none (some (.int .i64 k)) none).run Tryz.prog w' = .ok (.slice (some ⟨b, o, none⟩) k c) w' := by
  obtain ⟨i0, hi0, _⟩ := Option.map_eq_some_iff.1 string_size
  simp [Instr.slice, Instr.sliceBounds, Instr.sliceBound, asIntOf, run_underlying Tryz.underlying106, sizeOf, typeInfo, hi0, h1, Addr.add, go_sem]
theorem Reads.frontTs {w : World} {b off n : Nat} {L : List ByteArray} (h : Reads tsV w (some ⟨b, off, none⟩) n L) (k : Nat) (hk : k ≤ n) : Reads tsV w (some ⟨b, off, none⟩) k (L.take k) := by
  obtain ⟨h1, h2, h3⟩ := h
  refine ⟨by rw [List.length_take]; omega, by omega, ?_⟩
  by_cases hz : k = 0
  · exact Or.inl hz
  · obtain ⟨b', off', e, hlt, hc⟩ := h3.resolve_left (by omega)
    cases e
    refine Or.inr ⟨b, off, rfl, hlt, fun j u hu => hc j u ?_⟩
    have e1 : ∀ M : List ByteArray, M.flatMap tsV = M.map Value.string := fun M => by
      induction M with
      | nil => rfl
      | cons x r ih => rw [List.flatMap_cons, ih]; rfl
    rw [e1] at hu ⊢
    rw [List.map_take, List.getElem?_take] at hu
    by_cases hjk : j < k
    · rwa [if_pos hjk] at hu
    · rw [if_neg hjk] at hu
      cases hu
/-- Names, each unlike those ahead of it. -/
def namesOk (L : List ByteArray) : Prop := ∀ i s, L[i]? = some s → nameOk s ∧ s ∉ L.take i
def namesTo (L : List ByteArray) (j : Nat) : Prop := ∀ i, i < j → ∀ s, L[i]? = some s → nameOk s ∧ s ∉ L.take i
set_option maxRecDepth 100000 in
set_option maxHeartbeats 1600000 in
theorem mNames {w : World} {a : Option Addr} {n c : Nat} {L : List ByteArray} (h : Reads tsV w a n L) (hn : n ≤ 1000) (hcap : n ≤ c) (hnil : a = none → c = 0) (hsz : ∀ s ∈ L, s.size ≤ 9223372036854775807) {R : Bool} (hR : R = true ↔ namesOk L) :
    Calls Tryz.prog 54 #[.slice a n c] w fun e w' => e = .returned (.bool R) ∧ Below w.heap.size w w' := by
  have hL : L.length = n := h.1
  have HO := Lib.hid h
  have HSZ := Lib.hid hsz
  have HRR := Lib.hid hR
  have HNO : Hid (∀ i s, L[i]? = some s → ¬ (nameOk s ∧ s ∉ L.take i) → false = R) := fun i s hs hno => by
    cases R with
    | false => rfl
    | true => exact absurd (hR.1 rfl i s hs) hno
  clear h hsz hR
  go_enter Tryz.func54, Tryz.ntmps54
  go_wp2
  go_loopw [7] (fun i wr => ∃ j : Nat, j ≤ n ∧ i = .int .i64 j ∧ Hid (Below w.heap.size w wr) ∧ Hid (namesTo L j)) (fun i _ => n - (intOf i).toNat)
  case atStart => exact ⟨0, Nat.zero_le _, rfl, Below.refl _ _, fun i hi => by omega⟩
  case round =>
    obtain ⟨j, hj, rfl, HB, HA⟩ := hrel
    by_cases hlt : j < n
    · obtain ⟨b, off, s, rfl, hbl, cj, hs⟩ := ts_cell (HO.out.later HB.out) j hlt
      have HS := Lib.hid hs
      have hsl : ∀ w', (Instr.slice 106 (.slice (some ⟨b, off, none⟩) n c) none (some (.int .i64 j)) none).run Tryz.prog w' = .ok (.slice (some ⟨b, off, none⟩) j c) w' := fun w' => slice_ts (by omega) w'
      have HF := Lib.hid ((HO.out.later HB.out).frontTs j hj)
      have hsz := HSZ.out s (List.mem_of_getElem? hs)
      by_cases h1 : nameOk s
      · have HN1 := Lib.hid (fun w => shotsName s hsz (decide_eq_true h1) w)
        by_cases h2 : s ∈ L.take j
        · obtain rfl := HNO.out j s hs (fun h => h.2 h2)
          have HC := Lib.hid (contains_ts c HF.out (by omega) s (R := true) ⟨fun _ => h2, fun _ => rfl⟩)
          clear hs h1 h2
          go_wp2_with (first
            | (go_at_call 31; (with_reducible refine (HN1.out _).mono ?_); rintro e w2 ⟨rfl, hw⟩; obtain rfl := hw.symm)
            | (go_at_call 79; (with_reducible refine HC.out.mono ?_); rintro e w3 ⟨rfl, hb⟩; have HB3 := Lib.hid (HB.out.trans (hb.mono HB.out.size)); clear hb))
          go_ret
          exact ⟨rfl, HB3.out⟩
        · have HC := Lib.hid (contains_ts c HF.out (by omega) s (R := false) ⟨fun e => Bool.noConfusion e, fun h => absurd h h2⟩)
          have HA2 : Hid (namesTo L (j + 1)) := fun i hi s' hs' => by
            by_cases e : i = j
            · subst e
              have := hs.symm.trans hs'
              cases this
              exact ⟨h1, h2⟩
            · exact HA.out i (by omega) s' hs'
          clear hs h1 h2
          go_wp2_with (first
            | (go_at_call 31; (with_reducible refine (HN1.out _).mono ?_); rintro e w2 ⟨rfl, hw⟩; obtain rfl := hw.symm)
            | (go_at_call 79; (with_reducible refine HC.out.mono ?_); rintro e w3 ⟨rfl, hb⟩; have HB3 := Lib.hid (HB.out.trans (hb.mono HB.out.size)); clear hb))
          go_roundw
          case rel => exact ⟨j + 1, by omega, by go_num, HB3.out, HA2.out⟩
          case measure => simp [intOf]; omega
      · obtain rfl := HNO.out j s hs (fun h => h1 h.1)
        have HN1 := Lib.hid (fun w => shotsName s hsz (decide_eq_false h1) w)
        clear hs h1
        go_wp2_with (first
          | (go_at_call 31; (with_reducible refine (HN1.out _).mono ?_); rintro e w2 ⟨rfl, hw⟩; obtain rfl := hw.symm))
        go_ret
        exact ⟨rfl, HB.out⟩
    · obtain rfl : j = n := by omega
      have hr : true = R := (HRR.out.2 fun i s hs => HA.out i (by have := (List.getElem?_eq_some_iff.1 hs).1; omega) s hs).symm
      subst hr
      go_wp2
      go_ret
      exact ⟨rfl, HB.out⟩
end Go.Proofs.YtdffgnpldapciaaGreatDoor
namespace Go.Proofs.YtdffgnpldapciaaGreatDoor
open Go.RowKit
set_option linter.unusedVariables false

def setOk (l : List Sp) : Prop := Rt (-1) l ∧ (0 < l.length → (spAt l (l.length - 1)).2 ≤ 4096)
set_option maxRecDepth 100000 in
set_option maxHeartbeats 1600000 in
theorem mSet {w : World} {a : Option Addr} {n c : Nat} {l : List Sp} (h : SpD w a n c l) {R : Bool} (hR : R = true ↔ setOk l) : Calls Tryz.prog 55 #[.slice a n c] w fun e w' => e = .returned (.bool R) ∧ Below w.heap.size w w' := by
  have hl : l.length = n := h.1.1
  have hn := h.2.2.1
  have HL := Lib.hid h.1
  by_cases h1 : Rt (-1) l
  · have HP := Lib.hid (fun (W : World) (hb : Below w.heap.size w W) => spanRight_is a n c l W (h.1.later hb) (by omega) true (decide_eq_true h1))
    have HR0 := Lib.hid (Below.refl w.heap.size w)
    by_cases h0 : n = 0
    · subst h0
      have hr : true = R := (hR.2 ⟨h1, fun h => by omega⟩).symm
      subst hr
      clear h hR h1
      go_enter Tryz.func55, Tryz.ntmps55
      go_wp2_with (first
        | (go_at_call 80; (with_reducible refine (HP.out _ HR0.out).mono ?_); rintro e w2 ⟨rfl, hb⟩; have HB := Lib.hid hb; clear hb))
      go_ret
      exact ⟨rfl, HB.out⟩
    · obtain ⟨b, off, rfl⟩ := h.1.lies (by omega)
      obtain ⟨_, hc⟩ := span_cells h.1 (n - 1) (by omega)
      have hlt : b < w.heap.size := block_lt_of_cell hc
      have hcell : Hid (∀ W, Below w.heap.size w W → W.cell? ⟨b, off + (n - 1) * 2 + 1, none⟩ = some (.int .i64 (spAt l (n - 1)).2)) := fun W hb => (hb.cell (p := ⟨b, off + (n - 1) * 2 + 1, none⟩) hlt).trans hc
      have hw1 : wrap64 ((n : Int) - 1) = ((n - 1 : Nat) : Int) := by unfold wrap64; omega
      have hpn : n - 1 < n := by omega
      obtain ⟨t, ht⟩ := named (spAt l (n - 1)).2
      rw [ht.out] at hcell
      have hr : decide (t ≤ 4096) = R := by
        rw [Bool.eq_iff_iff, hR, decide_eq_true_iff]
        unfold setOk
        rw [hl, ht.out]
        exact ⟨fun h => ⟨h1, fun _ => h⟩, fun h => h.2 (by omega)⟩
      have hn0 : ((n : Int) == 0) = false := by simp [h0]
      clear h hR h1 hc
      go_enter Tryz.func55, Tryz.ntmps55
      go_wp2_with (first
        | (go_at_call 80; (with_reducible refine (HP.out _ HR0.out).mono ?_); rintro e w2 ⟨rfl, hb⟩; have HB := Lib.hid hb; have k0 := hcell.out _ hb; clear hb))
      go_ret
      exact ⟨by first | rfl | exact ret_bool hr, HB.out⟩
  · have HP := Lib.hid (fun (W : World) (hb : Below w.heap.size w W) => spanRight_is a n c l W (h.1.later hb) (by omega) false (decide_eq_false h1))
    have HR0 := Lib.hid (Below.refl w.heap.size w)
    have hr : false = R := by
      cases R with
      | false => rfl
      | true => exact absurd (hR.1 rfl).1 h1
    subst hr
    clear h hR h1
    go_enter Tryz.func55, Tryz.ntmps55
    go_wp2_with (first
      | (go_at_call 80; (with_reducible refine (HP.out _ HR0.out).mono ?_); rintro e w2 ⟨rfl, hb⟩; have HB := Lib.hid hb; clear hb))
    go_ret
    exact ⟨rfl, HB.out⟩
def cntsOk (K : List Int) : Prop := K.length ≤ 65536 ∧ ∀ k ∈ K, 0 ≤ k ∧ k ≤ 65535
set_option maxHeartbeats 1600000 in
theorem mCounts {w : World} {a : Option Addr} {n c : Nat} {K : List Int} (h : IntsD w a n c K) {R : Bool} (hR : R = true ↔ cntsOk K) : Calls Tryz.prog 34 #[.slice a n c] w fun e w' => e = .returned (.bool R) ∧ Below w.heap.size w w' := by
  have hl : K.length = n := h.1.1
  have hn := h.2.2
  have HR0 := Lib.hid (Below.refl w.heap.size w)
  by_cases h6 : 65536 < n
  · have hr : false = R := by
      cases R with
      | false => rfl
      | true => have := (hR.1 rfl).1; omega
    subst hr
    clear h hR
    go_enter Tryz.func34, Tryz.ntmps34
    go_wp2
    go_ret
    exact ⟨rfl, HR0.out⟩
  · have HD := Lib.hid h.1
    have HNO : Hid (∀ k ∈ K, ¬ (0 ≤ k ∧ k ≤ 65535) → false = R) := fun k hk hno => by
      cases R with
      | false => rfl
      | true => exact absurd ((hR.1 rfl).2 k hk) hno
    have HYES : Hid ((∀ k ∈ K, 0 ≤ k ∧ k ≤ 65535) → true = R) := fun hy => (hR.2 ⟨by omega, hy⟩).symm
    clear h hR
    go_enter Tryz.func34, Tryz.ntmps34
    go_wp2
    go_loopw [10] (fun i wr => ∃ j : Nat, j ≤ n ∧ i = .int .i64 j ∧ Hid (Below w.heap.size w wr) ∧ Hid (∀ i, i < j → ∀ k, K[i]? = some k → 0 ≤ k ∧ k ≤ 65535)) (fun i _ => n - (intOf i).toNat)
    case atStart => exact ⟨0, Nat.zero_le _, rfl, Below.refl _ _, fun i hi => by omega⟩
    case round =>
      obtain ⟨j, hj, rfl, HB, HA⟩ := hrel
      by_cases hlt : j < n
      · obtain ⟨b, off, e1, cj, hk⟩ := iv_cell (HD.out.later HB.out) j hlt
        subst e1
        obtain ⟨k, hkk⟩ := named (ivAt K j)
        rw [hkk.out] at cj hk
        have HK := Lib.hid hk
        by_cases hok : 0 ≤ k ∧ k ≤ 65535
        · have HW := Lib.hid (mWithin k 0 65535 (decide_eq_true hok))
          have HA2 : Hid (∀ i, i < j + 1 → ∀ k, K[i]? = some k → 0 ≤ k ∧ k ≤ 65535) := fun i hi k' hk' => by
            by_cases e : i = j
            · subst e
              have := hk.symm.trans hk'
              cases this
              exact hok
            · exact HA.out i (by omega) k' hk'
          clear hk hok
          go_wp2_with (first
            | (go_at_call 29; (with_reducible refine (HW.out _).mono ?_); rintro e w2 ⟨rfl, hw⟩; obtain rfl := hw.symm))
          go_roundw
          case rel => exact ⟨j + 1, by omega, by go_num, HB.out, HA2.out⟩
          case measure => simp [intOf]; omega
        · have HW := Lib.hid (mWithin k 0 65535 (decide_eq_false hok))
          obtain rfl := HNO.out k (List.mem_of_getElem? hk) hok
          clear hk hok
          go_wp2_with (first
            | (go_at_call 29; (with_reducible refine (HW.out _).mono ?_); rintro e w2 ⟨rfl, hw⟩; obtain rfl := hw.symm))
          go_ret
          exact ⟨rfl, HB.out⟩
      · obtain rfl : j = n := by omega
        obtain rfl := HYES.out fun k hk => by
          obtain ⟨i, hi⟩ := List.getElem?_of_mem hk
          exact HA.out i (by have := (List.getElem?_eq_some_iff.1 hi).1; omega) k hi
        go_wp2
        go_ret
        exact ⟨rfl, HB.out⟩
end Go.Proofs.YtdffgnpldapciaaGreatDoor
namespace Go.Proofs.YtdffgnpldapciaaGreatDoor
open Go.RowKit
set_option linter.unusedVariables false

theorem append_lg {α : Type} {P : Program} {t e : TypeId} {sz bytes : Nat} {cv : α → List Value} (R : Rowed P t e sz bytes cv) {ops : Array Oper} {rest : List Oper} {o : Oper} {a : Act} {w : World} {Q : Exit → Act → World → Prop} (hgd : o.guard = Option.none) (s x : Operand)
    (ho : o.op = .call { callee := .builtin .append, args := #[s, x], argTypes := #[t, t] }) (base : Nat) (v : Value) (n : Nat) (xs : List α) (hs : a.eval s = v) (hown : OwnG cv e sz w base v n xs)
    (ao : Option Addr) (m c : Nat) (l : List α) (hx : a.eval x = .slice ao m c) (hnil : ao = Option.none → c = 0) (hB : Reads cv w ao m l) (hn : n + m ≤ 10000000) (hbase : base ≤ w.heap.size)
    (h : ∀ a' c' w', OwnG cv e sz w' base (.slice a' (n + m) c') (n + m) (xs ++ l) → w.grownBy w' v.ownBlock → ((Value.slice a' (n + m) c').ownBlock = v.ownBlock ∨ (Value.slice a' (n + m) c').ownBlock = some w.heap.size) → wpList P ops Q rest (a.put o.dst (.slice a' (n + m) c')) w') : wpList P ops Q (o :: rest) a w :=
  wpList_plain hgd fun K hK => wp_append_lg R s x ho base v n xs hs hown ao m c l hx hnil hB hn hbase fun a' c' w' h1 h2 h3 => hK _ _ (h a' c' w' h1 h2 h3)
def mapsOk (B : List BmM) : Prop := B.length ≤ 8 ∧ (∀ (i : Nat) (b : BmM), B[i]? = some b → setOk b.2.2) ∧ namesOk (B.map (·.1))
set_option maxRecDepth 100000 in
set_option maxHeartbeats 1600000 in
theorem mMaps {w : World} {a : Option Addr} {n c : Nat} {B : List BmM} (h : BmsD w a n c B) {R : Bool} (hR : R = true ↔ mapsOk B) : Calls Tryz.prog 33 #[.slice a n c] w fun e w' => e = .returned (.bool R) ∧ Below w.heap.size w w' := by
  obtain ⟨hl, hn⟩ := h.lens
  have HR0 := Lib.hid (Below.refl w.heap.size w)
  skip
  by_cases h6 : 8 < n
  · have hr : false = R := by
      cases R with
      | false => rfl
      | true => have := (hR.1 rfl).1; omega
    subst hr
    clear h hR
    go_enter Tryz.func33, Tryz.ntmps33
    go_wp2
    go_ret
    exact ⟨rfl, HR0.out⟩
  · have HD := Lib.hid h
    have HNO : Hid (∀ (i : Nat) (b : BmM), B[i]? = some b → ¬ setOk b.2.2 → false = R) := fun i b hb hno => by
      cases R with
      | false => rfl
      | true => exact absurd ((hR.1 rfl).2.1 i b hb) hno
    have HYES : Hid ((∀ (i : Nat) (b : BmM), B[i]? = some b → setOk b.2.2) → (R = true ↔ namesOk (B.map (·.1)))) := fun hy => hR.trans ⟨fun h => h.2.2, fun h => ⟨by omega, hy, h⟩⟩
    have HSZ : Hid (∀ s ∈ B.map (·.1), s.size ≤ 9223372036854775807) := fun s hs => by
      obtain ⟨x, hx, rfl⟩ := List.mem_map.1 hs
      obtain ⟨i, hi⟩ := List.getElem?_of_mem hx
      obtain ⟨_, _, nm, on, _, _, _, l, _, hBj, _, hnm, _⟩ := h.at i (by have := (List.getElem?_eq_some_iff.1 hi).1; omega)
      have := hi.symm.trans hBj
      cases this
      exact hnm
    clear h hR 
    go_enter Tryz.func33, Tryz.ntmps33
    go_wp2
    go_loopw [3, 11] (fun l i wr => ∃ (j : Nat) (a' : Option Addr) (c' : Nat), j ≤ n ∧ l = .slice a' j c' ∧ i = .int .i64 j ∧ Hid (Below w.heap.size w wr) ∧ Hid (OwnG tsV 9 1 wr w.heap.size (.slice a' j c') j ((B.map (·.1)).take j)) ∧ Hid (∀ i, i < j → ∀ (b : BmM), B[i]? = some b → setOk b.2.2)) (fun _ i _ => n - (intOf i).toNat)
    case atStart => exact ⟨0, none, 0, Nat.zero_le _, rfl, rfl, Below.refl _ _, OwnG.none _ _ _ _ _, fun i hi => by omega⟩
    case round =>
      obtain ⟨j, a', c', hj, rfl, rfl, HB, HO, HA⟩ := hrel
      by_cases hlt : j < n
      · obtain ⟨b, off, nm, on, al, ll, cl, l, rfl, hBj, hbl, hnm, x0, x1, x2, hs⟩ := (HD.out.later HB.out).at j hlt
        have HBJ := Lib.hid hBj
        have HK1 : Hid (Blk (wr.alloc (.cells #[.string nm, .bool on, .slice al ll cl] 57)) wr.heap.size 57 #[.string nm, .bool on, .slice al ll cl]) := Blk.new _ _ _
        have HB1 := Lib.hid (HB.out.alloc HB.out.size (.cells #[.string nm, .bool on, .slice al ll cl] 57))
        have HO1 := Lib.hid (HO.out.alloc (.cells #[.string nm, .bool on, .slice al ll cl] 57))
        by_cases hok : setOk l
        · have HC := Lib.hid (mSet (hs.later ((Below.refl _ _).alloc (Nat.le_refl _) (.cells #[.string nm, .bool on, .slice al ll cl] 57))) (R := true) (⟨fun _ => hok, fun _ => rfl⟩))
          have HA2 : Hid (∀ i, i < j + 1 → ∀ (b : BmM), B[i]? = some b → setOk b.2.2) := fun i hi b' hb' => by
            by_cases e : i = j
            · subst e
              have := hBj.symm.trans hb'
              cases this
              exact hok
            · exact HA.out i (by omega) b' hb'
          have HT : Hid ((B.map (·.1)).take (j + 1) = (B.map (·.1)).take j ++ [nm]) := by
            rw [Hid, List.take_add_one, List.getElem?_map, hBj]
            rfl
          have hj10 : j + 1 ≤ 10000000 := by omega
          clear hs hBj hok
          go_wp2_with (first
            | (go_at_call 55; (with_reducible refine HC.out.mono ?_); rintro e w2 ⟨rfl, hb⟩; have HB2 := Lib.hid (HB1.out.trans (hb.mono HB1.out.size)); have HO2 := Lib.hid (HO1.out.laterB hb); have HK2 := Lib.hid (HK1.out.later hb); obtain ⟨k0, k1, k2⟩ := cells3 HK2.out; clear hb)
            | (at_builtin; refine append_lg ts_rowed rfl (.tmp 19) (.tmp 22) rfl w.heap.size _ j _ rfl (HO2.out.alloc _) (some ⟨w2.heap.size, 0, none⟩) 1 1 [nm] rfl (fun e => by cases e) (one_reads _ nm _ _ rfl) hj10 (Nat.le_trans HB2.out.size (by simp)) ?_; intro a5 c5 w5 g1 g2 g3; have HO5 := Lib.hid g1; have HB5 := Lib.hid ((HO2.out.alloc (.cells #[.string nm] 9)).below (HB2.out.alloc HB2.out.size (.cells #[.string nm] 9)) g2 (Nat.le_trans HB2.out.size (by simp)) (Nat.le_refl _)); clear g1 g2 g3))
          go_roundw
          case rel => exact ⟨j + 1, a5, c5, by omega, rfl, by go_num, HB5.out, by rw [HT.out]; exact HO5.out, HA2.out⟩
          case measure => simp [intOf]; omega
        · have HC := Lib.hid (mSet (hs.later ((Below.refl _ _).alloc (Nat.le_refl _) (.cells #[.string nm, .bool on, .slice al ll cl] 57))) (R := false) (⟨fun e => Bool.noConfusion e, fun h => absurd h hok⟩))
          obtain rfl := HNO.out j _ hBj hok
          clear hs hBj hok
          go_wp2_with (first
            | (go_at_call 55; (with_reducible refine HC.out.mono ?_); rintro e w2 ⟨rfl, hb⟩; have HB2 := Lib.hid (HB1.out.trans (hb.mono HB1.out.size)); clear hb))
          go_ret
          exact ⟨rfl, HB2.out⟩
      · obtain rfl : j = n := by omega
        have hRN := HYES.out fun i b hb => HA.out i (by have := (List.getElem?_eq_some_iff.1 hb).1; omega) b hb
        have hO := HO.out
        rw [List.take_of_length_le (by rw [List.length_map]; omega)] at hO
        obtain ⟨q1, q2, q3⟩ := hO.reads ts_rowed
        have HC := Lib.hid (mNames q1 hn q3 q2 HSZ.out hRN)
        clear hRN hO q1 q2 q3
        go_wp2_with (first
          | (go_at_call 54; (with_reducible refine HC.out.mono ?_); rintro e w2 ⟨rfl, hb⟩; have HB2 := Lib.hid (HB.out.trans (hb.mono HB.out.size)); clear hb))
        go_ret
        exact ⟨rfl, HB2.out⟩
def shotsOk (C : Int) (B : List ShM) : Prop := B.length ≤ 8 ∧ (∀ (i : Nat) (b : ShM), B[i]? = some b → contOk b.2.1 b.2.2 C) ∧ namesOk (B.map (·.1))
set_option maxRecDepth 100000 in
set_option maxHeartbeats 1600000 in
theorem mShots {w : World} {a : Option Addr} {n c : Nat} {C : Int} {B : List ShM} (hc : 0 ≤ C ∧ C ≤ 6) (h : ShsD w a n c B) {R : Bool} (hR : R = true ↔ shotsOk C B) : Calls Tryz.prog 32 #[.slice a n c, .int .i64 C] w fun e w' => e = .returned (.bool R) ∧ Below w.heap.size w w' := by
  obtain ⟨hl, hn⟩ := h.lens
  have HR0 := Lib.hid (Below.refl w.heap.size w)
  have HCC := Lib.hid hc
  by_cases h6 : 8 < n
  · have hr : false = R := by
      cases R with
      | false => rfl
      | true => have := (hR.1 rfl).1; omega
    subst hr
    clear h hR
    go_enter Tryz.func32, Tryz.ntmps32
    go_wp2
    go_ret
    exact ⟨rfl, HR0.out⟩
  · have HD := Lib.hid h
    have HNO : Hid (∀ (i : Nat) (b : ShM), B[i]? = some b → ¬ contOk b.2.1 b.2.2 C → false = R) := fun i b hb hno => by
      cases R with
      | false => rfl
      | true => exact absurd ((hR.1 rfl).2.1 i b hb) hno
    have HYES : Hid ((∀ (i : Nat) (b : ShM), B[i]? = some b → contOk b.2.1 b.2.2 C) → (R = true ↔ namesOk (B.map (·.1)))) := fun hy => hR.trans ⟨fun h => h.2.2, fun h => ⟨by omega, hy, h⟩⟩
    have HSZ : Hid (∀ s ∈ B.map (·.1), s.size ≤ 9223372036854775807) := fun s hs => by
      obtain ⟨x, hx, rfl⟩ := List.mem_map.1 hs
      obtain ⟨i, hi⟩ := List.getElem?_of_mem hx
      obtain ⟨_, _, nm, sz, _, _, _, T, _, hBj, _, ⟨_, hnm⟩, _⟩ := h.at i (by have := (List.getElem?_eq_some_iff.1 hi).1; omega)
      have := hi.symm.trans hBj
      cases this
      exact hnm
    clear h hR hc
    go_enter Tryz.func32, Tryz.ntmps32
    go_wp2
    go_loopw [5, 13] (fun l i wr => ∃ (j : Nat) (a' : Option Addr) (c' : Nat), j ≤ n ∧ l = .slice a' j c' ∧ i = .int .i64 j ∧ Hid (Below w.heap.size w wr) ∧ Hid (OwnG tsV 9 1 wr w.heap.size (.slice a' j c') j ((B.map (·.1)).take j)) ∧ Hid (∀ i, i < j → ∀ (b : ShM), B[i]? = some b → contOk b.2.1 b.2.2 C)) (fun _ i _ => n - (intOf i).toNat)
    case atStart => exact ⟨0, none, 0, Nat.zero_le _, rfl, rfl, Below.refl _ _, OwnG.none _ _ _ _ _, fun i hi => by omega⟩
    case round =>
      obtain ⟨j, a', c', hj, rfl, rfl, HB, HO, HA⟩ := hrel
      by_cases hlt : j < n
      · obtain ⟨b, off, nm, sz, al, ll, cl, T, rfl, hBj, hbl, ⟨hsz, hnm⟩, x0, x1, x2, hs⟩ := (HD.out.later HB.out).at j hlt
        have HBJ := Lib.hid hBj
        have HK1 : Hid (Blk (wr.alloc (.cells #[.string nm, .int .i64 sz, .slice al ll cl] 54)) wr.heap.size 54 #[.string nm, .int .i64 sz, .slice al ll cl]) := Blk.new _ _ _
        have HB1 := Lib.hid (HB.out.alloc HB.out.size (.cells #[.string nm, .int .i64 sz, .slice al ll cl] 54))
        have HO1 := Lib.hid (HO.out.alloc (.cells #[.string nm, .int .i64 sz, .slice al ll cl] 54))
        by_cases hok : contOk sz T C
        · have HC := Lib.hid (mContents sz C al ll cl T hsz HCC.out _ (hs.later ((Below.refl _ _).alloc (Nat.le_refl _) (.cells #[.string nm, .int .i64 sz, .slice al ll cl] 54))) (R := true) (⟨fun _ => hok, fun _ => rfl⟩))
          have HA2 : Hid (∀ i, i < j + 1 → ∀ (b : ShM), B[i]? = some b → contOk b.2.1 b.2.2 C) := fun i hi b' hb' => by
            by_cases e : i = j
            · subst e
              have := hBj.symm.trans hb'
              cases this
              exact hok
            · exact HA.out i (by omega) b' hb'
          have HT : Hid ((B.map (·.1)).take (j + 1) = (B.map (·.1)).take j ++ [nm]) := by
            rw [Hid, List.take_add_one, List.getElem?_map, hBj]
            rfl
          have hj10 : j + 1 ≤ 10000000 := by omega
          clear hs hBj hok
          go_wp2_with (first
            | (go_at_call 30; (with_reducible refine HC.out.mono ?_); rintro e w2 ⟨rfl, hb⟩; have HB2 := Lib.hid (HB1.out.trans (hb.mono HB1.out.size)); have HO2 := Lib.hid (HO1.out.laterB hb); have HK2 := Lib.hid (HK1.out.later hb); obtain ⟨k0, k1, k2⟩ := cells3 HK2.out; clear hb)
            | (at_builtin; refine append_lg ts_rowed rfl (.tmp 24) (.tmp 27) rfl w.heap.size _ j _ rfl (HO2.out.alloc _) (some ⟨w2.heap.size, 0, none⟩) 1 1 [nm] rfl (fun e => by cases e) (one_reads _ nm _ _ rfl) hj10 (Nat.le_trans HB2.out.size (by simp)) ?_; intro a5 c5 w5 g1 g2 g3; have HO5 := Lib.hid g1; have HB5 := Lib.hid ((HO2.out.alloc (.cells #[.string nm] 9)).below (HB2.out.alloc HB2.out.size (.cells #[.string nm] 9)) g2 (Nat.le_trans HB2.out.size (by simp)) (Nat.le_refl _)); clear g1 g2 g3))
          go_roundw
          case rel => exact ⟨j + 1, a5, c5, by omega, rfl, by go_num, HB5.out, by rw [HT.out]; exact HO5.out, HA2.out⟩
          case measure => simp [intOf]; omega
        · have HC := Lib.hid (mContents sz C al ll cl T hsz HCC.out _ (hs.later ((Below.refl _ _).alloc (Nat.le_refl _) (.cells #[.string nm, .int .i64 sz, .slice al ll cl] 54))) (R := false) (⟨fun e => Bool.noConfusion e, fun h => absurd h hok⟩))
          obtain rfl := HNO.out j _ hBj hok
          clear hs hBj hok
          go_wp2_with (first
            | (go_at_call 30; (with_reducible refine HC.out.mono ?_); rintro e w2 ⟨rfl, hb⟩; have HB2 := Lib.hid (HB1.out.trans (hb.mono HB1.out.size)); clear hb))
          go_ret
          exact ⟨rfl, HB2.out⟩
      · obtain rfl : j = n := by omega
        have hRN := HYES.out fun i b hb => HA.out i (by have := (List.getElem?_eq_some_iff.1 hb).1; omega) b hb
        have hO := HO.out
        rw [List.take_of_length_le (by rw [List.length_map]; omega)] at hO
        obtain ⟨q1, q2, q3⟩ := hO.reads ts_rowed
        have HC := Lib.hid (mNames q1 hn q3 q2 HSZ.out hRN)
        clear hRN hO q1 q2 q3
        go_wp2_with (first
          | (go_at_call 54; (with_reducible refine HC.out.mono ?_); rintro e w2 ⟨rfl, hb⟩; have HB2 := Lib.hid (HB.out.trans (hb.mono HB.out.size)); clear hb))
        go_ret
        exact ⟨rfl, HB2.out⟩
end Go.Proofs.YtdffgnpldapciaaGreatDoor
namespace Go.Proofs.YtdffgnpldapciaaGreatDoor
open Go.RowKit
set_option linter.unusedVariables false

theorem not_ahead {α : Type} (S : List (ByteArray × α)) (i : Nat) (s : ByteArray) : s ∉ (S.map (·.1)).take i ↔ ∀ k, k < i → ∀ e, S[k]? = some e → e.1 ≠ s := by
  constructor
  · intro h k hk e he hes
    refine h (List.mem_of_getElem? (i := k) ?_)
    rw [List.getElem?_take_of_lt hk, List.getElem?_map, he]
    exact congrArg some hes
  · intro h hm
    obtain ⟨k, hk⟩ := List.getElem?_of_mem hm
    rw [List.getElem?_take] at hk
    by_cases hki : k < i
    · rw [if_pos hki, List.getElem?_map] at hk
      obtain ⟨e, he, hes⟩ := Option.map_eq_some_iff.1 hk
      exact h k hki e he hes
    · rw [if_neg hki] at hk
      cases hk
theorem namesS (S : List ShM) : namesOk (S.map (·.1)) ↔ ∀ (i : Nat) (d : ShM), S[i]? = some d → nameOk d.1 ∧ fndS d.1 S = i := by
  constructor
  · intro h i d hd
    obtain ⟨h1, h2⟩ := h i d.1 (by rw [List.getElem?_map, hd]; rfl)
    exact ⟨h1, fndS_at hd rfl ((not_ahead S i d.1).1 h2)⟩
  · intro h i s hs
    rw [List.getElem?_map] at hs
    obtain ⟨d, hd, rfl⟩ := Option.map_eq_some_iff.1 hs
    obtain ⟨h1, h2⟩ := h i d hd
    refine ⟨h1, (not_ahead S i d.1).2 ?_⟩
    rcases fndS_cases d.1 S with ⟨e, _⟩ | ⟨j, d', e, _, _, _, hn⟩
    · omega
    · have : j = i := by omega
      subst this
      exact hn
theorem namesB (S : List BmM) : namesOk (S.map (·.1)) ↔ ∀ (i : Nat) (d : BmM), S[i]? = some d → nameOk d.1 ∧ fndB d.1 S = i := by
  constructor
  · intro h i d hd
    obtain ⟨h1, h2⟩ := h i d.1 (by rw [List.getElem?_map, hd]; rfl)
    exact ⟨h1, fndB_at hd rfl ((not_ahead S i d.1).1 h2)⟩
  · intro h i s hs
    rw [List.getElem?_map] at hs
    obtain ⟨d, hd, rfl⟩ := Option.map_eq_some_iff.1 hs
    obtain ⟨h1, h2⟩ := h i d hd
    refine ⟨h1, (not_ahead S i d.1).2 ?_⟩
    rcases fndB_cases d.1 S with ⟨e, _⟩ | ⟨j, d', e, _, _, _, hn⟩
    · omega
    · have : j = i := by omega
      subst this
      exact hn
theorem right_iff (M : MM) : RightMt M ↔ (0 ≤ M.c ∧ M.c ≤ 6) ∧ contOk M.s M.T M.c ∧ (M.bk.toList.isEmpty = true ∨ nameOk M.bk) ∧ shotsOk M.c M.S ∧ mapsOk M.B ∧ cntsOk M.K := by
  constructor
  · intro h
    refine ⟨h.c, ⟨h.s, h.T⟩, ?_, ⟨h.nS, fun i d hd => ⟨(h.S i d hd).2.2.1, (h.S i d hd).2.2.2⟩, (namesS _).2 fun i d hd => ⟨(h.S i d hd).1, (h.S i d hd).2.1⟩⟩, ⟨h.nB, fun i b hb => (h.B i b hb).2.2, (namesB _).2 fun i b hb => ⟨(h.B i b hb).1, (h.B i b hb).2.1⟩⟩, ⟨h.nK, h.K⟩⟩
    rcases Nat.eq_zero_or_pos M.bk.size with e | e
    · exact Or.inl (empty_size.2 e)
    · exact Or.inr (h.bk e)
  · rintro ⟨h1, ⟨h2, h3⟩, h4, ⟨h5, h6, h7⟩, ⟨h8, h9, h10⟩, h11, h12⟩
    refine ⟨h1, h2, fun h0 => ?_, h5, h8, h11, h3, fun i d hd => ⟨((namesS _).1 h7 i d hd).1, ((namesS _).1 h7 i d hd).2, (h6 i d hd).1, (h6 i d hd).2⟩, fun i b hb => ⟨((namesB _).1 h10 i b hb).1, ((namesB _).1 h10 i b hb).2, (h9 i b hb).1, (h9 i b hb).2⟩, h12⟩
    rcases h4 with e | e
    · have := empty_size.1 e
      omega
    · exact e
theorem bqP {fn : FuncId} {args : Array Value} {w : World} {P : Prop} (h : ∀ R : Bool, (R = true ↔ P) → Calls Tryz.prog fn args w fun e w' => e = .returned (.bool R) ∧ Below w.heap.size w w') : Calls Tryz.prog fn args w (BQ P w) := by
  by_cases hp : P
  · exact (h true ⟨fun _ => hp, fun _ => rfl⟩).mono fun e w' h => ⟨true, h.1, h.2, ⟨fun _ => hp, fun _ => rfl⟩⟩
  · exact (h false ⟨fun e => Bool.noConfusion e, fun e => absurd e hp⟩).mono fun e w' h => ⟨false, h.1, h.2, ⟨fun e => Bool.noConfusion e, fun e => absurd e hp⟩⟩
set_option maxRecDepth 20000 in
set_option maxHeartbeats 4000000 in
theorem mRight (w : World) (x : Mt) (M : MM) (h : MetaD w x M) : Calls Tryz.prog 13 #[.agg (mtA M x)] w (RightE (RightMt M) w) := by
  have hri := right_iff M
  obtain ⟨P, hP⟩ := named (RightMt M)
  rw [hP.out] at hri ⊢
  clear hP
  obtain ⟨a0, n0, c0, sa, sn, sc, ma, mn, mc, ca, cn, cc⟩ := x
  obtain ⟨c, s, bk, T, S, B, K⟩ := M
  obtain ⟨hc, hs, hbk, hT, hS, hB, hK⟩ := h
  dsimp only [mtA] at hri hc hs hbk hT hS hB hK ⊢
  have HP := Lib.hid hri
  have HRT := Lib.hid (RtS.first w #[.int .i64 c, .int .i64 s, .string bk, .slice a0 n0 c0, .slice sa sn sc, .slice ma mn mc, .slice ca cn cc])
  have HW := Lib.hid (fun w => bqP (P := 0 ≤ c ∧ c ≤ 6) fun R hR => (mWithin c 0 6 (R := R) (by rw [Bool.eq_iff_iff, decide_eq_true_iff]; exact hR.symm) w).mono fun e w' h => ⟨h.1, h.2 ▸ Below.refl _ _⟩)
  have HCo := Lib.hid (fun (hc6 : 0 ≤ c ∧ c ≤ 6) W (hb : Below w.heap.size w W) => bqP (P := contOk s T c) fun R hR => mContents s c a0 n0 c0 T hs hc6 W (hT.later hb) hR)
  have HNa := Lib.hid (fun w => bqP (P := nameOk bk) fun R hR => (shotsName bk hbk (R := R) (by rw [Bool.eq_iff_iff, decide_eq_true_iff]; exact hR.symm) w).mono fun e w' h => ⟨h.1, h.2 ▸ Below.refl _ _⟩)
  have HSh := Lib.hid (fun (hc6 : 0 ≤ c ∧ c ≤ 6) W (hb : Below w.heap.size w W) => bqP (P := shotsOk c S) fun R hR => mShots hc6 (hS.later hb) hR)
  have HMa := Lib.hid (fun W (hb : Below w.heap.size w W) => bqP (P := mapsOk B) fun R hR => mMaps (hB.later hb) hR)
  have HCn := Lib.hid (fun W (hb : Below w.heap.size w W) => bqP (P := cntsOk K) fun R hR => mCounts (hK.later hb) hR)
  clear hri hc hs hbk hT hS hB hK
  go_enter Tryz.func13, Tryz.ntmps13
  cases he : bk.toList.isEmpty
  all_goals
    go_wp2_with (first
      | (go_at_call 29; (with_reducible refine (HW.out _).mono ?_); rintro e w1 ⟨G1, rfl, h, hr⟩; have H1 := Lib.hid hr; have HRT := Lib.hid (HRT.out.later h); obtain ⟨m0, m1, m2, m3, m4, m5, m6⟩ := cells7 HRT.out.box; clear h hr; cases G1)
      | (go_at_call 30; (with_reducible refine (HCo.out (H1.out.1 (by first | rfl | trivial)) _ HRT.out.below).mono ?_); rintro e w2 ⟨G2, rfl, h, hr⟩; have H2 := Lib.hid hr; have HRT := Lib.hid (HRT.out.later h); obtain ⟨m0, m1, m2, m3, m4, m5, m6⟩ := cells7 HRT.out.box; clear h hr; cases G2)
      | (go_at_call 31; (with_reducible refine (HNa.out _).mono ?_); rintro e w3 ⟨G3, rfl, h, hr⟩; have H3 := Lib.hid hr; have HRT := Lib.hid (HRT.out.later h); obtain ⟨m0, m1, m2, m3, m4, m5, m6⟩ := cells7 HRT.out.box; clear h hr; cases G3)
      | (go_at_call 32; (with_reducible refine (HSh.out (H1.out.1 (by first | rfl | trivial)) _ HRT.out.below).mono ?_); rintro e w4 ⟨G4, rfl, h, hr⟩; have H4 := Lib.hid hr; have HRT := Lib.hid (HRT.out.later h); obtain ⟨m0, m1, m2, m3, m4, m5, m6⟩ := cells7 HRT.out.box; clear h hr; cases G4)
      | (go_at_call 33; (with_reducible refine (HMa.out _ HRT.out.below).mono ?_); rintro e w5 ⟨G5, rfl, h, hr⟩; have H5 := Lib.hid hr; have HRT := Lib.hid (HRT.out.later h); obtain ⟨m0, m1, m2, m3, m4, m5, m6⟩ := cells7 HRT.out.box; clear h hr; cases G5)
      | (go_at_call 34; (with_reducible refine (HCn.out _ HRT.out.below).mono ?_); rintro e w6 ⟨G6, rfl, h, hr⟩; have H6 := Lib.hid hr; have HRT := Lib.hid (HRT.out.later h); clear h hr; cases G6))
  all_goals first
    | (go_ret; exact RightE.no rfl HRT.out.below fun hp => H1.out.2 (HP.out.1 hp).1)
    | (go_ret; exact RightE.no rfl HRT.out.below fun hp => H2.out.2 (HP.out.1 hp).2.1)
    | (go_ret; exact RightE.no rfl HRT.out.below fun hp => H3.out.2 ((HP.out.1 hp).2.2.1.resolve_left (by rw [he]; exact Bool.false_ne_true)))
    | (go_ret; exact RightE.no rfl HRT.out.below fun hp => H4.out.2 (HP.out.1 hp).2.2.2.1)
    | (go_ret; exact RightE.no rfl HRT.out.below fun hp => H5.out.2 (HP.out.1 hp).2.2.2.2.1)
    | (go_ret; exact RightE.no rfl HRT.out.below fun hp => H6.out.2 (HP.out.1 hp).2.2.2.2.2)
    | (go_ret; exact RightE.yes rfl HRT.out.below (HP.out.2 ⟨H1.out.1 (by first | rfl | trivial), H2.out.1 (by first | rfl | trivial), (by first | exact Or.inl he | exact Or.inr (H3.out.1 (by first | rfl | trivial))), H4.out.1 (by first | rfl | trivial), H5.out.1 (by first | rfl | trivial), H6.out.1 (by first | rfl | trivial)⟩))
end Go.Proofs.YtdffgnpldapciaaGreatDoor
namespace Go.Proofs.YtdffgnpldapciaaGreatDoor
open Go.RowKit
set_option linter.unusedVariables false

theorem Ap.b {w0 w : World} {B n c : Nat} {a : Option Addr} {l : List Int} (h : Ap w0 B a n c l w) : Below w0.heap.size w0 w := h.2.1
/-- All rows but those of bytes stay. -/
def KeepU (w w' : World) : Prop := ∀ (k : Nat) (cs : Array Value) (t : TypeId) (fr : Nat × Nat), t ≠ 5 → w.heap[k]? = some (.cells cs t fr) → w'.heap[k]? = some (.cells cs t fr)
theorem KeepU.trans {w1 w2 w3 : World} (h1 : KeepU w1 w2) (h2 : KeepU w2 w3) : KeepU w1 w3 := fun k cs t fr ht h => h2 k cs t fr ht (h1 k cs t fr ht h)
theorem KeepU.later {w w' : World} (hb : Below w.heap.size w w') : KeepU w w' := fun k cs t fr ht h => by
  have hk : k < w.heap.size := (Array.getElem?_eq_some_iff.1 h).1
  rw [hb.block k hk]
  exact h
theorem KeepU.app {w w' : World} {base n : Nat} {v : Value} {xs : List Int} (ho : Own w base v n xs) (hg : w.grownBy w' v.ownBlock) : KeepU w w' := fun k cs t fr ht h => by
  have hk : k < w.heap.size := (Array.getElem?_eq_some_iff.1 h).1
  have hne : some k ≠ v.ownBlock := by
    rcases ho.1.2 with ⟨rfl, _⟩ | ⟨g, cap, cur, rfl, _, hgb, _⟩
    · simp [Value.ownBlock]
    · intro e'
      obtain rfl : k = g := by simpa [Value.ownBlock] using e'
      have := h.symm.trans hgb
      simp at this
      exact ht this.2.1
  rw [hg.block k hk hne]
  exact h
theorem Blk.keepU {w w' : World} {Y : Nat} {t : TypeId} {cs : Array Value} (h : Blk w Y t cs) (ht : t ≠ 5) (hk : KeepU w w') : Blk w' Y t cs := hk Y cs t (0, 0) ht h
theorem tblB_bound {T : Tb} {n c : Int} (h : rightT T n c) : (tblB T).length ≤ 66562 := by
  have h1 := bodyB_len h T.length (Nat.le_refl _)
  have h2 := cntT_le T T.length
  have h3 := h.2.2.2.1
  unfold tblB
  rw [List.length_append, numB_len, h1]
  omega
/-- What a call that appends hands back. -/
def AppQ (w0 : World) (B : Nat) (W : World) (L : List Int) (e : Ending) (w' : World) : Prop := ∃ (a' : Option Addr) (c' : Nat), e = .returned (.slice a' L.length c') ∧ Ap w0 B a' L.length c' L w' ∧ KeepU W w'
theorem AppQ.named {w0 : World} {B : Nat} {W : World} {L : List Int} {e : Ending} {w' : World} (h : AppQ w0 B W L e w') {n : Nat} (hn : L.length = n) : ∃ (a' : Option Addr) (c' : Nat), e = .returned (.slice a' n c') ∧ Ap w0 B a' n c' L w' ∧ KeepU W w' := by
  subst hn
  exact h
set_option maxHeartbeats 800000 in
theorem mNumber (w0 w : World) (B : Nat) (a : Option Addr) (n c : Nat) (l : List Int) (m v : Nat) (M V : Int) (hA : Ap w0 B a n c l w) (hn : n ≤ 10000000) (hM : (m : Int) = M) (hV : (v : Int) = V) (h1 : 1 ≤ m) (h2 : m < 8) (hv : v < 256 ^ m) (hv4 : v < 4294967296) :
    Calls Tryz.prog 43 #[.slice a n c, .int .i64 M, .int .i64 V] w (AppQ w0 B w (l ++ numB false m v)) := by
  have HP := Lib.hid (fun w => fieldPut_own none 0 0 m v [] false w (none_bytes w) (fun _ => rfl) (by omega) h1 (by omega) (by unfold Fit64; omega) (fitsM h2 hv))
  have hlen : (l ++ numB false m v).length = n + m := by rw [List.length_append, numB_len, hA.1.len]
  have HLEN := Lib.hid hlen
  rw [hM] at HP
  subst hV
  obtain ⟨K, hK⟩ := named (0 + m)
  have hK2 : K ≤ 8 := by have := hK.out; omega
  have HKK : Hid (n + K = (l ++ numB false m v).length) := by rw [Hid, hlen]; have := hK.out; omega
  rw [hK.out] at HP
  have e1 : IntKind.u64.wrap (v : Int) = v := by rw [IntKind.wrap_u64]; omega
  have HA := Lib.hid hA
  clear hlen hM hA hv hv4
  go_enter Tryz.func43, Tryz.ntmps43
  go_wp2_with (first
    | (go_at_call 66; (with_reducible refine (HP.out _).mono ?_); rintro e w1 ⟨a1, c1, rfl, g1, g3⟩; have HO1 := Lib.hid g1; have HA1 := Lib.hid (HA.out.later g3); have HG1 := Lib.hid g3; clear g1 g3)
    | (at_builtin; refine append_bytes rfl _ _ rfl B _ n l rfl HA1.out.1 a1 K c1 _ rfl HO1.out.bytes.2 HO1.out.bytes.1 (by omega) HA1.out.2.2.2 ?_; intro a2 c2 w2 h1 h2; have HA2 := Lib.hid (HA1.out.app h1 h2); have HK2 := Lib.hid ((KeepU.later HG1.out).trans (KeepU.app HA1.out.1 h2)); clear h1 h2))
  go_ret
  have hq := HA2.out
  rw [List.nil_append, HKK.out] at hq
  exact ⟨a2, c2, (by rw [← HKK.out]; rfl), hq, HK2.out⟩
set_option maxHeartbeats 800000 in
theorem mText (w0 w : World) (B : Nat) (a : Option Addr) (n c : Nat) (l : List Int) (s : ByteArray) (hA : Ap w0 B a n c l w) (hn : n ≤ 10000000) (hs : s.size ≤ 65535) :
    Calls Tryz.prog 44 #[.slice a n c, .string s] w (AppQ w0 B w (l ++ textB s)) := by
  have HP := Lib.hid (fun w => fieldText_ok none 0 0 [] s w (none_bytes w) (fun _ => rfl) (by omega) hs)
  obtain ⟨T, hT⟩ := named (textB s)
  have hTl : T.length ≤ 65537 := by rw [← hT.out, textB_len]; omega
  rw [hT.out] at HP ⊢
  have HLEN : Hid ((l ++ T).length = n + T.length) := by rw [Hid, List.length_append, hA.1.len]
  have HA := Lib.hid hA
  obtain ⟨K, hK⟩ := named T.length
  rw [hK.out] at HLEN hTl
  rw [List.nil_append] at HP
  have HKK := Lib.hid hK.out
  unfold PutPost at HP
  rw [HKK.out] at HP
  clear hA hT hK
  go_enter Tryz.func44, Tryz.ntmps44
  go_wp2_with (first
    | (go_at_call 67; (with_reducible refine (HP.out _).mono ?_); rintro e w1 ⟨a1, c1, rfl, g1, ⟨g2, g4⟩, g3⟩; have HB1 := Lib.hid g1; have HN1 := Lib.hid g2; have HA1 := Lib.hid (HA.out.later g3); have HG1 := Lib.hid g3; clear g1 g2 g3 g4)
    | (at_builtin; refine append_bytes rfl _ _ rfl B _ n l rfl HA1.out.1 a1 K c1 _ rfl HN1.out HB1.out (by omega) HA1.out.2.2.2 ?_; intro a2 c2 w2 h1 h2; have HA2 := Lib.hid (HA1.out.app h1 h2); have HK2 := Lib.hid ((KeepU.later HG1.out).trans (KeepU.app HA1.out.1 h2)); clear h1 h2))
  go_ret
  have hq := HA2.out
  rw [← HLEN.out] at hq
  exact ⟨a2, c2, (by rw [HLEN.out]; rfl), hq, HK2.out⟩
set_option maxHeartbeats 800000 in
theorem mTable (w0 w : World) (B : Nat) (a : Option Addr) (n c : Nat) (l : List Int) (ta : Option Addr) (tn tc : Nat) (T : Tb) (cc : Int) (hA : Ap w0 B a n c l w) (hn : n ≤ 10000000) (hT : Tab w0 ta tn tc T) (hr : rightT T 4096 cc) (hW : Wid w0) :
    Calls Tryz.prog 45 #[.slice a n c, .agg #[.slice ta tn tc], .int .i64 cc] w (AppQ w0 B w (l ++ tblB T)) := by
  obtain ⟨ds, d1, d2, rfl, d4, _⟩ := hT
  have HP := Lib.hid (fun W (hb : Below w0.heap.size w0 W) => put9_ok W ta tn tc ds cc (d1.later hb) d4 hr (hW.later hb))
  have hTlen := tblB_bound hr
  obtain ⟨T, hT⟩ := named (tblB (tbOf ds))
  rw [hT.out] at HP hTlen ⊢
  have HLEN : Hid ((l ++ T).length = n + T.length) := by rw [Hid, List.length_append, hA.1.len]
  have HA := Lib.hid (hA.later ((Below.refl _ w).alloc (Nat.le_refl _) (.cells #[.slice ta tn tc] 26)))
  have HKA := Lib.hid (KeepU.later ((Below.refl _ w).alloc (Nat.le_refl _) (.cells #[.slice ta tn tc] 26)))
  obtain ⟨K, hK⟩ := named T.length
  rw [hK.out] at HLEN hTlen
  have HKK := Lib.hid hK.out
  unfold PutPost at HP
  rw [HKK.out] at HP
  clear hA hT hK d1 d2 d4 hr hW
  go_enter Tryz.func45, Tryz.ntmps45
  go_wp2_with (first
    | (go_at_call 68; (with_reducible refine (HP.out _ HA.out.b).mono ?_); rintro e w1 ⟨a1, c1, rfl, g1, ⟨g2, g4⟩, g3⟩; have HB1 := Lib.hid g1; have HN1 := Lib.hid g2; have HA1 := Lib.hid (HA.out.later g3); have HG1 := Lib.hid g3; clear g1 g2 g3 g4)
    | (at_builtin; refine append_bytes rfl _ _ rfl B _ n l rfl HA1.out.1 a1 K c1 _ rfl HN1.out HB1.out (by omega) HA1.out.2.2.2 ?_; intro a2 c2 w2 h1 h2; have HA2 := Lib.hid (HA1.out.app h1 h2); have HK2 := Lib.hid ((HKA.out.trans (KeepU.later HG1.out)).trans (KeepU.app HA1.out.1 h2)); clear h1 h2))
  go_ret
  have hq := HA2.out
  rw [← HLEN.out] at hq
  exact ⟨a2, c2, (by rw [HLEN.out]; rfl), hq, HK2.out⟩
end Go.Proofs.YtdffgnpldapciaaGreatDoor
namespace Go.Proofs.YtdffgnpldapciaaGreatDoor
open Go.RowKit
set_option linter.unusedVariables false

def spB (s : Sp) : List Int := numB false 2 s.1.toNat ++ numB false 2 s.2.toNat
def onN (on : Bool) : Nat := if on then 1 else 0
def bmB (b : BmM) : List Int := textB b.1 ++ numB false 1 (onN b.2.1) ++ numB false 2 b.2.2.length ++ b.2.2.flatMap spB
theorem spB_len (s : Sp) : (spB s).length = 4 := by unfold spB; rw [List.length_append, numB_len, numB_len]
theorem flat_len4 : ∀ l : List Sp, (l.flatMap spB).length = 4 * l.length
  | [] => rfl
  | x :: r => by rw [List.flatMap_cons, List.length_append, spB_len, flat_len4 r, List.length_cons]; omega
theorem bmB_len (b : BmM) : (bmB b).length = 2 + b.1.size + 1 + 2 + 4 * b.2.2.length := by
  unfold bmB
  rw [List.length_append, List.length_append, List.length_append, textB_len, numB_len, numB_len, flat_len4]
theorem drop_cons {α : Type} {l : List α} {j : Nat} {x : α} (h : l[j]? = some x) : l.drop j = x :: l.drop (j + 1) := by
  obtain ⟨hj, rfl⟩ := List.getElem?_eq_some_iff.1 h
  exact List.drop_eq_getElem_cons hj
theorem span_cells9 {w : World} {a : Option Addr} {len : Nat} {l : List Sp} (h : Spans w a len l) (j : Nat) (hj : j < len) : ∃ b off, a = some ⟨b, off, none⟩ ∧ w.cell? ⟨b, off + j * 2, none⟩ = some (.int .i64 (spAt l j).1) ∧ w.cell? ⟨b, off + j * 2 + 1, none⟩ = some (.int .i64 (spAt l j).2) := by
  obtain ⟨b, off, rfl⟩ := h.lies (by omega)
  obtain ⟨y0, y1⟩ := span_cells h j hj
  exact ⟨b, off, rfl, y0, y1⟩
theorem lt16 {v : Nat} (h : v < 65536) : v < 256 ^ 2 := by
  have : (256 : Nat) ^ 2 = 65536 := by decide
  omega
/-- Small numbers in two bytes. -/
def Two16 (z : Int) : Prop := 0 ≤ z ∧ z < 65536
set_option maxRecDepth 100000 in
set_option maxHeartbeats 3200000 in
theorem mBitmap (w0 w : World) (B : Nat) (a : Option Addr) (n c : Nat) (L : List Int) (nm : ByteArray) (on : Bool) (al : Option Addr) (ll cl : Nat) (l : List Sp) (hA : Ap w0 B a n c L w) (hn : n ≤ 9000000) (hnm : nm.size ≤ 1000) (hs : SpD w0 al ll cl l) (hll : ll ≤ 5000) (hsp : ∀ s ∈ l, Two16 s.1 ∧ Two16 s.2) :
    Calls Tryz.prog 46 #[.slice a n c, .agg #[.string nm, .bool on, .slice al ll cl]] w (AppQ w0 B w (L ++ bmB (nm, on, l))) := by
  have hl : l.length = ll := hs.1.1
  have hLn : L.length = n := hA.1.len
  have htl : (L ++ bmB (nm, on, l)).length ≤ 9100000 := by rw [List.length_append, bmB_len, hLn]; dsimp only; omega
  obtain ⟨TL, hTL⟩ := named (L ++ bmB (nm, on, l))
  have HTL : Hid (TL.length ≤ 9100000) := by rw [← hTL.out]; exact htl
  have hsplit : L ++ bmB (nm, on, l) = L ++ textB nm ++ numB false 1 (onN on) ++ numB false 2 ll ++ l.flatMap spB := by
    unfold bmB
    dsimp only
    rw [hl]
    simp only [List.append_assoc]
  have HSPL : Hid (TL = L ++ textB nm ++ numB false 1 (onN on) ++ numB false 2 ll ++ l.flatMap spB) := hTL.out.symm.trans hsplit
  rw [hTL.out]
  have HT1 := Lib.hid (fun W hA => mText w0 W B a n c L nm hA (by omega) (by omega))
  have hl1 : (L ++ textB nm).length = n + 2 + nm.size := by rw [List.length_append, textB_len, hLn]; omega
  obtain ⟨n1, hn1⟩ := named (n + 2 + nm.size)
  have hn1b : n1 ≤ 9001002 := by have := hn1.out; omega
  have HL1 : Hid ((L ++ textB nm).length = n1) := hl1.trans hn1.out
  obtain ⟨L1, hL1⟩ := named (L ++ textB nm)
  rw [hL1.out] at HT1 HL1 HSPL
  obtain ⟨V, hV, hV1, hV0⟩ : ∃ V : Int, ((onN on : Nat) : Int) = V ∧ (on = true → V = 1) ∧ (on = false → V = 0) := ⟨_, rfl, fun e => by rw [e]; rfl, fun e => by rw [e]; rfl⟩
  have HN2 := Lib.hid (fun W a c hA => mNumber w0 W B a n1 c L1 1 (onN on) 1 V hA (by omega) rfl hV (by omega) (by omega) (by unfold onN; cases on <;> decide) (by unfold onN; cases on <;> decide))
  have HL2 : Hid ((L1 ++ numB false 1 (onN on)).length = n1 + 1) := by rw [Hid, List.length_append, numB_len, HL1.out]
  obtain ⟨L2, hL2⟩ := named (L1 ++ numB false 1 (onN on))
  rw [hL2.out] at HN2 HL2 HSPL
  have HN3 := Lib.hid (fun W a c hA => mNumber w0 W B a (n1 + 1) c L2 2 ll 2 ll hA (by omega) rfl rfl (by omega) (by omega) (lt16 (by omega)) (by omega))
  have HL3 : Hid ((L2 ++ numB false 2 ll).length = n1 + 1 + 2) := by rw [Hid, List.length_append, numB_len, HL2.out]
  obtain ⟨L3, hL3⟩ := named (L2 ++ numB false 2 ll)
  rw [hL3.out] at HN3 HL3 HSPL
  have HA := Lib.hid (hA.later ((Below.refl _ w).alloc (Nat.le_refl _) (.cells #[.string nm, .bool on, .slice al ll cl] 57)))
  have HK0 := Lib.hid (KeepU.later ((Below.refl _ w).alloc (Nat.le_refl _) (.cells #[.string nm, .bool on, .slice al ll cl] 57)))
  have HX : Hid (Blk (w.alloc (.cells #[.string nm, .bool on, .slice al ll cl] 57)) w.heap.size 57 #[.string nm, .bool on, .slice al ll cl]) := Blk.new _ _ _
  have HSP := Lib.hid hsp
  have HS := Lib.hid hs.1
  clear hA hs hsp hl hLn htl hTL hsplit hl1 hn1 hL1 hL2 hL3 hnm hV
  cases on
  case' false => obtain rfl := hV0 rfl
  case' true => obtain rfl := hV1 rfl
  all_goals
    clear hV0 hV1
    go_enter Tryz.func46, Tryz.ntmps46
    go_wp2_with (first
      | (go_at_call 44; (with_reducible refine (HT1.out _ HA.out).mono ?_); rintro e w1 hq; obtain ⟨a1, c1, rfl, hA1, hk⟩ := hq.named HL1.out; have HA1 := Lib.hid hA1; have HK1 := Lib.hid (HK0.out.trans hk); have HX1 := Lib.hid (HX.out.keepU (by decide) hk); obtain ⟨x0, x1, x2⟩ := cells3 HX1.out; clear hq hA1 hk)
      | (go_at_call 43; (with_reducible refine (HN2.out _ _ _ HA1.out).mono ?_); rintro e w2 hq; obtain ⟨a2, c2, rfl, hA2, hk⟩ := hq.named HL2.out; have HA2 := Lib.hid hA2; have HK2 := Lib.hid (HK1.out.trans hk); have HX2 := Lib.hid (HX1.out.keepU (by decide) hk); clear x0 x1 x2; obtain ⟨x0, x1, x2⟩ := cells3 HX2.out; clear hq hA2 hk HN2)
      | (go_at_call 43; (with_reducible refine (HN3.out _ _ _ HA2.out).mono ?_); rintro e w3 hq; obtain ⟨a3, c3, rfl, hA3, hk⟩ := hq.named HL3.out; have HA3 := Lib.hid hA3; have HK3 := Lib.hid (HK2.out.trans hk); have HX3 := Lib.hid (HX2.out.keepU (by decide) hk); clear x0 x1 x2; obtain ⟨x0, x1, x2⟩ := cells3 HX3.out; clear hq hA3 hk HN3))
  · have hlb : ll ≤ 5000 := hll
    go_loopw [0, 25] (fun b i wr => ∃ (j : Nat) (a' : Option Addr) (c' m' : Nat) (D : List Int), j ≤ ll ∧ b = .slice a' m' c' ∧ i = .int .i64 j ∧ Hid (Ap w0 B a' m' c' D wr) ∧ Hid (TL = D ++ (l.drop j).flatMap spB) ∧ Hid (KeepU w wr)) (fun _ i _ => ll - (intOf i).toNat)
    case atStart => exact ⟨0, a3, c3, _, L3, Nat.zero_le _, rfl, rfl, HA3.out, HSPL.out, HK3.out⟩
    case round =>
      obtain ⟨j, a', c', m', D, hj, rfl, rfl, HP, HT, HK⟩ := hrel
      clear x0 x1 x2
      by_cases hlt : j < ll
      · have hx := spAt_some l j (by rw [HS.out.1]; exact hlt)
        obtain ⟨b, off, rfl, y0, y1⟩ := span_cells9 (HS.out.later HP.out.b) j hlt
        obtain ⟨⟨f1, f2⟩, ⟨t1, t2⟩⟩ := HSP.out _ (List.mem_of_getElem? hx)
        have hm' : D.length = m' := HP.out.1.len
        have hmb : m' ≤ 9100000 := by
          have h1 := HTL.out
          rw [HT.out, List.length_append] at h1
          omega
        rw [drop_cons hx, List.flatMap_cons] at HT
        obtain ⟨⟨F, T⟩, hFT⟩ := named (spAt l j)
        rw [hFT.out] at y0 y1 f1 f2 t1 t2 HT
        dsimp only at y0 y1 f1 f2 t1 t2
        obtain ⟨F, rfl⟩ : ∃ N : Nat, F = N := ⟨F.toNat, by omega⟩
        obtain ⟨T, rfl⟩ : ∃ N : Nat, T = N := ⟨T.toNat, by omega⟩
        have HT2 : Hid (TL = D ++ numB false 2 F ++ numB false 2 T ++ (l.drop (j + 1)).flatMap spB) := by
          rw [Hid, HT.out]
          unfold spB
          simp only [Int.toNat_natCast, List.append_assoc]
        have HB1 := Lib.hid (HP.out.later ((Below.refl _ wr).alloc (Nat.le_refl _) (.cells #[.int .i64 F, .int .i64 T] 59)))
        have HY : Hid (Blk (wr.alloc (.cells #[.int .i64 F, .int .i64 T] 59)) wr.heap.size 59 #[.int .i64 F, .int .i64 T]) := Blk.new _ _ _
        have HKA := Lib.hid (HK.out.trans (KeepU.later ((Below.refl _ wr).alloc (Nat.le_refl _) (.cells #[.int .i64 F, .int .i64 T] 59))))
        have HM1 := Lib.hid (fun W a c hA => mNumber w0 W B a m' c D 2 F 2 F hA (by omega) rfl rfl (by omega) (by omega) (lt16 (by omega)) (by omega))
        have HE1 : Hid ((D ++ numB false 2 F).length = m' + 2) := by rw [Hid, List.length_append, numB_len, hm']
        obtain ⟨D1, hD1⟩ := named (D ++ numB false 2 F)
        rw [hD1.out] at HM1 HE1 HT2
        have HM2 := Lib.hid (fun W a c hA => mNumber w0 W B a (m' + 2) c D1 2 T 2 T hA (by omega) rfl rfl (by omega) (by omega) (lt16 (by omega)) (by omega))
        have HE2 : Hid ((D1 ++ numB false 2 T).length = m' + 2 + 2) := by rw [Hid, List.length_append, numB_len, HE1.out]
        obtain ⟨D2, hD2⟩ := named (D1 ++ numB false 2 T)
        rw [hD2.out] at HM2 HE2 HT2
        clear hx hm' hD1 hD2 hFT f1 f2 t1 t2 HT
        go_wp2_with (first
          | (go_at_call 43; (with_reducible refine (HM1.out _ _ _ HB1.out).mono ?_); rintro e w5 hq; obtain ⟨a5, c5, rfl, hA5, hk⟩ := hq.named HE1.out; have HA5 := Lib.hid hA5; have HK5 := Lib.hid (HKA.out.trans hk); have HY5 := Lib.hid (HY.out.keepU (by decide) hk); have z1 : w5.cell? ⟨wr.heap.size, 1, none⟩ = some (.int .i64 T) := HY5.out.cell 1; clear hq hA5 hk HM1)
          | (go_at_call 43; (with_reducible refine (HM2.out _ _ _ HA5.out).mono ?_); rintro e w6 hq; obtain ⟨a6, c6, rfl, hA6, hk⟩ := hq.named HE2.out; have HA6 := Lib.hid hA6; have HK6 := Lib.hid (HK5.out.trans hk); clear hq hA6 hk HM2))
        go_roundw
        case rel => exact ⟨j + 1, a6, c6, _, D2, by omega, rfl, by go_num, HA6.out, HT2.out, HK6.out⟩
        case measure => simp [intOf]; omega
      · obtain rfl : j = ll := by omega
        have hd : l.drop j = [] := List.drop_eq_nil_of_le (by rw [HS.out.1]; exact Nat.le_refl _)
        have he := HT.out
        rw [hd, List.flatMap_nil, List.append_nil] at he
        subst he
        have hm' : TL.length = m' := HP.out.1.len
        subst hm'
        go_wp2
        go_ret
        exact ⟨a', c', rfl, HP.out, HK.out⟩
  · have hlb : ll ≤ 5000 := hll
    go_loopw [0, 25] (fun b i wr => ∃ (j : Nat) (a' : Option Addr) (c' m' : Nat) (D : List Int), j ≤ ll ∧ b = .slice a' m' c' ∧ i = .int .i64 j ∧ Hid (Ap w0 B a' m' c' D wr) ∧ Hid (TL = D ++ (l.drop j).flatMap spB) ∧ Hid (KeepU w wr)) (fun _ i _ => ll - (intOf i).toNat)
    case atStart => exact ⟨0, a3, c3, _, L3, Nat.zero_le _, rfl, rfl, HA3.out, HSPL.out, HK3.out⟩
    case round =>
      obtain ⟨j, a', c', m', D, hj, rfl, rfl, HP, HT, HK⟩ := hrel
      clear x0 x1 x2
      by_cases hlt : j < ll
      · have hx := spAt_some l j (by rw [HS.out.1]; exact hlt)
        obtain ⟨b, off, rfl, y0, y1⟩ := span_cells9 (HS.out.later HP.out.b) j hlt
        obtain ⟨⟨f1, f2⟩, ⟨t1, t2⟩⟩ := HSP.out _ (List.mem_of_getElem? hx)
        have hm' : D.length = m' := HP.out.1.len
        have hmb : m' ≤ 9100000 := by
          have h1 := HTL.out
          rw [HT.out, List.length_append] at h1
          omega
        rw [drop_cons hx, List.flatMap_cons] at HT
        obtain ⟨⟨F, T⟩, hFT⟩ := named (spAt l j)
        rw [hFT.out] at y0 y1 f1 f2 t1 t2 HT
        dsimp only at y0 y1 f1 f2 t1 t2
        obtain ⟨F, rfl⟩ : ∃ N : Nat, F = N := ⟨F.toNat, by omega⟩
        obtain ⟨T, rfl⟩ : ∃ N : Nat, T = N := ⟨T.toNat, by omega⟩
        have HT2 : Hid (TL = D ++ numB false 2 F ++ numB false 2 T ++ (l.drop (j + 1)).flatMap spB) := by
          rw [Hid, HT.out]
          unfold spB
          simp only [Int.toNat_natCast, List.append_assoc]
        have HB1 := Lib.hid (HP.out.later ((Below.refl _ wr).alloc (Nat.le_refl _) (.cells #[.int .i64 F, .int .i64 T] 59)))
        have HY : Hid (Blk (wr.alloc (.cells #[.int .i64 F, .int .i64 T] 59)) wr.heap.size 59 #[.int .i64 F, .int .i64 T]) := Blk.new _ _ _
        have HKA := Lib.hid (HK.out.trans (KeepU.later ((Below.refl _ wr).alloc (Nat.le_refl _) (.cells #[.int .i64 F, .int .i64 T] 59))))
        have HM1 := Lib.hid (fun W a c hA => mNumber w0 W B a m' c D 2 F 2 F hA (by omega) rfl rfl (by omega) (by omega) (lt16 (by omega)) (by omega))
        have HE1 : Hid ((D ++ numB false 2 F).length = m' + 2) := by rw [Hid, List.length_append, numB_len, hm']
        obtain ⟨D1, hD1⟩ := named (D ++ numB false 2 F)
        rw [hD1.out] at HM1 HE1 HT2
        have HM2 := Lib.hid (fun W a c hA => mNumber w0 W B a (m' + 2) c D1 2 T 2 T hA (by omega) rfl rfl (by omega) (by omega) (lt16 (by omega)) (by omega))
        have HE2 : Hid ((D1 ++ numB false 2 T).length = m' + 2 + 2) := by rw [Hid, List.length_append, numB_len, HE1.out]
        obtain ⟨D2, hD2⟩ := named (D1 ++ numB false 2 T)
        rw [hD2.out] at HM2 HE2 HT2
        clear hx hm' hD1 hD2 hFT f1 f2 t1 t2 HT
        go_wp2_with (first
          | (go_at_call 43; (with_reducible refine (HM1.out _ _ _ HB1.out).mono ?_); rintro e w5 hq; obtain ⟨a5, c5, rfl, hA5, hk⟩ := hq.named HE1.out; have HA5 := Lib.hid hA5; have HK5 := Lib.hid (HKA.out.trans hk); have HY5 := Lib.hid (HY.out.keepU (by decide) hk); have z1 : w5.cell? ⟨wr.heap.size, 1, none⟩ = some (.int .i64 T) := HY5.out.cell 1; clear hq hA5 hk HM1)
          | (go_at_call 43; (with_reducible refine (HM2.out _ _ _ HA5.out).mono ?_); rintro e w6 hq; obtain ⟨a6, c6, rfl, hA6, hk⟩ := hq.named HE2.out; have HA6 := Lib.hid hA6; have HK6 := Lib.hid (HK5.out.trans hk); clear hq hA6 hk HM2))
        go_roundw
        case rel => exact ⟨j + 1, a6, c6, _, D2, by omega, rfl, by go_num, HA6.out, HT2.out, HK6.out⟩
        case measure => simp [intOf]; omega
      · obtain rfl : j = ll := by omega
        have hd : l.drop j = [] := List.drop_eq_nil_of_le (by rw [HS.out.1]; exact Nat.le_refl _)
        have he := HT.out
        rw [hd, List.flatMap_nil, List.append_nil] at he
        subst he
        have hm' : TL.length = m' := HP.out.1.len
        subst hm'
        go_wp2
        go_ret
        exact ⟨a', c', rfl, HP.out, HK.out⟩
end Go.Proofs.YtdffgnpldapciaaGreatDoor
namespace Go.Proofs.YtdffgnpldapciaaGreatDoor
open Go.RowKit
set_option linter.unusedVariables false

def lead (c : Int) : List Int → Nat
  | [] => 0
  | x :: r => if x = c then lead c r + 1 else 0
/-- The length of the first run. -/
def runN : List Int → Nat
  | [] => 0
  | x :: r => min (lead x r + 1) 65535
theorem lead_ge {c : Int} : ∀ (r : List Int) (m : Nat), (∀ k, k < m → r[k]? = some c) → m ≤ lead c r
  | _, 0, _ => Nat.zero_le _
  | [], m + 1, h => by have := h 0 (by omega); simp at this
  | x :: r, m + 1, h => by
    have h0 := h 0 (by omega)
    simp at h0
    unfold lead
    rw [if_pos h0]
    have := lead_ge r m fun k hk => by have := h (k + 1) (by omega); rwa [List.getElem?_cons_succ] at this
    omega
theorem lead_le {c : Int} : ∀ (r : List Int) (m : Nat) (y : Int), r[m]? = some y → y ≠ c → lead c r ≤ m
  | [], m, y, h, _ => by simp at h
  | x :: r, 0, y, h, hy => by
    simp at h
    subst h
    unfold lead
    rw [if_neg hy]
    exact Nat.le_refl _
  | x :: r, m + 1, y, h, hy => by
    rw [List.getElem?_cons_succ] at h
    have := lead_le r m y h hy
    unfold lead
    split <;> omega
theorem lead_len {c : Int} : ∀ r : List Int, lead c r ≤ r.length
  | [] => Nat.le_refl _
  | x :: r => by
    have := lead_len (c := c) r
    unfold lead
    rw [List.length_cons]
    split <;> omega
theorem run_is {K : List Int} {x : Int} {j : Nat} (h1 : 1 ≤ j) (hj : j ≤ 65535) (hl : j ≤ K.length) (hall : ∀ k, k < j → K[k]? = some x) (hend : j = K.length ∨ j = 65535 ∨ ∃ y, K[j]? = some y ∧ y ≠ x) : runN K = j := by
  match K, hl, hall, hend with
  | [], hl, _, _ => simp at hl; omega
  | z :: r, hl, hall, hend =>
    have h0 := hall 0 (by omega)
    simp at h0
    subst h0
    have h2 := lead_ge r (j - 1) fun k hk => by have := hall (k + 1) (by omega); rwa [List.getElem?_cons_succ] at this
    rw [List.length_cons] at hl
    show min (lead z r + 1) 65535 = j
    rcases hend with e | e | ⟨y, hy, hne⟩
    · have := lead_len (c := z) r
      rw [List.length_cons] at e
      omega
    · omega
    · have h3 : lead z r ≤ j - 1 := lead_le r (j - 1) y (by
        have : z :: r = z :: r := rfl
        obtain ⟨q, rfl⟩ : ∃ q, j = q + 1 := ⟨j - 1, by omega⟩
        rw [List.getElem?_cons_succ] at hy
        exact hy) hne
      omega
theorem runN_pos {K : List Int} (h : K ≠ []) : 1 ≤ runN K ∧ runN K ≤ 65535 ∧ runN K ≤ K.length := by
  cases K with
  | nil => exact absurd rfl h
  | cons x r =>
    have := lead_len (c := x) r
    show 1 ≤ min (lead x r + 1) 65535 ∧ min (lead x r + 1) 65535 ≤ 65535 ∧ min (lead x r + 1) 65535 ≤ (x :: r).length
    rw [List.length_cons]
    omega
def runsF : Nat → List Int → List Int
  | 0, _ => []
  | n + 1, K => if K = [] then [] else numB false 2 (runN K) ++ numB false 2 (K.headD 0).toNat ++ runsF n (K.drop (runN K))
def runsB (K : List Int) : List Int := runsF K.length K
theorem runsF_more : ∀ (n : Nat) (K : List Int), K.length ≤ n → runsF n K = runsF (n + 1) K
  | 0, K, h => by
    obtain rfl : K = [] := List.eq_nil_of_length_eq_zero (by omega)
    rfl
  | n + 1, K, h => by
    by_cases hK : K = []
    · subst hK
      rfl
    · have := (runN_pos hK).1
      have ih := runsF_more n (K.drop (runN K)) (by rw [List.length_drop]; omega)
      rw [runsF, if_neg hK, runsF, if_neg hK, ih]
theorem runsF_any : ∀ (d : Nat) (K : List Int), runsF (K.length + d) K = runsB K
  | 0, K => rfl
  | d + 1, K => by
    rw [← runsF_any d K, ← Nat.add_assoc]
    exact (runsF_more _ K (by omega)).symm
theorem runsB_step {K : List Int} (h : K ≠ []) : runsB K = numB false 2 (runN K) ++ numB false 2 (K.headD 0).toNat ++ runsB (K.drop (runN K)) := by
  have hp := runN_pos h
  have hl : 0 < K.length := List.length_pos_iff.2 h
  have e : K.length = (K.drop (runN K)).length + (runN K - 1) + 1 := by rw [List.length_drop]; omega
  rw [← runsF_any (runN K - 1) (K.drop (runN K))]
  unfold runsB
  rw [e, runsF, if_neg h]
theorem runsB_len : ∀ (n : Nat) (K : List Int), K.length ≤ n → (runsB K).length ≤ 4 * K.length
  | 0, K, h => by
    obtain rfl : K = [] := List.eq_nil_of_length_eq_zero (by omega)
    exact Nat.le_refl _
  | n + 1, K, h => by
    by_cases hK : K = []
    · subst hK
      exact Nat.le_refl _
    · have hp := runN_pos hK
      have ih := runsB_len n (K.drop (runN K)) (by rw [List.length_drop]; omega)
      rw [runsB_step hK, List.length_append, List.length_append, numB_len, numB_len]
      rw [List.length_drop] at ih
      omega
def cntB (K : List Int) : List Int := numB false 4 K.length ++ runsB K
set_option maxHeartbeats 1600000 in
theorem mRunOf {w : World} {a : Option Addr} {n : Nat} (c : Nat) {K : List Int} (h : Reads ivV w a n K) (h0 : 0 < n) (hn : n ≤ 70000) : Calls Tryz.prog 69 #[.slice a n c] w fun e w' => e = .returned (.int .i64 (runN K)) ∧ Below w.heap.size w w' := by
  have hl := h.1
  have HD := Lib.hid h
  obtain ⟨b, off, e1, c0, k0⟩ := iv_cell h 0 h0
  subst e1
  have hK : K ≠ [] := fun e => by rw [e] at hl; simp at hl; omega
  obtain ⟨x, hx⟩ := named (ivAt K 0)
  rw [hx.out] at c0 k0
  have HK0 := Lib.hid k0
  rw [Nat.add_zero] at c0
  clear h hx k0
  go_enter Tryz.func69, Tryz.ntmps69
  obtain ⟨m, hm⟩ : ∃ m, m = min n 65535 := ⟨_, rfl⟩
  have hm1 : 1 ≤ m ∧ m ≤ n ∧ m ≤ 65535 ∧ (m = n ∨ m = 65535) := by omega
  have hmin : ∀ w' : World, (Builtin.min_ #[3, 3] 3 #[.int .i64 n, .int .i64 65535]).run Tryz.prog w' = .ok (.int .i64 m) w' := fun w' => by
    rw [run_min9]
    by_cases h6 : (65535 : Int) < n
    · rw [if_pos h6]
      have : m = 65535 := by omega
      subst this
      rfl
    · rw [if_neg h6]
      have : m = n := by omega
      subst this
      rfl
  have HM := Lib.hid hm1
  clear hm hm1
  go_wp2
  go_loopw [3] (fun i wr => ∃ j : Nat, i = .int .i64 j ∧ Hid (1 ≤ j ∧ j ≤ m) ∧ Hid (Below w.heap.size w wr) ∧ Hid (∀ k, k < j → K[k]? = some x)) (fun i _ => m - (intOf i).toNat)
  case atStart => exact ⟨1, rfl, ⟨Nat.le_refl _, HM.out.1⟩, Below.refl _ _, fun k hk => by
    obtain rfl : k = 0 := by omega
    exact HK0.out⟩
  case round =>
    obtain ⟨j, rfl, HJ, HB, HA⟩ := hrel
    have hj1 := HJ.out.1
    have hjm := HJ.out.2
    have HL := Lib.hid hl
    have HKN := Lib.hid hK
    have c1 : wr.cell? ⟨b, off, none⟩ = some (.int .i64 x) := (HB.out.cell (p := ⟨b, off, none⟩) (block_lt_of_cell c0)).trans c0
    have hn0 : 0 < n := h0
    clear hl hK
    by_cases hlt : j < m
    · have hjn : j < n := by have := HM.out.2.1; omega
      obtain ⟨b', off', e1, cj, kj⟩ := iv_cell (HD.out.later HB.out) j hjn
      cases e1
      obtain ⟨y, hy⟩ := named (ivAt K j)
      rw [hy.out] at cj kj
      have HKJ := Lib.hid kj
      have dj : decide ((j : Int) < m) = true := decide_eq_true (by omega)
      clear kj hy
      by_cases hxy : y = x
      · subst hxy
        have hq : (y == y) = true := by simp
        have HA2 : Hid (∀ k, k < j + 1 → K[k]? = some y) := fun k hk => by
          by_cases e : k = j
          · rw [e]; exact HKJ.out
          · exact HA.out k (by omega)
        go_wp2
        go_quiet (fail)
        go_wp2
        go_roundw
        case rel => exact ⟨j + 1, by go_num, ⟨by omega, by omega⟩, HB.out.trans ((below_drewN9 (Below.refl _ _) _).mono HB.out.size), HA2.out⟩
        case measure => simp [intOf]; omega
      · have hq : (y == x) = false := by simp [hxy]
        have hr : runN K = j := run_is hj1 (by have := HM.out.2.2.1; omega) (by rw [HL.out]; omega) HA.out (Or.inr (Or.inr ⟨y, HKJ.out, hxy⟩))
        clear hxy
        have HRN := Lib.hid hr
        clear hr
        go_wp2
        go_quiet (fail)
        go_wp2
        go_ret
        exact ⟨by rw [HRN.out]; rfl, HB.out.trans ((below_drewN9 (Below.refl _ _) _).mono HB.out.size)⟩
    · have hjm2 : j = m := by omega
      have dj : decide ((j : Int) < m) = false := decide_eq_false (by omega)
      have hr : runN K = j := run_is hj1 (by have := HM.out.2.2.1; omega) (by rw [HL.out]; have := HM.out.2.1; omega) HA.out (by rw [HL.out]; have := HM.out.2.2.2; omega)
      clear hjm2
      have HRN := Lib.hid hr
      clear hr
      go_wp2
      go_quiet (fail)
      go_wp2
      go_ret
      exact ⟨by rw [HRN.out]; rfl, HB.out.trans ((below_drewN9 (Below.refl _ _) _).mono HB.out.size)⟩
end Go.Proofs.YtdffgnpldapciaaGreatDoor
namespace Go.Proofs.YtdffgnpldapciaaGreatDoor
open Go.RowKit
set_option linter.unusedVariables false

theorem lt32 {v : Nat} (h : v < 4294967296) : v < 256 ^ 4 := by
  have : (256 : Nat) ^ 4 = 4294967296 := by decide
  omega
theorem int_size : (Tryz.prog.info? 3).map (fun i => (i.size, (i.zero.map (fun z => z.cells.size)))) = some (1, some 1) := by kernel_rfl
theorem slice_iv {w : World} {b off n c : Nat} {K : List Int} (h : Reads ivV w (some ⟨b, off, none⟩) n K) (hc : n ≤ c) (k : Nat) (hk : k ≤ n) :
    ∃ (a' : Option Addr), (∀ w' : World, (Instr.slice 29 (.slice (some ⟨b, off, none⟩) n c) (some (.int .i64 k)) none none).run Tryz.prog w' = .ok (.slice a' (n - k) (c - k)) w') ∧ Reads ivV w a' (n - k) (K.drop k) := by
  obtain ⟨i0, hi0, hz1⟩ := Option.map_eq_some_iff.1 int_size
  have hz := congrArg Prod.fst hz1
  dsimp only at hz
  obtain ⟨h1, h2, h3⟩ := h
  refine ⟨if c = k then some ⟨b, off, none⟩ else some ⟨b, off + k * 1, none⟩, fun w' => ?_, by rw [List.length_drop]; omega, by omega, ?_⟩
  · by_cases hck : c = k
    · subst hck
      simp [Instr.slice, Instr.sliceBounds, Instr.sliceBound, asIntOf, run_underlying Tryz.underlying29, sizeOf, typeInfo, hi0, hk, Addr.add, go_sem]
    · simp [Instr.slice, Instr.sliceBounds, Instr.sliceBound, asIntOf, run_underlying Tryz.underlying29, sizeOf, typeInfo, hi0, hz, hk, hck, Addr.add, go_sem]
  · by_cases hz0 : n - k = 0
    · exact Or.inl hz0
    · obtain ⟨b', off', e, hlt, hcc⟩ := h3.resolve_left (by omega)
      cases e
      refine Or.inr ⟨b, off + k, by rw [if_neg (by omega), Nat.mul_one], hlt, fun j u hu => ?_⟩
      have e1 : ∀ M : List Int, M.flatMap ivV = M.map (Value.int .i64) := fun M => by
        induction M with
        | nil => rfl
        | cons x r ih => rw [List.flatMap_cons, ih]; rfl
      have := hcc (k + j) u (by
        rw [e1] at hu ⊢
        rw [List.getElem?_map] at hu ⊢
        rwa [List.getElem?_drop] at hu)
      rwa [Nat.add_assoc]
set_option maxRecDepth 100000 in
set_option maxHeartbeats 3200000 in
theorem mAppCounts (w0 w : World) (B : Nat) (a : Option Addr) (n c : Nat) (L : List Int) (ka : Option Addr) (kn kc : Nat) (K : List Int) (hA : Ap w0 B a n c L w) (hn : n ≤ 9200000) (hK : IntsD w0 ka kn kc K) (hkn : kn ≤ 65536) (hkk : ∀ k ∈ K, 0 ≤ k ∧ k ≤ 65535) :
    Calls Tryz.prog 47 #[.slice a n c, .slice ka kn kc] w (AppQ w0 B w (L ++ cntB K)) := by
  have hl : K.length = kn := hK.1.1
  have hLn : L.length = n := hA.1.len
  have hrl := runsB_len K.length K (Nat.le_refl _)
  have htl : (L ++ cntB K).length ≤ 9600000 := by
    unfold cntB
    rw [List.length_append, List.length_append, numB_len, hLn]
    omega
  obtain ⟨TL, hTL⟩ := named (L ++ cntB K)
  have HTL : Hid (TL.length ≤ 9600000) := by rw [← hTL.out]; exact htl
  have HSPL : Hid (TL = L ++ numB false 4 kn ++ runsB K) := by
    rw [Hid, ← hTL.out]
    unfold cntB
    rw [hl, List.append_assoc]
  rw [hTL.out]
  have HN1 := Lib.hid (fun W hA => mNumber w0 W B a n c L 4 kn 4 kn hA (by omega) rfl rfl (by omega) (by omega) (lt32 (by omega)) (by omega))
  have HL1 : Hid ((L ++ numB false 4 kn).length = n + 4) := by rw [Hid, List.length_append, numB_len, hLn]
  obtain ⟨L1, hL1⟩ := named (L ++ numB false 4 kn)
  rw [hL1.out] at HN1 HL1 HSPL
  have HA := Lib.hid hA
  have HD := Lib.hid hK.1
  have HCP := Lib.hid hK.2.1.2
  have HKK := Lib.hid hkk
  clear hA hK hl hLn hrl htl hTL hL1 hkk
  go_enter Tryz.func47, Tryz.ntmps47
  go_wp2_with (first
    | (go_at_call 43; (with_reducible refine (HN1.out _ HA.out).mono ?_); rintro e w1 hq; obtain ⟨a1, c1, rfl, hA1, hk⟩ := hq.named HL1.out; have HA1 := Lib.hid hA1; have HK1 := Lib.hid hk; clear hq hA1 hk))
  go_loopw [0, 1] (fun b s wr => ∃ (p q : Nat) (a' : Option Addr) (c' m' : Nat) (D : List Int) (ka' : Option Addr), p + q = kn ∧ b = .slice a' m' c' ∧ s = .slice ka' q (kc - p) ∧ Hid (Ap w0 B a' m' c' D wr) ∧ Hid (TL = D ++ runsB (K.drop p)) ∧ Hid (KeepU w wr) ∧ Hid (Reads ivV w0 ka' q (K.drop p))) (fun _ s _ => match s with | .slice _ q _ => q | _ => 0)
  case atStart => exact ⟨0, kn, a1, c1, _, L1, ka, by omega, rfl, rfl, HA1.out, HSPL.out, HK1.out, HD.out⟩
  case round =>
    obtain ⟨p, q, a', c', m', D, ka', hpq, rfl, rfl, HP, HT, HK, HR⟩ := hrel
    have hm' : D.length = m' := HP.out.1.len
    have hmb : m' ≤ 9600000 := by
      have h1 := HTL.out
      rw [HT.out, List.length_append] at h1
      omega
    by_cases h0 : q = 0
    · subst h0
      have hd : K.drop p = [] := List.eq_nil_of_length_eq_zero HR.out.1
      have he := HT.out
      rw [hd, show runsB [] = [] from rfl, List.append_nil] at he
      subst he
      subst hm'
      go_wp2
      go_ret
      exact ⟨a', c', rfl, HP.out, HK.out⟩
    · obtain ⟨b, off, e1, y0, k0⟩ := iv_cell HR.out 0 (by omega)
      subst e1
      rw [Nat.add_zero] at y0
      obtain ⟨M, hM⟩ := named (K.drop p)
      rw [hM.out] at HR HT k0 y0
      have hMK : ∀ k ∈ M, 0 ≤ k ∧ k ≤ 65535 := fun k hk => HKK.out k (by rw [← hM.out] at hk; exact List.mem_of_mem_drop hk)
      have hMne : M ≠ [] := fun e => by have := HR.out.1; rw [e] at this; simp at this; omega
      have hrp := runN_pos hMne
      rw [runsB_step hMne] at HT
      have hML := HR.out.1
      obtain ⟨a9, hsl, hR9⟩ := slice_iv HR.out (c := kc - p) (by have := HCP.out; omega) (runN M) (by omega)
      have HRO := Lib.hid (fun W (hb : Below w0.heap.size w0 W) => mRunOf (kc - p) (HR.out.later hb) (by omega) (by omega))
      have hdd : M.drop (runN M) = K.drop (p + runN M) := by rw [← hM.out, List.drop_drop]
      rw [hdd] at HT hR9
      obtain ⟨x, hx⟩ := named (ivAt M 0)
      rw [hx.out] at y0 k0
      obtain ⟨hx0, hx1⟩ := hMK x (List.mem_of_getElem? k0)
      have hhd : M.headD 0 = x := by
        cases M with
        | nil => exact absurd rfl hMne
        | cons z r => simp at k0; exact k0
      rw [hhd] at HT
      obtain ⟨X, rfl⟩ : ∃ X : Nat, x = X := ⟨x.toNat, by omega⟩
      rw [Int.toNat_natCast] at HT
      obtain ⟨R, hR⟩ := named (runN M)
      rw [hR.out] at HT hR9 hsl HRO hrp
      have HR9 := Lib.hid hR9
      have HM1 := Lib.hid (fun W a c hA => mNumber w0 W B a m' c D 2 R 2 R hA (by omega) rfl rfl (by omega) (by omega) (lt16 (by omega)) (by omega))
      have HE1 : Hid ((D ++ numB false 2 R).length = m' + 2) := by rw [Hid, List.length_append, numB_len, hm']
      have HT2 : Hid (TL = D ++ numB false 2 R ++ numB false 2 X ++ runsB (K.drop (p + R))) := by
        rw [Hid, HT.out]
        simp only [List.append_assoc]
      obtain ⟨D1, hD1⟩ := named (D ++ numB false 2 R)
      rw [hD1.out] at HM1 HE1 HT2
      have HM2 := Lib.hid (fun W a c hA => mNumber w0 W B a (m' + 2) c D1 2 X 2 X hA (by omega) rfl rfl (by omega) (by omega) (lt16 (by omega)) (by omega))
      have HE2 : Hid ((D1 ++ numB false 2 X).length = m' + 2 + 2) := by rw [Hid, List.length_append, numB_len, HE1.out]
      obtain ⟨D2, hD2⟩ := named (D1 ++ numB false 2 X)
      rw [hD2.out] at HM2 HE2 HT2
      have hkp : kc - p - R = kc - (p + R) := by omega
      rw [hkp] at hsl
      have hRq : R ≤ q := by omega
      have hR1 : 1 ≤ R := hrp.1
      have hbl : b < w0.heap.size := block_lt_of_cell y0
      have HY0 : Hid (w0.cell? ⟨b, off, none⟩ = some (.int .i64 X)) := y0
      have hq0 : 0 < q := by omega
      have HP1 := Lib.hid HP.out.b
      clear hm' hM hMK hMne hrp hML hdd hx k0 hx0 hx1 hhd hR hD1 hD2 hkp HT hR9
      go_wp2_with (first
        | (go_at_call 69; (with_reducible refine (HRO.out _ HP1.out).mono ?_); rintro e w5 ⟨rfl, hb⟩; have HB5 := Lib.hid hb; have HP5 := Lib.hid (HP.out.later hb); have HK5 := Lib.hid (HK.out.trans (KeepU.later hb)); clear hb)
        | (go_at_call 43; (with_reducible refine (HM1.out _ _ _ HP5.out).mono ?_); rintro e w6 hq; obtain ⟨a6, c6, rfl, hA6, hk⟩ := hq.named HE1.out; have HA6 := Lib.hid hA6; have HK6 := Lib.hid (HK5.out.trans hk); have z0 := (Below.cell (p := ⟨b, off, none⟩) (Ap.b hA6) hbl).trans HY0.out; clear hq hA6 hk HM1)
        | (go_at_call 43; (with_reducible refine (HM2.out _ _ _ HA6.out).mono ?_); rintro e w7 hq; obtain ⟨a7, c7, rfl, hA7, hk⟩ := hq.named HE2.out; have HA7 := Lib.hid hA7; have HK7 := Lib.hid (HK6.out.trans hk); clear hq hA7 hk HM2))
      go_roundw
      case rel => exact ⟨p + R, q - R, a7, c7, _, D2, a9, by omega, rfl, rfl, HA7.out, HT2.out, HK7.out, HR9.out⟩
      case measure => simp; omega
end Go.Proofs.YtdffgnpldapciaaGreatDoor
namespace Go.Proofs.YtdffgnpldapciaaGreatDoor
open Go.RowKit
set_option linter.unusedVariables false

def shB (d : ShM) : List Int := textB d.1 ++ numB false 2 d.2.1.toNat ++ tblB d.2.2
def encM (M : MM) : List Int := numB false 1 M.c.toNat ++ numB false 2 M.s.toNat ++ textB M.bk ++ tblB M.T ++ numB false 1 M.S.length ++ M.S.flatMap shB ++ numB false 1 M.B.length ++ M.B.flatMap bmB ++ cntB M.K
theorem rightL_wide {lf : List En} {i : Nat} {n c : Int} (h : rightL lf i n c) (hn : n ≤ 4096) : rightL lf i 4096 c := ⟨h.1, fun k hk => ⟨(h.2.1 k hk).1, fun hne => by have := (h.2.1 k hk).2 hne; omega⟩, h.2.2⟩
theorem rightT_wide {T : Tb} {n c : Int} (h : rightT T n c) : rightT T 4096 c := ⟨by omega, h.2.1, h.2.2.1, h.2.2.2.1, fun i hi hne => rightL_wide (h.2.2.2.2 i hi hne) h.1.2⟩
theorem rt_allJ : ∀ {lo : Int} (l : List Sp), Rt lo l → ∀ x ∈ l, lo < x.1 ∧ x.1 < x.2
  | _, [], _, x, hx => by cases hx
  | lo, y :: r, h, x, hx => by
    rcases List.mem_cons.1 hx with rfl | hx
    · exact ⟨h.1, h.2.1⟩
    · have := rt_allJ r h.2.2.2 x hx
      have := h.1
      have := h.2.1
      omega
theorem rt_lastJ : ∀ {lo : Int} (l : List Sp), Rt lo l → ∀ x ∈ l, x.2 ≤ (spAt l (l.length - 1)).2
  | _, [], _, x, hx => by cases hx
  | lo, [y], h, x, hx => by
    obtain rfl := List.mem_singleton.1 hx
    exact Int.le_refl _
  | lo, y :: z :: r, h, x, hx => by
    have e : spAt (y :: z :: r) ((y :: z :: r).length - 1) = spAt (z :: r) ((z :: r).length - 1) := by
      unfold spAt
      simp
    rw [e]
    have ih := rt_lastJ (z :: r) h.2.2.2
    rcases List.mem_cons.1 hx with rfl | hx
    · have h1 := ih z (by simp)
      have h2 := rt_allJ (z :: r) h.2.2.2 z (by simp)
      omega
    · exact ih x hx
theorem rt_lenJ : ∀ {lo : Int} (l : List Sp), Rt lo l → ∀ K : Int, lo ≤ K → (∀ x ∈ l, x.2 ≤ K) → (l.length : Int) ≤ K - lo
  | lo, [], _, K, h, _ => by simp; omega
  | lo, x :: r, h, K, _, hn => by
    have h1 := h.1
    have h2 := h.2.1
    have h3 := hn x (by simp)
    have h4 := rt_lenJ r h.2.2.2 K (by omega) (fun y g => hn y (by simp [g]))
    rw [List.length_cons]
    omega
theorem setOk_small {l : List Sp} (h : setOk l) : l.length ≤ 4097 ∧ ∀ s ∈ l, Two16 s.1 ∧ Two16 s.2 := by
  have hall : ∀ x ∈ l, x.2 ≤ 4096 := fun x hx => by
    have h1 := rt_lastJ l h.1 x hx
    have h2 := h.2 (List.length_pos_of_mem hx)
    omega
  refine ⟨by have := rt_lenJ l h.1 4096 (by omega) hall; omega, fun s hs => ?_⟩
  have h1 := rt_allJ l h.1 s hs
  have h2 := hall s hs
  unfold Two16
  omega
theorem flat_le {α : Type} (f : α → List Int) (k : Nat) : ∀ l : List α, (∀ x ∈ l, (f x).length ≤ k) → (l.flatMap f).length ≤ l.length * k
  | [], _ => by simp
  | x :: r, h => by
    rw [List.flatMap_cons, List.length_append, List.length_cons]
    have h1 := h x (by simp)
    have h2 := flat_le f k r fun y hy => h y (by simp [hy])
    rw [Nat.add_mul]
    omega
structure Sml (M : MM) : Prop where
  c : 0 ≤ M.c ∧ M.c ≤ 6
  s : 0 ≤ M.s ∧ M.s ≤ 4096
  bk : M.bk.size ≤ 16
  T : rightT M.T 4096 M.c
  nS : M.S.length ≤ 8
  S : ∀ d ∈ M.S, d.1.size ≤ 16 ∧ (0 ≤ d.2.1 ∧ d.2.1 ≤ 4096) ∧ rightT d.2.2 4096 M.c
  nB : M.B.length ≤ 8
  B : ∀ b ∈ M.B, b.1.size ≤ 16 ∧ b.2.2.length ≤ 4097 ∧ ∀ s ∈ b.2.2, Two16 s.1 ∧ Two16 s.2
  nK : M.K.length ≤ 65536
  K : ∀ k ∈ M.K, 0 ≤ k ∧ k ≤ 65535
theorem RightMt.sml {M : MM} (h : RightMt M) : Sml M := by
  refine ⟨h.c, ⟨h.s.1, h.s.2.1⟩, ?_, rightT_wide h.T, h.nS, fun d hd => ?_, h.nB, fun b hb => ?_, h.nK, h.K⟩
  · rcases Nat.eq_zero_or_pos M.bk.size with e | e
    · omega
    · exact (h.bk e).2.1
  · obtain ⟨i, hi⟩ := List.getElem?_of_mem hd
    obtain ⟨q1, _, q3, q4⟩ := h.S i d hi
    exact ⟨q1.2.1, ⟨q3.1, q3.2.1⟩, rightT_wide q4⟩
  · obtain ⟨i, hi⟩ := List.getElem?_of_mem hb
    obtain ⟨q1, _, q3, q4⟩ := h.B i b hi
    exact ⟨q1.2.1, setOk_small ⟨q3, q4⟩⟩
theorem shB_len {d : ShM} {c : Int} (h1 : d.1.size ≤ 16) (h2 : rightT d.2.2 4096 c) : (shB d).length ≤ 66582 := by
  have := tblB_bound h2
  unfold shB
  rw [List.length_append, List.length_append, textB_len, numB_len]
  omega
theorem encM_len {M : MM} (h : Sml M) : (encM M).length ≤ 992700 := by
  have h1 := tblB_bound h.T
  have h2 := flat_le shB 66582 M.S fun d hd => shB_len (h.S d hd).1 (h.S d hd).2.2
  have h3 := flat_le bmB 16409 M.B fun b hb => by rw [bmB_len]; have := (h.B b hb).1; have := (h.B b hb).2.1; omega
  have h4 := runsB_len M.K.length M.K (Nat.le_refl _)
  have h5 := h.nS
  have h6 := h.nB
  have h7 := h.nK
  have h8 := h.bk
  have h9 : M.S.length * 66582 ≤ 8 * 66582 := Nat.mul_le_mul_right _ h5
  have h10 : M.B.length * 16409 ≤ 8 * 16409 := Nat.mul_le_mul_right _ h6
  unfold encM cntB
  simp only [List.length_append, textB_len, numB_len]
  omega
end Go.Proofs.YtdffgnpldapciaaGreatDoor
namespace Go.Proofs.YtdffgnpldapciaaGreatDoor
open Go.RowKit
set_option linter.unusedVariables false

theorem le_split {TL D R : List Int} {k : Nat} (h : TL = D ++ R) (hk : TL.length ≤ k) : D.length ≤ k := by
  rw [h, List.length_append] at hk
  omega
set_option maxRecDepth 100000 in
set_option maxHeartbeats 6400000 in
theorem mEncode (w : World) (x : Mt) (M : MM) (h : MetaD w x M) (hs : Sml M) (hW : Wid w) : Calls Tryz.prog 22 #[.agg (mtA M x)] w (AppQ w w.heap.size w (encM M)) := by
  obtain ⟨a0, n0, c0, sa, sn, sc, ma, mn, mc, ca, cn, cc⟩ := x
  obtain ⟨c, s, bk, T, S, B, K⟩ := M
  have hlen := encM_len hs
  obtain ⟨hc, hz, hbk, hT, hS, hB, hK⟩ := h
  obtain ⟨kc, ks, kbk, kT, knS, kS, knB, kB, knK, kK⟩ := hs
  have hSl := hS.lens.1
  have hBl := hB.lens.1
  have hKl : K.length = cn := hK.1.1
  obtain ⟨TL, hTL⟩ := named (encM ⟨c, s, bk, T, S, B, K⟩)
  have HTL : Hid (TL.length ≤ 992700) := by rw [← hTL.out]; exact hlen
  have HSPL : Hid (TL = [] ++ numB false 1 c.toNat ++ numB false 2 s.toNat ++ textB bk ++ tblB T ++ numB false 1 sn ++ (S.drop 0).flatMap shB ++ (numB false 1 mn ++ (B.flatMap bmB ++ cntB K))) := by
    rw [Hid, ← hTL.out]
    unfold encM
    dsimp only at hSl hBl ⊢
    rw [hSl, hBl, List.nil_append, List.drop_zero]
    simp only [List.append_assoc]
  rw [hTL.out]
  dsimp only [mtA] at hc hz hbk hT hS hB hK kc ks kbk kT knS kS knB kB knK kK hSl hBl hKl ⊢
  obtain ⟨C, rfl⟩ : ∃ C : Nat, c = C := ⟨c.toNat, by omega⟩
  obtain ⟨Z, rfl⟩ : ∃ Z : Nat, s = Z := ⟨s.toNat, by omega⟩
  rw [Int.toNat_natCast, Int.toNat_natCast] at HSPL
  have hb1 : (256 : Nat) ^ 1 = 256 := by decide
  have HN1 := Lib.hid (fun W hA => mNumber w W w.heap.size none 0 0 [] 1 C 1 C hA (by omega) rfl rfl (by omega) (by omega) (by omega) (by omega))
  have HL1 : Hid (([] ++ numB false 1 C).length = 1) := by rw [Hid, List.length_append, numB_len]; rfl
  obtain ⟨L1, hL1⟩ := named ([] ++ numB false 1 C)
  rw [hL1.out] at HN1 HL1 HSPL
  have HN2 := Lib.hid (fun W a c hA => mNumber w W w.heap.size a 1 c L1 2 Z 2 Z hA (by omega) rfl rfl (by omega) (by omega) (lt16 (by omega)) (by omega))
  have HL2 : Hid ((L1 ++ numB false 2 Z).length = 3) := by rw [Hid, List.length_append, numB_len, HL1.out]
  obtain ⟨L2, hL2⟩ := named (L1 ++ numB false 2 Z)
  rw [hL2.out] at HN2 HL2 HSPL
  have HN3 := Lib.hid (fun W a c hA => mText w W w.heap.size a 3 c L2 bk hA (by omega) (by omega))
  obtain ⟨n3, hn3⟩ := named (L2 ++ textB bk).length
  have hn3b : n3 ≤ 992700 := by have h1 := HTL.out; rw [HSPL.out] at h1; have h2 := hn3.out; simp only [List.length_append] at h1 h2; omega
  have HL3 := Lib.hid hn3.out
  obtain ⟨L3, hL3⟩ := named (L2 ++ textB bk)
  rw [hL3.out] at HN3 HL3 HSPL
  have HN4 := Lib.hid (fun W a c hA => mTable w W w.heap.size a n3 c L3 a0 n0 c0 T C hA (by omega) hT kT hW)
  obtain ⟨n4, hn4⟩ := named (L3 ++ tblB T).length
  have hn4b : n4 ≤ 992700 := by have h1 := HTL.out; rw [HSPL.out] at h1; have h2 := hn4.out; simp only [List.length_append] at h1 h2; omega
  have HL4 := Lib.hid hn4.out
  obtain ⟨L4, hL4⟩ := named (L3 ++ tblB T)
  rw [hL4.out] at HN4 HL4 HSPL
  have HN5 := Lib.hid (fun W a c hA => mNumber w W w.heap.size a n4 c L4 1 sn 1 sn hA (by omega) rfl rfl (by omega) (by omega) (by omega) (by omega))
  obtain ⟨n5, hn5⟩ := named (L4 ++ numB false 1 sn).length
  have HL5 := Lib.hid hn5.out
  obtain ⟨L5, hL5⟩ := named (L4 ++ numB false 1 sn)
  rw [hL5.out] at HN5 HL5 HSPL
  have HA := Lib.hid ((Ap.first w).alloc (.cells #[.int .i64 C, .int .i64 Z, .string bk, .slice a0 n0 c0, .slice sa sn sc, .slice ma mn mc, .slice ca cn cc] 31))
  have HK0 := Lib.hid (KeepU.later ((Below.refl _ w).alloc (Nat.le_refl _) (.cells #[.int .i64 C, .int .i64 Z, .string bk, .slice a0 n0 c0, .slice sa sn sc, .slice ma mn mc, .slice ca cn cc] 31)))
  have HX : Hid (Blk (w.alloc (.cells #[.int .i64 C, .int .i64 Z, .string bk, .slice a0 n0 c0, .slice sa sn sc, .slice ma mn mc, .slice ca cn cc] 31)) w.heap.size 31 #[.int .i64 C, .int .i64 Z, .string bk, .slice a0 n0 c0, .slice sa sn sc, .slice ma mn mc, .slice ca cn cc]) := Blk.new _ _ _
  have HS := Lib.hid hS
  have HB := Lib.hid hB
  have HK := Lib.hid hK
  have HkS := Lib.hid kS
  have HkB := Lib.hid kB
  have HkK := Lib.hid kK
  have HWW := Lib.hid hW
  have hkc : C ≤ 6 := by omega
  have hks : Z ≤ 4096 := by omega
  have hsn : sn ≤ 8 := by omega
  have hmn : mn ≤ 8 := by omega
  have hcn : cn ≤ 65536 := by omega
  have HSl := Lib.hid hSl
  have HBl := Lib.hid hBl
  clear hc hz hbk hT hS hB hK kc ks kbk kT knS kS knB kB knK kK hTL hlen hL1 hL2 hL3 hL4 hL5 hn3 hn4 hn5 hSl hBl hKl hW
  go_enter Tryz.func22, Tryz.ntmps22
  go_wp2_with (first
    | (go_at_call 43; (with_reducible refine (HN1.out _ HA.out).mono ?_); rintro e w1 hq; obtain ⟨a1, c1, rfl, hA1, hk⟩ := hq.named HL1.out; have HA1 := Lib.hid hA1; have HK1 := Lib.hid (HK0.out.trans hk); have HX1 := Lib.hid (HX.out.keepU (by decide) hk); obtain ⟨x0, x1, x2, x3, x4, x5, x6⟩ := cells7 HX1.out; clear hq hA1 hk HN1)
    | (go_at_call 43; (with_reducible refine (HN2.out _ _ _ HA1.out).mono ?_); rintro e w2 hq; obtain ⟨a2, c2, rfl, hA2, hk⟩ := hq.named HL2.out; have HA2 := Lib.hid hA2; have HK2 := Lib.hid (HK1.out.trans hk); have HX2 := Lib.hid (HX1.out.keepU (by decide) hk); clear x0 x1 x2 x3 x4 x5 x6; obtain ⟨x0, x1, x2, x3, x4, x5, x6⟩ := cells7 HX2.out; clear hq hA2 hk HN2)
    | (go_at_call 44; (with_reducible refine (HN3.out _ _ _ HA2.out).mono ?_); rintro e w3 hq; obtain ⟨a3, c3, rfl, hA3, hk⟩ := hq.named HL3.out; have HA3 := Lib.hid hA3; have HK3 := Lib.hid (HK2.out.trans hk); have HX3 := Lib.hid (HX2.out.keepU (by decide) hk); clear x0 x1 x2 x3 x4 x5 x6; obtain ⟨x0, x1, x2, x3, x4, x5, x6⟩ := cells7 HX3.out; clear hq hA3 hk HN3)
    | (go_at_call 45; (with_reducible refine (HN4.out _ _ _ HA3.out).mono ?_); rintro e w4 hq; obtain ⟨a4, c4, rfl, hA4, hk⟩ := hq.named HL4.out; have HA4 := Lib.hid hA4; have HK4 := Lib.hid (HK3.out.trans hk); have HX4 := Lib.hid (HX3.out.keepU (by decide) hk); clear x0 x1 x2 x3 x4 x5 x6; obtain ⟨x0, x1, x2, x3, x4, x5, x6⟩ := cells7 HX4.out; clear hq hA4 hk HN4)
    | (go_at_call 43; (with_reducible refine (HN5.out _ _ _ HA4.out).mono ?_); rintro e w5 hq; obtain ⟨a5, c5, rfl, hA5, hk⟩ := hq.named HL5.out; have HA5 := Lib.hid hA5; have HK5 := Lib.hid (HK4.out.trans hk); have HX5 := Lib.hid (HX4.out.keepU (by decide) hk); clear x0 x1 x2 x3 x4 x5 x6; obtain ⟨x0, x1, x2, x3, x4, x5, x6⟩ := cells7 HX5.out; clear hq hA5 hk HN5))
  clear x0 x1 x2 x3 x4 x5 x6
  obtain ⟨RR, hRR⟩ := named (numB false 1 mn ++ (B.flatMap bmB ++ cntB K))
  rw [hRR.out] at HSPL
  go_loopw [3, 33] (fun b i wr => ∃ (j : Nat) (a' : Option Addr) (c' m' : Nat) (D : List Int), j ≤ sn ∧ b = .slice a' m' c' ∧ i = .int .i64 j ∧ Hid (Ap w w.heap.size a' m' c' D wr) ∧ Hid (TL = D ++ (S.drop j).flatMap shB ++ RR) ∧ Hid (KeepU w wr) ∧ Hid (Blk wr w.heap.size 31 #[.int .i64 C, .int .i64 Z, .string bk, .slice a0 n0 c0, .slice sa sn sc, .slice ma mn mc, .slice ca cn cc])) (fun _ i _ => sn - (intOf i).toNat)
  case atStart => exact ⟨0, a5, c5, _, L5, Nat.zero_le _, rfl, rfl, HA5.out, HSPL.out, HK5.out, HX5.out⟩
  case round =>
    obtain ⟨j, a', c', m', D, hj, rfl, rfl, HP, HT, HKr, HXr⟩ := hrel
    have hm' : D.length = m' := HP.out.1.len
    have hmb : m' ≤ 992700 := by
      have h1 := HTL.out
      rw [HT.out, List.length_append, List.length_append] at h1
      omega
    by_cases hlt : j < sn
    · obtain ⟨b, off, nm, sz, al, ll, cl, T1, rfl, hBj, hbl, ⟨hsz, hnm⟩, y0, y1, y2, hs1⟩ := HS.out.at j hlt
      obtain ⟨k1, k2, k3⟩ := HkS.out _ (List.mem_of_getElem? hBj)
      dsimp only at k1 k2 k3 hsz hnm
      obtain ⟨Y, rfl⟩ : ∃ Y : Nat, sz = Y := ⟨sz.toNat, by omega⟩
      have z0 := (Below.cell (p := ⟨b, off + j * 3, none⟩) (Ap.b HP.out) hbl).trans y0
      have z1 := (Below.cell (p := ⟨b, off + j * 3 + 1, none⟩) (Ap.b HP.out) hbl).trans y1
      have z2 := (Below.cell (p := ⟨b, off + j * 3 + 2, none⟩) (Ap.b HP.out) hbl).trans y2
      rw [drop_cons hBj, List.flatMap_cons] at HT
      have HT2 : Hid (TL = D ++ textB nm ++ numB false 2 Y ++ tblB T1 ++ (S.drop (j + 1)).flatMap shB ++ RR) := by
        rw [Hid, HT.out]
        unfold shB
        simp only [Int.toNat_natCast, List.append_assoc]
      have HB1 := Lib.hid (HP.out.alloc (.cells #[.string nm, .int .i64 Y, .slice al ll cl] 54))
      have HY : Hid (Blk (wr.alloc (.cells #[.string nm, .int .i64 Y, .slice al ll cl] 54)) wr.heap.size 54 #[.string nm, .int .i64 Y, .slice al ll cl]) := Blk.new _ _ _
      have HKA := Lib.hid (HKr.out.trans (KeepU.later ((Below.refl _ wr).alloc (Nat.le_refl _) (.cells #[.string nm, .int .i64 Y, .slice al ll cl] 54))))
      have HXA := Lib.hid (HXr.out.keepU (by decide) (KeepU.later ((Below.refl _ wr).alloc (Nat.le_refl _) (.cells #[.string nm, .int .i64 Y, .slice al ll cl] 54))))
      have HM1 := Lib.hid (fun W hA => mText w W w.heap.size a' m' c' D nm hA (by omega) (by omega))
      obtain ⟨d1, hd1⟩ := named (D ++ textB nm).length
      have hd1b : d1 ≤ 992700 := by have h1 := HTL.out; rw [HT2.out] at h1; have h2 := hd1.out; simp only [List.length_append] at h1 h2; omega
      have HE1 := Lib.hid hd1.out
      obtain ⟨D1, hD1⟩ := named (D ++ textB nm)
      rw [hD1.out] at HM1 HE1 HT2
      have HM2 := Lib.hid (fun W a c hA => mNumber w W w.heap.size a d1 c D1 2 Y 2 Y hA (by omega) rfl rfl (by omega) (by omega) (lt16 (by omega)) (by omega))
      obtain ⟨d2, hd2⟩ := named (D1 ++ numB false 2 Y).length
      have hd2b : d2 ≤ 992700 := by have h1 := HTL.out; rw [HT2.out] at h1; have h2 := hd2.out; simp only [List.length_append] at h1 h2; omega
      have HE2 := Lib.hid hd2.out
      obtain ⟨D2, hD2⟩ := named (D1 ++ numB false 2 Y)
      rw [hD2.out] at HM2 HE2 HT2
      have HM3 := Lib.hid (fun W a c hA => mTable w W w.heap.size a d2 c D2 al ll cl T1 C hA (by omega) hs1 k3 HWW.out)
      obtain ⟨d3, hd3⟩ := named (D2 ++ tblB T1).length
      have HE3 := Lib.hid hd3.out
      obtain ⟨D3, hD3⟩ := named (D2 ++ tblB T1)
      rw [hD3.out] at HM3 HE3 HT2
      obtain ⟨x0, x1, x2, x3, x4, x5, x6⟩ := cells7 HXA.out
      clear hm' hBj k1 k2 k3 hsz hnm y0 y1 y2 hs1 hd1 hd2 hd3 hD1 hD2 hD3 HT
      go_wp2_with (first
        | (go_at_call 44; (with_reducible refine (HM1.out _ HB1.out).mono ?_); rintro e w6 hq; obtain ⟨a6, c6, rfl, hA6, hk⟩ := hq.named HE1.out; have HA6 := Lib.hid hA6; have HK6 := Lib.hid (HKA.out.trans hk); have HX6 := Lib.hid (HXA.out.keepU (by decide) hk); have HY6 := Lib.hid (HY.out.keepU (by decide) hk); clear x0 x1 x2 x3 x4 x5 x6; obtain ⟨u0, u1, u2⟩ := cells3 HY6.out; clear hq hA6 hk HM1)
        | (go_at_call 43; (with_reducible refine (HM2.out _ _ _ HA6.out).mono ?_); rintro e w7 hq; obtain ⟨a7, c7, rfl, hA7, hk⟩ := hq.named HE2.out; have HA7 := Lib.hid hA7; have HK7 := Lib.hid (HK6.out.trans hk); have HX7 := Lib.hid (HX6.out.keepU (by decide) hk); have HY7 := Lib.hid (HY6.out.keepU (by decide) hk); clear u0 u1 u2; obtain ⟨u0, u1, u2⟩ := cells3 HY7.out; obtain ⟨x0, x1, x2, x3, x4, x5, x6⟩ := cells7 HX7.out; clear hq hA7 hk HM2)
        | (go_at_call 45; (with_reducible refine (HM3.out _ _ _ HA7.out).mono ?_); rintro e w8 hq; obtain ⟨a8, c8, rfl, hA8, hk⟩ := hq.named HE3.out; have HA8 := Lib.hid hA8; have HK8 := Lib.hid (HK7.out.trans hk); have HX8 := Lib.hid (HX7.out.keepU (by decide) hk); clear hq hA8 hk HM3))
      go_roundw
      case rel => exact ⟨j + 1, a8, c8, _, D3, by omega, rfl, by go_num, HA8.out, HT2.out, HK8.out, HX8.out⟩
      case measure => simp [intOf]; omega
    · obtain rfl : sn = j := by omega
      have hd : S.drop sn = [] := List.drop_eq_nil_of_le (by rw [HSl.out]; exact Nat.le_refl _)
      have HT2 : Hid (TL = D ++ numB false 1 mn ++ (B.drop 0).flatMap bmB ++ cntB K) := by
        rw [Hid, HT.out, hd, ← hRR.out, List.drop_zero]
        simp only [List.flatMap_nil, List.append_nil, List.append_assoc]
      have HN6 := Lib.hid (fun W hA => mNumber w W w.heap.size a' m' c' D 1 mn 1 mn hA (by omega) rfl rfl (by omega) (by omega) (by omega) (by omega))
      obtain ⟨n6, hn6⟩ := named (D ++ numB false 1 mn).length
      have HL6 := Lib.hid hn6.out
      obtain ⟨L6, hL6⟩ := named (D ++ numB false 1 mn)
      rw [hL6.out] at HN6 HL6 HT2
      obtain ⟨x0, x1, x2, x3, x4, x5, x6⟩ := cells7 HXr.out
      clear hm' hd hn6 hL6 HT HSPL
      go_wp2_with (first
        | (go_at_call 43; (with_reducible refine (HN6.out _ HP.out).mono ?_); rintro e w6 hq; obtain ⟨a6, c6, rfl, hA6, hk⟩ := hq.named HL6.out; have HA6 := Lib.hid hA6; have HK6 := Lib.hid (HKr.out.trans hk); have HX6 := Lib.hid (HXr.out.keepU (by decide) hk); clear x0 x1 x2 x3 x4 x5 x6; obtain ⟨x0, x1, x2, x3, x4, x5, x6⟩ := cells7 HX6.out; clear hq hA6 hk HN6))
      clear x0 x1 x2 x3 x4 x5 x6
      go_loopw [3, 60] (fun b i wr => ∃ (j : Nat) (a' : Option Addr) (c' m' : Nat) (D : List Int), j ≤ mn ∧ b = .slice a' m' c' ∧ i = .int .i64 j ∧ Hid (Ap w w.heap.size a' m' c' D wr) ∧ Hid (TL = D ++ (B.drop j).flatMap bmB ++ cntB K) ∧ Hid (KeepU w wr) ∧ Hid (Blk wr w.heap.size 31 #[.int .i64 C, .int .i64 Z, .string bk, .slice a0 n0 c0, .slice sa sn sc, .slice ma mn mc, .slice ca cn cc])) (fun _ i _ => mn - (intOf i).toNat)
      case atStart => exact ⟨0, a6, c6, _, L6, Nat.zero_le _, rfl, rfl, HA6.out, HT2.out, HK6.out, HX6.out⟩
      case round =>
        clear HX6 HK6 HA6 HT2 HL6 HXr HKr HP HX5 HK5 HA5 HX4 HK4 HA4 HX3 HK3 HA3 HX2 HK2 HA2 HX1 HK1 HA1
        obtain ⟨i, a', c', m', D, hj, rfl, rfl, HP, HT, HKr, HXr⟩ := hrel
        have hm' : D.length = m' := HP.out.1.len
        have hmb : m' ≤ 992700 := by
          have h1 := HTL.out
          rw [HT.out, List.length_append, List.length_append] at h1
          omega
        by_cases hlt : i < mn
        · obtain ⟨b, off, nm, on, al, ll, cl, l, rfl, hBj, hbl, hnm, y0, y1, y2, hs1⟩ := HB.out.at i hlt
          obtain ⟨k1, k2, k3⟩ := HkB.out _ (List.mem_of_getElem? hBj)
          dsimp only at k1 k2 k3 hnm
          have hll : l.length = ll := hs1.1.1
          have z0 := (Below.cell (p := ⟨b, off + i * 3, none⟩) (Ap.b HP.out) hbl).trans y0
          have z1 := (Below.cell (p := ⟨b, off + i * 3 + 1, none⟩) (Ap.b HP.out) hbl).trans y1
          have z2 := (Below.cell (p := ⟨b, off + i * 3 + 2, none⟩) (Ap.b HP.out) hbl).trans y2
          rw [drop_cons hBj, List.flatMap_cons] at HT
          have HT2 : Hid (TL = D ++ bmB (nm, on, l) ++ (B.drop (i + 1)).flatMap bmB ++ cntB K) := by
            rw [Hid, HT.out]
            simp only [List.append_assoc]
          have HB1 := Lib.hid (HP.out.alloc (.cells #[.string nm, .bool on, .slice al ll cl] 57))
          have HKA := Lib.hid (HKr.out.trans (KeepU.later ((Below.refl _ wr).alloc (Nat.le_refl _) (.cells #[.string nm, .bool on, .slice al ll cl] 57))))
          have HXA := Lib.hid (HXr.out.keepU (by decide) (KeepU.later ((Below.refl _ wr).alloc (Nat.le_refl _) (.cells #[.string nm, .bool on, .slice al ll cl] 57))))
          have HM1 := Lib.hid (fun W hA => mBitmap w W w.heap.size a' m' c' D nm on al ll cl l hA (by omega) (by omega) hs1 (by omega) k3)
          obtain ⟨d1, hd1⟩ := named (D ++ bmB (nm, on, l)).length
          have HE1 := Lib.hid hd1.out
          obtain ⟨D1, hD1⟩ := named (D ++ bmB (nm, on, l))
          rw [hD1.out] at HM1 HE1 HT2
          clear hm' hBj k1 k2 k3 hnm y0 y1 y2 hs1 hd1 hD1 HT
          go_wp2_with (first
            | (go_at_call 46; (with_reducible refine (HM1.out _ HB1.out).mono ?_); rintro e w6 hq; obtain ⟨a6, c6, rfl, hA6, hk⟩ := hq.named HE1.out; have HA6 := Lib.hid hA6; have HK6 := Lib.hid (HKA.out.trans hk); have HX6 := Lib.hid (HXA.out.keepU (by decide) hk); clear hq hA6 hk HM1))
          go_roundw
          case rel => exact ⟨i + 1, a6, c6, _, D1, by omega, rfl, by go_num, HA6.out, HT2.out, HK6.out, HX6.out⟩
          case measure => simp [intOf]; omega
        · obtain rfl : mn = i := by omega
          have hd : B.drop mn = [] := List.drop_eq_nil_of_le (by rw [HBl.out]; exact Nat.le_refl _)
          have he : TL = D ++ cntB K := by
            rw [HT.out, hd]
            simp only [List.flatMap_nil, List.append_nil]
          have HN7 := Lib.hid (fun W hA => mAppCounts w W w.heap.size a' m' c' D ca cn cc K hA (by omega) HK.out (by omega) HkK.out)
          rw [← he] at HN7
          obtain ⟨x0, x1, x2, x3, x4, x5, x6⟩ := cells7 HXr.out
          clear hm' hd he HT
          go_wp2_with (first
            | (go_at_call 47; (with_reducible refine (HN7.out _ HP.out).mono ?_); rintro e w6 ⟨a6, c6, rfl, hA6, hk⟩; have HA6 := Lib.hid hA6; have HK6 := Lib.hid (HKr.out.trans hk); clear hA6 hk HN7))
          go_ret
          exact ⟨a6, c6, rfl, HA6.out, HK6.out⟩
end Go.Proofs.YtdffgnpldapciaaGreatDoor
namespace Go.Proofs.YtdffgnpldapciaaGreatDoor
open Go.RowKit
set_option linter.unusedVariables false

theorem mBlob (w : World) (a : Option Addr) (n c : Nat) (hn : n ≤ 992700) : Calls Tryz.prog 21 #[.slice a n c] w fun e w' => e = .returned (.tuple #[.slice a n c, .int .i64 0]) ∧ w' = w := by
  go_enter Tryz.func21, Tryz.ntmps21
  go_wp2
  go_ret2
  exact ⟨rfl, rfl⟩
set_option maxRecDepth 100000 in
set_option maxHeartbeats 3200000 in
theorem mPut (w : World) (x : Mt) (M : MM) (h : MetaD w x M) (hr : RightMt M) (hW : Wid w) : Calls Tryz.prog 9 #[.agg (mtA M x)] w (PutPost w (encM M) 0) := by
  have HR := Lib.hid fun W hb => mRight W x M (h.later (w := w) (w' := W) hb)
  have HE := Lib.hid fun W hb => mEncode W x M (h.later (w := w) (w' := W) hb) hr.sml (hW.later hb)
  have hlen := encM_len hr.sml
  have HP := Lib.hid hr
  obtain ⟨P, hP⟩ := named (RightMt M)
  rw [hP.out] at HR HP
  obtain ⟨L, hL⟩ := named (encM M)
  rw [hL.out] at HE hlen ⊢
  obtain ⟨n, hn⟩ := named L.length
  have HN := Lib.hid hn.out
  rw [hn.out] at hlen
  have HBL := Lib.hid (fun W a c => mBlob W a n c hlen)
  clear h hr hW hL hlen hn hP
  obtain ⟨a0, n0, c0, sa, sn, sc, ma, mn, mc, ca, cn, cc⟩ := x
  obtain ⟨c, s, bk, T, S, B, K⟩ := M
  dsimp only [mtA] at HR HE ⊢
  have HRT := Lib.hid (RtS.first w #[.int .i64 c, .int .i64 s, .string bk, .slice a0 n0 c0, .slice sa sn sc, .slice ma mn mc, .slice ca cn cc])
  go_enter Tryz.func9, Tryz.ntmps9
  go_wp2_with (first
    | (go_at_call 13; (with_reducible refine (HR.out _ HRT.out.below).mono ?_); rintro e w1 ⟨G, rfl, h, hr⟩; have hg : G = true := hr.2 HP.out; subst hg; have HRT1 := Lib.hid (HRT.out.later h); obtain ⟨m0, m1, m2, m3, m4, m5, m6⟩ := cells7 HRT1.out.box; clear h hr HR)
    | (go_at_call 22; (with_reducible refine (HE.out _ HRT1.out.below).mono ?_); rintro e w2 hq; obtain ⟨a2, c2, rfl, hA2, hk⟩ := hq.named HN.out; have HA2 := Lib.hid hA2; clear hq hA2 hk HE)
    | (go_at_call 21; (with_reducible refine (HBL.out _ _ _).mono ?_); rintro e w3 ⟨rfl, rfl⟩))
  go_ret2
  have h5 := HA2.out.1
  exact PutPost.own 0 h5 (HRT1.out.below.trans (HA2.out.2.1.mono HRT1.out.below.size))
set_option maxRecDepth 100000 in
set_option maxHeartbeats 3200000 in
theorem mPut_no (w : World) (x : Mt) (M : MM) (h : MetaD w x M) (hr : ¬ RightMt M) : Calls Tryz.prog 9 #[.agg (mtA M x)] w (PutPost w [] 1) := by
  have HR := Lib.hid fun W hb => mRight W x M (h.later (w := w) (w' := W) hb)
  have HP := Lib.hid hr
  obtain ⟨P, hP⟩ := named (RightMt M)
  rw [hP.out] at HR HP
  clear h hr hP
  obtain ⟨a0, n0, c0, sa, sn, sc, ma, mn, mc, ca, cn, cc⟩ := x
  obtain ⟨c, s, bk, T, S, B, K⟩ := M
  dsimp only [mtA] at HR ⊢
  have HRT := Lib.hid (RtS.first w #[.int .i64 c, .int .i64 s, .string bk, .slice a0 n0 c0, .slice sa sn sc, .slice ma mn mc, .slice ca cn cc])
  go_enter Tryz.func9, Tryz.ntmps9
  go_wp2_with (first
    | (go_at_call 13; (with_reducible refine (HR.out _ HRT.out.below).mono ?_); rintro e w1 ⟨G, rfl, h, hr⟩; have hg : G = false := Bool.eq_false_iff.2 fun e => HP.out (hr.1 e); subst hg; have HRT1 := Lib.hid (HRT.out.later h); obtain ⟨m0, m1, m2, m3, m4, m5, m6⟩ := cells7 HRT1.out.box; clear h hr HR))
  go_ret2
  exact ⟨none, 0, rfl, none_bytes _, ⟨fun _ => rfl, Nat.le_refl _⟩, HRT1.out.below⟩
end Go.Proofs.YtdffgnpldapciaaGreatDoor
namespace Go.Proofs.YtdffgnpldapciaaGreatDoor
open Go.RowKit
set_option linter.unusedVariables false

theorem num14 (z : Int) (hz : I64 z) (w : World) : Calls Tryz.prog 8 #[.int .i64 z] w fun e w' => e = .returned (.int .i64 z) ∧ w' = w := by
  go_enter Tryz.func8, Tryz.ntmps8
  go_wp2
  go_ret
  exact ⟨rfl, rfl⟩
theorem zero_right : RightMt MM0 := by
  refine ⟨by decide, ⟨by decide, by decide, by decide⟩, fun h => absurd h (by decide), by decide, by decide, by decide, ⟨by decide, by decide, fun h => absurd h (by decide), by decide, fun i hi => absurd hi (by show ¬ i < 0; omega)⟩, fun i d h => by simp [MM0] at h, fun i d h => by simp [MM0] at h, fun k hk => by simp [MM0] at hk⟩
theorem zero_len : (encM MM0).length = 13 := by kernel_rfl
theorem zero_put (w : World) (hW : Wid w) : Calls Tryz.prog 9 #[.agg #[.int .i64 0, .int .i64 0, .string ⟨#[]⟩, .slice none 0 0, .slice none 0 0, .slice none 0 0, .slice none 0 0]] w fun e w' => ∃ a c, e = .returned (.tuple #[.slice a 13 c, .int .i64 0]) ∧ Below w.heap.size w w' := by
  refine (mPut w Mt0 MM0 (MetaN.zero w 0 (fun _ => True) (fun _ => True)).d zero_right hW).mono ?_
  intro e w' h
  obtain ⟨a, c, he, _, _, hb⟩ := h.sized zero_len
  exact ⟨a, c, he, hb⟩
set_option maxHeartbeats 800000 in
theorem awake14 (w : World) (hW : Wid w) : Calls Tryz.prog 4 #[] w fun e w' => e = .returned (.bool true) ∧ Below w.heap.size w w' := by
  have HNU := Lib.hid (fun (w : World) => num14 0 (by unfold I64; omega) w)
  have HZ := Lib.hid (fun W (hb : Below w.heap.size w W) => zero_put W (hW.later hb))
  have HB0 := Lib.hid (Below.refl w.heap.size w)
  have HB1 := Lib.hid ((Below.refl w.heap.size w).alloc (Nat.le_refl _) (.cells #[.int .i64 0, .int .i64 0, .string ⟨#[]⟩, .slice none 0 0, .slice none 0 0, .slice none 0 0, .slice none 0 0] 31))
  go_enter Tryz.func4, Tryz.ntmps4
  go_wp2_with (first
    | (go_at_call 9; first | ((with_reducible refine (HZ.out _ HB0.out).mono ?_); rintro e w1 ⟨a1, c1, rfl, hb⟩; have HB2 := Lib.hid (HB0.out.trans (hb.mono HB0.out.size)); clear hb) | ((with_reducible refine (HZ.out _ HB1.out).mono ?_); rintro e w1 ⟨a1, c1, rfl, hb⟩; have HB2 := Lib.hid (HB1.out.trans (hb.mono HB1.out.size)); clear hb))
    | (go_at_call 8; (with_reducible refine (HNU.out _).mono ?_); rintro e w' ⟨rfl, hw⟩; obtain rfl := hw.symm))
  go_ret
  exact ⟨rfl, HB2.out⟩
theorem Tab.cellX {w : World} {a : Option Addr} {len cap : Nat} {T : Tb} (h : Tab w a len cap T) (i : Nat) (hi : i < len) : ∃ b off al ll cl, a = some ⟨b, off, none⟩ ∧ b < w.heap.size ∧ w.cell? ⟨b, off + i, none⟩ = some (.slice al ll cl) ∧ (tbAt T i).length = ll := by
  obtain ⟨ds, h1, _, rfl, _⟩ := h
  obtain ⟨b, off, al, ll, cl, xs, e, hc, hl, ht, _⟩ := h1.at i hi
  exact ⟨b, off, al, ll, cl, e, block_lt_of_cell hc, hc, by rw [ht]; exact hl.len⟩
theorem Tab.lensX {w : World} {a : Option Addr} {len cap : Nat} {T : Tb} (h : Tab w a len cap T) : T.length = len ∧ len ≤ 6000 := by
  obtain ⟨ds, h1, _, rfl, h2, _⟩ := h
  exact ⟨h1.tlen, h2⟩
/-- How often the counts begin anew. -/
def chgs (p : Option Int) : List Int → Nat
  | [] => 0
  | x :: r => (if p = some x then 0 else 1) + chgs (some x) r
theorem chgs_lead (c : Int) : ∀ r : List Int, chgs (some c) r = chgs (some c) (r.drop (lead c r))
  | [] => rfl
  | x :: r => by
    unfold lead
    split
    · rename_i h
      subst h
      rw [List.drop_succ_cons, ← chgs_lead x r]
      show (if some x = some x then 0 else 1) + _ = _
      rw [if_pos rfl, Nat.zero_add]
    · rfl
theorem chgs_ne {c : Int} : ∀ r : List Int, chgs (some c) (r.drop (lead c r)) = chgs none (r.drop (lead c r))
  | [] => rfl
  | x :: r => by
    unfold lead
    split
    · rw [List.drop_succ_cons]
      exact chgs_ne r
    · rename_i h
      show (if some c = some x then 0 else 1) + _ = (if none = some x then 0 else 1) + _
      rw [if_neg (fun e => h (Option.some.inj e).symm), if_neg (fun e => by cases e)]
theorem runs_chgs : ∀ (k : Nat) (K : List Int), K.length ≤ k → K.length ≤ 65535 → (runsB K).length = 4 * chgs none K
  | _, [], _, _ => by rfl
  | 0, x :: r, h, _ => by simp at h
  | k + 1, x :: r, h, h2 => by
    have hl := lead_len (c := x) r
    rw [List.length_cons] at h h2
    have hr : runN (x :: r) = lead x r + 1 := by
      show min _ _ = _
      omega
    rw [runsB_step (by simp), hr, List.drop_succ_cons]
    have ih := runs_chgs k (r.drop (lead x r)) (by rw [List.length_drop]; omega) (by rw [List.length_drop]; omega)
    simp only [List.length_append, numB_len]
    rw [ih, ← chgs_ne, ← chgs_lead]
    show _ = 4 * ((if none = some x then 0 else 1) + _)
    rw [if_neg (fun e => by cases e)]
    omega
end Go.Proofs.YtdffgnpldapciaaGreatDoor
namespace Go.Proofs.YtdffgnpldapciaaGreatDoor
open Go.RowKit
set_option linter.unusedVariables false

theorem tblB_long {T : Tb} {n c : Int} (h : rightT T n c) : (tblB T).length = 2 + cntT T T.length * 130 := by
  unfold tblB
  rw [List.length_append, numB_len, bodyB_len h T.length (Nat.le_refl _)]
theorem shB_long {d : ShM} {n c : Int} (h : rightT d.2.2 n c) : (shB d).length = d.1.size + 6 + cntT d.2.2 d.2.2.length * 130 := by
  unfold shB
  rw [List.length_append, List.length_append, textB_len, numB_len, tblB_long h]
  omega
theorem encM_long {M : MM} (h : RightMt M) (hK : M.K.length ≤ 65535) : (encM M).length = 13 + M.bk.size + cntT M.T M.T.length * 130 + (M.S.flatMap shB).length + (M.B.flatMap bmB).length + 4 * chgs none M.K := by
  unfold encM cntB
  simp only [List.length_append, numB_len, textB_len, tblB_long h.T, runs_chgs M.K.length M.K (Nat.le_refl _) hK]
  omega
theorem below_dn {n : Nat} {w w' : World} (h : Below n w w') : ∀ m, Below n w (w'.drewN m)
  | 0 => h
  | m + 1 => (below_dn h m).drew
/-- The count ahead of a place. -/
def prevK (K : List Int) (j : Nat) : Option Int := if j = 0 then none else K[j - 1]?
theorem chgs_step {K : List Int} {j : Nat} {x : Int} (h : K[j]? = some x) : chgs (prevK K j) (K.drop j) = (if prevK K j = some x then 0 else 1) + chgs (prevK K (j + 1)) (K.drop (j + 1)) := by
  rw [drop_cons h]
  have e : prevK K (j + 1) = some x := by
    unfold prevK
    rw [if_neg (by omega), Nat.add_sub_cancel, h]
  rw [e]
  rfl
theorem prevK_ge {K : List Int} {j : Nat} (h : 1 ≤ j) {y : Int} (hy : K[j - 1]? = some y) : prevK K j = some y := by
  unfold prevK
  rw [if_neg (by omega), hy]
end Go.Proofs.YtdffgnpldapciaaGreatDoor
