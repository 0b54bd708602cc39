/-
  What the project's own isWithin, isAbsent, isBlank, below and Get answer (package table). Conditions: what came in reads.
-/
import Derived.Test.YtbdidgfbonkneaaDoorH9
import Derived.Test.YtbdidgfbonkneaaDoorF9
import Derived.Test.YtbdidgfbonkneaaDoorD9
import Derived.Deep.MidRow
import Derived.RegionTactic
import Derived.Deep.QuietTactic
import Derived.BigQuiet
namespace Go.Proofs.YtbdidgfbonkneaaDoor
open Go.RowKit
set_option linter.unusedVariables false

theorem within9 (n a b : Int) (w : World) : Calls Tryd.prog 27 #[.int .i64 n, .int .i64 a, .int .i64 b] w fun e w' => e = .returned (.bool (decide (a ≤ n ∧ n ≤ b))) ∧ w = w' := by
  by_cases h1 : a ≤ n
  · by_cases h2 : n ≤ b
    · go_enter Tryd.func27, Tryd.ntmps27
      go_wp2
      go_ret
      exact ⟨by simp [h1, h2], rfl⟩
    · go_enter Tryd.func27, Tryd.ntmps27
      go_wp2
      go_ret
      exact ⟨by simp; omega, rfl⟩
  · go_enter Tryd.func27, Tryd.ntmps27
    go_wp2
    go_ret
    exact ⟨by simp; omega, rfl⟩
theorem within9_is {n a b : Int} {B : Bool} (h : decide (a ≤ n ∧ n ≤ b) = B) (w : World) : Calls Tryd.prog 27 #[.int .i64 n, .int .i64 a, .int .i64 b] w fun e w' => e = .returned (.bool B) ∧ w = w' := by
  have := within9 n a b w
  rwa [h] at this
theorem absent9 (a : Option Addr) (len cap : Nat) (B : Bool) (hB : decide (len = 0) = B) (w : World) : Calls Tryd.prog 19 #[.slice a len cap] w fun e w' => e = .returned (.bool B) ∧ w = w' := by
  subst hB
  by_cases h : len = 0
  · subst h
    go_enter Tryd.func19, Tryd.ntmps19
    go_wp2
    go_ret
    exact ⟨rfl, rfl⟩
  · go_enter Tryd.func19, Tryd.ntmps19
    go_wp2
    go_ret
    exact ⟨by simp [h], rfl⟩
theorem run_max9 (P : Program) (ts : Array TypeId) (t : TypeId) (x y : Int) (w : World) : (Builtin.max_ ts t #[.int .i64 x, .int .i64 y]).run P w = .ok (.int .i64 (if x < y then y else x)) w := by
  simp [Builtin.max_, Builtin.max2]
theorem below9 (n : Int) (j : Nat) (hj : j ≤ 100000) (hn : -1000000000000 ≤ n) (hn2 : n ≤ 9223372036854775807) (w : World) : Calls Tryd.prog 34 #[.int .i64 n, .int .i64 j] w fun e w' => e = .returned (.int .i64 (belowN n.toNat j : Nat)) ∧ w = w' := by
  obtain ⟨K, hK⟩ := named (belowN n.toNat j)
  unfold belowN at hK
  rw [show belowN n.toNat j = K from hK.out]
  have hKo := hK.out
  have m1 : ∀ w : World, (Builtin.max_ #[3, 3] 3 #[.int .i64 (n - j * 8), .int .i64 0]).run Tryd.prog w = .ok (.int .i64 (n.toNat - j * 8 : Nat)) w := fun w => by
    rw [run_max9]
    congr 2
    split <;> omega
  have m2 : ∀ w : World, (Builtin.min_ #[3, 3] 3 #[.int .i64 (n.toNat - j * 8 : Nat), .int .i64 8]).run Tryd.prog w = .ok (.int .i64 K) w := fun w => by
    rw [run_min9]
    congr 2
    split <;> omega
  obtain ⟨M, hM⟩ := named (n.toNat - j * 8)
  rw [hM.out] at m1 m2
  have e1 : IntKind.i64.wrap ((j : Int) * 8) = j * 8 := by rw [IntKind.wrap_i64]; omega
  have e2 : IntKind.i64.wrap (n - (j : Int) * 8) = n - j * 8 := by rw [IntKind.wrap_i64]; omega
  clear hK hM hKo
  go_enter Tryd.func34, Tryd.ntmps34
  go_wp2
  go_ret
  exact ⟨rfl, rfl⟩
/-- The entry at a place of whatever row of entries. -/
theorem en_at {w : World} {a : Option Addr} {len : Nat} {xs : List En} (h1 : Reads enV w a len xs) (k : Nat) (hk : k < len) : ∃ b off, a = some ⟨b, off, none⟩ ∧
    w.cell? ⟨b, off + k * 5, none⟩ = some (.int .i64 (lfAt xs k).1) ∧ w.cell? ⟨b, off + k * 5 + 1, none⟩ = some (.int .i64 (lfAt xs k).2.1) ∧ w.cell? ⟨b, off + k * 5 + 2, none⟩ = some (.int .i64 (lfAt xs k).2.2.1) ∧
    w.cell? ⟨b, off + k * 5 + 3, none⟩ = some (.int .i64 (lfAt xs k).2.2.2.1) ∧ w.cell? ⟨b, off + k * 5 + 4, none⟩ = some (.int .u32 (lfAt xs k).2.2.2.2) := by
  obtain ⟨b, off, rfl⟩ := h1.lies (by omega)
  have hl := h1.1
  have hx : xs[k]? = some (lfAt xs k) := by rw [lfAt_in (by omega), List.getElem?_eq_getElem (by omega)]
  refine ⟨b, off, rfl, ?_, ?_, ?_, ?_, ?_⟩
  · have := h1.cellAt en_rowed k 0 _ _ hx rfl
    exact this
  · have := h1.cellAt en_rowed k 1 _ _ hx rfl
    rwa [← Nat.add_assoc] at this
  · have := h1.cellAt en_rowed k 2 _ _ hx rfl
    rwa [← Nat.add_assoc] at this
  · have := h1.cellAt en_rowed k 3 _ _ hx rfl
    rwa [← Nat.add_assoc] at this
  · have := h1.cellAt en_rowed k 4 _ _ hx rfl
    rwa [← Nat.add_assoc] at this
set_option maxHeartbeats 1600000 in
theorem blank9 (a : Option Addr) (len cap : Nat) (xs : List En) (w : World) (h : Reads enV w a len xs) (hok : ∀ x ∈ xs, EnOk x) : Calls Tryd.prog 37 #[.slice a len cap] w fun e w' => e = .returned (.bool (decide (¬ liveL xs))) ∧ Below w.heap.size w w' := by
  have hl := h.1
  have hlen := h.2.1
  have HR := Lib.hid h
  clear h
  obtain ⟨R, hR⟩ := named (decide (¬ liveL xs))
  rw [hR.out]
  have HRf : Hid (∀ k, k < len → (lfAt xs k).1 ≠ 0 → R = false) := fun k hk h0 => by
    rw [← hR.out, decide_eq_false_iff_not, Classical.not_not]
    exact liveL_at.2 ⟨k, by omega, h0⟩
  have HRt : Hid ((∀ k, k < len → (lfAt xs k).1 = 0) → R = true) := fun h => by
    rw [← hR.out, decide_eq_true_iff]
    intro hv
    obtain ⟨k, hk, h0⟩ := liveL_at.1 hv
    exact h0 (h k (by omega))
  clear hR
  go_enter Tryd.func37, Tryd.ntmps37
  go_wp2
  go_loopw [7] (fun i wr => ∃ j : Nat, j ≤ len ∧ i = .int .i64 j ∧ Hid (∀ k, k < j → (lfAt xs k).1 = 0) ∧ Hid (Below w.heap.size w wr)) (fun i _ => len - (intOf i).toNat)
  case atStart => exact ⟨0, Nat.zero_le _, rfl, fun k hk => by omega, Below.refl _ _⟩
  case round =>
    obtain ⟨j, hj, rfl, HJ, HG⟩ := hrel
    by_cases hlt : j < len
    · obtain ⟨b, off, rfl, x1, x2, x3, x4, x5⟩ := en_at (HR.out.later HG.out) j hlt
      have hs := hok (lfAt xs j) (by rw [lfAt_in (by omega)]; exact List.getElem_mem _)
      obtain ⟨hs1, _⟩ := hs
      have HN : Hid (Below w.heap.size w (wr.alloc (.cells #[.int .i64 (lfAt xs j).1, .int .i64 (lfAt xs j).2.1, .int .i64 (lfAt xs j).2.2.1, .int .i64 (lfAt xs j).2.2.2.1, .int .u32 (lfAt xs j).2.2.2.2] 47))) := HG.out.alloc HG.out.size _
      have hne : (lfAt xs j).1 ≠ 0 → R = false := HRf.out j hlt
      have heq : (lfAt xs j).1 = 0 → Hid (∀ k, k < j + 1 → (lfAt xs k).1 = 0) := fun h k hk => by
        by_cases e : k = j
        · rw [e]; exact h
        · exact HJ.out k (by omega)
      obtain ⟨⟨v1, v2, v3, v4, v5⟩, HV⟩ := named (lfAt xs j)
      rw [HV.out] at x1 x2 x3 x4 x5 hne heq HN hs1
      dsimp only at x1 x2 x3 x4 x5 hne heq HN hs1
      clear HV
      by_cases h0 : v1 = 0
      · subst h0
        have HQ2 := heq rfl
        clear hne heq
        go_wp2
        go_roundw
        case rel => exact ⟨j + 1, by omega, by go_num, HQ2, HN.out⟩
        case measure => simp [intOf]; omega
      · have hr : R = false := hne h0
        subst hr
        clear hne heq
        go_wp2
        go_ret
        exact ⟨rfl, HN.out⟩
    · have hr : R = true := HRt.out fun k hk => HJ.out k (by omega)
      subst hr
      go_wp2
      go_ret
      exact ⟨rfl, HG.out⟩
set_option maxHeartbeats 1600000 in
theorem get9_any (w : World) (a : Option Addr) (len cap : Nat) (ds : List LfD) (i : Int) (h : TabR w a len ds) (hi64 : I64 i) : Calls Tryd.prog 16 #[.agg #[.slice a len cap], .int .i64 i] w fun e w' => e = .returned (.agg (enV (atT (tbOf ds) i)).toArray) ∧ Below w.heap.size w w' := by
  have HG : Hid (∀ cs ds, Below w.heap.size w ((w.alloc (.cells cs 24)).alloc (.cells ds 47))) := fun cs ds => ((Below.refl _ _).alloc (Nat.le_refl _) _).alloc (by simp) _
  by_cases hi : i < 0
  · have e0 : atT (tbOf ds) i = enZ := by unfold atT; rw [if_pos hi]
    rw [e0]
    clear h
    go_enter Tryd.func16, Tryd.ntmps16
    go_wp2
    refine bodyPost_ret (v := .agg (enV enZ).toArray) (results_cell_row rfl _ _ (w.heap.size + 1) 47 (enV enZ).toArray (0, 0) _ rfl ?_ Tryd.underlying47 rfl entry_size) rfl ⟨rfl, HG.out _ _⟩
    exact blk_next9 _ _ _ _ _
  · obtain ⟨I, rfl⟩ : ∃ I : Nat, i = I := ⟨i.toNat, by omega⟩
    have hI := hi64.2
    rw [atT_nat]
    unfold atN
    obtain ⟨J, hJ⟩ := named (I / 8)
    obtain ⟨R, hR⟩ := named (I % 8)
    have hq : wrap64 ((I : Int) / 8) = (J : Int) := by rw [← hJ.out]; unfold wrap64; omega
    have hr : (I : Int) % 8 = (R : Int) := by rw [← hR.out]; omega
    rw [hJ.out, hR.out]
    clear hJ hR hI hi64
    have h2 : TabR ((w.alloc (.cells #[.slice a len cap] 24)).alloc (.cells #[.int .i64 0, .int .i64 0, .int .i64 0, .int .i64 0, .int .u32 0] 47)) a len ds := h.later (HG.out _ _)
    by_cases hlt : J < len
    · have n1 : ¬ len ≤ J := by omega
      obtain ⟨b, off, al, ll, cl, xs, rfl, hc, hL, hx, _⟩ := h2.at J hlt
      rw [hx]
      by_cases hk : R < ll
      · obtain ⟨b', off', e1, _, c0, c1, c2, c3, c4⟩ := hL.at R hk
        dsimp only at e1 c0 c1 c2 c3 c4
        subst e1
        have n2 : ¬ ll ≤ R := by omega
        clear h h2 hL hx
        go_enter Tryd.func16, Tryd.ntmps16
        go_wp2
        refine bodyPost_ret (v := .agg (enV (lfAt xs R)).toArray) (results_cell_row rfl _ _ (w.heap.size + 1) 47 (enV (lfAt xs R)).toArray (0, 0) _ rfl ?_ Tryd.underlying47 rfl entry_size) rfl ⟨rfl, HG.out _ _⟩
        exact blk_next9 _ _ _ _ _
      · rw [lfAt_out (by have := hL.len; dsimp only at this; omega)]
        have n2 : ll ≤ R := by omega
        clear h h2 hL hx
        go_enter Tryd.func16, Tryd.ntmps16
        go_wp2
        refine bodyPost_ret (v := .agg (enV enZ).toArray) (results_cell_row rfl _ _ (w.heap.size + 1) 47 (enV enZ).toArray (0, 0) _ rfl ?_ Tryd.underlying47 rfl entry_size) rfl ⟨rfl, HG.out _ _⟩
        exact blk_next9 _ _ _ _ _
    · rw [tbAt_out (by rw [h.tlen]; omega), lfAt_nil]
      clear h h2
      have n1 : len ≤ J := by omega
      go_enter Tryd.func16, Tryd.ntmps16
      go_wp2
      refine bodyPost_ret (v := .agg (enV enZ).toArray) (results_cell_row rfl _ _ (w.heap.size + 1) 47 (enV enZ).toArray (0, 0) _ rfl ?_ Tryd.underlying47 rfl entry_size) rfl ⟨rfl, HG.out _ _⟩
      exact blk_next9 _ _ _ _ _
/-- The entries from m on. -/
theorem Reads.drop9 {w : World} {b off len : Nat} {xs : List En} (h : Reads enV w (some ⟨b, off, none⟩) len xs) (m : Nat) (hm : m ≤ len) : Reads enV w (some ⟨b, off + m * 5, none⟩) (len - m) (xs.drop m) := by
  obtain ⟨h1, h2, h3⟩ := h
  refine ⟨by rw [List.length_drop, h1], by omega, ?_⟩
  rcases h3 with h3 | ⟨b', off', e, hlt, hc⟩
  · exact Or.inl (by omega)
  · cases e
    refine Or.inr ⟨b, off + m * 5, rfl, hlt, fun j u hu => ?_⟩
    have hs : xs.flatMap enV = (xs.take m).flatMap enV ++ (xs.drop m).flatMap enV := by rw [← List.flatMap_append, List.take_append_drop]
    have hl : ((xs.take m).flatMap enV).length = m * 5 := by rw [flat_len enV_len, List.length_take, Nat.min_eq_left (by omega)]
    rw [Nat.add_assoc]
    refine hc (m * 5 + j) u ?_
    rw [hs, List.getElem?_append_right (by omega), hl, Nat.add_sub_cancel_left]
    exact hu
theorem slice_tail9 {b off len cap p : Nat} (h1 : p ≤ len) (h2 : len ≤ cap) : ∃ O, (∀ w' : World, (Instr.slice 51 (.slice (some ⟨b, off, none⟩) len cap) (some (.int .i64 p)) none none).run Tryd.prog w' = .ok (.slice (some ⟨b, O, none⟩) (len - p) (cap - p)) w') ∧ (O = off + p * 5 ∨ p = len) := by
  have hinf : (Tryd.prog.info? 47).map (fun i => i.size) = some 5 := entry_size
  obtain ⟨i0, hi0, hi1⟩ := Option.map_eq_some_iff.1 hinf
  by_cases b2 : cap = p
  · subst b2
    have b1 : len = cap := by omega
    subst b1
    refine ⟨off, fun w' => ?_, Or.inr rfl⟩
    simp [Instr.slice, Instr.sliceBounds, Instr.sliceBound, asIntOf, run_underlying Tryd.underlying51, sizeOf, typeInfo, hi0, go_sem]
  · refine ⟨off + p * 5, fun w' => ?_, Or.inl rfl⟩
    simp [Instr.slice, Instr.sliceBounds, Instr.sliceBound, asIntOf, run_underlying Tryd.underlying51, sizeOf, typeInfo, hi0, hi1, h1, b2, Addr.add, go_sem]
theorem Reads.tail9 {w : World} {b off len O : Nat} {xs : List En} (h : Reads enV w (some ⟨b, off, none⟩) len xs) (m : Nat) (hm : m ≤ len) (hO : O = off + m * 5 ∨ m = len) : Reads enV w (some ⟨b, O, none⟩) (len - m) (xs.drop m) := by
  rcases hO with rfl | rfl
  · exact h.drop9 m hm
  · rw [Nat.sub_self, List.drop_eq_nil_of_le (Nat.le_of_eq h.1)]
    exact Reads.nil _ _ _
end Go.Proofs.YtbdidgfbonkneaaDoor
