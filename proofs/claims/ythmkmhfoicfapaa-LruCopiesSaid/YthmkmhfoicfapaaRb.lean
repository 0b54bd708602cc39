/-
  The reference's cache (layer 10): at, dirty, use, clean. Conditions: the cache as it lies.
-/
import Derived.Test.YthmkmhfoicfapaaRa
import Derived.Deep.QuietTactic
import Derived.BigQuiet
namespace Go.Proofs.Ythmkmhfoicfapaa
open Go.RowKit
set_option linter.unusedVariables false

theorem ri_cells {w : World} {base b n c : Nat} {L : List RI} (h : OwnG riV 86 3 w base (.slice (some ⟨b, 0, none⟩) n c) n L) (j : Nat) (x : RI) (hj : L[j]? = some x) :
    w.cell? ⟨b, j * 3, none⟩ = some (.int .i64 x.1.key) ∧ w.cell? ⟨b, j * 3 + 1, none⟩ = some (riS x) ∧ w.cell? ⟨b, j * 3 + 2, none⟩ = some (.bool x.1.dirty) := by
  have hr := (h.reads ri_rowed).1
  have h0 := hr.cellAt ri_rowed j 0 x _ hj rfl
  have h1 := hr.cellAt ri_rowed j 1 x _ hj rfl
  have h2 := hr.cellAt ri_rowed j 2 x _ hj rfl
  rw [Nat.zero_add] at h0 h1 h2
  exact ⟨h0, h1, h2⟩
theorem rl_cells {w : World} {base b n c : Nat} {L : List (Int × Int)} (h : OwnG rlV 91 2 w base (.slice (some ⟨b, 0, none⟩) n c) n L) (j : Nat) (x : Int × Int) (hj : L[j]? = some x) :
    w.cell? ⟨b, j * 2, none⟩ = some (.int .i64 x.1) ∧ w.cell? ⟨b, j * 2 + 1, none⟩ = some (.int .i64 x.2) := by
  have hr := (h.reads rl_rowed).1
  have h0 := hr.cellAt rl_rowed j 0 x _ hj rfl
  have h1 := hr.cellAt rl_rowed j 1 x _ hj rfl
  rw [Nat.zero_add] at h0 h1
  exact ⟨h0, h1⟩
theorem OwnG.at0 {α : Type} {cv : α → List Value} {e : TypeId} {sz : Nat} {w : World} {base n c n' : Nat} {a : Option Addr} {l : List α} (h : OwnG cv e sz w base (.slice a n' c) n l) (h0 : 0 < n) : ∃ b, a = some ⟨b, 0, Option.none⟩ := by
  rcases h.1.2 with ⟨e, e'⟩ | ⟨g, cap, cur, e, _⟩
  · omega
  · cases e
    exact ⟨_, rfl⟩
theorem OwnG.goes {α : Type} {cv : α → List Value} {e : TypeId} {sz : Nat} {w w' : World} {base n : Nat} {v : Value} {l : List α} (h : OwnG cv e sz w base v n l) (hb : Below w.heap.size w w') : OwnG cv e sz w' base v n l := h.kept' (grown_of_below hb) (fun k _ e => by cases e)
section
variable {w : World} {B : Nat} {D : RC} {vL vR : Value} {LM : List RI}
theorem RcIn.one (h : RcIn w B D vL vR LM) {i j : Nat} {x y : RI} (hi : LM[i]? = some x) (hj : LM[j]? = some y) (e : y.1.key = x.1.key) : i = j := by
  have hn := h.keys
  rw [← h.its, List.map_map] at hn
  have hi' : i < LM.length := (List.getElem?_eq_some_iff.1 hi).1
  have h1 : (LM.map (RIt.key ∘ fun x => x.1))[i]? = (LM.map (RIt.key ∘ fun x => x.1))[j]? := by
    rw [List.getElem?_map, List.getElem?_map, hi, hj]
    simp [e]
  exact (List.getElem?_inj (by simpa using hi') hn).1 h1
theorem RcIn.isD (h : RcIn w B D vL vR LM) {i : Nat} {x : RI} (hi : LM[i]? = some x) : isDR D x.1.key = x.1.dirty := by
  unfold isDR
  rw [← h.its, List.any_map, Bool.eq_iff_iff, List.any_eq_true]
  constructor
  · rintro ⟨y, hy, hk⟩
    simp only [Function.comp_apply, Bool.and_eq_true, decide_eq_true_eq] at hk
    obtain ⟨j, hj⟩ := List.mem_iff_getElem?.1 hy
    obtain rfl := h.one hi hj hk.1
    rw [hi] at hj
    cases hj
    exact hk.2
  · intro hd
    exact ⟨x, List.mem_of_getElem? hi, by simp [hd]⟩
theorem RcIn.noD (h : RcIn w B D vL vR LM) {k : Int} (hk : ∀ x ∈ LM, x.1.key ≠ k) : isDR D k = false := by
  unfold isDR
  rw [← h.its, List.any_map, List.any_eq_false]
  intro y hy
  simp [hk y hy]
end
set_option maxHeartbeats 800000 in
theorem rAt_some {w : World} {B : Nat} {D : RC} {vL vR : Value} {LM : List RI} (h : RcIn w B D vL vR LM) {i : Nat} {x : RI} (hi : LM[i]? = some x) :
    Calls Try.prog 46 #[.pointer (some ⟨B, 0, none⟩), .int .i64 x.1.key] w fun e w' => e = .returned (.int .i64 i) ∧ w' = w := by
  have hlt0 : i < LM.length := (List.getElem?_eq_some_iff.1 hi).1
  have hmany := h.many
  have c1 := h.c1
  obtain ⟨a, c, rfl, _, _, _⟩ := h.row.shape ri_rowed
  have hrow := h.row
  obtain ⟨n, hN⟩ := named LM.length
  rw [hN.out] at c1 hmany hlt0 hrow
  obtain ⟨b, rfl⟩ := hrow.at0 (by omega)
  have HO := Lib.hid hrow
  have HH := Lib.hid h
  have HI := Lib.hid hi
  obtain ⟨K, hK⟩ := named x.1.key
  have HKX := Lib.hid hK.out
  rw [hK.out]
  clear h hrow hi
  go_enter Try.func46, Try.ntmps46
  go_wp2
  go_loopw [5] (fun s wr => ∃ j : Nat, j ≤ i ∧ s = .int .i64 j ∧ wr = w) (fun s _ => n - (intOf s).toNat)
  case atStart => exact ⟨0, Nat.zero_le _, rfl, rfl⟩
  case round =>
    obtain ⟨j, hj, rfl, rfl⟩ := hrel
    obtain ⟨y, hy⟩ : ∃ y, LM[j]? = some y := ⟨_, List.getElem?_eq_getElem (by have := hN.out; omega)⟩
    obtain ⟨e0, _, _⟩ := ri_cells HO.out j y hy
    by_cases hji : j = i
    · subst hji
      have hxy : y = x := by have := HI.out; rw [hy] at this; exact Option.some.inj this
      rw [hxy, HKX.out] at e0
      clear hy hxy
      go_wp2
      go_ret
      exact ⟨rfl, rfl⟩
    · have hne : y.1.key ≠ K := fun e => hji (HH.out.one HI.out hy (e.trans HKX.out.symm)).symm
      obtain ⟨Y, hY⟩ := named y.1.key
      rw [hY.out] at e0 hne
      clear hy
      go_wp2
      go_roundw
      case rel => exact ⟨j + 1, by omega, by go_num, by first | trivial | rfl⟩
      case measure => simp [intOf]; omega
theorem rAt_none {w : World} {B : Nat} {D : RC} {vL vR : Value} {LM : List RI} (h : RcIn w B D vL vR LM) {k : Int} (hk : ∀ x ∈ LM, x.1.key ≠ k) :
    Calls Try.prog 46 #[.pointer (some ⟨B, 0, none⟩), .int .i64 k] w fun e w' => e = .returned (.int .i64 (-1)) ∧ w' = w := by
  have hmany := h.many
  have c1 := h.c1
  obtain ⟨a, c, rfl, _, _, _⟩ := h.row.shape ri_rowed
  have hrow := h.row
  obtain ⟨n, hN⟩ := named LM.length
  rw [hN.out] at c1 hmany hrow
  have HO := Lib.hid hrow
  have HK := Lib.hid hk
  clear h hrow hk
  go_enter Try.func46, Try.ntmps46
  go_wp2
  go_loopw [5] (fun s wr => ∃ j : Nat, j ≤ n ∧ s = .int .i64 j ∧ wr = w) (fun s _ => n - (intOf s).toNat)
  case atStart => exact ⟨0, Nat.zero_le _, rfl, rfl⟩
  case round =>
    obtain ⟨j, hj, rfl, rfl⟩ := hrel
    by_cases hlt : j < n
    · obtain ⟨y, hy⟩ : ∃ y, LM[j]? = some y := ⟨_, List.getElem?_eq_getElem (by have := hN.out; omega)⟩
      obtain ⟨b, rfl⟩ := HO.out.at0 (by omega)
      obtain ⟨e0, _, _⟩ := ri_cells HO.out j y hy
      have hne : y.1.key ≠ k := HK.out y (List.mem_of_getElem? hy)
      obtain ⟨Y, hY⟩ := named y.1.key
      rw [hY.out] at e0 hne
      clear hy
      go_wp2
      go_roundw
      case rel => exact ⟨j + 1, by omega, by go_num, by first | trivial | rfl⟩
      case measure => simp [intOf]; omega
    · obtain rfl : j = n := by omega
      go_wp2
      go_ret
      exact ⟨rfl, rfl⟩
theorem key_or {LM : List RI} (k : Int) : (∃ (i : Nat) (x : RI), LM[i]? = some x ∧ x.1.key = k) ∨ ∀ x ∈ LM, x.1.key ≠ k := by
  by_cases h : ∃ (i : Nat) (x : RI), LM[i]? = some x ∧ x.1.key = k
  · exact Or.inl h
  · exact Or.inr fun x hx e => h (by obtain ⟨i, hi⟩ := List.mem_iff_getElem?.1 hx; exact ⟨i, x, hi, e⟩)
/-- dirty. -/
theorem rDirty_any {w : World} {B : Nat} {D : RC} {vL vR : Value} {LM : List RI} (h : RcIn w B D vL vR LM) (k : Int) :
    Calls Try.prog 52 #[.pointer (some ⟨B, 0, none⟩), .int .i64 k] w fun e w' => e = .returned (.bool (isDR D k)) ∧ w' = w := by
  rcases key_or (LM := LM) k with ⟨i, x, hi, rfl⟩ | hk
  · have HA := Lib.hid (rAt_some h hi)
    rw [h.isD hi]
    have hlt0 : i < LM.length := (List.getElem?_eq_some_iff.1 hi).1
    have hmany := h.many
    have c1 := h.c1
    obtain ⟨a, c, rfl, _, _, _⟩ := h.row.shape ri_rowed
    have hrow := h.row
    obtain ⟨n, hN⟩ := named LM.length
    rw [hN.out] at c1 hmany hlt0 hrow
    obtain ⟨b, rfl⟩ := hrow.at0 (by omega)
    obtain ⟨_, _, e2⟩ := ri_cells hrow i x hi
    obtain ⟨K, hK⟩ := named x.1.key
    obtain ⟨d, hd⟩ := named x.1.dirty
    rw [hK.out] at HA ⊢
    rw [hd.out] at e2 ⊢
    clear h hrow hi
    go_enter Try.func52, Try.ntmps52
    go_wp2_with (go_at_call 46; refine HA.out.mono ?_; rintro e w' ⟨rfl, hww⟩; obtain rfl := hww.symm; clear hww)
    go_ret
    exact ⟨rfl, rfl⟩
  · have HA := Lib.hid (rAt_none h hk)
    rw [h.noD hk]
    clear h hk
    go_enter Try.func52, Try.ntmps52
    go_wp2_with (go_at_call 46; refine HA.out.mono ?_; rintro e w' ⟨rfl, hww⟩; obtain rfl := hww.symm; clear hww)
    go_ret
    exact ⟨rfl, rfl⟩
/-- Parts of a row. -/
theorem reads_drop {α : Type} {P : Program} {t e : TypeId} {sz bytes : Nat} {cv : α → List Value} (R : Rowed P t e sz bytes cv) {w : World} {b n p : Nat} {L : List α} (h : Reads cv w (some ⟨b, 0, none⟩) n L) (hp : p ≤ n) : Reads cv w (some ⟨b, p * sz, none⟩) (n - p) (L.drop p) := by
  obtain ⟨h1, h2, h3⟩ := h
  refine ⟨by rw [List.length_drop]; omega, by omega, ?_⟩
  rcases h3 with h3 | ⟨b', off', e', hlt, hc⟩
  · exact Or.inl (by omega)
  · cases e'
    refine Or.inr ⟨b, p * sz, rfl, hlt, fun j u hu => ?_⟩
    have hl : ((L.take p).flatMap cv).length = p * sz := by rw [flat_len R.len, List.length_take, Nat.min_eq_left (by omega)]
    have := hc (p * sz + j) u (by
      conv => lhs; rw [← List.take_append_drop p L, List.flatMap_append]
      rw [List.getElem?_append_right (by rw [hl]; omega), hl, Nat.add_sub_cancel_left]
      exact hu)
    rwa [Nat.zero_add] at this
theorem reads_take {α : Type} {P : Program} {t e : TypeId} {sz bytes : Nat} {cv : α → List Value} (R : Rowed P t e sz bytes cv) {w : World} {b n p : Nat} {L : List α} (h : Reads cv w (some ⟨b, 0, none⟩) n L) (hp : p ≤ n) : Reads cv w (some ⟨b, 0, none⟩) p (L.take p) := by
  obtain ⟨h1, h2, h3⟩ := h
  refine ⟨by rw [List.length_take]; omega, by omega, ?_⟩
  rcases h3 with h3 | ⟨b', off', e', hlt, hc⟩
  · exact Or.inl (by omega)
  · cases e'
    refine Or.inr ⟨b, 0, rfl, hlt, fun j u hu => ?_⟩
    refine hc j u ?_
    have hl : ((L.take p).flatMap cv).length = p * sz := by rw [flat_len R.len, List.length_take, Nat.min_eq_left (by omega)]
    have hj : j < p * sz := by rw [← hl]; exact (List.getElem?_eq_some_iff.1 hu).1
    conv => lhs; rw [← List.take_append_drop p L, List.flatMap_append]
    rw [List.getElem?_append_left (by rw [hl]; exact hj)]
    exact hu
theorem ri_front {b n c p : Nat} (h1 : p ≤ c) (w' : World) : (Instr.slice 65 (.slice (some ⟨b, 0, none⟩) n c) none (some (.int .i64 p)) none).run Try.prog w' = .ok (.slice (some ⟨b, 0, none⟩) p c) w' := by
  obtain ⟨i0, hi0, _⟩ := Option.map_eq_some_iff.1 ri_size
  simp [Instr.slice, Instr.sliceBounds, Instr.sliceBound, asIntOf, run_underlying Try.underlying65, sizeOf, typeInfo, hi0, h1, Addr.add, go_sem]
theorem ri_back {w : World} {b n c p : Nat} {L : List RI} (h : Reads riV w (some ⟨b, 0, none⟩) n L) (h1 : p ≤ n) (h2 : n ≤ c) : ∃ (a' : Option Addr) (c' : Nat), (∀ w' : World, (Instr.slice 65 (.slice (some ⟨b, 0, none⟩) n c) (some (.int .i64 p)) none none).run Try.prog w' = .ok (.slice a' (n - p) c') w') ∧ (a' = none → c' = 0) ∧ Reads riV w a' (n - p) (L.drop p) := by
  obtain ⟨i0, hi0, hi1⟩ := Option.map_eq_some_iff.1 ri_size
  refine ⟨if c = p then some ⟨b, 0, none⟩ else some ⟨b, p * 3, none⟩, c - p, fun w' => ?_, ?_, ?_⟩
  · simp [Instr.slice, Instr.sliceBounds, Instr.sliceBound, asIntOf, run_underlying Try.underlying65, sizeOf, typeInfo, hi0, hi1, h1, Addr.add, go_sem]
    by_cases hc : c = p
    · simp [hc]
    · have : ¬ p = c := fun e => hc e.symm
      by_cases h0 : p * 3 = 0 <;> simp [hc, h0]
  · intro e
    split at e <;> cases e
  · by_cases hc : c = p
    · have hnp : n - p = 0 := by omega
      rw [hnp, List.drop_eq_nil_of_le (by rw [h.1]; omega)]
      exact Reads.nil _ _ _
    · rw [if_neg hc]
      exact reads_drop ri_rowed h h1
end Go.Proofs.Ythmkmhfoicfapaa
