/-
  Plain mathematics of tables, more of it: a table without its blank leaves, what is cut away, right tables without the bound of leaves (layer 8). Conditions: none.
-/
import Derived.Test.YtdffgnpldapciaaGreatDoorA9
namespace Go.Proofs.YtdffgnpldapciaaGreatDoor
open Go.RowKit
set_option linter.unusedVariables false

/-- A leaf of which an entry is something. -/
def liveL (lf : List En) : Prop := ∃ x ∈ lf, x.1 ≠ 0
instance (lf : List En) : Decidable (liveL lf) := by unfold liveL; infer_instance
def nbL (lf : List En) : List En := if liveL lf then lf else []
/-- A table without its blank leaves, and without the absent ones at its end. -/
def wbT (T : Tb) : Tb := trimN (T.map nbL) T.length
def setG (T : Tb) (i : Nat) (e : En) : Tb := wbT ((padT T (i / 8)).set (i / 8) ((full (tbAt T (i / 8))).set (i % 8) e))
/-- How many entries of leaf j have an index below n. -/
def belowN (n j : Nat) : Nat := min (n - j * 8) 8
def cutL (lf : List En) (m : Nat) : List En := lf.take m ++ List.replicate (lf.length - m) enZ
def cutsT (T : Tb) (n : Nat) : Tb := T.mapIdx fun j lf => cutL lf (belowN n j)
def cutG (T : Tb) (n : Nat) : Tb := wbT (cutsT T n)
noncomputable def cutT (T : Tb) (n : Int) : Tb := if fitsT T enZ then cutG T n.toNat else T

theorem liveL_at {lf : List En} : liveL lf ↔ ∃ k, k < lf.length ∧ (lfAt lf k).1 ≠ 0 := by
  constructor
  · rintro ⟨x, hx, h0⟩
    obtain ⟨k, hk, rfl⟩ := List.getElem_of_mem hx
    exact ⟨k, hk, by rw [lfAt_in hk]; exact h0⟩
  · rintro ⟨k, hk, h0⟩
    rw [lfAt_in hk] at h0
    exact ⟨_, List.getElem_mem hk, h0⟩
theorem tbAt_map (T : Tb) (f : List En → List En) (hf : f [] = []) (j : Nat) : tbAt (T.map f) j = f (tbAt T j) := by
  unfold tbAt
  rw [List.getD_eq_getElem?_getD, List.getD_eq_getElem?_getD, List.getElem?_map]
  cases T[j]? with
  | none => exact hf.symm
  | some x => rfl
theorem nbL_nil : nbL [] = [] := by unfold nbL; split <;> rfl
theorem wbT_tb (T : Tb) (j : Nat) : tbAt (wbT T) j = nbL (tbAt T j) := by
  unfold wbT
  have hl : T.length ≤ (T.map nbL).length := by rw [List.length_map]; exact Nat.le_refl _
  rw [trimN_at _ _ hl, tbAt_map _ _ nbL_nil]
  by_cases h : j < T.length
  · rw [if_pos h]
  · rw [if_neg h, tbAt_out (Nat.le_of_not_lt h), nbL_nil]
theorem wbT_last (T : Tb) : (wbT T).length ≤ T.length ∧ (0 < (wbT T).length → tbAt (wbT T) ((wbT T).length - 1) ≠ []) :=
  trimN_len _ _ (by rw [List.length_map]; exact Nat.le_refl _)
theorem nbL_at {lf : List En} {c : Int} (h : ∀ k, k < lf.length → MayE (lfAt lf k) c) (k : Nat) : lfAt (nbL lf) k = lfAt lf k := by
  unfold nbL
  by_cases hl : liveL lf
  · rw [if_pos hl]
  · rw [if_neg hl, lfAt_nil]
    by_cases hk : k < lf.length
    · refine (none_is (h k hk) ?_).symm
      refine Decidable.byContradiction fun h0 => hl (liveL_at.2 ⟨k, hk, h0⟩)
    · rw [lfAt_out (Nat.le_of_not_lt hk)]
/-- A table whose leaves may stand in a right one is right without its blank leaves. -/
theorem wbT_right {T : Tb} {c : Int} (hc : 0 ≤ c ∧ c ≤ 6) (hlen : T.length ≤ 512) (h : ∀ j, okL (tbAt T j) c) : rightT (wbT T) 4096 c ∧ ∀ i, atN (wbT T) i = atN T i := by
  obtain ⟨h1, h2⟩ := wbT_last T
  refine ⟨⟨by omega, hc, h2, by omega, fun j hj hne => ?_⟩, fun i => ?_⟩
  · rw [wbT_tb] at hne ⊢
    have hl : liveL (tbAt T j) := Decidable.byContradiction fun hl => hne (by unfold nbL; rw [if_neg hl])
    have e : nbL (tbAt T j) = tbAt T j := by unfold nbL; rw [if_pos hl]
    rw [e] at hne ⊢
    obtain ⟨g1, g2⟩ := (h j).resolve_left hne
    obtain ⟨k, hk, h0⟩ := liveL_at.1 hl
    exact ⟨g1, fun k hk => ⟨g2 k hk, fun _ => by omega⟩, k, by omega, h0⟩
  · unfold atN
    rw [wbT_tb]
    refine nbL_at (c := c) (fun k hk => ?_) _
    rcases h (i / 8) with e | ⟨g1, g2⟩
    · rw [e] at hk
      cases hk
    · exact g2 k (by omega)
theorem setG_is {T : Tb} {c : Int} (h : rightT T 4096 c) {e : En} (he : MayE e c) {i : Nat} (hi : i < 4096) : setG T i e = setN T i e := by
  have hl5 := h.2.2.2.1
  obtain ⟨f1, f2⟩ := full_ok h.2.1 (h.ok (i / 8))
  have hlen : ((padT T (i / 8)).set (i / 8) ((full (tbAt T (i / 8))).set (i % 8) e)).length ≤ 512 := by rw [List.length_set, pad_len]; omega
  have ht : ∀ j, tbAt ((padT T (i / 8)).set (i / 8) ((full (tbAt T (i / 8))).set (i % 8) e)) j = if i / 8 = j then (full (tbAt T (i / 8))).set (i % 8) e else tbAt T j := fun j => by
    rw [tbAt_set, pad_len, tbAt_pad]
    by_cases hj : i / 8 = j
    · rw [if_pos ⟨hj, by omega⟩, if_pos hj]
    · rw [if_neg (fun h' => hj h'.1), if_neg hj]
  have hok : ∀ j, okL (tbAt ((padT T (i / 8)).set (i / 8) ((full (tbAt T (i / 8))).set (i % 8) e)) j) c := fun j => by
    rw [ht]
    by_cases hj : i / 8 = j
    · rw [if_pos hj]
      refine Or.inr ⟨by rw [List.length_set]; exact f1, fun k hk => ?_⟩
      rw [lfAt_set]
      split
      · exact he
      · exact f2 k hk
    · rw [if_neg hj]
      exact h.ok j
  obtain ⟨g1, g2⟩ := wbT_right h.2.1 hlen hok
  refine right_ext g1 (rightT_set h he hi) fun j => ?_
  rw [atN_set h he]
  show atN (wbT _) j = _
  rw [g2]
  unfold atN
  rw [ht]
  by_cases h1 : i / 8 = j / 8
  · rw [if_pos h1, lfAt_set, full_at, f1]
    by_cases h2 : j = i
    · rw [if_pos (by omega), if_pos h2]
    · rw [if_neg (by omega), if_neg h2, h1]
  · rw [if_neg h1, if_neg (by intro e'; subst e'; exact h1 rfl)]
theorem cutL_len (lf : List En) (m : Nat) : (cutL lf m).length = lf.length := by
  unfold cutL
  rw [List.length_append, List.length_take, List.length_replicate]
  omega
theorem cutL_at (lf : List En) (m k : Nat) : lfAt (cutL lf m) k = if k < m then lfAt lf k else enZ := by
  unfold lfAt cutL
  rw [List.getD_eq_getElem?_getD, List.getD_eq_getElem?_getD, List.getElem?_append, List.length_take, List.getElem?_take, List.getElem?_replicate]
  by_cases h : k < m
  · rw [if_pos h]
    by_cases h2 : k < min m lf.length
    · rw [if_pos h2, if_pos h]
    · rw [if_neg h2, List.getElem?_eq_none (show lf.length ≤ k by omega)]
      split <;> rfl
  · rw [if_neg h, if_neg (by omega)]
    split <;> rfl
theorem cutL_nil (m : Nat) : cutL [] m = [] := by
  unfold cutL
  simp
theorem cutsT_len (T : Tb) (n : Nat) : (cutsT T n).length = T.length := by unfold cutsT; rw [List.length_mapIdx]
theorem cutsT_tb (T : Tb) (n j : Nat) : tbAt (cutsT T n) j = cutL (tbAt T j) (belowN n j) := by
  unfold tbAt cutsT
  rw [List.getD_eq_getElem?_getD, List.getD_eq_getElem?_getD, List.getElem?_mapIdx]
  cases T[j]? with
  | none => exact (cutL_nil _).symm
  | some x => rfl
theorem cutG_is {T : Tb} {c : Int} (h : rightT T 4096 c) (n : Nat) : rightT (cutG T n) 4096 c ∧ ∀ j, atN (cutG T n) j = if j < n then atN T j else enZ := by
  have hz : MayE enZ c := ⟨h.2.1, Or.inl ⟨Or.inl rfl, rfl, rfl, rfl, rfl⟩⟩
  have hok : ∀ j, okL (tbAt (cutsT T n) j) c := fun j => by
    rw [cutsT_tb]
    rcases h.ok j with e | ⟨g1, g2⟩
    · rw [e, cutL_nil]
      exact Or.inl rfl
    · refine Or.inr ⟨by rw [cutL_len]; exact g1, fun k hk => ?_⟩
      rw [cutL_at]
      split
      · exact g2 k hk
      · exact hz
  obtain ⟨g1, g2⟩ := wbT_right h.2.1 (by rw [cutsT_len]; exact h.2.2.2.1) hok
  refine ⟨g1, fun j => ?_⟩
  show atN (wbT _) j = _
  rw [g2]
  unfold atN
  rw [cutsT_tb, cutL_at]
  unfold belowN
  by_cases hj : j < n
  · rw [if_pos (by omega), if_pos hj]
  · rw [if_neg (by omega), if_neg hj]
theorem none_may {c : Int} (hc : 0 ≤ c ∧ c ≤ 6) : MayE enZ c := ⟨hc, Or.inl ⟨Or.inl rfl, rfl, rfl, rfl, rfl⟩⟩
theorem setT_at {T : Tb} {c : Int} (h : rightT T 4096 c) {e : En} (he : MayE e c) {i : Int} (hi : 0 ≤ i ∧ i < 4096) : rightT (setT T i e) 4096 c ∧ ∀ j, atN (setT T i e) j = if j = i.toNat then e else atN T j := by
  have hf : fitsT T e := ⟨c, h, he⟩
  unfold setT
  rw [if_pos ⟨hi, hf⟩]
  exact ⟨rightT_set h he (by omega), fun j => atN_set h he _ _⟩
theorem cutT_at {T : Tb} {c : Int} (h : rightT T 4096 c) (n : Int) : rightT (cutT T n) 4096 c ∧ ∀ j, atN (cutT T n) j = if j < n.toNat then atN T j else enZ := by
  unfold cutT
  rw [if_pos ⟨c, h, none_may h.2.1⟩]
  exact cutG_is h _
/-- A right table of which nothing stands behind n is right for n clusters. -/
theorem right_less {T : Tb} {c : Int} (h : rightT T 4096 c) {n : Int} (hn : 0 ≤ n ∧ n ≤ 4096) (h0 : ∀ j : Nat, n ≤ j → (atN T j).1 = 0) : rightT T n c := by
  refine ⟨hn, h.2.1, h.2.2.1, h.2.2.2.1, fun i hi hne => ?_⟩
  obtain ⟨g1, g2, g3⟩ := h.2.2.2.2 i hi hne
  refine ⟨g1, fun k hk => ⟨(g2 k hk).1, fun h1 => ?_⟩, g3⟩
  rcases Int.lt_or_le ((i * 8 + k : Nat) : Int) n with h' | h'
  · exact h'
  · have := h0 _ h'
    rw [atN_is i k hk] at this
    exact absurd this h1
/-- The bound of leaves follows. -/
def rightM (T : Tb) (n c : Int) : Prop := (0 ≤ n ∧ n ≤ 4096) ∧ (0 ≤ c ∧ c ≤ 6) ∧ (0 < T.length → tbAt T (T.length - 1) ≠ []) ∧ ∀ i, i < T.length → tbAt T i ≠ [] → rightL (tbAt T i) i n c
theorem rightM_iff {T : Tb} {n c : Int} : rightT T n c ↔ rightM T n c := by
  constructor
  · rintro ⟨h1, h2, h3, _, h5⟩
    exact ⟨h1, h2, h3, h5⟩
  · rintro ⟨h1, h2, h3, h5⟩
    refine ⟨h1, h2, h3, ?_, h5⟩
    rcases Nat.lt_or_ge 512 T.length with h | h
    · have hne := h3 (by omega)
      obtain ⟨_, g2, k, hk, h0⟩ := h5 (T.length - 1) (by omega) hne
      have := (g2 k hk).2 h0
      omega
    · exact h
end Go.Proofs.YtdffgnpldapciaaGreatDoor
