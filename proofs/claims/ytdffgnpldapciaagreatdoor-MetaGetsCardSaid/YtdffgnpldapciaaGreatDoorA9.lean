/-
  Plain mathematics of tables of two levels: which are right, the entry at a place, a table with one entry set, that right tables with the same entries are one (layer 8). Conditions: none.
-/
import Derived.Test.YtdffgnpldapciaaGreatDoorA8
namespace Go.Proofs.YtdffgnpldapciaaGreatDoor
open Go.RowKit
set_option linter.unusedVariables false

/-- A table: its leaves. -/
abbrev Tb := List (List En)
def lfAt (lf : List En) (k : Nat) : En := lf.getD k enZ
def tbAt (T : Tb) (i : Nat) : List En := T.getD i []
def rightL (lf : List En) (i : Nat) (n c : Int) : Prop := lf.length = 8 ∧ (∀ k, k < 8 → MayE (lfAt lf k) c ∧ ((lfAt lf k).1 ≠ 0 → ((i * 8 + k : Nat) : Int) < n)) ∧ ∃ k, k < 8 ∧ (lfAt lf k).1 ≠ 0
def rightT (T : Tb) (n c : Int) : Prop := (0 ≤ n ∧ n ≤ 4096) ∧ (0 ≤ c ∧ c ≤ 6) ∧ (0 < T.length → tbAt T (T.length - 1) ≠ []) ∧ T.length ≤ 512 ∧ ∀ i, i < T.length → tbAt T i ≠ [] → rightL (tbAt T i) i n c
noncomputable instance (T : Tb) (n c : Int) : Decidable (rightT T n c) := Classical.propDecidable _
def atN (T : Tb) (i : Nat) : En := lfAt (tbAt T (i / 8)) (i % 8)
def atT (T : Tb) (i : Int) : En := if i < 0 then enZ else atN T i.toNat
def fitsT (T : Tb) (e : En) : Prop := ∃ c, rightT T 4096 c ∧ MayE e c
noncomputable instance (T : Tb) (e : En) : Decidable (fitsT T e) := Classical.propDecidable _
/-- The first n leaves without the absent ones at their end. -/
def trimN (T : Tb) : Nat → Tb
  | 0 => []
  | n + 1 => if tbAt T n = [] then trimN T n else T.take (n + 1)
def full (lf : List En) : List En := if lf = [] then List.replicate 8 enZ else lf
def someL (lf : List En) : Prop := ∃ k, k < 8 ∧ (lfAt lf k).1 ≠ 0
noncomputable instance (lf : List En) : Decidable (someL lf) := Classical.propDecidable _
noncomputable def setL (lf : List En) (k : Nat) (e : En) : List En := if someL ((full lf).set k e) then (full lf).set k e else []
def padT (T : Tb) (j : Nat) : Tb := T ++ List.replicate (j + 1 - T.length) []
noncomputable def putT (T : Tb) (i : Nat) (e : En) : Tb := (padT T (i / 8)).set (i / 8) (setL (tbAt T (i / 8)) (i % 8) e)
noncomputable def setN (T : Tb) (i : Nat) (e : En) : Tb := if e.1 = 0 ∧ T.length ≤ i / 8 then T else trimN (putT T i e) (putT T i e).length
noncomputable def setT (T : Tb) (i : Int) (e : En) : Tb := if (0 ≤ i ∧ i < 4096) ∧ fitsT T e then setN T i.toNat e else T

theorem tbAt_out {T : Tb} {i : Nat} (h : T.length ≤ i) : tbAt T i = [] := by
  unfold tbAt
  rw [List.getD_eq_getElem?_getD, List.getElem?_eq_none h]
  rfl
theorem lfAt_out {lf : List En} {k : Nat} (h : lf.length ≤ k) : lfAt lf k = enZ := by
  unfold lfAt
  rw [List.getD_eq_getElem?_getD, List.getElem?_eq_none h]
  rfl
theorem tbAt_in {T : Tb} {i : Nat} (h : i < T.length) : tbAt T i = T[i] := by
  unfold tbAt
  rw [List.getD_eq_getElem?_getD, List.getElem?_eq_getElem h]
  rfl
theorem lfAt_in {lf : List En} {k : Nat} (h : k < lf.length) : lfAt lf k = lf[k] := by
  unfold lfAt
  rw [List.getD_eq_getElem?_getD, List.getElem?_eq_getElem h]
  rfl
theorem lfAt_nil (k : Nat) : lfAt [] k = enZ := lfAt_out (Nat.zero_le _)
theorem lfAt_set (lf : List En) (k j : Nat) (e : En) : lfAt (lf.set k e) j = if k = j ∧ k < lf.length then e else lfAt lf j := by
  unfold lfAt
  simp only [List.getD_eq_getElem?_getD, List.getElem?_set]
  by_cases h : k = j
  · subst h
    by_cases h2 : k < lf.length
    · simp [h2]
    · simp [h2]
  · simp [h]
theorem tbAt_set (T : Tb) (k j : Nat) (lf : List En) : tbAt (T.set k lf) j = if k = j ∧ k < T.length then lf else tbAt T j := by
  unfold tbAt
  simp only [List.getD_eq_getElem?_getD, List.getElem?_set]
  by_cases h : k = j
  · subst h
    by_cases h2 : k < T.length
    · simp [h2]
    · simp [h2]
  · simp [h]
theorem tbAt_pad (T : Tb) (j i : Nat) : tbAt (padT T j) i = tbAt T i := by
  unfold tbAt padT
  simp only [List.getD_eq_getElem?_getD, List.getElem?_append, List.getElem?_replicate]
  by_cases h : i < T.length
  · rw [if_pos h]
  · rw [if_neg h, List.getElem?_eq_none (Nat.le_of_not_lt h)]
    split <;> rfl
theorem pad_len (T : Tb) (j : Nat) : (padT T j).length = max T.length (j + 1) := by
  unfold padT
  rw [List.length_append, List.length_replicate]
  omega
theorem full_at (lf : List En) (k : Nat) : lfAt (full lf) k = lfAt lf k := by
  unfold full
  by_cases h : lf = []
  · subst h
    rw [if_pos rfl, lfAt_nil]
    unfold lfAt
    rw [List.getD_eq_getElem?_getD, List.getElem?_replicate]
    split <;> rfl
  · rw [if_neg h]
theorem trimN_at (T : Tb) : ∀ n, n ≤ T.length → ∀ i, tbAt (trimN T n) i = if i < n then tbAt T i else []
  | 0, _, i => by simp [trimN, tbAt]
  | n + 1, hn, i => by
    unfold trimN
    by_cases h : tbAt T n = []
    · rw [if_pos h, trimN_at T n (by omega) i]
      by_cases h1 : i < n
      · rw [if_pos h1, if_pos (by omega)]
      · by_cases h2 : i = n
        · subst h2
          rw [if_neg h1, if_pos (by omega), h]
        · rw [if_neg h1, if_neg (by omega)]
    · rw [if_neg h]
      unfold tbAt
      rw [List.getD_eq_getElem?_getD, List.getD_eq_getElem?_getD, List.getElem?_take]
      by_cases h1 : i < n + 1
      · rw [if_pos h1, if_pos h1]
      · rw [if_neg h1, if_neg h1]
        rfl
theorem trimN_len (T : Tb) : ∀ n, n ≤ T.length → (trimN T n).length ≤ n ∧ (0 < (trimN T n).length → tbAt (trimN T n) ((trimN T n).length - 1) ≠ [])
  | 0, _ => by simp [trimN]
  | n + 1, hn => by
    have ih := trimN_len T n (by omega)
    by_cases h : tbAt T n = []
    · have e : trimN T (n + 1) = trimN T n := by
        show (if tbAt T n = [] then trimN T n else T.take (n + 1)) = _
        rw [if_pos h]
      rw [e]
      exact ⟨by omega, ih.2⟩
    · have e : trimN T (n + 1) = T.take (n + 1) := by
        show (if tbAt T n = [] then trimN T n else T.take (n + 1)) = _
        rw [if_neg h]
      have hl : (T.take (n + 1)).length = n + 1 := by rw [List.length_take]; omega
      have ha : tbAt (T.take (n + 1)) n = tbAt T n := by
        unfold tbAt
        rw [List.getD_eq_getElem?_getD, List.getD_eq_getElem?_getD, List.getElem?_take, if_pos (by omega)]
      rw [e, hl]
      refine ⟨Nat.le_refl _, fun _ => ?_⟩
      rw [Nat.add_sub_cancel, ha]
      exact h
theorem putT_len (T : Tb) (i : Nat) (e : En) : (putT T i e).length = max T.length (i / 8 + 1) := by
  unfold putT
  rw [List.length_set, pad_len]
theorem putT_at (T : Tb) (i j : Nat) (e : En) : tbAt (putT T i e) j = if i / 8 = j then setL (tbAt T (i / 8)) (i % 8) e else tbAt T j := by
  unfold putT
  rw [tbAt_set, pad_len, tbAt_pad]
  by_cases h : i / 8 = j
  · rw [if_pos ⟨h, by omega⟩, if_pos h]
  · rw [if_neg (fun h' => h h'.1), if_neg h]
theorem setN_tb {T : Tb} {i : Nat} {e : En} (h : ¬ (e.1 = 0 ∧ T.length ≤ i / 8)) (j : Nat) : tbAt (setN T i e) j = if i / 8 = j then setL (tbAt T (i / 8)) (i % 8) e else tbAt T j := by
  unfold setN
  rw [if_neg h, trimN_at _ _ (Nat.le_refl _), ← putT_at]
  by_cases h1 : j < (putT T i e).length
  · rw [if_pos h1]
  · rw [if_neg h1, tbAt_out (Nat.le_of_not_lt h1)]
/-- A leaf that may stand in a right table, but for where it stands. -/
def okL (lf : List En) (c : Int) : Prop := lf = [] ∨ lf.length = 8 ∧ ∀ k, k < 8 → MayE (lfAt lf k) c
theorem full_ok {lf : List En} {c : Int} (hc : 0 ≤ c ∧ c ≤ 6) (h : okL lf c) : (full lf).length = 8 ∧ ∀ k, k < 8 → MayE (lfAt (full lf) k) c := by
  rcases h with rfl | ⟨h1, h2⟩
  · refine ⟨by simp [full], fun k hk => ?_⟩
    rw [full_at, lfAt_nil]
    exact ⟨hc, Or.inl ⟨Or.inl rfl, rfl, rfl, rfl, rfl⟩⟩
  · have hne : lf ≠ [] := fun e => by rw [e] at h1; cases h1
    unfold full
    rw [if_neg hne]
    exact ⟨h1, h2⟩
theorem none_is {x : En} {c : Int} (h : MayE x c) (h0 : x.1 = 0) : x = enZ := by
  obtain ⟨a, b, d, e, f⟩ := x
  obtain ⟨_, h⟩ := h
  dsimp only at h h0
  have : a = 0 ∧ b = 0 ∧ d = 0 ∧ e = 0 ∧ f = 0 := by omega
  obtain ⟨rfl, rfl, rfl, rfl, rfl⟩ := this
  rfl
theorem setL_at {lf : List En} {c : Int} (hc : 0 ≤ c ∧ c ≤ 6) (h : okL lf c) {k : Nat} (hk : k < 8) {e : En} (he : MayE e c) (j : Nat) : lfAt (setL lf k e) j = if k = j then e else lfAt lf j := by
  obtain ⟨f1, f2⟩ := full_ok hc h
  have hs : lfAt ((full lf).set k e) j = if k = j then e else lfAt lf j := by
    rw [lfAt_set, full_at]
    by_cases hj : k = j
    · rw [if_pos ⟨hj, by omega⟩, if_pos hj]
    · rw [if_neg (fun h' => hj h'.1), if_neg hj]
  unfold setL
  by_cases hso : someL ((full lf).set k e)
  · rw [if_pos hso, hs]
  · rw [if_neg hso, lfAt_nil, ← hs]
    by_cases hj : j < 8
    · have hm : MayE (lfAt ((full lf).set k e) j) c := by
        rw [lfAt_set]
        split
        · exact he
        · exact f2 j hj
      have h0 : (lfAt ((full lf).set k e) j).1 = 0 := Decidable.byContradiction fun h0 => hso ⟨j, hj, h0⟩
      exact (none_is hm h0).symm
    · rw [lfAt_out (by rw [List.length_set]; omega)]
theorem setL_ok {lf : List En} {c : Int} (hc : 0 ≤ c ∧ c ≤ 6) (h : okL lf c) {k : Nat} (hk : k < 8) {e : En} (he : MayE e c) : setL lf k e = [] ∨ (setL lf k e).length = 8 ∧ (∀ j, j < 8 → MayE (lfAt (setL lf k e) j) c) ∧ someL (setL lf k e) := by
  obtain ⟨f1, f2⟩ := full_ok hc h
  by_cases hso : someL ((full lf).set k e)
  · have e1 : setL lf k e = (full lf).set k e := by unfold setL; rw [if_pos hso]
    rw [e1]
    refine Or.inr ⟨by rw [List.length_set]; exact f1, fun j hj => ?_, hso⟩
    rw [lfAt_set]
    split
    · exact he
    · exact f2 j hj
  · exact Or.inl (by unfold setL; rw [if_neg hso])
theorem rightT.ok {T : Tb} {n c : Int} (h : rightT T n c) (i : Nat) : okL (tbAt T i) c := by
  by_cases hi : i < T.length
  · by_cases hn : tbAt T i = []
    · exact Or.inl hn
    · obtain ⟨h1, h2, _⟩ := h.2.2.2.2 i hi hn
      exact Or.inr ⟨h1, fun k hk => (h2 k hk).1⟩
  · exact Or.inl (tbAt_out (Nat.le_of_not_lt hi))
theorem atN_set {T : Tb} {c : Int} (h : rightT T 4096 c) {e : En} (he : MayE e c) (i j : Nat) : atN (setN T i e) j = if j = i then e else atN T j := by
  by_cases hn : e.1 = 0 ∧ T.length ≤ i / 8
  · have e1 : setN T i e = T := by unfold setN; rw [if_pos hn]
    rw [e1]
    by_cases hj : j = i
    · subst hj
      rw [if_pos rfl, none_is he hn.1]
      unfold atN
      rw [tbAt_out hn.2, lfAt_nil]
    · rw [if_neg hj]
  · unfold atN
    rw [setN_tb hn]
    by_cases h1 : i / 8 = j / 8
    · rw [if_pos h1, setL_at h.2.1 (h.ok _) (Nat.mod_lt _ (by omega)) he]
      by_cases h2 : j = i
      · rw [if_pos (by omega), if_pos h2]
      · rw [if_neg (by omega), if_neg h2, h1]
    · rw [if_neg h1, if_neg (by intro e'; subst e'; exact h1 rfl)]
theorem rightT_set {T : Tb} {c : Int} (h : rightT T 4096 c) {e : En} (he : MayE e c) {i : Nat} (hi : i < 4096) : rightT (setN T i e) 4096 c := by
  by_cases hn : e.1 = 0 ∧ T.length ≤ i / 8
  · have e1 : setN T i e = T := by unfold setN; rw [if_pos hn]
    rw [e1]
    exact h
  · have hle : (setN T i e).length ≤ (putT T i e).length ∧ (0 < (setN T i e).length → tbAt (setN T i e) ((setN T i e).length - 1) ≠ []) := by
      have := trimN_len (putT T i e) _ (Nat.le_refl _)
      have e2 : setN T i e = trimN (putT T i e) (putT T i e).length := by unfold setN; rw [if_neg hn]
      rw [e2]
      exact this
    have hl := putT_len T i e
    have h5 := h.2.2.2.1
    refine ⟨h.1, h.2.1, hle.2, by omega, fun j hj hne => ?_⟩
    rw [setN_tb hn] at hne ⊢
    by_cases h1 : i / 8 = j
    · rw [if_pos h1] at hne ⊢
      rcases setL_ok h.2.1 (h.ok (i / 8)) (Nat.mod_lt i (by omega)) he with h2 | ⟨h2, h3, h4⟩
      · exact absurd h2 hne
      · exact ⟨h2, fun k hk => ⟨h3 k hk, fun _ => by omega⟩, h4⟩
    · rw [if_neg h1] at hne ⊢
      have hjT : j < T.length := by
        rcases Nat.lt_or_ge j T.length with h' | h'
        · exact h'
        · exact absurd (tbAt_out h') hne
      exact h.2.2.2.2 j hjT hne
theorem atN_is {T : Tb} (i k : Nat) (hk : k < 8) : atN T (i * 8 + k) = lfAt (tbAt T i) k := by
  unfold atN
  have e1 : (i * 8 + k) / 8 = i := by omega
  have e2 : (i * 8 + k) % 8 = k := by omega
  rw [e1, e2]
theorem right_le {T T' : Tb} {n c n' c' : Int} (h : rightT T n c) (h' : rightT T' n' c') (he : ∀ j, atN T j = atN T' j) : T.length ≤ T'.length := by
  rcases Nat.lt_or_ge T'.length T.length with hlt | hge
  · have hne := h.2.2.1 (by omega)
    obtain ⟨_, _, k, hk, h0⟩ := h.2.2.2.2 (T.length - 1) (by omega) hne
    rw [← atN_is _ _ hk, he, atN_is _ _ hk, tbAt_out (by omega), lfAt_nil] at h0
    exact absurd rfl h0
  · exact hge
/-- Right tables that have the same entries are one. -/
theorem right_ext {T T' : Tb} {n c n' c' : Int} (h : rightT T n c) (h' : rightT T' n' c') (he : ∀ j, atN T j = atN T' j) : T = T' := by
  have hl : T.length = T'.length := Nat.le_antisymm (right_le h h' he) (right_le h' h (fun j => (he j).symm))
  refine List.ext_getElem hl fun i h1 h2 => ?_
  rw [← tbAt_in h1, ← tbAt_in h2]
  have hk : ∀ k, k < 8 → lfAt (tbAt T i) k = lfAt (tbAt T' i) k := fun k hk => by rw [← atN_is _ _ hk, he, atN_is _ _ hk]
  by_cases e1 : tbAt T i = []
  · by_cases e2 : tbAt T' i = []
    · rw [e1, e2]
    · obtain ⟨_, _, k, hk8, h0⟩ := h'.2.2.2.2 i h2 e2
      rw [← hk k hk8, e1, lfAt_nil] at h0
      exact absurd rfl h0
  · by_cases e2 : tbAt T' i = []
    · obtain ⟨_, _, k, hk8, h0⟩ := h.2.2.2.2 i h1 e1
      rw [hk k hk8, e2, lfAt_nil] at h0
      exact absurd rfl h0
    · obtain ⟨l1, _⟩ := h.2.2.2.2 i h1 e1
      obtain ⟨l2, _⟩ := h'.2.2.2.2 i h2 e2
      refine List.ext_getElem (l1.trans l2.symm) fun k g1 g2 => ?_
      rw [← lfAt_in g1, ← lfAt_in g2]
      exact hk k (by omega)
theorem atT_nat (T : Tb) (i : Nat) : atT T (i : Int) = atN T i := by
  unfold atT
  rw [if_neg (by omega), Int.toNat_natCast]
theorem right_nil {c : Int} (hc : 0 ≤ c ∧ c ≤ 6) : rightT [] 4096 c := ⟨by omega, hc, fun h => absurd h (by simp), by simp, fun i h => absurd h (by simp)⟩
theorem atN_nil (i : Nat) : atN [] i = enZ := by
  unfold atN
  rw [tbAt_out (Nat.zero_le _), lfAt_nil]
theorem atN_far {T : Tb} {n c : Int} (h : rightT T n c) {i : Nat} (hi : n ≤ i) : atN T i = enZ := by
  by_cases hl : i / 8 < T.length
  · by_cases hn : tbAt T (i / 8) = []
    · unfold atN
      rw [hn, lfAt_nil]
    · obtain ⟨_, h2, _⟩ := h.2.2.2.2 _ hl hn
      obtain ⟨h3, h4⟩ := h2 (i % 8) (Nat.mod_lt _ (by omega))
      refine none_is (x := atN T i) h3 ?_
      refine Decidable.byContradiction fun h0 => ?_
      have := h4 h0
      omega
  · unfold atN
    rw [tbAt_out (Nat.le_of_not_lt hl), lfAt_nil]
end Go.Proofs.YtdffgnpldapciaaGreatDoor
