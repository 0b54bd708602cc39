/-
  Plain mathematics of the project's own files: what stands there is what was kept with the writes over it; the numbers of the writes. Condition: none.
-/
import Derived.Test.YtnhaidofblfopaaZ5
namespace Go.Proofs.Ytnhaidofblfopaa
open Go.RowKit

theorem flat_len16 : ∀ {L : List Sec}, (∀ x ∈ L, x.length = 16) → L.flatten.length = 16 * L.length
  | [], _ => rfl
  | x :: r, h => by
    rw [List.flatten_cons, List.length_append, flat_len16 (fun y hy => h y (List.mem_cons_of_mem _ hy)), h x List.mem_cons_self, List.length_cons]
    omega
theorem flat_drop : ∀ {L : List Sec}, (∀ x ∈ L, x.length = 16) → ∀ i, L.flatten.drop (16 * i) = (L.drop i).flatten
  | [], _, i => by simp
  | x :: r, h, 0 => by simp
  | x :: r, h, i + 1 => by
    rw [List.flatten_cons, List.drop_append, List.drop_of_length_le (by rw [h x List.mem_cons_self]; omega), List.nil_append, h x List.mem_cons_self, show 16 * (i + 1) - 16 = 16 * i by omega,
      flat_drop (fun y hy => h y (List.mem_cons_of_mem _ hy)) i]
    rfl
theorem flat_take : ∀ {L : List Sec}, (∀ x ∈ L, x.length = 16) → ∀ i, L.flatten.take (16 * i) = (L.take i).flatten
  | [], _, i => by simp
  | x :: r, h, 0 => by simp
  | x :: r, h, i + 1 => by
    rw [List.flatten_cons, List.take_append, List.take_of_length_le (by rw [h x List.mem_cons_self]; omega), h x List.mem_cons_self, show 16 * (i + 1) - 16 = 16 * i by omega,
      flat_take (fun y hy => h y (List.mem_cons_of_mem _ hy)) i]
    rfl
/-- The sectors, noughts behind. -/
def padS (l : List Sec) (n : Nat) : List Sec := l ++ List.replicate (n - l.length) zero16
theorem padS_len (l : List Sec) (n : Nat) : (padS l n).length = max l.length n := by simp [padS]; omega
theorem padS_getD (l : List Sec) (n j : Nat) : (padS l n).getD j zero16 = l.getD j zero16 := by
  unfold padS
  rw [List.getD_eq_getElem?_getD, List.getD_eq_getElem?_getD]
  by_cases h : j < l.length
  · rw [List.getElem?_append_left h]
  · rw [List.getElem?_append_right (by omega), List.getElem?_eq_none (by omega : l.length ≤ j), List.getElem?_replicate]
    split <;> rfl
theorem putS_pad (l : List Sec) (i : Nat) (s : Sec) : putS l i s = (padS l (i + 1)).set i s := by
  unfold putS padS
  split
  · rename_i h
    rw [show i + 1 - l.length = 0 by omega]
    simp
  · rename_i h
    rw [show i + 1 - l.length = (i - l.length) + 1 by omega, List.replicate_succ', ← List.append_assoc, List.set_append_right _ _ (by simp; omega)]
    simp [show i - (l.length + (i - l.length)) = 0 by omega]
theorem putS_getD (l : List Sec) (i : Nat) (s : Sec) (j : Nat) : (putS l i s).getD j zero16 = if j = i then s else l.getD j zero16 := by
  rw [putS_pad]
  have hl : i < (padS l (i + 1)).length := by rw [padS_len]; omega
  rw [List.getD_eq_getElem?_getD, List.getElem?_set]
  by_cases h : j = i
  · subst h
    rw [if_pos rfl, if_pos hl, if_pos rfl]
    rfl
  · rw [if_neg (by omega), if_neg h, ← List.getD_eq_getElem?_getD, padS_getD]
theorem sec_ext {l m : List Sec} (hl : l.length = m.length) (h : ∀ j, l.getD j zero16 = m.getD j zero16) : l = m := by
  apply List.ext_getElem hl
  intro j h1 h2
  have := h j
  rw [List.getD_eq_getElem?_getD, List.getD_eq_getElem?_getD, List.getElem?_eq_getElem h1, List.getElem?_eq_getElem h2] at this
  exact this
theorem keptA_snoc (dur : List Sec) (l : List (Nat × Sec)) (x : Nat × Sec) : keptA dur (l ++ [x]) = putS (keptA dur l) x.1 x.2 := by
  unfold keptA
  rw [List.foldl_append]
  rfl
theorem keptA_len_ge (l : List (Nat × Sec)) : ∀ dur : List Sec, dur.length ≤ (keptA dur l).length := by
  induction l with
  | nil => intro dur; exact Nat.le_refl _
  | cons x r ih =>
    intro dur
    have := ih (putS dur x.1 x.2)
    rw [putS_len] at this
    show _ ≤ (keptA (putS dur x.1 x.2) r).length
    omega
theorem flat_set {l : List Sec} (h : ∀ x ∈ l, x.length = 16) (i : Nat) (hi : i < l.length) (x : Sec) : (l.set i x).flatten = l.flatten.take (16 * i) ++ x ++ l.flatten.drop (16 * i + 16) := by
  rw [List.set_eq_take_append_cons_drop, if_pos hi, List.flatten_append, List.flatten_cons, flat_take h, show 16 * i + 16 = 16 * (i + 1) by omega, flat_drop h, List.append_assoc]
/-- What stands is what was kept, with the writes over it. -/
structure Cov (now dur : List Sec) (wr : List (Nat × Sec)) : Prop where
  le : (keptA dur wr).length ≤ now.length
  eq : ∀ j, now.getD j zero16 = (keptA dur wr).getD j zero16
theorem Cov.self (l : List Sec) : Cov l l [] := ⟨Nat.le_refl _, fun _ => rfl⟩
theorem Cov.write {now dur : List Sec} {wr : List (Nat × Sec)} (h : Cov now dur wr) (i : Nat) (x : Sec) : Cov (putS now i x) dur (wr ++ [(i, x)]) := by
  refine ⟨?_, fun j => ?_⟩
  · rw [keptA_snoc, putS_len, putS_len]
    have := h.le
    show max _ (i + 1) ≤ _
    omega
  · rw [keptA_snoc, putS_getD, putS_getD, h.eq j]
theorem Cov.flush {now dur : List Sec} {wr : List (Nat × Sec)} (h : Cov now dur wr) : padS (keptA dur wr) now.length = now :=
  sec_ext (by rw [padS_len]; have := h.le; omega) fun j => by rw [padS_getD, h.eq j]
theorem Cov.dur_le {now dur : List Sec} {wr : List (Nat × Sec)} (h : Cov now dur wr) : dur.length ≤ now.length := Nat.le_trans (keptA_len_ge wr dur) h.le
/-- The writes ahead of place n, over what was kept ahead of it. -/
theorem kept_below (n : Nat) (wr : List (Nat × Sec)) : ∀ d1 d2 : List Sec, d1.length ≤ n → (∀ j, j < n → d1.getD j zero16 = d2.getD j zero16) →
    (keptA d1 (wr.filter fun x => !decide (n ≤ x.1))).length ≤ n ∧ ∀ j, j < n → (keptA d1 (wr.filter fun x => !decide (n ≤ x.1))).getD j zero16 = (keptA d2 wr).getD j zero16 := by
  induction wr with
  | nil => intro d1 d2 h1 h2; exact ⟨h1, h2⟩
  | cons x r ih =>
    intro d1 d2 h1 h2
    by_cases hx : n ≤ x.1
    · rw [List.filter_cons_of_neg (by simp [hx])]
      exact ih d1 (putS d2 x.1 x.2) h1 fun j hj => by rw [putS_getD, if_neg (by omega)]; exact h2 j hj
    · rw [List.filter_cons_of_pos (by simp [hx])]
      exact ih (putS d1 x.1 x.2) (putS d2 x.1 x.2) (by rw [putS_len]; omega) fun j hj => by rw [putS_getD, putS_getD, h2 j hj]
theorem getD_take_lt (l : List Sec) (n j : Nat) (h : j < n) : (l.take n).getD j zero16 = l.getD j zero16 := by
  rw [List.getD_eq_getElem?_getD, List.getD_eq_getElem?_getD, List.getElem?_take, if_pos h]
theorem getD_ge (l : List Sec) (j : Nat) (h : l.length ≤ j) : l.getD j zero16 = zero16 := by
  rw [List.getD_eq_getElem?_getD, List.getElem?_eq_none h]
  rfl
theorem Cov.cut {now dur : List Sec} {wr : List (Nat × Sec)} (h : Cov now dur wr) (n : Nat) (hn : n ≤ now.length) : Cov (now.take n) (dur.take n) (wr.filter fun x => !decide (n ≤ x.1)) := by
  obtain ⟨h1, h2⟩ := kept_below n wr (dur.take n) dur (by rw [List.length_take]; omega) fun j hj => getD_take_lt _ _ _ hj
  have hl : (now.take n).length = n := by rw [List.length_take]; omega
  refine ⟨by rw [hl]; exact h1, fun j => ?_⟩
  by_cases hj : j < n
  · rw [getD_take_lt _ _ _ hj, h.eq j, h2 j hj]
  · rw [getD_ge _ _ (by omega), getD_ge _ _ (by omega)]

/-- Two lists that rise, of the same members, are one. -/
theorem eq_of_rise {α : Type} (f : α → Nat) : ∀ l m : List α, l.Pairwise (fun a b => f a < f b) → m.Pairwise (fun a b => f a < f b) → (∀ x, x ∈ l ↔ x ∈ m) → l = m
  | [], [], _, _, _ => rfl
  | [], y :: m, _, _, h => absurd ((h y).2 (List.mem_cons_self ..)) (by simp)
  | x :: l, [], _, _, h => absurd ((h x).1 (List.mem_cons_self ..)) (by simp)
  | x :: l, y :: m, h1, h2, h => by
    obtain ⟨a1, a2⟩ := List.pairwise_cons.1 h1
    obtain ⟨b1, b2⟩ := List.pairwise_cons.1 h2
    have hxy : x = y := by
      rcases List.mem_cons.1 ((h x).1 (List.mem_cons_self ..)) with e | e
      · exact e
      · rcases List.mem_cons.1 ((h y).2 (List.mem_cons_self ..)) with e' | e'
        · exact e'.symm
        · have := b1 x e
          have := a1 y e'
          omega
    subst hxy
    rw [eq_of_rise f l m a2 b2 fun z => ?_]
    constructor
    · intro hz
      rcases List.mem_cons.1 ((h z).1 (List.mem_cons_of_mem _ hz)) with e | e
      · subst e; have := a1 z hz; omega
      · exact e
    · intro hz
      rcases List.mem_cons.1 ((h z).2 (List.mem_cons_of_mem _ hz)) with e | e
      · subst e; have := b1 z hz; omega
      · exact e
/-- .. where one of them rises or stays. -/
theorem rise_of_perm {α : Type} (f : α → Nat) {l m : List α} (hm : m.Pairwise (fun a b => f a < f b)) (hp : l.Perm m) (hl : l.Pairwise (fun a b => f a ≤ f b)) : l = m := by
  have hn : (l.map f).Nodup := (hp.map f).nodup_iff.2 (List.pairwise_map.2 (hm.imp fun h => Nat.ne_of_lt h))
  have hs : l.Pairwise (fun a b => f a < f b) := by
    have h1 := List.pairwise_map.1 hn
    exact (hl.and h1).imp fun ⟨a, b⟩ => Nat.lt_of_le_of_ne a b
  exact eq_of_rise f l m hs hm fun x => hp.mem_iff
/-- The members by their keys, key by key. -/
theorem perm_by_key {α κ : Type} [DecidableEq κ] (k : α → κ) : ∀ (K : List κ) (N : List α), K.Nodup → (∀ x ∈ N, k x ∈ K) → (K.flatMap fun c => N.filter fun x => decide (k x = c)).Perm N
  | [], [], _, _ => List.Perm.refl _
  | [], x :: N, _, h => absurd (h x (List.mem_cons_self ..)) (by simp)
  | c :: K, N, hK, h => by
    obtain ⟨h1, h2⟩ := List.nodup_cons.1 hK
    have ih := perm_by_key k K (N.filter fun x => !decide (k x = c)) h2 fun x hx => by
      obtain ⟨a, b⟩ := List.mem_filter.1 hx
      rcases List.mem_cons.1 (h x a) with e | e
      · simp [e] at b
      · exact e
    have he : (K.flatMap fun c' => (N.filter fun x => !decide (k x = c)).filter fun x => decide (k x = c')) = K.flatMap fun c' => N.filter fun x => decide (k x = c') := by
      rw [List.flatMap_def, List.flatMap_def]
      congr 1
      apply List.map_congr_left
      intro c' hc'
      rw [List.filter_filter]
      apply List.filter_congr
      intro x _
      by_cases e : k x = c'
      · have : ¬ c' = c := fun e' => h1 (e' ▸ hc')
        simp [e, this]
      · simp [e]
    rw [he] at ih
    rw [List.flatMap_cons]
    refine (List.Perm.append_left _ ih).trans ?_
    exact List.filter_append_perm _ _
end Go.Proofs.Ytnhaidofblfopaa
