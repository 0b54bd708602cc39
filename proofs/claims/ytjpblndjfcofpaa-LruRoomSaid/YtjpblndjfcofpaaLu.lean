/-
  Mathematics of a chain of keys in a write-back cache (package lru). Conditions: none.
-/
import Derived.Test.YtjpblndjfcofpaaLq
import Derived.Test.YtjpblndjfcofpaaLt
namespace Go.Proofs.Ytjpblndjfcofpaa
open Go.RowKit
set_option linter.unusedVariables false

/-- Keys were put, none after another. -/
structure Calm (room j : Nat) (C : Lru) : Prop where
  ok : C.Ok
  room : C.room = room
  uses : C.uses = j
  len : C.items.length ≤ j
  dirty : ∀ x, isD C.items x = true ↔ 0 ≤ x ∧ x < j
  edge : ∀ a b, ¬ Edge C.items a b
theorem Calm.start {room : Nat} (h1 : 1 ≤ room) (h2 : room ≤ 1024) : Calm room 0 (Lru.new room) :=
  ⟨Lru.new_ok h1 h2, rfl, rfl, Nat.le_refl _, fun x => (by constructor <;> intro h <;> first | (exfalso; omega) | (cases h)), fun a b ⟨y, hy, _⟩ => by cases hy⟩
theorem Calm.put {room j : Nat} {C : Lru} (h : Calm room j C) (hj : j < room) (b : List Int) (hb : b.length ≤ 1000) : ∃ C', C.put j b true = ([], C') ∧ Calm room (j + 1) C' := by
  have hok := h.ok
  have h2 := hok.room2
  have hr := h.room
  have hu := h.uses
  have hl := h.len
  have e := Lru.put_calm (C := C) (k := (j : Int)) (b := b) (d := true) (by omega)
  have hok2 := Lru.put_ok hok (k := (j : Int)) (by omega) hb true (by omega)
  rw [e] at hok2
  refine ⟨_, e, hok2, hr, by show C.uses + 1 = j + 1; omega, ?_, fun x => ?_, fun a b => ?_⟩
  · have := (put_len (its := C.items) (u := C.uses + 1) (k := (j : Int)) (b := b) (d := true)).1
    show (putIts C.items (C.uses + 1) (j : Int) b true).length ≤ j + 1
    omega
  · show isD (putIts _ _ _ _ _) x = true ↔ _
    rw [put_isD]
    split
    · simp; omega
    · rw [h.dirty]; omega
  · show ¬ Edge (putIts _ _ _ _ _) a b
    rw [put_edge]
    exact h.edge a b
/-- A chain, m records long, of k dirty keys. -/
structure Chain (k m : Nat) (C : Lru) : Prop where
  ok : C.Ok
  dirty : ∀ x, isD C.items x = true ↔ 0 ≤ x ∧ x < k
  edge : ∀ a b, Edge C.items a b ↔ 0 ≤ a ∧ a < m ∧ b = a + 1
theorem Calm.last {room k : Nat} {C : Lru} (h : Calm room k C) (hk : k < room) : ∃ C', C.put k [] false = ([], C') ∧ Chain k 0 C' := by
  have hok := h.ok
  have h2 := hok.room2
  have hr := h.room
  have hu := h.uses
  have hl := h.len
  have e := Lru.put_calm (C := C) (k := (k : Int)) (b := []) (d := false) (by omega)
  have hok2 := Lru.put_ok hok (k := (k : Int)) (b := []) (by omega) (by simp) false (by omega)
  rw [e] at hok2
  refine ⟨_, e, hok2, fun x => ?_, fun a b => ?_⟩
  · show isD (putIts _ _ _ _ _) x = true ↔ _
    rw [put_isD]
    split
    · rename_i hx
      rw [Bool.or_false, h.dirty]
      omega
    · rw [h.dirty]
  · show Edge (putIts _ _ _ _ _) a b ↔ _
    rw [put_edge]
    constructor
    · exact fun hh => absurd hh (h.edge a b)
    · intro hh; omega
theorem Chain.up {k m : Nat} {C : Lru} (h : Chain k m C) {a b : Int} (hr : Reach C.items a b) : a ≤ b := by
  induction hr with
  | refl _ => exact Int.le_refl _
  | step e _ ih =>
    have := (h.edge _ _).1 e
    omega
theorem Chain.next {k m : Nat} {C : Lru} (h : Chain k m C) (hm : m + 1 < k) : ∃ C', C.after m (m + 1 : Nat) = (0, C') ∧ Chain k (m + 1) C' := by
  have d1 := (h.dirty (m : Int)).2 (by omega)
  have d2 := (h.dirty ((m + 1 : Nat) : Int)).2 (by omega)
  have hn : (m : Int) ∉ linesL C.items [((m + 1 : Nat) : Int)] := fun hh => by
    have := h.up ((line_reach h.ok.its (isD_present d2) _).1 hh)
    omega
  have e := Lru.after_new d1 d2 hn
  have hok := Lru.after_ok h.ok (m : Int) ((m + 1 : Nat) : Int)
  rw [e] at hok
  refine ⟨_, e, hok, fun x => ?_, fun a b => ?_⟩
  · show isD (setIt _ _ _) x = true ↔ _
    rw [after_isD]
    exact h.dirty x
  · show Edge (setIt _ _ _) a b ↔ _
    rw [after_edge (isD_present d1), h.edge]
    omega
theorem Chain.reach {k : Nat} {C : Lru} (h : Chain k (k - 1) C) : ∀ (n j : Nat), j + n + 1 = k → Reach C.items j ((k - 1 : Nat) : Int)
  | 0, j, hj => by
    rw [show ((k - 1 : Nat) : Int) = (j : Int) by omega]
    exact .refl _
  | n + 1, j, hj => .step ((h.edge (j : Int) ((j + 1 : Nat) : Int)).2 (by omega)) (Chain.reach h n (j + 1) (by omega))
theorem Chain.circle {k : Nat} {C : Lru} (h : Chain k (k - 1) C) {j : Nat} (hj : j < k) : C.after j j = (11, C) ∧ C.after ((k - 1 : Nat) : Int) j = (11, C) := by
  have d1 := (h.dirty (j : Int)).2 (by omega)
  have d2 := (h.dirty ((k - 1 : Nat) : Int)).2 (by omega)
  exact ⟨Lru.after_circle d1 d1 ((line_reach h.ok.its (isD_present d1) _).2 (.refl _)), Lru.after_circle d2 d1 ((line_reach h.ok.its (isD_present d1) _).2 (h.reach (k - 1 - j) j (by omega)))⟩
theorem Chain.none {k m : Nat} {C : Lru} (h : Chain k m C) {a b : Int} (hh : k ≤ a ∨ k ≤ b) : C.after a b = (15, C) := by
  refine Lru.after_none ?_
  rcases hh with hh | hh
  · left
    cases hd : isD C.items a with
    | false => rfl
    | true => have := (h.dirty a).1 hd; omega
  · right
    cases hd : isD C.items b with
    | false => rfl
    | true => have := (h.dirty b).1 hd; omega
/-- From above down. -/
def descF (i : Nat) : Nat → List Int
  | 0 => [(i : Int)]
  | m + 1 => descF (i + 1) m ++ [(i : Int)]
theorem descF_len : ∀ (m i : Nat), (descF i m).length = m + 1
  | 0, _ => rfl
  | m + 1, i => by unfold descF; rw [List.length_append, descF_len m]; rfl
theorem descF_at : ∀ (m i t : Nat), t ≤ m → (descF i m)[t]? = some ((i + m - t : Nat) : Int)
  | 0, i, t, h => by
    obtain rfl : t = 0 := by omega
    rfl
  | m + 1, i, t, h => by
    unfold descF
    by_cases ht : t ≤ m
    · rw [List.getElem?_append_left (by rw [descF_len]; omega), descF_at m (i + 1) t ht]
      congr 2
      omega
    · obtain rfl : t = m + 1 := by omega
      rw [List.getElem?_append_right (by rw [descF_len]; omega), descF_len, Nat.sub_self]
      simp
theorem addL_of_met {its : List It} {n : Nat} {st : List Int × List Int} {k : Int} (h : k ∈ st.1) : addL its n st k = st := by
  cases n with
  | zero => rfl
  | succ n => unfold addL; rw [if_pos h]
theorem fold_of_met {its : List It} {n : Nat} {st : List Int × List Int} : ∀ (ks : List Int), (∀ k ∈ ks, k ∈ st.1) → ks.foldl (addL its n) st = st
  | [], _ => rfl
  | k :: r, h => by
    rw [List.foldl_cons, addL_of_met (h k (by simp))]
    exact fold_of_met r fun k' hk' => h k' (by simp [hk'])
theorem Chain.add {k : Nat} {C : Lru} (h : Chain k (k - 1) C) : ∀ (m n i : Nat) (M A : List Int), i + m + 1 = k → m < n → (∀ x ∈ M, x < (i : Int)) →
    ∃ M', addL C.items n (M, A) i = (M', A ++ descF i m) ∧ ∀ x : Int, (x ∈ M ∨ (i ≤ x ∧ x < k)) → x ∈ M'
  | 0, n + 1, i, M, A, hi, _, hM => by
    have hp := isD_present ((h.dirty (i : Int)).2 (by omega))
    have hf : firstsOf C.items i = [] := firsts_nil h.ok.its hp fun b hb => by have := (h.edge _ _).1 hb; omega
    refine ⟨(i : Int) :: M, ?_, fun x hx => ?_⟩
    · unfold addL
      rw [if_neg fun hh => by have := hM _ hh; omega, hf]
      rfl
    · rcases hx with hx | hx
      · simp [hx]
      · have : x = i := by omega
        simp [this]
  | m + 1, n + 1, i, M, A, hi, hn, hM => by
    have hp := isD_present ((h.dirty (i : Int)).2 (by omega))
    have hf : firstsOf C.items i = [((i + 1 : Nat) : Int)] := firsts_one h.ok.its hp fun b => by rw [h.edge]; omega
    obtain ⟨M', h1, h2⟩ := Chain.add h m n (i + 1) ((i : Int) :: M) A (by omega) (by omega) fun x hx => by
      rcases List.mem_cons.1 hx with rfl | hx
      · omega
      · have := hM x hx; omega
    refine ⟨M', ?_, fun x hx => ?_⟩
    · unfold addL
      rw [if_neg fun hh => by have := hM _ hh; omega, hf]
      show ((addL C.items n ((i : Int) :: M, A) ((i + 1 : Nat) : Int)).1, (addL C.items n ((i : Int) :: M, A) ((i + 1 : Nat) : Int)).2 ++ [(i : Int)]) = _
      rw [h1]
      show (M', A ++ descF (i + 1) m ++ [(i : Int)]) = (M', A ++ (descF (i + 1) m ++ [(i : Int)]))
      rw [List.append_assoc]
    · rcases hx with hx | hx
      · exact h2 x (Or.inl (by simp [hx]))
      · by_cases hxi : x = i
        · exact h2 x (Or.inl (by simp [hxi]))
        · exact h2 x (Or.inr (by omega))
theorem Chain.flush {k : Nat} {C : Lru} (h : Chain k (k - 1) C) (hk : 0 < k) : C.flush.1 = descF 0 (k - 1) := by
  show linesL C.items (dirtyL C.items) = _
  have hrise := dirtyL_rise h.ok.its.rise
  have hmem : ∀ x, x ∈ dirtyL C.items ↔ 0 ≤ x ∧ x < k := fun x => by rw [dirtyL_mem]; exact h.dirty x
  have hlen : k ≤ C.items.length := by
    have h1 := nodup_le ((List.range k).map fun i : Nat => (i : Int)) (dirtyL C.items) (by
      rw [List.Nodup, List.pairwise_map]
      exact List.nodup_range.imp fun {a b} h e => h (Int.ofNat.inj e)) (fun x hx => by
      obtain ⟨i, hi, rfl⟩ := List.mem_map.1 hx
      rw [List.mem_range] at hi
      exact (hmem _).2 (by omega))
    have h2 : (dirtyL C.items).length ≤ C.items.length := by
      unfold dirtyL
      rw [List.length_map]
      exact List.length_filter_le _ _
    rw [List.length_map, List.length_range] at h1
    omega
  cases hd : dirtyL C.items with
  | nil =>
    have := (hmem 0).2 (by omega)
    rw [hd] at this
    cases this
  | cons d0 r =>
    rw [hd] at hrise hmem
    obtain ⟨hr1, _⟩ := List.pairwise_cons.1 hrise
    have h0 : d0 = ((0 : Nat) : Int) := by
      have h1 := (hmem d0).1 (by simp)
      rcases List.mem_cons.1 ((hmem 0).2 (by omega)) with h2 | h2
      · omega
      · have := hr1 0 h2
        omega
    obtain ⟨M', h1, h2⟩ := h.add (k - 1) C.items.length 0 [] [] (by omega) (by omega) (fun x hx => by cases hx)
    show ((d0 :: r).foldl (addL C.items C.items.length) ([], [])).2 = _
    rw [List.foldl_cons, h0, h1, fold_of_met r fun x hx => h2 x (Or.inr (by have := (hmem x).1 (by simp [hx]); omega))]
    rfl
end Go.Proofs.Ytjpblndjfcofpaa
