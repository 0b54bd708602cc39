/-
  Mathematics of keys that are written one after another (package lru); rows of ints made, rows of pairs. Conditions: none.
-/
import Derived.Test.YtjpblndjfcofpaaLs
import Derived.Test.YtjpblndjfcofpaaLu
namespace Go.Proofs.Ytjpblndjfcofpaa
open Go.RowKit
set_option linter.unusedVariables false

structure Ordering (k : Nat) (P : List (Int × Int)) (C : Lru) : Prop where
  ok : C.Ok
  dirty : ∀ x, isD C.items x = true ↔ 0 ≤ x ∧ x < k
  pairs : ∀ q ∈ P, Edge C.items q.1 q.2 ∧ (0 ≤ q.1 ∧ q.1 < k) ∧ 0 ≤ q.2 ∧ q.2 < k
theorem Calm.ordering {room k : Nat} {C : Lru} (h : Calm room k C) : Ordering k [] C := ⟨h.ok, h.dirty, fun q hq => by cases hq⟩
theorem Ordering.step {k : Nat} {P : List (Int × Int)} {C : Lru} (h : Ordering k P C) {a b : Int} (ha : 0 ≤ a ∧ a < k) (hb : 0 ≤ b ∧ b < k) : (∃ C', C.after a b = (0, C') ∧ Ordering k (P ++ [(a, b)]) C') ∨ (C.after a b = (11, C)) := by
  have d1 := (h.dirty a).2 ha
  have d2 := (h.dirty b).2 hb
  by_cases hin : a ∈ linesL C.items [b]
  · exact Or.inr (Lru.after_circle d1 d2 hin)
  · have e := Lru.after_new d1 d2 hin
    have hok := Lru.after_ok h.ok a b
    rw [e] at hok
    refine Or.inl ⟨_, e, hok, fun x => ?_, fun q hq => ?_⟩
    · show isD (setIt _ _ _) x = true ↔ _
      rw [after_isD]
      exact h.dirty x
    · rcases List.mem_append.1 hq with hq | hq
      · obtain ⟨q1, q2⟩ := h.pairs q hq
        exact ⟨(after_edge (isD_present d1) _ _).2 (Or.inl q1), q2⟩
      · obtain rfl : q = (a, b) := by simpa using hq
        exact ⟨(after_edge (isD_present d1) _ _).2 (Or.inr ⟨rfl, rfl⟩), ha, hb⟩
/-- What is told to be written. -/
structure Told (k : Nat) (P : List (Int × Int)) (l : List Int) : Prop where
  nodup : l.Nodup
  mem : ∀ x, x ∈ l ↔ 0 ≤ x ∧ x < k
  len : l.length = k
  ahead : ∀ q ∈ P, ∀ i : Nat, l[i]? = some q.1 → ∃ j, j < i ∧ l[j]? = some q.2
theorem len_of {k : Nat} {l : List Int} (h1 : l.Nodup) (h2 : ∀ x, x ∈ l ↔ 0 ≤ x ∧ x < k) : l.length = k := by
  have hr : ((List.range k).map fun i : Nat => (i : Int)).Nodup := by
    rw [List.Nodup, List.pairwise_map]
    exact List.nodup_range.imp fun {a b} h e => h (Int.ofNat.inj e)
  have a1 := nodup_le l ((List.range k).map fun i : Nat => (i : Int)) h1 fun x hx => List.mem_map.2 ⟨x.toNat, List.mem_range.2 (by have := (h2 x).1 hx; omega), by have := (h2 x).1 hx; omega⟩
  have a2 := nodup_le ((List.range k).map fun i : Nat => (i : Int)) l hr fun x hx => by
    obtain ⟨i, hi, rfl⟩ := List.mem_map.1 hx
    rw [List.mem_range] at hi
    exact (h2 _).2 (by omega)
  rw [List.length_map, List.length_range] at a1 a2
  omega
theorem Ordering.told {k : Nat} {P : List (Int × Int)} {C : Lru} (h : Ordering k P C) : Told k P C.flush.1 := by
  have hl := flush_lines h.ok
  have hm : ∀ x, x ∈ C.flush.1 ↔ 0 ≤ x ∧ x < k := fun x => by rw [flush_mem h.ok]; exact h.dirty x
  refine ⟨hl.nodup, hm, len_of hl.nodup hm, fun q hq i hi => ?_⟩
  obtain ⟨hlt, he⟩ := List.getElem?_eq_some_iff.1 hi
  have hsp : C.flush.1 = C.flush.1.take i ++ q.1 :: C.flush.1.drop (i + 1) := by
    rw [← he, ← List.drop_eq_getElem_cons hlt, List.take_append_drop]
  have := hl.ahead _ _ _ hsp q.2 (h.pairs q hq).1
  obtain ⟨j, hj⟩ := List.getElem?_of_mem this
  rw [List.getElem?_take] at hj
  split at hj
  · exact ⟨j, by assumption, hj⟩
  · cases hj
theorem nodup_at {l : List Int} (h : l.Nodup) {i j : Nat} (hi : i < l.length) (hj : j < l.length) (e : l[i] = l[j]) : i = j := by
  rcases Nat.lt_trichotomy i j with h' | h' | h'
  · exact absurd e (List.pairwise_iff_getElem.1 h i j hi hj h')
  · exact h'
  · exact absurd e.symm (List.pairwise_iff_getElem.1 h j i hj hi h')
/-- Where each was told, one more. -/
def atL (l : List Int) (k : Nat) : Nat → List Int
  | 0 => List.replicate k 0
  | t + 1 => (atL l k t).set (l.getD t 0).toNat ((t + 1 : Nat) : Int)
theorem atL_len (l : List Int) (k : Nat) : ∀ t, (atL l k t).length = k
  | 0 => by unfold atL; simp
  | t + 1 => by unfold atL; rw [List.length_set, atL_len l k t]
theorem atL_at {k : Nat} {P : List (Int × Int)} {l : List Int} (h : Told k P l) : ∀ (t : Nat), t ≤ k → ∀ (i : Nat) (x : Int), l[i]? = some x → (atL l k t)[x.toNat]? = some (if i < t then ((i + 1 : Nat) : Int) else 0)
  | 0, _, i, x, hi => by
    have hx := (h.mem x).1 (List.mem_of_getElem? hi)
    unfold atL
    rw [if_neg (by omega), List.getElem?_replicate, if_pos (by omega)]
  | t + 1, ht, i, x, hi => by
    have hx := (h.mem x).1 (List.mem_of_getElem? hi)
    have htl : t < l.length := by rw [h.len]; omega
    have hg : l.getD t 0 = l[t] := by rw [List.getD_eq_getElem?_getD, List.getElem?_eq_getElem htl]; rfl
    have hmt := (h.mem l[t]).1 (List.getElem_mem htl)
    unfold atL
    rw [List.getElem?_set, atL_at h t (by omega) i x hi, hg, atL_len]
    obtain ⟨hil, hie⟩ := List.getElem?_eq_some_iff.1 hi
    by_cases hit : i = t
    · subst hit
      rw [if_pos (by rw [hie]), if_pos (by rw [hie]; omega), if_pos (by omega)]
    · have hne : l[t] ≠ x := fun e => hit (nodup_at h.nodup hil htl (hie.trans e.symm))
      rw [if_neg (by omega)]
      by_cases hlt : i < t
      · rw [if_pos hlt, if_pos (by omega)]
      · rw [if_neg hlt, if_neg (by omega)]
theorem Told.find {k : Nat} {P : List (Int × Int)} {l : List Int} (h : Told k P l) {x : Int} (hx : 0 ≤ x ∧ x < k) : ∃ i : Nat, l[i]? = some x := List.getElem?_of_mem ((h.mem x).2 hx)
/-! Rows. -/
theorem info_i : (Try.prog.info? 3).map (fun i => (i.zero, i.size, i.bytes)) = some (some (.int .i64 0), 1, 8) := by kernel_rfl
def zerosI (n : Nat) : Array Value := madeCells #[.int .i64 0] n
theorem make_i (n : Nat) (hn : n ≤ 100000) (w : World) : (Instr.makeSlice 38 (.int .i64 n) (.int .i64 n)).run Try.prog w = .ok (.slice (some ⟨w.heap.size, 0, none⟩) n n) (w.alloc (.cells (zerosI n) 3)) := by
  obtain ⟨i0, hi, hz0, hz1, hz2⟩ := info_parts info_i
  have := run_make (P := Try.prog) w 38 3 i0 (.int .i64 0) Try.underlying38 hi hz0 .i64 .i64 n n (by omega) (Int.le_refl _) (by rw [hz2]; omega) (by omega)
  rw [hz1, Int.toNat_natCast, Nat.mul_one] at this
  exact this
theorem zeros_list (n : Nat) : (zerosI n).toList = List.replicate n (.int .i64 0) := toList_madeCells_one _ _
def prV (q : Int × Int) : List Value := [.int .i64 q.1, .int .i64 q.2]
theorem pr_rowed : Rowed Try.prog 40 42 2 16 prV where
  under := Try.underlying40
  info := by
    have h : (Try.prog.info? 42).map (fun i => (i.zero.map (fun z => z.cells.size), i.size, i.bytes)) = some (some 2, 2, 16) := by kernel_rfl
    obtain ⟨i, hi, he⟩ := Option.map_eq_some_iff.1 h
    simp only [Prod.mk.injEq] at he
    obtain ⟨z, hz, hzs⟩ := Option.map_eq_some_iff.1 he.1
    exact ⟨i, z, hi, hz, he.2.1, he.2.2, hzs⟩
  pos := by decide
  small := by decide
  len := fun _ => rfl
  one := fun x u hu => by
    simp [prV] at hu
    rcases hu with rfl | rfl <;> rfl
theorem made_ints (w : World) (n : Nat) (hn : n ≤ 100000) : OwnG ivV 3 1 (w.alloc (.cells (zerosI n) 3)) 0 (.slice (some ⟨w.heap.size, 0, none⟩) n n) n (List.replicate n 0) := by
  have hl : (List.replicate n (0 : Int)).length = n := List.length_replicate
  refine ⟨⟨by rw [pivl_len, hl, Nat.mul_one], Or.inr ⟨w.heap.size, n, zerosI n, rfl, Nat.zero_le _, World.alloc_heap_new w _, Nat.le_refl _, by unfold maxLen; omega, by rw [← Array.length_toList, zeros_list, List.length_replicate, Nat.mul_one], ?_⟩⟩, hl, by omega⟩
  rw [flat_iv, zeros_list, Nat.mul_one, List.take_of_length_le (by rw [List.length_replicate]; exact Nat.le_refl _), List.map_replicate]
end Go.Proofs.Ytjpblndjfcofpaa
