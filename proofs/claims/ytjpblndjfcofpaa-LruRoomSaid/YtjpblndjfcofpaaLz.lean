/-
  Mathematics of keys by their last use (package lru). Conditions: none.
-/
import Derived.Test.YtjpblndjfcofpaaLy
namespace Go.Proofs.Ytjpblndjfcofpaa
open Go.RowKit
set_option linter.unusedVariables false

structure Recent (n j : Nat) (U : List Int) (C : Lru) : Prop where
  ok : C.Ok
  room : C.room = n
  uses : C.uses ≤ j
  bytes : ∀ y ∈ C.items, y.bs = [y.key, 7]
  keys : ∀ y ∈ C.items, 0 ≤ y.key ∧ y.key < 20
  nodup : U.Nodup
  mem : ∀ x, x ∈ U ↔ Present C.items x
  order : U.Pairwise fun a b => ∀ y ∈ C.items, ∀ z ∈ C.items, y.key = a → z.key = b → y.used < z.used
theorem Recent.start {n : Nat} (h1 : 1 ≤ n) (h2 : n ≤ 1024) : Recent n 0 [] (Lru.new n) :=
  ⟨Lru.new_ok h1 h2, rfl, Nat.le_refl _, (by simp [Lru.new]), (by simp [Lru.new]), List.nodup_nil, fun x => ⟨fun h => (by cases h), fun ⟨y, hy, _⟩ => (by cases hy)⟩, List.Pairwise.nil⟩
theorem keys_nodup {its : List It} (h : its.Pairwise fun a b => a.key < b.key) : (its.map It.key).Nodup := by
  rw [List.Nodup, List.pairwise_map]
  exact h.imp fun h e => by omega
theorem len_same {U : List Int} {its : List It} (h : its.Pairwise fun a b => a.key < b.key) (hn : U.Nodup) (hm : ∀ x, x ∈ U ↔ Present its x) : U.length = its.length := by
  have h1 := nodup_le U (its.map It.key) hn fun x hx => by
    obtain ⟨y, hy, e⟩ := (hm x).1 hx
    exact List.mem_map.2 ⟨y, hy, e⟩
  have h2 := nodup_le (its.map It.key) U (keys_nodup h) fun x hx => by
    obtain ⟨y, hy, e⟩ := List.mem_map.1 hx
    exact (hm x).2 ⟨y, hy, e⟩
  rw [List.length_map] at h1 h2
  omega
def keepL (U : List Int) (k : Int) : List Int := U.filter (fun x => !decide (x = k)) ++ [k]
theorem keepL_mem (U : List Int) (k x : Int) : x ∈ keepL U k ↔ x = k ∨ x ∈ U := by
  unfold keepL
  rw [List.mem_append, List.mem_filter]
  by_cases h : x = k <;> simp [h]
theorem keepL_nodup {U : List Int} (h : U.Nodup) (k : Int) : (keepL U k).Nodup := by
  unfold keepL
  rw [List.nodup_append]
  refine ⟨h.filter _, by simp, fun a ha b hb e => ?_⟩
  simp only [List.mem_singleton] at hb
  have := (List.mem_filter.1 ha).2
  rw [e, hb] at this
  simp at this
theorem keepL_order {U : List Int} {its its' : List It} {u : Nat} {k : Int} (h : U.Pairwise fun a b => ∀ y ∈ its, ∀ z ∈ its, y.key = a → z.key = b → y.used < z.used)
    (hu : ∀ y ∈ its', (y.key = k → y.used = u + 1) ∧ (y.key ≠ k → y.used ≤ u ∧ ∃ z ∈ its, z.key = y.key ∧ z.used = y.used)) : (keepL U k).Pairwise fun a b => ∀ y ∈ its', ∀ z ∈ its', y.key = a → z.key = b → y.used < z.used := by
  unfold keepL
  rw [List.pairwise_append]
  refine ⟨?_, List.pairwise_singleton _ _, fun a ha b hb y hy z hz ey ez => ?_⟩
  · refine (h.sublist List.filter_sublist).imp_of_mem fun {a b} ha hb hab y hy z hz ey ez => ?_
    have ha2 : a ≠ k := by simpa using (List.mem_filter.1 ha).2
    have hb2 : b ≠ k := by simpa using (List.mem_filter.1 hb).2
    obtain ⟨y0, hy0, e1, e2⟩ := ((hu y hy).2 (by omega)).2
    obtain ⟨z0, hz0, e3, e4⟩ := ((hu z hz).2 (by omega)).2
    have := hab y0 hy0 z0 hz0 (by omega) (by omega)
    omega
  · simp only [List.mem_singleton] at hb
    have ha2 : a ≠ k := by simpa using (List.mem_filter.1 ha).2
    have h1 := ((hu y hy).2 (by omega)).1
    have h2 := (hu z hz).1 (by omega)
    omega
theorem setIt_present {its : List It} {k : Int} {g : It → It} (hg : ∀ y, (g y).key = y.key) (x : Int) : Present (setIt its k g) x ↔ Present its x := by
  constructor
  · rintro ⟨it, hi, e⟩
    obtain ⟨y, hy, rfl⟩ := setIt_mem hi
    refine ⟨y, hy, ?_⟩
    split at e
    · rw [hg] at e; exact e
    · exact e
  · rintro ⟨y, hy, e⟩
    refine ⟨_, List.mem_map.2 ⟨y, hy, rfl⟩, ?_⟩
    split
    · rw [hg]; exact e
    · exact e
theorem Recent.get {n j : Nat} {U : List Int} {C : Lru} (h : Recent n j U C) {k : Int} (hk : k ∈ U) (hj : j < 1000) : ∃ C', C.get k = ([k, 7], true, C') ∧ Recent n (j + 1) (lastL U k n) C' := by
  obtain ⟨it, hi, hik⟩ := (h.mem k).1 hk
  have hu := h.uses
  have hgo := Lru.get_ok h.ok k (by omega)
  have hg : C.get k = ([k, 7], true, ⟨C.room, C.uses + 1, setIt C.items k fun x => { x with used := C.uses + 1 }⟩) := by
    unfold Lru.get
    have := find_it h.ok.its.rise hi
    rw [hik] at this
    rw [this]
    dsimp only
    rw [h.bytes it hi, hik]
  rw [hg] at hgo
  have hl : U.length = C.items.length := len_same h.ok.its.rise h.nodup h.mem
  have hkl : lastL U k n = keepL U k := by
    have hkk : (keepL U k).length ≤ U.length := nodup_le _ _ (keepL_nodup h.nodup k) fun x hx => by
      rcases (keepL_mem U k x).1 hx with rfl | hx
      · exact hk
      · exact hx
    have := h.ok.many
    have := h.room
    show (if n < (keepL U k).length then _ else keepL U k) = _
    rw [if_neg (by omega)]
  rw [hkl]
  have key : ∀ y ∈ setIt C.items k (fun x => { x with used := C.uses + 1 }), ∃ z ∈ C.items, y.key = z.key ∧ y.bs = z.bs ∧ (y.key = k → y.used = C.uses + 1) ∧ (y.key ≠ k → y.used = z.used) := fun y hy => by
    obtain ⟨z, hz, rfl⟩ := setIt_mem hy
    by_cases hzk : z.key = k
    · rw [if_pos hzk]
      exact ⟨z, hz, rfl, rfl, fun _ => rfl, fun hne => absurd hzk hne⟩
    · rw [if_neg hzk]
      exact ⟨z, hz, rfl, rfl, fun e => absurd e hzk, fun _ => rfl⟩
  refine ⟨_, hg, hgo, h.room, by show C.uses + 1 ≤ j + 1; omega, fun y hy => ?_, fun y hy => ?_, keepL_nodup h.nodup k, fun x => ?_, keepL_order (u := C.uses) h.order fun y hy => ?_⟩
  · obtain ⟨z, hz, e1, e2, _⟩ := key y hy
    rw [e2, h.bytes z hz, e1]
  · obtain ⟨z, hz, e1, _⟩ := key y hy
    rw [e1]
    exact h.keys z hz
  · rw [keepL_mem]
    show _ ↔ Present (setIt C.items k fun x => { x with used := C.uses + 1 }) x
    rw [setIt_present (g := fun x => { x with used := C.uses + 1 }) (fun _ => rfl), ← h.mem]
    constructor
    · rintro (rfl | hx)
      · exact hk
      · exact hx
    · exact Or.inr
  · obtain ⟨z, hz, e1, _, e3, e4⟩ := key y hy
    exact ⟨e3, fun hne => ⟨by rw [e4 hne]; exact h.ok.its.used z hz, z, hz, e1.symm, (e4 hne).symm⟩⟩
theorem Recent.missing {n j : Nat} {U : List Int} {C : Lru} (h : Recent n j U C) {k : Int} (hk : k ∉ U) : C.get k = ([], false, C) := by
  unfold Lru.get
  have : C.items.find? (fun it => decide (it.key = k)) = none := List.find?_eq_none.2 fun y hy => by
    have : y.key ≠ k := fun e => hk ((h.mem k).2 ⟨y, hy, e⟩)
    simpa using this
  rw [this]
theorem evict_sub {x : It} {r : List It} : (∀ y ∈ (evictL (x :: r)).2, y.key ≠ (oldest r x).key ∧ ∃ z ∈ x :: r, z.key = y.key ∧ z.bs = y.bs ∧ z.used = y.used) ∧ ∀ z ∈ x :: r, z.key ≠ (oldest r x).key → Present (evictL (x :: r)).2 z.key := by
  unfold evictL
  dsimp only
  split
  · refine ⟨fun y hy => ?_, fun z hz hne => ?_⟩
    · obtain ⟨h1, h2⟩ := delIt_mem.1 hy
      unfold writeL at h1
      obtain ⟨y1, hy1, rfl⟩ := endR_mem h1
      obtain ⟨y2, hy2, rfl⟩ := cleanL_mem hy1
      exact ⟨h2, y2, hy2, rfl, rfl, rfl⟩
    · have hk : z.key ∈ (writeL (x :: r) [(oldest r x).key]).map It.key := by
        unfold writeL
        rw [endR_keys, cleanL_keys]
        exact List.mem_map.2 ⟨z, hz, rfl⟩
      obtain ⟨y, hy, e⟩ := List.mem_map.1 hk
      exact ⟨y, delIt_mem.2 ⟨hy, by rw [e]; exact hne⟩, e⟩
  · refine ⟨fun y hy => ?_, fun z hz hne => ⟨z, delIt_mem.2 ⟨hz, hne⟩, rfl⟩⟩
    obtain ⟨h1, h2⟩ := delIt_mem.1 hy
    exact ⟨h2, y, h1, rfl, rfl, rfl⟩
theorem put_sub {its : List It} {u : Nat} {k : Int} {b : List Int} {d : Bool} : ∀ y ∈ putIts its (u + 1) k b d, (y.key = k → y.bs = b) ∧ (y.key ≠ k → ∃ z ∈ its, z.key = y.key ∧ z.bs = y.bs ∧ z.used = y.used) := by
  intro y hy
  unfold putIts at hy
  split at hy
  · obtain ⟨z, hz, e⟩ := setIt_mem hy
    by_cases hzk : z.key = k
    · rw [if_pos hzk] at e
      rw [e]
      exact ⟨fun _ => rfl, fun hne => absurd hzk hne⟩
    · rw [if_neg hzk] at e
      rw [e]
      exact ⟨fun hk => absurd hk hzk, fun _ => ⟨z, hz, rfl, rfl, rfl⟩⟩
  · rcases ins_mem.1 hy with rfl | ⟨hy, hne⟩
    · exact ⟨fun _ => rfl, fun hne => absurd rfl hne⟩
    · exact ⟨fun hk => absurd hk hne, fun _ => ⟨y, hy, rfl, rfl, rfl⟩⟩
theorem Recent.put {n j : Nat} {U : List Int} {C : Lru} (h : Recent n j U C) {k : Int} (hk : 0 ≤ k ∧ k < 20) (d : Bool) (hj : j < 1000) : ∃ l C', C.put k [k, 7] d = (l, C') ∧ Recent n (j + 1) (lastL U k n) C' := by
  have hu := h.uses
  have hpo := Lru.put_ok h.ok (k := k) (b := [k, 7]) (by omega) (by simp) d (by omega)
  have hio := Go.Proofs.Ytjpblndjfcofpaa.put_ok h.ok.its (k := k) (b := [k, 7]) (by omega) (by simp) d (by omega)
  have hus := put_used h.ok.its (k := k) (b := [k, 7]) (d := d)
  have hsb := put_sub (its := C.items) (u := C.uses) (k := k) (b := [k, 7]) (d := d)
  have hpr := put_present C.items (C.uses + 1) k [k, 7] d
  have hle := (put_len (its := C.items) (u := C.uses + 1) (k := k) (b := [k, 7]) (d := d)).1
  have hmany := h.ok.many
  have hroom := h.room
  unfold Lru.put at hpo ⊢
  dsimp only at hpo ⊢
  obtain ⟨I, hI⟩ : ∃ I, putIts C.items (C.uses + 1) k [k, 7] d = I := ⟨_, rfl⟩
  rw [hI] at hpo hio hus hsb hpr hle ⊢
  have hb1 : ∀ y ∈ I, y.bs = [y.key, 7] := fun y hy => by
    by_cases hyk : y.key = k
    · rw [(hsb y hy).1 hyk, hyk]
    · obtain ⟨z, hz, e1, e2, _⟩ := (hsb y hy).2 hyk
      rw [← e2, h.bytes z hz, e1]
  have hk1 : ∀ y ∈ I, 0 ≤ y.key ∧ y.key < 20 := fun y hy => by
    by_cases hyk : y.key = k
    · omega
    · obtain ⟨z, hz, e1, _⟩ := (hsb y hy).2 hyk
      rw [← e1]
      exact h.keys z hz
  have hmO : ∀ x, x ∈ keepL U k ↔ Present I x := fun x => by rw [keepL_mem, hpr, h.mem]
  have hnO := keepL_nodup h.nodup k
  have hord : (keepL U k).Pairwise fun a b => ∀ y ∈ I, ∀ z ∈ I, y.key = a → z.key = b → y.used < z.used := keepL_order h.order fun y hy => ⟨(hus y hy).1, fun hne => ⟨(hus y hy).2 hne, by
    obtain ⟨z, hz, e1, _, e3⟩ := (hsb y hy).2 hne
    exact ⟨z, hz, e1, e3⟩⟩⟩
  have hlen := len_same hio.rise hnO hmO
  have hL : lastL U k n = if n < (keepL U k).length then (keepL U k).drop ((keepL U k).length - n) else keepL U k := rfl
  rw [hL]
  by_cases hgt : C.room < I.length
  · rw [if_pos hgt] at hpo ⊢
    rw [if_pos (by omega), show (keepL U k).length - n = 1 by omega]
    obtain ⟨O, hO⟩ : ∃ O, keepL U k = O := ⟨_, rfl⟩
    rw [hO] at hmO hnO hord hlen ⊢
    match I, O, hio, hus, hb1, hk1, hmO, hnO, hord, hlen, hgt, hpo with
    | [], _, _, _, _, _, _, _, _, _, hgt, _ => simp at hgt
    | x :: r, [], _, _, _, _, _, _, _, hlen, _, _ => simp at hlen
    | x :: r, a :: t, hio, hus, hb1, hk1, hmO, hnO, hord, hlen, hgt, hpo =>
      have hom := oldest_mem r x
      have hol := oldest_least r x
      obtain ⟨hs1, hs2⟩ := evict_sub (x := x) (r := r)
      obtain ⟨ho1, ho2⟩ := List.pairwise_cons.1 hord
      have hoa : (oldest r x).key = a := by
        rcases List.mem_cons.1 ((hmO (oldest r x).key).2 ⟨_, hom, rfl⟩) with e | e
        · exact e
        · exfalso
          obtain ⟨z, hz, ez⟩ := (hmO a).1 (by simp)
          have h1 := ho1 _ e z hz _ hom ez rfl
          have h2 := hol z hz
          omega
      rw [hoa] at hs1 hs2
      obtain ⟨hn1, hn2⟩ := List.nodup_cons.1 hnO
      refine ⟨_, _, rfl, hpo, hroom, by show C.uses + 1 ≤ j + 1; omega, fun y hy => ?_, fun y hy => ?_, hn2, fun y => ?_, ho2.imp fun {c d} hcd y hy z hz ey ez => ?_⟩
      · obtain ⟨_, z, hz, e1, e2, _⟩ := hs1 y hy
        rw [← e2, hb1 z hz, e1]
      · obtain ⟨_, z, hz, e1, _⟩ := hs1 y hy
        rw [← e1]
        exact hk1 z hz
      · constructor
        · intro hy
          obtain ⟨z, hz, ez⟩ := (hmO y).1 (List.mem_cons_of_mem _ hy)
          have := hs2 z hz (fun e => hn1 (by rw [← e, ez]; exact hy))
          rw [ez] at this
          exact this
        · rintro ⟨z, hz, ez⟩
          obtain ⟨hne, z0, hz0, e1, _⟩ := hs1 z hz
          rcases List.mem_cons.1 ((hmO y).2 ⟨z0, hz0, by omega⟩) with e | e
          · omega
          · exact e
      · obtain ⟨_, y0, hy0, e1, _, e3⟩ := hs1 y hy
        obtain ⟨_, z0, hz0, f1, _, f3⟩ := hs1 z hz
        have := hcd y0 hy0 z0 hz0 (by omega) (by omega)
        omega
  · rw [if_neg hgt] at hpo ⊢
    rw [if_neg (by omega)]
    exact ⟨_, _, rfl, hpo, hroom, by show C.uses + 1 ≤ j + 1; omega, hb1, hk1, hnO, hmO, hord⟩
end Go.Proofs.Ytjpblndjfcofpaa
