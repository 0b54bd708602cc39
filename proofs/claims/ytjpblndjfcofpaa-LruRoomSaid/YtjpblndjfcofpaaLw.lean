/-
  Mathematics of keys put into a little room (package lru); a row of eight flags. Conditions: none.
-/
import Derived.Test.YtjpblndjfcofpaaLv
namespace Go.Proofs.Ytjpblndjfcofpaa
open Go.RowKit
set_option linter.unusedVariables false

def upd (d : Nat → Bool) (k : Nat) (v : Bool) : Nat → Bool := fun i => if i = k then v else d i
structure Wet (room j : Nat) (d : Nat → Bool) (C : Lru) : Prop where
  ok : C.Ok
  room : C.room = room
  uses : C.uses = j
  edge : ∀ a b, ¬ Edge C.items a b
  keys : ∀ x, Present C.items x → 0 ≤ x ∧ x < 8
  flags : ∀ i : Nat, i < 8 → d i = isD C.items i
theorem Wet.start {room : Nat} (h1 : 1 ≤ room) (h2 : room ≤ 1024) : Wet room 0 (fun _ => false) (Lru.new room) :=
  ⟨Lru.new_ok h1 h2, rfl, rfl, fun a b ⟨y, hy, _⟩ => (by cases hy), fun x ⟨y, hy, _⟩ => (by cases hy), fun _ _ => rfl⟩
theorem line_one {its : List It} {u : Nat} (h : ItsOk its u) (he : ∀ a b, ¬ Edge its a b) {k : Int} (hk : Present its k) : linesL its [k] = [k] := by
  have hl := lines_ok h [k] (by simpa using hk)
  refine singleton_of hl.nodup fun b => ⟨fun hb => ?_, fun hb => by rw [hb]; exact hl.keys k (by simp)⟩
  obtain ⟨k', hk', hr⟩ := hl.reach b hb
  have hkk : k' = k := by simpa using hk'
  rw [hkk] at hr
  cases hr with
  | refl _ => rfl
  | step e _ => exact absurd e (he _ _)
theorem oldest_least (r : List It) : ∀ x, ∀ y ∈ x :: r, (oldest r x).used ≤ y.used := by
  induction r with
  | nil => intro x y hy; simp at hy; rw [hy]; exact Nat.le_refl _
  | cons z r ih =>
    intro x y hy
    show (oldest r (if z.used < x.used then z else x)).used ≤ y.used
    have h1 := ih (if z.used < x.used then z else x)
    have h2 := h1 (if z.used < x.used then z else x) (by simp)
    rcases List.mem_cons.1 hy with rfl | hy
    · by_cases h : z.used < y.used
      · rw [if_pos h] at h2 ⊢; omega
      · rw [if_neg h] at h2 ⊢; exact h2
    · rcases List.mem_cons.1 hy with rfl | hy
      · by_cases h : y.used < x.used
        · rw [if_pos h] at h2 ⊢; exact h2
        · rw [if_neg h] at h2 ⊢; omega
      · exact h1 y (by simp [hy])
theorem put_used {its : List It} {u : Nat} (h : ItsOk its u) {k : Int} {b : List Int} {d : Bool} : ∀ y ∈ putIts its (u + 1) k b d, (y.key = k → y.used = u + 1) ∧ (y.key ≠ k → y.used ≤ u) := by
  intro y hy
  unfold putIts at hy
  split at hy
  · obtain ⟨z, hz, e⟩ := setIt_mem hy
    have hzu := h.used z hz
    by_cases hzk : z.key = k
    · rw [if_pos hzk] at e
      rw [e]
      exact ⟨fun _ => rfl, fun hne => absurd hzk hne⟩
    · rw [if_neg hzk] at e
      rw [e]
      exact ⟨fun hk => absurd hk hzk, fun _ => hzu⟩
  · rcases ins_mem.1 hy with rfl | ⟨hy, hne⟩
    · exact ⟨fun _ => rfl, fun hne => absurd rfl hne⟩
    · exact ⟨fun hk => absurd hk hne, fun _ => h.used y hy⟩
theorem Wet.put {room j : Nat} {d : Nat → Bool} {C : Lru} (h : Wet room j d C) {k : Nat} (hk : k < 8) (m : Bool) (hj : j < 1000000) :
    ∃ l C' d', C.put k [] m = (l, C') ∧ Wet room (j + 1) d' C' ∧ l.length ≤ 1 ∧ (l.length = 0 → d' = upd d k (d k || m)) ∧ (∀ x : Int, l[0]? = some x → ∃ o : Nat, x = o ∧ o < 8 ∧ o ≠ k ∧ upd d k (d k || m) o = true ∧ d' = upd (upd d k (d k || m)) o false) := by
  have hok := h.ok
  have hr := h.room
  have hu := h.uses
  have hpo := Lru.put_ok hok (k := (k : Int)) (b := []) (by omega) (by simp) m (by omega)
  have hio := Go.Proofs.Ytjpblndjfcofpaa.put_ok hok.its (k := (k : Int)) (b := []) (by omega) (by simp) m (by omega)
  have hus := put_used hok.its (k := (k : Int)) (b := []) (d := m)
  obtain ⟨I, hI⟩ : ∃ I, putIts C.items (C.uses + 1) k [] m = I := ⟨_, rfl⟩
  have he1 : ∀ a b, ¬ Edge I a b := fun a b => by rw [← hI, put_edge]; exact h.edge a b
  have hk1 : ∀ x, Present I x → 0 ≤ x ∧ x < 8 := fun x hx => by
    rw [← hI, put_present] at hx
    rcases hx with rfl | hx
    · omega
    · exact h.keys x hx
  have hf1 : ∀ i : Nat, i < 8 → upd d k (d k || m) i = isD I i := fun i hi => by
    rw [← hI, put_isD]
    unfold upd
    by_cases hik : i = k
    · rw [if_pos hik, if_pos (by omega), h.flags k hk]
    · rw [if_neg hik, if_neg (by omega), h.flags i hi]
  rw [hI] at hio hus
  unfold Lru.put at hpo ⊢
  dsimp only at hpo ⊢
  rw [hI] at hpo ⊢
  by_cases hgt : C.room < I.length
  · rw [if_pos hgt] at hpo ⊢
    have hr1 := hok.room1
    match I, hio, hus, he1, hk1, hf1, hgt, hpo with
    | [], _, _, _, _, _, hgt, _ => simp at hgt
    | x :: r, hio, hus, he1, hk1, hf1, hgt, hpo =>
      have hom := oldest_mem r x
      have hol := oldest_least r x
      have hne : (oldest r x).key ≠ (k : Int) := fun e => by
        have h1 := (hus _ hom).1 e
        -- another one is there
        obtain ⟨y, hy, hyk⟩ : ∃ y ∈ x :: r, y.key ≠ (k : Int) := by
          match r, hgt, hio with
          | [], hgt, _ => simp at hgt; omega
          | z :: r, _, hio =>
            have := List.pairwise_cons.1 hio.rise
            have h2 := this.1 z (by simp)
            by_cases hx : x.key = (k : Int)
            · exact ⟨z, by simp, by omega⟩
            · exact ⟨x, by simp, hx⟩
        have h2 := (hus y hy).2 hyk
        have h3 := hol y hy
        omega
      obtain ⟨ok0, ok1⟩ := hk1 (oldest r x).key ⟨_, hom, rfl⟩
      obtain ⟨o, ho⟩ : ∃ o : Nat, (oldest r x).key = o := ⟨(oldest r x).key.toNat, by omega⟩
      have hD := isD_mem hio.rise hom
      have hpres : Present (x :: r) (oldest r x).key := ⟨_, hom, rfl⟩
      have hln := line_one hio he1 hpres
      cases hd : (oldest r x).dirty with
      | true =>
        rw [hd] at hD
        have e : evictL (x :: r) = ([(oldest r x).key], delIt (writeL (x :: r) [(oldest r x).key]) (oldest r x).key) := by
          unfold evictL
          dsimp only
          rw [hd, if_pos rfl, hln]
        rw [e] at hpo ⊢
        refine ⟨_, _, upd (upd d k (d k || m)) o false, rfl, ⟨hpo, hr, by show C.uses + 1 = j + 1; omega, fun a b hab => ?_, fun y hy => ?_, fun i hi => ?_⟩, by simp, fun h0 => by simp at h0, fun y hy => ⟨o, ?_, by omega, by omega, ?_, rfl⟩⟩
        · obtain ⟨z, hz, ez, hf⟩ := hab
          obtain ⟨hz1, _⟩ := delIt_mem.1 hz
          unfold writeL at hz1
          obtain ⟨z2, hz2, rfl⟩ := endR_mem hz1
          obtain ⟨z3, hz3, rfl⟩ := cleanL_mem hz2
          exact he1 a b ⟨z3, hz3, ez, (List.mem_filter.1 hf).1⟩
        · obtain ⟨z, hz, ez⟩ := hy
          obtain ⟨hz1, _⟩ := delIt_mem.1 hz
          have hzk : z.key ∈ (writeL (x :: r) [(oldest r x).key]).map It.key := List.mem_map.2 ⟨z, hz1, rfl⟩
          unfold writeL at hzk
          rw [endR_keys, cleanL_keys] at hzk
          obtain ⟨z2, hz2, e2⟩ := List.mem_map.1 hzk
          exact hk1 y ⟨z2, hz2, by omega⟩
        · show upd (upd d k (d k || m)) o false i = isD (delIt (writeL (x :: r) [(oldest r x).key]) (oldest r x).key) i
          rw [delIt_isD, write_isD, hln, ho]
          by_cases hio2 : i = o
          · unfold upd
            simp [hio2]
          · have : upd (upd d k (d k || m)) o false i = upd d k (d k || m) i := by
              show (if i = o then false else upd d k (d k || m) i) = _
              rw [if_neg hio2]
            rw [this, hf1 i hi]
            have h1 : ¬ (i : Int) = (o : Int) := by omega
            simp [h1]
        · have : y = (oldest r x).key := by simpa using hy.symm
          rw [this, ho]
        · rw [hf1 o (by omega), ← ho, hD]
      | false =>
        rw [hd] at hD
        have e : evictL (x :: r) = ([], delIt (x :: r) (oldest r x).key) := by
          unfold evictL
          dsimp only
          rw [hd, if_neg (by simp)]
        rw [e] at hpo ⊢
        refine ⟨_, _, upd d k (d k || m), rfl, ⟨hpo, hr, by show C.uses + 1 = j + 1; omega, fun a b hab => ?_, fun y hy => ?_, fun i hi => ?_⟩, by simp, fun _ => rfl, fun y hy => by simp at hy⟩
        · obtain ⟨z, hz, ez, hf⟩ := hab
          exact he1 a b ⟨z, (delIt_mem.1 hz).1, ez, hf⟩
        · obtain ⟨z, hz, ez⟩ := hy
          exact hk1 y ⟨z, (delIt_mem.1 hz).1, ez⟩
        · show upd d k (d k || m) i = isD (delIt (x :: r) (oldest r x).key) i
          rw [delIt_isD, hf1 i hi]
          by_cases hio2 : (i : Int) = (oldest r x).key
          · rw [hio2, hD]; simp
          · simp [hio2]
  · rw [if_neg hgt] at hpo ⊢
    exact ⟨_, _, upd d k (d k || m), rfl, ⟨hpo, hr, by show C.uses + 1 = j + 1; omega, he1, hk1, hf1⟩, by simp, fun _ => rfl, fun y hy => by simp at hy⟩
/-! Eight flags in a row. -/
def bools (d : Nat → Bool) : Array Value := ((List.range 8).map fun i => Value.bool (d i)).toArray
theorem bools_at (d : Nat → Bool) (i : Nat) (hi : i < 8) : (bools d)[i]? = some (.bool (d i)) := by
  unfold bools
  rw [List.getElem?_toArray, List.getElem?_map, List.getElem?_range hi]
  rfl
theorem bools_set (d : Nat → Bool) (i : Nat) (v : Bool) : (bools d).setIfInBounds i (.bool v) = bools (upd d i v) := by
  apply Array.ext_getElem?
  intro j
  rw [Array.getElem?_setIfInBounds]
  have hs : (bools d).size = 8 := by unfold bools; simp
  by_cases hj : j < 8
  · rw [bools_at (upd d i v) j hj]
    by_cases hij : i = j
    · subst hij
      rw [if_pos rfl, if_pos (by rw [hs]; exact hj)]
      unfold upd
      rw [if_pos rfl]
    · rw [if_neg hij, bools_at _ j hj]
      unfold upd
      rw [if_neg (fun e => hij e.symm)]
  · have h1 : ∀ d, (bools d)[j]? = none := fun d => by
      rw [Array.getElem?_eq_none]
      unfold bools
      simp
      omega
    rw [h1, h1]
    by_cases hij : i = j
    · rw [if_pos hij, if_neg (by rw [hs]; omega)]
    · rw [if_neg hij]
def dT (d : Nat → Bool) (l : List Int) (t : Nat) : Nat → Bool := fun i => d i && !decide ((i : Int) ∈ l.take t)
theorem dT_zero (d : Nat → Bool) (l : List Int) : dT d l 0 = d := by
  funext i
  simp [dT]
theorem dT_succ (d : Nat → Bool) (l : List Int) (t o : Nat) (h : l[t]? = some (o : Int)) : upd (dT d l t) o false = dT d l (t + 1) := by
  funext i
  unfold upd dT
  rw [List.take_add_one, h]
  by_cases hi : i = o
  · rw [if_pos hi, hi]
    simp
  · rw [if_neg hi]
    have : ¬ (i : Int) = (o : Int) := by omega
    simp [this]
theorem dT_true {d : Nat → Bool} {l : List Int} {t o : Nat} (hn : l.Nodup) (h : l[t]? = some (o : Int)) (hd : d o = true) : dT d l t o = true := by
  unfold dT
  rw [hd, Bool.true_and]
  have : (o : Int) ∉ l.take t := fun hm => by
    obtain ⟨j, hj⟩ := List.getElem?_of_mem hm
    rw [List.getElem?_take] at hj
    split at hj
    · rename_i hjt
      obtain ⟨h1, e1⟩ := List.getElem?_eq_some_iff.1 hj
      obtain ⟨h2, e2⟩ := List.getElem?_eq_some_iff.1 h
      have := nodup_at hn h1 h2 (e1.trans e2.symm)
      omega
    · cases hj
  simp [this]
end Go.Proofs.Ytjpblndjfcofpaa
