/-
  Mathematics of the reference's cache: what goes, Drop, After (layer 10). Conditions: as the theorems say.
-/
import Derived.Test.YthmkmhfoicfapaaMf
namespace Go.Proofs.Ythmkmhfoicfapaa
open Go.RowKit
set_option linter.unusedVariables false

theorem firstsOf_del {its : List It} {u : Nat} (h : ItsOk its u) (k k' : Int) : firstsOf (delIt its k) k' = if k' = k then [] else firstsOf its k' := by
  have hr : (delIt its k).Pairwise fun a b => a.key < b.key := h.rise.filter _
  by_cases e : k' = k
  · rw [if_pos e, e]
    exact firstsOf_no fun x hx => (delIt_mem.1 hx).2
  · rw [if_neg e]
    by_cases hx : ∃ x ∈ its, x.key = k'
    · obtain ⟨x, hx, hk⟩ := hx
      rw [firstsOf_of h.rise hx hk, firstsOf_of hr (delIt_mem.2 ⟨hx, by rw [hk]; exact e⟩) hk]
    · have hn : ∀ x ∈ its, x.key ≠ k' := fun x hx' e => hx ⟨x, hx', e⟩
      rw [firstsOf_no hn, firstsOf_no fun x hx' => hn x (delIt_mem.1 hx').1]
theorem firstsOf_clean {its : List It} {u : Nat} (h : ItsOk its u) {k : Int} (hd : Go.Proofs.Ythmkmhfoicfapaa.isD its k = false) : firstsOf its k = [] := by
  by_cases hx : ∃ x ∈ its, x.key = k
  · obtain ⟨x, hx, rfl⟩ := hx
    rw [firstsOf_of h.rise hx rfl]
    rw [isD_mem h.rise hx] at hd
    exact h.clean x hx hd
  · exact firstsOf_no fun x hx' e => hx ⟨x, hx', e⟩
/-- Cleaning a clean key changes nothing. -/
theorem Sim.again {C : Lru} {D : RC} (h : Sim C D) (hc : ItsOk C.items C.uses) {k : Int} (hd : Go.Proofs.Ythmkmhfoicfapaa.isD C.items k = false) : Sim C (cleanR D k) := by
  obtain ⟨s, hp, hu, he⟩ := h.list
  refine ⟨h.room, ⟨s, hp, hu, ?_⟩, fun k' => ?_⟩
  · show (D.items.map fun x => if x.key = k then { x with dirty := false } else x) = _
    rw [he, List.map_map]
    refine List.map_congr_left fun x hx => ?_
    simp only [Function.comp_def]
    by_cases hk : (toR x).key = k
    · rw [if_pos hk]
      have hx2 := hp.mem_iff.1 hx
      have : x.dirty = false := by
        rw [← isD_mem hc.rise hx2, show x.key = k from hk]
        exact hd
      simp [toR, this]
    · rw [if_neg hk]
  · show rfirsts (D.rels.filter fun p => !decide (p.1 = k) && !decide (p.2 = k)) k' = _
    rw [rfirsts_clean, h.rels k']
    by_cases hk : k' = k
    · rw [if_pos hk, hk]
      exact (firstsOf_clean hc hd).symm
    · rw [if_neg hk]
      refine List.filter_eq_self.2 fun f hf => ?_
      have h1 := (firstsOf_dirty hc hf).1
      have : f ≠ k := fun e => by rw [e, hd] at h1; cases h1
      simp [this]
/-- A clean key goes. -/
theorem Sim.del {C : Lru} {D : RC} (h : Sim C D) (hc : ItsOk C.items C.uses) {k : Int} (hd : Go.Proofs.Ythmkmhfoicfapaa.isD C.items k = false) : Sim ⟨C.room, C.uses, delIt C.items k⟩ ⟨D.room, D.items.filter fun x => !decide (x.key = k), D.rels⟩ := by
  obtain ⟨s, hp, hu, he⟩ := h.list
  refine ⟨h.room, ⟨s.filter fun y => !decide (y.key = k), hp.filter _, hu.filter _, ?_⟩, fun k' => ?_⟩
  · show (D.items.filter fun x => !decide (x.key = k)) = _
    rw [he, List.filter_map]
    rfl
  · show rfirsts D.rels k' = firstsOf (delIt C.items k) k'
    rw [h.rels k', firstsOf_del hc]
    by_cases e : k' = k
    · rw [if_pos e, e]
      exact firstsOf_clean hc hd
    · rw [if_neg e]
theorem oldest_le : ∀ (r : List It) (x : It), ∀ y ∈ x :: r, (oldest r x).used ≤ y.used
  | [], x, y, hy => by
    rw [List.mem_singleton] at hy
    subst hy
    exact Nat.le_refl _
  | z :: r, x, y, hy => by
    have ih := oldest_le r (if z.used < x.used then z else x)
    show (oldest r (if z.used < x.used then z else x)).used ≤ _
    have h0 := ih _ (List.mem_cons_self ..)
    rcases List.mem_cons.1 hy with rfl | hy
    · split at h0 <;> split <;> first | omega | simp_all
    · rcases List.mem_cons.1 hy with rfl | hy
      · split at h0 <;> split <;> first | omega | simp_all
      · exact ih y (List.mem_cons_of_mem _ hy)
/-- What was used longest ago stands first. -/
theorem oldest_head {s t r : List It} {x z : It} (hp : s.Perm (x :: r)) (hs : s = z :: t) (hu : s.Pairwise fun a b => a.used < b.used) : oldest r x = z := by
  have h1 : oldest r x ∈ s := hp.mem_iff.2 (oldest_mem r x)
  have h2 : (oldest r x).used ≤ z.used := oldest_le r x z (hp.mem_iff.1 (by rw [hs]; exact List.mem_cons_self ..))
  rw [hs] at h1 hu
  rcases List.mem_cons.1 h1 with e | h1
  · exact e
  · have := (List.pairwise_cons.1 hu).1 _ h1
    omega
theorem tail_is {l : List RIt} {k : Int} {ks : List Int} (h : l.map RIt.key = k :: ks) (hn : k ∉ ks) : l.tail = l.filter fun x => !decide (x.key = k) := by
  cases l with
  | nil => cases h
  | cons z t =>
    rw [List.map_cons] at h
    injection h with h1 h2
    rw [List.filter_cons_of_neg (by simp [h1]), List.tail_cons]
    refine (List.filter_eq_self.2 fun y hy => ?_).symm
    have : y.key ≠ k := fun e => hn (by rw [← h2, ← e]; exact List.mem_map_of_mem hy)
    simp [this]
end Go.Proofs.Ythmkmhfoicfapaa
