/-
  Mathematics of the reference's cache: what the two states have in common, what writing does to it (layer 10). Conditions: as the theorems say.
-/
import Derived.Test.YthmkmhfoicfapaaMa
namespace Go.Proofs.Ythmkmhfoicfapaa
open Go.RowKit
set_option linter.unusedVariables false

def toR (it : It) : RIt := ⟨it.key, it.bs, it.dirty⟩
/-- The two states tell the same. -/
structure Sim (C : Lru) (D : RC) : Prop where
  room : D.room = C.room
  list : ∃ s : List It, s.Perm C.items ∧ s.Pairwise (fun a b => a.used < b.used) ∧ D.items = s.map toR
  rels : ∀ k, rfirsts D.rels k = firstsOf C.items k
theorem Sim.isD {C : Lru} {D : RC} (h : Sim C D) (k : Int) : isDR D k = isD C.items k := by
  obtain ⟨s, hp, _, he⟩ := h.list
  unfold isDR Go.Proofs.Ythmkmhfoicfapaa.isD
  rw [he, List.any_map]
  exact hp.any_eq
theorem Sim.line {C : Lru} {D : RC} (h : Sim C D) (hc : ItsOk C.items C.uses) (k : Int) : lineR D.rels C.items.length [] k = linesL C.items [k] := (lines_one hc h.rels k).symm
theorem rfirsts_clean (R : List (Int × Int)) (k k' : Int) : rfirsts (R.filter fun p => !decide (p.1 = k) && !decide (p.2 = k)) k' = if k' = k then [] else (rfirsts R k').filter fun f => !decide (f = k) := by
  unfold rfirsts
  induction R with
  | nil => split <;> rfl
  | cons p r ih =>
    obtain ⟨x, y⟩ := p
    by_cases h : k' = k
    · rw [if_pos h] at ih ⊢
      subst h
      by_cases hx : x = k'
      · subst hx
        simpa using ih
      · by_cases hy : y = k'
        · simpa [hx, hy] using ih
        · simpa [hx, hy] using ih
    · rw [if_neg h] at ih ⊢
      by_cases hx : x = k'
      · subst hx
        by_cases hy : y = k
        · subst hy
          simpa [h] using ih
        · simpa [h, hy] using ih
      · by_cases hxk : x = k
        · subst hxk
          simpa [hx] using ih
        · by_cases hy : y = k
          · subst hy
            simpa [hx, hxk] using ih
          · simpa [hx, hxk, hy] using ih
/-- What cleaning so many keys leaves. -/
theorem cleans_rels : ∀ (l : List Int) (C : RC) (k' : Int), rfirsts (l.foldl cleanR C).rels k' = if k' ∈ l then [] else (rfirsts C.rels k').filter fun f => !decide (f ∈ l)
  | [], C, k' => by
    simp only [List.foldl_nil, List.not_mem_nil, if_false, decide_false, Bool.not_false]
    exact (List.filter_eq_self.2 fun _ _ => rfl).symm
  | k :: r, C, k' => by
    rw [List.foldl_cons, cleans_rels r (cleanR C k) k']
    have h := rfirsts_clean C.rels k k'
    show (if k' ∈ r then [] else (rfirsts (C.rels.filter fun p => !decide (p.1 = k) && !decide (p.2 = k)) k').filter fun f => !decide (f ∈ r)) = _
    rw [h]
    by_cases h1 : k' ∈ r
    · rw [if_pos h1, if_pos (List.mem_cons_of_mem _ h1)]
    · rw [if_neg h1]
      by_cases h2 : k' = k
      · rw [if_pos h2, if_pos (by rw [h2]; exact List.mem_cons_self ..)]
        rfl
      · rw [if_neg h2, if_neg (fun h => by rcases List.mem_cons.1 h with h | h; exact h2 h; exact h1 h), List.filter_filter]
        congr 1
        funext f
        by_cases a : f = k <;> by_cases b : f ∈ r <;> simp [a, b]
theorem cleans_items : ∀ (l : List Int) (C : RC), (l.foldl cleanR C).items = C.items.map (fun x => if x.key ∈ l then { x with dirty := false } else x) ∧ (l.foldl cleanR C).room = C.room
  | [], C => by simp
  | k :: r, C => by
    obtain ⟨h1, h2⟩ := cleans_items r (cleanR C k)
    rw [List.foldl_cons]
    refine ⟨?_, h2⟩
    rw [h1]
    show ((C.items.map fun x => if x.key = k then { x with dirty := false } else x).map _) = _
    rw [List.map_map]
    refine List.map_congr_left fun x _ => ?_
    by_cases a : x.key = k <;> by_cases b : x.key ∈ r <;> simp [a, b]
end Go.Proofs.Ythmkmhfoicfapaa
