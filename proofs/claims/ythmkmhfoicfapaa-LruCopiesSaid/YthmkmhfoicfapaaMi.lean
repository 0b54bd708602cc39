/-
  Mathematics of the reference's cache: After, what stands behind what, the dirty keys in order (layer 10). Conditions: as the theorems say.
-/
import Derived.Test.YthmkmhfoicfapaaMh
namespace Go.Proofs.Ythmkmhfoicfapaa
open Go.RowKit
set_option linter.unusedVariables false

theorem rfirsts_mem {R : List (Int × Int)} {k f : Int} : f ∈ rfirsts R k ↔ (k, f) ∈ R := by
  unfold rfirsts
  rw [List.mem_map]
  constructor
  · rintro ⟨⟨a, b⟩, h, rfl⟩
    obtain ⟨h1, h2⟩ := List.mem_filter.1 h
    simp only [decide_eq_true_eq] at h2
    rw [← h2]
    exact h1
  · intro h
    exact ⟨(k, f), List.mem_filter.2 ⟨h, by simp⟩, rfl⟩
theorem rfirsts_more (R : List (Int × Int)) (k f k' : Int) : rfirsts (R ++ [(k, f)]) k' = if k' = k then rfirsts R k' ++ [f] else rfirsts R k' := by
  unfold rfirsts
  rw [List.filter_append, List.map_append]
  by_cases h : k' = k
  · subst h
    simp
  · have h2 : ¬ k = k' := fun e => h e.symm
    simp [h, h2]
/-- One is ordered after another, on both sides. -/
theorem Sim.after {C : Lru} {D : RC} (h : Sim C D) (hc : ItsOk C.items C.uses) {k f : Int} (hk : Go.Proofs.Ythmkmhfoicfapaa.isD C.items k = true) :
    Sim ⟨C.room, C.uses, setIt C.items k fun x => if f ∈ x.firsts then x else { x with firsts := x.firsts ++ [f] }⟩ ⟨D.room, D.items, if (k, f) ∈ D.rels then D.rels else D.rels ++ [(k, f)]⟩ := by
  obtain ⟨s, hp, hu, he⟩ := h.list
  have hq : ∀ x : It, (if x.key = k then (if f ∈ x.firsts then x else { x with firsts := x.firsts ++ [f] }) else x : It).used = x.used := fun x => by
    split
    · split <;> rfl
    · rfl
  have ht : ∀ x : It, toR (if x.key = k then (if f ∈ x.firsts then x else { x with firsts := x.firsts ++ [f] }) else x : It) = toR x := fun x => by
    split
    · split <;> rfl
    · rfl
  refine ⟨h.room, ⟨s.map fun x => if x.key = k then (if f ∈ x.firsts then x else { x with firsts := x.firsts ++ [f] }) else x, hp.map _, ?_, ?_⟩, fun k' => ?_⟩
  · rw [List.pairwise_map]
    refine hu.imp fun {a b} hab => ?_
    rw [hq, hq]
    exact hab
  · show D.items = _
    rw [he, List.map_map]
    exact List.map_congr_left fun x _ => (ht x).symm
  · show rfirsts (if (k, f) ∈ D.rels then D.rels else D.rels ++ [(k, f)]) k' = firstsOf (setIt C.items k _) k'
    unfold setIt
    rw [firstsOf_map (fun x => if x.key = k then (if f ∈ x.firsts then x else { x with firsts := x.firsts ++ [f] }) else x) (fun x => by
      split
      · split <;> rfl
      · rfl)]
    obtain ⟨x, hx, hxk, _⟩ := isD_iff.1 hk
    have hfo := firstsOf_of hc.rise hx hxk
    have hfe : C.items.find? (fun it => decide (it.key = k)) = some x := by
      rw [← hxk]
      exact find_mem hc.rise hx
    have hme : (k, f) ∈ D.rels ↔ f ∈ x.firsts := by rw [← rfirsts_mem, h.rels k, hfo]
    by_cases e : k' = k
    · rw [e, hfe]
      simp only [Option.map_some, Option.getD_some]
      rw [if_pos hxk]
      by_cases hm : (k, f) ∈ D.rels
      · rw [if_pos hm, if_pos (hme.1 hm), h.rels k, hfo]
      · rw [if_neg hm, if_neg (fun hf => hm (hme.2 hf)), rfirsts_more, if_pos rfl, h.rels k, hfo]
    · have e1 : rfirsts (if (k, f) ∈ D.rels then D.rels else D.rels ++ [(k, f)]) k' = rfirsts D.rels k' := by
        split
        · rfl
        · rw [rfirsts_more, if_neg e]
      rw [e1, h.rels k']
      unfold firstsOf
      cases hfd : C.items.find? (fun it => decide (it.key = k')) with
      | none => rfl
      | some y =>
        have hy := List.find?_some hfd
        simp only [decide_eq_true_eq] at hy
        simp only [Option.map_some, Option.getD_some]
        rw [if_neg (by rw [hy]; exact e)]
/-- Is one after another, through others too? -/
def behindR (R : List (Int × Int)) : Nat → Int → Int → Bool
  | 0, k, first => decide (k = first)
  | n + 1, k, first => decide (k = first) || (rfirsts R k).any fun f => behindR R n f first
theorem firstsOf_edge {its : List It} {u : Nat} (h : ItsOk its u) {k f : Int} : f ∈ firstsOf its k ↔ Edge its k f := by
  refine ⟨fun hf => (firstsOf_dirty h hf).2, fun ⟨y, hy, hk, hf⟩ => ?_⟩
  rw [firstsOf_of h.rise hy hk]
  exact hf
theorem behind_reach {its : List It} {u : Nat} (h : ItsOk its u) {R : List (Int × Int)} (hs : ∀ k, rfirsts R k = firstsOf its k) {rank : Int → Nat} (hr : ∀ k, ∀ f ∈ firstsOf its k, rank f < rank k) :
    ∀ (n : Nat) (k first : Int), rank k ≤ n → (behindR R n k first = true ↔ Reach its k first)
  | 0, k, first, hn => by
    unfold behindR
    rw [decide_eq_true_eq]
    constructor
    · rintro rfl
      exact .refl _
    · intro hh
      cases hh with
      | refl => rfl
      | step e _ =>
        have := hr k _ ((firstsOf_edge h).2 e)
        omega
  | n + 1, k, first, hn => by
    unfold behindR
    rw [Bool.or_eq_true, decide_eq_true_eq, List.any_eq_true]
    constructor
    · rintro (rfl | ⟨f, hf, hb⟩)
      · exact .refl _
      · rw [hs k] at hf
        have := hr k f hf
        exact .step ((firstsOf_edge h).1 hf) ((behind_reach h hs hr n f first (by omega)).1 hb)
    · intro hh
      cases hh with
      | refl => exact Or.inl rfl
      | step e hh =>
        rename_i b
        have hf := (firstsOf_edge h).2 e
        have := hr k b hf
        exact Or.inr ⟨b, by rw [hs k]; exact hf, (behind_reach h hs hr n b first (by omega)).2 hh⟩
/-- The document's circle is the reference's. -/
theorem Sim.circle {C : Lru} {D : RC} (h : Sim C D) (hc : ItsOk C.items C.uses) {rank : Int → Nat} (hr : ∀ k, ∀ f ∈ firstsOf C.items k, rank f < rank k) {f k : Int} (hf : Present C.items f) : behindR D.rels (rank f) f k = true ↔ k ∈ linesL C.items [f] :=
  (behind_reach hc h.rels hr (rank f) f k (Nat.le_refl _)).trans (line_reach hc hf k).symm
end Go.Proofs.Ythmkmhfoicfapaa
