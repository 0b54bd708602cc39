/-
  Mathematics of the reference's cache: writing keeps what the two states have in common (layer 10). Conditions: as the theorems say.
-/
import Derived.Test.YthmkmhfoicfapaaMb
namespace Go.Proofs.Ythmkmhfoicfapaa
open Go.RowKit
set_option linter.unusedVariables false

theorem firstsOf_map (g : It → It) (hg : ∀ y, (g y).key = y.key) (k : Int) : ∀ its : List It, firstsOf (its.map g) k = ((its.find? fun it => decide (it.key = k)).map fun it => (g it).firsts).getD []
  | [] => rfl
  | x :: r => by
    have ih := firstsOf_map g hg k r
    unfold firstsOf at ih ⊢
    rw [List.map_cons, List.find?_cons, List.find?_cons, hg]
    by_cases h : x.key = k
    · simp [h]
    · simpa [h] using ih
theorem firstsOf_dirty {its : List It} {u : Nat} (h : ItsOk its u) {k f : Int} (hf : f ∈ firstsOf its k) : isD its f = true ∧ Edge its k f := by
  unfold firstsOf at hf
  cases hx : its.find? (fun it => decide (it.key = k)) with
  | none => rw [hx] at hf; simp at hf
  | some it =>
    rw [hx] at hf
    have hm := List.mem_of_find?_eq_some hx
    have hk := List.find?_some hx
    simp only [decide_eq_true_eq] at hk
    have hf2 : f ∈ it.firsts := by simpa using hf
    exact ⟨h.fdirty it hm f hf2, it, hm, hk, hf2⟩
theorem firstsOf_write (its : List It) (ks : List Int) (k : Int) : firstsOf (writeL its ks) k = (firstsOf its k).filter (isD (cleanL its (linesL its ks))) := by
  unfold writeL endR
  rw [firstsOf_map (fun it => { it with firsts := it.firsts.filter (isD (cleanL its (linesL its ks))) }) (fun _ => rfl)]
  have hc : ∀ (l : List Int) (its' : List It), (its'.map fun it => if it.key ∈ l then { it with dirty := false } else it).find? (fun it => decide (it.key = k)) = (its'.find? fun it => decide (it.key = k)).map fun it => if it.key ∈ l then { it with dirty := false } else it := fun l its' => by
    induction its' with
    | nil => rfl
    | cons x r ih =>
      have hk : (if x.key ∈ l then { x with dirty := false } else x : It).key = x.key := by split <;> rfl
      rw [List.map_cons, List.find?_cons, List.find?_cons, hk]
      by_cases h : x.key = k
      · simp [h]
      · simpa [h] using ih
  show (((cleanL its (linesL its ks)).find? fun it => decide (it.key = k)).map _).getD [] = _
  rw [show cleanL its (linesL its ks) = its.map fun it => if it.key ∈ linesL its ks then { it with dirty := false } else it from rfl, hc]
  unfold firstsOf
  cases its.find? (fun it => decide (it.key = k)) with
  | none => rfl
  | some it =>
    simp only [Option.map_some, Option.getD_some]
    split <;> rfl
theorem write_rels {its : List It} {u : Nat} (h : ItsOk its u) {ks : List Int} (hks : ∀ k ∈ ks, Present its k) (k : Int) : (if k ∈ linesL its ks then [] else (firstsOf its k).filter fun f => !decide (f ∈ linesL its ks)) = firstsOf (writeL its ks) k := by
  rw [firstsOf_write]
  by_cases hk : k ∈ linesL its ks
  · rw [if_pos hk]
    refine (List.filter_eq_nil_iff.2 fun f hf => ?_).symm
    obtain ⟨hd, he⟩ := firstsOf_dirty h hf
    rw [cleanL_isD]
    have := (lines_ok h ks hks).of_reach hk (x := f) (by first | exact Reach.step he (Reach.refl _) | exact .edge he | exact .step he .refl | exact Reach.one he)
    simp [this]
  · rw [if_neg hk]
    refine List.filter_congr fun f hf => ?_
    obtain ⟨hd, _⟩ := firstsOf_dirty h hf
    rw [cleanL_isD, hd, Bool.true_and]
/-- Writing keys keeps it. -/
theorem Sim.write {C : Lru} {D : RC} (h : Sim C D) (hc : ItsOk C.items C.uses) {ks : List Int} (hks : ∀ k ∈ ks, Present C.items k) : Sim ⟨C.room, C.uses, writeL C.items ks⟩ ((linesL C.items ks).foldl cleanR D) := by
  obtain ⟨s, hp, hu, he⟩ := h.list
  obtain ⟨e1, e2⟩ := cleans_items (linesL C.items ks) D
  refine ⟨e2.trans h.room, ⟨s.map fun it => (fun it : It => { it with firsts := it.firsts.filter (Go.Proofs.Ythmkmhfoicfapaa.isD (cleanL C.items (linesL C.items ks))) }) ((fun it : It => if it.key ∈ linesL C.items ks then { it with dirty := false } else it) it), ?_, ?_, ?_⟩, fun k => ?_⟩
  · have := (hp.map fun it : It => if it.key ∈ linesL C.items ks then { it with dirty := false } else it).map fun it : It => { it with firsts := it.firsts.filter (Go.Proofs.Ythmkmhfoicfapaa.isD (cleanL C.items (linesL C.items ks))) }
    rw [List.map_map] at this
    exact this
  · rw [List.pairwise_map]
    refine hu.imp fun {a b} hab => ?_
    have hq : ∀ x : It, ((fun it : It => { it with firsts := it.firsts.filter (Go.Proofs.Ythmkmhfoicfapaa.isD (cleanL C.items (linesL C.items ks))) }) ((fun it : It => if it.key ∈ linesL C.items ks then { it with dirty := false } else it) x)).used = x.used := fun x => by
      dsimp only
      split <;> rfl
    rw [hq, hq]
    exact hab
  · rw [e1, he, List.map_map, List.map_map]
    refine List.map_congr_left fun x _ => ?_
    simp only [Function.comp_def, toR]
    by_cases a : x.key ∈ linesL C.items ks <;> simp [a]
  · rw [cleans_rels, h.rels k]
    exact write_rels hc hks k
end Go.Proofs.Ythmkmhfoicfapaa
