/-
  Mathematics of the reference's cache: how deep a line goes, the dirty keys in order (layer 10). Conditions: as the theorems say.
-/
import Derived.Test.YthmkmhfoicfapaaMi
namespace Go.Proofs.Ythmkmhfoicfapaa
open Go.RowKit
set_option linter.unusedVariables false

theorem filter_lt {α : Type} {p q : α → Bool} (hpq : ∀ y, p y = true → q y = true) : ∀ (l : List α) (x : α), x ∈ l → q x = true → p x = false → (l.filter p).length < (l.filter q).length
  | [], x, hx, _, _ => by cases hx
  | z :: r, x, hx, hq, hp => by
    have hle : (r.filter p).length ≤ (r.filter q).length := by
      clear hx
      induction r with
      | nil => exact Nat.le_refl _
      | cons y r ih =>
        by_cases h : p y = true
        · rw [List.filter_cons_of_pos h, List.filter_cons_of_pos (hpq y h)]
          simpa using ih
        · rw [List.filter_cons_of_neg h]
          by_cases h2 : q y = true
          · rw [List.filter_cons_of_pos h2, List.length_cons]
            omega
          · rw [List.filter_cons_of_neg h2]
            exact ih
    rcases List.mem_cons.1 hx with rfl | hx
    · rw [List.filter_cons_of_neg (by rw [hp]; exact Bool.false_ne_true), List.filter_cons_of_pos hq, List.length_cons]
      omega
    · have ih := filter_lt hpq r x hx hq hp
      by_cases h : p z = true
      · rw [List.filter_cons_of_pos h, List.filter_cons_of_pos (hpq z h), List.length_cons, List.length_cons]
        omega
      · rw [List.filter_cons_of_neg h]
        by_cases h2 : q z = true
        · rw [List.filter_cons_of_pos h2, List.length_cons]
          omega
        · rw [List.filter_cons_of_neg h2]
          exact ih
/-- A rank that stays below the number of items. -/
theorem small_rank {its : List It} {u : Nat} (h : ItsOk its u) : ∃ rank : Int → Nat, (∀ k, ∀ f ∈ firstsOf its k, rank f < rank k) ∧ ∀ k, Present its k → rank k < its.length := by
  obtain ⟨rank, hr⟩ := firsts_rank h
  refine ⟨fun k => (its.filter fun y => decide (rank y.key < rank k)).length, fun k f hf => ?_, fun k hk => ?_⟩
  · have hlt := hr k f hf
    obtain ⟨y, hy, hyk, _⟩ := isD_iff.1 (firstsOf_dirty h hf).1
    exact filter_lt (fun z hz => by simp only [decide_eq_true_eq] at hz ⊢; omega) its y hy (by simp only [decide_eq_true_eq]; rw [hyk]; exact hlt) (by rw [decide_eq_false_iff_not, hyk]; omega)
  · obtain ⟨y, hy, hyk⟩ := hk
    have := filter_lt (p := fun y => decide (rank y.key < rank k)) (q := fun _ => true) (fun _ _ => rfl) its y hy rfl (by rw [decide_eq_false_iff_not, hyk]; omega)
    rwa [List.filter_eq_self.2 (fun _ _ => rfl)] at this
/-- A key put among rising ones. -/
def insR (l : List Int) (k : Int) : List Int := (l.takeWhile fun x => decide (x < k)) ++ k :: l.dropWhile fun x => decide (x < k)
theorem insR_perm (l : List Int) (k : Int) : (insR l k).Perm (k :: l) := by
  unfold insR
  refine List.perm_middle.trans ?_
  rw [List.takeWhile_append_dropWhile]
theorem insR_cons (x : Int) (r : List Int) (k : Int) : insR (x :: r) k = if x < k then x :: insR r k else k :: x :: r := by
  unfold insR
  by_cases h : x < k <;> simp [h]
theorem insR_rise : ∀ (l : List Int) (k : Int), l.Pairwise (fun a b => a < b) → k ∉ l → (insR l k).Pairwise fun a b => a < b
  | [], k, _, _ => by simp [insR]
  | x :: r, k, h, hk => by
    rw [insR_cons]
    have hxr := List.pairwise_cons.1 h
    have hxk : x ≠ k := fun e => hk (by rw [e]; exact List.mem_cons_self ..)
    by_cases hx : x < k
    · rw [if_pos hx, List.pairwise_cons]
      refine ⟨fun y hy => ?_, insR_rise r k hxr.2 fun hm => hk (List.mem_cons_of_mem _ hm)⟩
      rcases List.mem_cons.1 ((insR_perm r k).mem_iff.1 hy) with rfl | hy
      · exact hx
      · exact hxr.1 y hy
    · rw [if_neg hx, List.pairwise_cons]
      refine ⟨fun y hy => ?_, h⟩
      rcases List.mem_cons.1 hy with rfl | hy
      · omega
      · have := hxr.1 y hy
        omega
/-- The dirty keys as the reference tells them. -/
def dirtyR (l : List RIt) : List Int := (l.filter fun x => x.dirty).foldl (fun out x => insR out x.key) []
theorem ins_all : ∀ (l : List RIt) (out : List Int), out.Pairwise (fun a b => a < b) → (l.map RIt.key).Nodup → (∀ x ∈ l, x.key ∉ out) →
    (l.foldl (fun out x => insR out x.key) out).Pairwise (fun a b => a < b) ∧ (l.foldl (fun out x => insR out x.key) out).Perm (out ++ l.map RIt.key)
  | [], out, h, _, _ => ⟨h, by simp⟩
  | x :: r, out, h, hn, hm => by
    rw [List.map_cons, List.nodup_cons] at hn
    obtain ⟨g1, g2⟩ := ins_all r (insR out x.key) (insR_rise out x.key h (hm x (List.mem_cons_self ..))) hn.2 fun y hy hym => by
      rcases List.mem_cons.1 ((insR_perm out x.key).mem_iff.1 hym) with e | hym
      · exact hn.1 (by rw [← e]; exact List.mem_map_of_mem hy)
      · exact hm y (List.mem_cons_of_mem _ hy) hym
    refine ⟨g1, g2.trans (((insR_perm out x.key).append_right _).trans ?_)⟩
    rw [List.map_cons]
    exact List.perm_middle.symm
theorem rise_eq : ∀ (a b : List Int), a.Pairwise (fun x y => x < y) → b.Pairwise (fun x y => x < y) → a.Perm b → a = b
  | [], b, _, _, h => (List.Perm.nil_eq h)
  | x :: r, [], _, _, h => by have := h.length_eq; simp at this
  | x :: r, y :: t, ha, hb, h => by
    have h1 := List.pairwise_cons.1 ha
    have h2 := List.pairwise_cons.1 hb
    have hx : x ∈ y :: t := h.mem_iff.1 (List.mem_cons_self ..)
    have hy : y ∈ x :: r := h.mem_iff.2 (List.mem_cons_self ..)
    have e : x = y := by
      rcases List.mem_cons.1 hx with e | hx
      · exact e
      · rcases List.mem_cons.1 hy with e | hy
        · exact e.symm
        · have := h2.1 x hx
          have := h1.1 y hy
          omega
    subst e
    rw [rise_eq r t h1.2 h2.2 ((List.perm_cons x).1 h)]
/-- Both sides tell the same dirty keys. -/
theorem Sim.dirties {C : Lru} {D : RC} (h : Sim C D) (hc : ItsOk C.items C.uses) : dirtyR D.items = dirtyL C.items := by
  obtain ⟨s, hp, hu, he⟩ := h.list
  have hkd : (D.items.filter fun x => x.dirty).map RIt.key = (s.filter It.dirty).map It.key := by
    rw [he, List.filter_map, List.map_map]
    rfl
  have hpk : ((s.filter It.dirty).map It.key).Perm (dirtyL C.items) := (hp.filter _).map _
  have hr : (dirtyL C.items).Pairwise fun a b => a < b := by
    unfold dirtyL
    rw [List.pairwise_map]
    exact hc.rise.filter _
  have hnd : ((D.items.filter fun x => x.dirty).map RIt.key).Nodup := by
    rw [hkd]
    exact hpk.nodup_iff.2 (hr.imp fun hab e => by omega)
  obtain ⟨g1, g2⟩ := ins_all (D.items.filter fun x => x.dirty) [] List.Pairwise.nil hnd (fun x _ hm => by cases hm)
  refine rise_eq _ _ g1 hr (g2.trans ?_)
  rw [List.nil_append, hkd]
  exact hpk
end Go.Proofs.Ythmkmhfoicfapaa
