/-
  Mathematics of the reference's cache: a new key, Put and Get as wholes, a key taken away (layer 10). Conditions: as the theorems say.
-/
import Derived.Test.YthmkmhfoicfapaaMe
namespace Go.Proofs.Ythmkmhfoicfapaa
open Go.RowKit
set_option linter.unusedVariables false

theorem firstsOf_no {its : List It} {k : Int} (h : ∀ x ∈ its, x.key ≠ k) : firstsOf its k = [] := by
  unfold firstsOf
  rw [List.find?_eq_none.2 fun x hx => by simpa using h x hx]
  rfl
theorem firstsOf_of {its : List It} (hr : its.Pairwise fun a b => a.key < b.key) {x : It} (hx : x ∈ its) {k : Int} (hk : x.key = k) : firstsOf its k = x.firsts := by
  rw [← hk]
  exact firstsOf_mem hr hx
theorem ins_perm {its : List It} {x : It} (h : ∀ y ∈ its, y.key ≠ x.key) : (its ++ [x]).Perm (insIt its x) := by
  have e : (its.filter fun y => decide (x.key < y.key)) = its.filter fun y => !decide (y.key < x.key) := List.filter_congr fun y hy => by
    have := h y hy
    by_cases a : x.key < y.key
    · have b : ¬ y.key < x.key := by omega
      simp [a, b]
    · have b : y.key < x.key := by omega
      simp [a, b]
  unfold insIt
  rw [e]
  refine (List.perm_append_comm (l₁ := its) (l₂ := [x])).trans (((List.filter_append_perm (fun y : It => decide (y.key < x.key)) its).symm.cons x).trans ?_)
  exact List.perm_middle.symm
/-- A new key, on both sides. -/
theorem Sim.ins {C : Lru} {D : RC} (h : Sim C D) (hc : ItsOk C.items C.uses) {k : Int} (hk : ∀ y ∈ C.items, y.key ≠ k) (b : List Int) (d : Bool) (hr : (insIt C.items ⟨k, b, C.uses + 1, d, []⟩).Pairwise fun a b => a.key < b.key) :
    Sim ⟨C.room, C.uses + 1, insIt C.items ⟨k, b, C.uses + 1, d, []⟩⟩ ⟨D.room, useR (D.items ++ [⟨k, b, d⟩]) k, D.rels⟩ := by
  obtain ⟨s, hp, hu, he⟩ := h.list
  have hks : ∀ y ∈ s, y.key ≠ k := fun y hy => hk y (hp.mem_iff.1 hy)
  refine ⟨h.room, ⟨s ++ [⟨k, b, C.uses + 1, d, []⟩], ?_, ?_, ?_⟩, fun k' => ?_⟩
  · exact (hp.append_right _).trans (ins_perm hk)
  · rw [List.pairwise_append]
    refine ⟨hu, List.pairwise_singleton _ _, fun a ha c hcm => ?_⟩
    rw [List.mem_singleton] at hcm
    subst hcm
    have := hc.used a (hp.mem_iff.1 ha)
    show a.used < C.uses + 1
    omega
  · show useR (D.items ++ [⟨k, b, d⟩]) k = _
    unfold useR
    rw [he, List.filter_append, List.filter_append]
    have e1 : ((s.map toR).filter fun x => !decide (x.key = k)) = s.map toR := List.filter_eq_self.2 fun y hy => by
      obtain ⟨z, hz, rfl⟩ := List.mem_map.1 hy
      have : (toR z).key ≠ k := hks z hz
      simp [this]
    have e2 : ((s.map toR).filter fun x => decide (x.key = k)) = [] := filter_none fun y hy => by
      obtain ⟨z, hz, rfl⟩ := List.mem_map.1 hy
      rw [decide_eq_false_iff_not]
      exact hks z hz
    rw [e1, e2, List.map_append]
    simp [toR]
  · show rfirsts D.rels k' = firstsOf (insIt C.items ⟨k, b, C.uses + 1, d, []⟩) k'
    rw [h.rels k']
    by_cases hkk : k' = k
    · subst hkk
      rw [firstsOf_no hk, firstsOf_of hr (ins_mem.2 (Or.inl rfl)) rfl]
    · by_cases hx : ∃ x ∈ C.items, x.key = k'
      · obtain ⟨x, hx, rfl⟩ := hx
        rw [firstsOf_of hc.rise hx rfl, firstsOf_of hr (ins_mem.2 (Or.inr ⟨hx, hk x hx⟩)) rfl]
      · have hn : ∀ x ∈ C.items, x.key ≠ k' := fun x hx' e => hx ⟨x, hx', e⟩
        rw [firstsOf_no hn, firstsOf_no fun x hx' => ?_]
        rcases ins_mem.1 hx' with rfl | ⟨hm, _⟩
        · exact fun e => hkk e.symm
        · exact hn x hm
/-- The reference's list behind a Put, ahead of what goes. -/
def putR (l : List RIt) (k : Int) (b : List Int) (d : Bool) : List RIt := if l.any (fun x => decide (x.key = k)) then setR l k fun x => { x with bs := b, dirty := x.dirty || d } else useR (l ++ [⟨k, b, d⟩]) k
theorem Sim.hasR {C : Lru} {D : RC} (h : Sim C D) (k : Int) : D.items.any (fun x => decide (x.key = k)) = hasK C.items k := by
  obtain ⟨s, hp, _, he⟩ := h.list
  unfold hasK
  rw [he, List.any_map]
  exact hp.any_eq
theorem Sim.putIts {C : Lru} {D : RC} (h : Sim C D) (hc : ItsOk C.items C.uses) {k : Int} (hk : -9223372036854775808 ≤ k ∧ k ≤ 9223372036854775807) {b : List Int} (hb : b.length ≤ 1000) (d : Bool) (hu : C.uses + 1 ≤ 1000000) :
    Sim ⟨C.room, C.uses + 1, Go.Proofs.Ythmkmhfoicfapaa.putIts C.items (C.uses + 1) k b d⟩ ⟨D.room, putR D.items k b d, D.rels⟩ := by
  have hr := (put_ok hc hk hb d hu).rise
  unfold Go.Proofs.Ythmkmhfoicfapaa.putIts putR at *
  rw [h.hasR k]
  by_cases hh : hasK C.items k = true
  · rw [if_pos hh, if_pos hh]
    exact h.set hc hh _ (fun x => { x with bs := b, dirty := x.dirty || d }) (fun _ => rfl) (fun _ => rfl) (fun _ => rfl) (fun _ => rfl)
  · rw [if_neg hh] at hr
    rw [if_neg hh, if_neg hh]
    exact h.ins hc (fun y hy e => hh (hasK_iff.2 ⟨y, hy, e⟩)) b d hr
theorem Sim.get {C : Lru} {D : RC} (h : Sim C D) (hc : ItsOk C.items C.uses) {k : Int} (hk : hasK C.items k = true) :
    Sim ⟨C.room, C.uses + 1, setIt C.items k fun x => { x with used := C.uses + 1 }⟩ ⟨D.room, setR D.items k id, D.rels⟩ :=
  h.set hc hk _ id (fun _ => rfl) (fun _ => rfl) (fun _ => rfl) (fun _ => rfl)
end Go.Proofs.Ythmkmhfoicfapaa
