/-
  Mathematics of the reference's cache: Put and Get (layer 10). Conditions: as the theorems say.
-/
import Derived.Test.YthmkmhfoicfapaaMd
namespace Go.Proofs.Ythmkmhfoicfapaa
open Go.RowKit
set_option linter.unusedVariables false

def useR (l : List RIt) (k : Int) : List RIt := (l.filter fun x => !decide (x.key = k)) ++ l.filter fun x => decide (x.key = k)
/-- A key that is there is turned, and used last. -/
def setR (l : List RIt) (k : Int) (g : RIt → RIt) : List RIt := useR (l.map fun x => if x.key = k then g x else x) k
theorem filter_none {α : Type} {p : α → Bool} {l : List α} (h : ∀ x ∈ l, p x = false) : l.filter p = [] := List.filter_eq_nil_iff.2 fun x hx => by rw [h x hx]; exact Bool.false_ne_true
/-- One of its key, taken to the end, is the same list but for the order. -/
theorem last_perm {s : List It} {x : It} (hx : x ∈ s) (hn : ∀ y ∈ s, y.key = x.key → y = x) (hd : s.Nodup) (g : It → It) : ((s.filter fun y => !decide (y.key = x.key)) ++ [g x]).Perm (s.map fun y => if y.key = x.key then g y else y) := by
  induction s with
  | nil => cases hx
  | cons z r ih =>
    rw [List.nodup_cons] at hd
    by_cases hz : z.key = x.key
    · have hzx := hn z (List.mem_cons_self ..) hz
      subst hzx
      have hr : ∀ y ∈ r, y.key ≠ z.key := fun y hy e => by
        have := hn y (List.mem_cons_of_mem _ hy) e
        rw [this] at hy
        exact hd.1 hy
      have e1 : (r.filter fun y => !decide (y.key = z.key)) = r := List.filter_eq_self.2 fun y hy => by simp [hr y hy]
      have e2 : (r.map fun y => if y.key = z.key then g y else y) = r := by
        conv => rhs; rw [← List.map_id r]
        exact List.map_congr_left fun y hy => by simp [hr y hy]
      rw [List.filter_cons_of_neg (by simp), e1, List.map_cons, if_pos rfl, e2]
      exact List.perm_append_comm
    · have hxr : x ∈ r := (List.mem_cons.1 hx).resolve_left fun e => hz (by rw [e])
      rw [List.filter_cons_of_pos (by simp [hz]), List.map_cons, if_neg hz, List.cons_append]
      exact (ih hxr (fun y hy e => hn y (List.mem_cons_of_mem _ hy) e) hd.2).cons _
theorem one_key {s : List It} {x : It} (hx : x ∈ s) (hn : ∀ y ∈ s, y.key = x.key → y = x) (hd : s.Nodup) : (s.filter fun y => decide (y.key = x.key)) = [x] := by
  induction s with
  | nil => cases hx
  | cons z r ih =>
    rw [List.nodup_cons] at hd
    by_cases hz : z.key = x.key
    · have hzx := hn z (List.mem_cons_self ..) hz
      subst hzx
      rw [List.filter_cons_of_pos (by simp), filter_none fun y hy => ?_]
      rw [decide_eq_false_iff_not]
      intro e
      have := hn y (List.mem_cons_of_mem _ hy) e
      rw [this] at hy
      exact hd.1 hy
    · rw [List.filter_cons_of_neg (by simp [hz])]
      exact ih ((List.mem_cons.1 hx).resolve_left fun e => hz (by rw [e])) (fun y hy e => hn y (List.mem_cons_of_mem _ hy) e) hd.2
theorem mrise_nodup {its : List It} (h : its.Pairwise fun a b => a.key < b.key) : its.Nodup := h.imp fun hab e => by rw [e] at hab; omega
theorem firstsOf_set (g : It → It) (hk : ∀ y, (g y).key = y.key) (hf : ∀ y, (g y).firsts = y.firsts) (its : List It) (k k' : Int) : firstsOf (setIt its k g) k' = firstsOf its k' := by
  unfold setIt
  rw [firstsOf_map (fun it => if it.key = k then g it else it) (fun y => by split; exact hk y; rfl)]
  unfold firstsOf
  congr 1
  refine congrArg (fun f => Option.map f _) (funext fun y => ?_)
  split
  · exact hf y
  · rfl
/-- A key that is there is turned and used last, on both sides. -/
theorem Sim.set {C : Lru} {D : RC} (h : Sim C D) (hc : ItsOk C.items C.uses) {k : Int} (hk : hasK C.items k = true) (g : It → It) (gr : RIt → RIt) (hg : ∀ y, toR (g y) = gr (toR y)) (hgk : ∀ y, (g y).key = y.key) (hgf : ∀ y, (g y).firsts = y.firsts) (hgu : ∀ y, (g y).used = C.uses + 1) :
    Sim ⟨C.room, C.uses + 1, setIt C.items k g⟩ ⟨D.room, setR D.items k gr, D.rels⟩ := by
  obtain ⟨s, hp, hu, he⟩ := h.list
  obtain ⟨x, hx, rfl⟩ := hasK_iff.1 hk
  have hxs : x ∈ s := hp.mem_iff.2 hx
  have huq : ∀ y ∈ s, y.key = x.key → y = x := fun y hy e => key_one hc.rise (hp.mem_iff.1 hy) hx e
  have hnd : s.Nodup := hp.nodup_iff.2 (mrise_nodup hc.rise)
  refine ⟨h.room, ⟨(s.filter fun y => !decide (y.key = x.key)) ++ [g x], ?_, ?_, ?_⟩, fun k' => ?_⟩
  · exact (last_perm hxs huq hnd g).trans (hp.map _)
  · rw [List.pairwise_append]
    refine ⟨hu.filter _, List.pairwise_singleton _ _, fun a ha b hb => ?_⟩
    rw [List.mem_singleton] at hb
    subst hb
    rw [hgu]
    have := hc.used a (hp.mem_iff.1 (List.mem_filter.1 ha).1)
    omega
  · show setR D.items x.key gr = _
    unfold setR useR
    rw [he, List.map_append, List.map_map]
    have hkk : ∀ y : It, (if (toR y).key = x.key then gr (toR y) else toR y).key = y.key := fun y => by
      split
      · rw [← hg]
        exact hgk y
      · rfl
    have e1 : ((s.map ((fun x' : RIt => if x'.key = x.key then gr x' else x') ∘ toR)).filter fun x' => !decide (x'.key = x.key)) = (s.filter fun y => !decide (y.key = x.key)).map toR := by
      rw [List.filter_map]
      have : ((fun x' : RIt => !decide (x'.key = x.key)) ∘ ((fun x' : RIt => if x'.key = x.key then gr x' else x') ∘ toR)) = fun y => !decide (y.key = x.key) := funext fun y => by
        simp only [Function.comp_def, hkk]
      rw [this]
      refine List.map_congr_left fun y hy => ?_
      have hy2 := (List.mem_filter.1 hy).2
      have hne : y.key ≠ x.key := by simpa using hy2
      simp only [Function.comp_def]
      rw [if_neg (show ¬ (toR y).key = x.key from hne)]
    have e2 : ((s.map ((fun x' : RIt => if x'.key = x.key then gr x' else x') ∘ toR)).filter fun x' => decide (x'.key = x.key)) = [toR (g x)] := by
      rw [List.filter_map]
      have : ((fun x' : RIt => decide (x'.key = x.key)) ∘ ((fun x' : RIt => if x'.key = x.key then gr x' else x') ∘ toR)) = fun y => decide (y.key = x.key) := funext fun y => by
        simp only [Function.comp_def, hkk]
      rw [this]
      have e3 : (s.filter fun y => decide (y.key = x.key)) = [x] := by
        exact one_key hxs huq hnd
      rw [e3]
      simp only [List.map_cons, List.map_nil, Function.comp_def]
      rw [if_pos (show (toR x).key = x.key from rfl), hg]
    rw [e1, e2]
    rfl
  · rw [firstsOf_set g hgk hgf]
    exact h.rels k'
end Go.Proofs.Ythmkmhfoicfapaa
