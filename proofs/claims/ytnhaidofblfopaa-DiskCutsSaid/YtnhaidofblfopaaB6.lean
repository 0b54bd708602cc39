/-
  What a fall leaves: plain mathematics (package disk). Conditions: none.
-/
import Derived.Test.YtnhaidofblfopaaR5
import Derived.Test.YtnhaidofblfopaaW5
namespace Go.Proofs.Ytnhaidofblfopaa
open Go.RowKit

def tup (f : FR) : Nm × Nat × List Sec × List Sec × List (Nat × Nat × Sec) := (f.name, f.G, f.now, f.dur, f.wr)
theorem tup_names {L L' : List FR} {g : FR → Nm × Nat × List Sec × List Sec × List (Nat × Nat × Sec)} (h : L'.map tup = L.map g) (hg : ∀ f, (g f).1 = f.name) : L'.map FR.name = L.map FR.name := by
  have : (L'.map tup).map (·.1) = (L.map g).map (·.1) := by rw [h]
  rw [List.map_map, List.map_map] at this
  refine Eq.trans this ?_
  exact List.map_congr_left fun f _ => hg f
theorem surv_take : ∀ (l : List (Nm × Nat × Sec)) (p : List Bool) (i : Nat) (x : Nm × Nat × Sec), l[i]? = some x → surv (l.take (i + 1)) p = surv (l.take i) p ++ (if p.getD i false then [x] else [])
  | [], _, i, x, h => by simp at h
  | y :: r, [], 0, x, h => by simp [surv]
  | y :: r, [], i + 1, x, h => by simp [surv]
  | y :: r, q :: p, 0, x, h => by
    simp at h
    subst h
    cases q <;> simp [surv]
  | y :: r, q :: p, i + 1, x, h => by
    rw [List.getElem?_cons_succ] at h
    have ih := surv_take r p i x h
    rw [List.take_succ_cons, List.take_succ_cons, surv, surv, ih, List.getD_cons_succ]
    cases q <;> simp
theorem kept_snoc (dur : List Sec) (s : Nm) (l : List (Nm × Nat × Sec)) (x : Nm × Nat × Sec) : kept dur s (l ++ [x]) = if x.1 = s then putS (kept dur s l) x.2.1 x.2.2 else kept dur s l := by
  unfold kept
  rw [List.foldl_append]
  rfl
/-- The files, with some of the writes kept. -/
def keptT (pk : List (Nm × Nat × Sec)) (f : FR) : Nm × Nat × List Sec × List Sec × List (Nat × Nat × Sec) := (f.name, f.G, f.now, kept f.dur f.name pk, f.wr)
theorem kept_step {L A Bs : List FR} {g : FR} {pk : List (Nm × Nat × Sec)} (h : (A ++ g :: Bs).map tup = L.map (keptT pk)) (hr : (A ++ g :: Bs).Pairwise fun f g => nmLt f.name g.name) (i : Nat) (x : Sec) (S' : Nat → Prop) :
    (A ++ FR.mk g.name g.G S' g.now (putS g.dur i x) g.wr :: Bs).map tup = L.map (keptT (pk ++ [(g.name, i, x)])) := by
  have hlen : (A ++ g :: Bs).length = L.length := by have := congrArg List.length h; simpa using this
  have hat : ∀ (j : Nat) (a : FR), (A ++ g :: Bs)[j]? = some a → ∃ f, L[j]? = some f ∧ tup a = keptT pk f := fun j a ha => by
    have h1 : ((A ++ g :: Bs).map tup)[j]? = some (tup a) := by rw [List.getElem?_map, ha]; rfl
    rw [h, List.getElem?_map] at h1
    obtain ⟨f, hf, e⟩ := Option.map_eq_some_iff.1 h1
    exact ⟨f, hf, e.symm⟩
  apply List.ext_getElem?
  intro j
  rw [List.getElem?_map, List.getElem?_map]
  rcases Nat.lt_trichotomy j A.length with hj | hj | hj
  · rw [List.getElem?_append_left hj, List.getElem?_eq_getElem hj]
    obtain ⟨f, hf, e⟩ := hat j A[j] (by rw [List.getElem?_append_left hj, List.getElem?_eq_getElem hj])
    rw [hf]
    have hne : g.name ≠ f.name := fun e' => by
      have h1 := others hr A[j] (Or.inl (List.getElem_mem hj))
      have h2 : A[j].name = f.name := congrArg (·.1) e
      exact h1 (h2.trans e'.symm)
    show some (tup A[j]) = some (keptT _ f)
    rw [e, keptT, keptT, kept_snoc, if_neg hne]
  · subst hj
    obtain ⟨f, hf, e⟩ := hat A.length g (by rw [List.getElem?_append_right (Nat.le_refl _), Nat.sub_self]; rfl)
    rw [hf, List.getElem?_append_right (Nat.le_refl _), Nat.sub_self]
    have e1 : g.name = f.name := congrArg (·.1) e
    have e2 : g.G = f.G := congrArg (·.2.1) e
    have e3 : g.now = f.now := congrArg (·.2.2.1) e
    have e4 : g.dur = kept f.dur f.name pk := congrArg (·.2.2.2.1) e
    have e5 : g.wr = f.wr := congrArg (·.2.2.2.2) e
    show some (g.name, g.G, g.now, putS g.dur i x, g.wr) = some (keptT _ f)
    rw [keptT, kept_snoc, if_pos e1, e1, e2, e3, e4, e5]
  · rw [List.getElem?_append_right (by omega)]
    obtain ⟨m, hm⟩ : ∃ m, j - A.length = m + 1 := ⟨j - A.length - 1, by omega⟩
    rw [hm, List.getElem?_cons_succ]
    cases hB : Bs[m]? with
    | none =>
      rw [List.getElem?_eq_none (l := L)]
      · rfl
      · rw [← hlen, List.length_append, List.length_cons]
        have := List.getElem?_eq_none_iff.1 hB
        omega
    | some a =>
      obtain ⟨f, hf, e⟩ := hat j a (by rw [List.getElem?_append_right (by omega), hm, List.getElem?_cons_succ, hB])
      rw [hf]
      have hne : g.name ≠ f.name := fun e' => by
        have h1 := others hr a (Or.inr (List.mem_of_getElem? hB))
        have h2 : a.name = f.name := congrArg (·.1) e
        exact h1 (h2.trans e'.symm)
      show some (tup a) = some (keptT _ f)
      rw [e, keptT, keptT, kept_snoc, if_neg hne]
/-- A file fallen. -/
def fallT (t : Nm × Nat × List Sec × List Sec × List (Nat × Nat × Sec)) : Nm × Nat × List Sec × List Sec × List (Nat × Nat × Sec) := (t.1, t.2.1, t.2.2.2.1, t.2.2.2.1, [])
theorem fall_step {A Bs : List FR} {g : FR} {K : List (Nm × Nat × List Sec × List Sec × List (Nat × Nat × Sec))} (h : (A ++ g :: Bs).map tup = (K.take A.length).map fallT ++ K.drop A.length) (hl : K.length = (A ++ g :: Bs).length) (S' : Nat → Prop) :
    (A ++ FR.mk g.name g.G S' g.dur g.dur [] :: Bs).map tup = (K.take (A.length + 1)).map fallT ++ K.drop (A.length + 1) := by
  have hA : A.length < K.length := by rw [hl]; simp
  have hlen : ((K.take A.length).map fallT).length = A.length := by rw [List.length_map, List.length_take]; omega
  rw [List.map_append, List.map_cons, List.drop_eq_getElem_cons hA] at h
  obtain ⟨h1, h2⟩ := List.append_inj h (by rw [List.length_map, hlen])
  obtain ⟨h3, h4⟩ := List.cons.inj h2
  rw [List.take_succ_eq_append_getElem hA, List.map_append, List.map_append, List.map_cons, h1, h4, ← h3]
  simp [fallT, tup]
theorem Rel.crash {D : Dsk} {room cnt fails : Nat} {L L' : List FR} {dead : Bool} (h : Rel D room L cnt fails dead) (picks : List Bool) (hL : L'.map tup = L.map fun f => (f.name, f.G, kept f.dur f.name (surv D.pend picks), kept f.dur f.name (surv D.pend picks), [])) :
    Rel (D.crash picks) room L' cnt 0 false := by
  have hn : L'.map FR.name = L.map FR.name := tup_names hL fun _ => rfl
  have hmem : ∀ f' ∈ L', ∃ f ∈ L, tup f' = (f.name, f.G, kept f.dur f.name (surv D.pend picks), kept f.dur f.name (surv D.pend picks), []) := fun f' hf' => by
    have : tup f' ∈ L.map _ := hL ▸ List.mem_map_of_mem hf'
    obtain ⟨f, hf, e⟩ := List.mem_map.1 this
    exact ⟨f, hf, e.symm⟩
  refine ⟨h.roomEq, h.roomB, rfl, h.cntEq, h.cntB, by omega, fun _ => Or.inl ⟨rfl, rfl⟩, ?_, ?_, ?_, fun f' hf' => ?_, [], rfl, List.Pairwise.nil, (fun x hx => by cases hx), fun f' hf' => ?_, (fun x hx => by cases hx)⟩
  · have h1 := h.rise
    have h2 : (L.map FR.name).Pairwise nmLt := List.pairwise_map.2 h1
    rw [← hn] at h2
    have h4 : L'.Pairwise fun f g => nmLt (FR.name f) (FR.name g) := List.pairwise_map.1 h2
    exact h4
  · have := congrArg List.length hn
    rw [List.length_map, List.length_map] at this
    rw [this]
    exact h.many
  · show (D.files.map _).Perm _
    refine (h.perm.map _).trans ?_
    rw [List.map_map]
    have e : L'.map (fun f => (f.name, FileM.mk f.now f.dur)) = (L'.map tup).map fun t => (t.1, FileM.mk t.2.2.1 t.2.2.2.1) := by rw [List.map_map]; rfl
    rw [e, hL, List.map_map]
    exact List.Perm.refl _
  · obtain ⟨f, _, e⟩ := hmem f' hf'
    have e3 : f'.now = kept f.dur f.name (surv D.pend picks) := congrArg (·.2.2.1) e
    have e4 : f'.dur = kept f.dur f.name (surv D.pend picks) := congrArg (·.2.2.2.1) e
    have e5 : f'.wr = [] := congrArg (·.2.2.2.2) e
    rw [e3, e4, e5]
    exact Cov.self _
  · obtain ⟨f, _, e⟩ := hmem f' hf'
    exact congrArg (·.2.2.2.2) e
/-- Where a name's file lies. -/
def toG (L : List FR) (s : Nm) : Nat := ((L.find? fun f => decide (f.name = s)).map FR.G).getD 0
theorem toG_of {L : List FR} (hr : L.Pairwise fun f g => nmLt f.name g.name) {f : FR} (hf : f ∈ L) : toG L f.name = f.G := by
  unfold toG
  cases hv : L.find? fun g => decide (g.name = f.name) with
  | none =>
    have := List.find?_eq_none.1 hv f hf
    simp at this
  | some g =>
    have h1 := List.mem_of_find?_eq_some hv
    have h2 := List.find?_some hv
    rw [name_one hr h1 hf (by simpa using h2)]
    rfl
/-- The writes in their order. -/
theorem pends_sorted {cnt : Nat} {pend : List (Nm × Nat × Sec)} {L : List FR} (h : PendOk cnt pend L) (hr : L.Pairwise fun f g => nmLt f.name g.name) : ∃ M : List (Nat × Nm × Nat × Sec), M.map (·.2) = pend ∧ M.length ≤ cnt + 1 ∧ (∀ x ∈ M, ∃ f ∈ L, f.name = x.2.1) ∧
    (pends L).length = M.length ∧ (∀ x ∈ M, ∀ f ∈ L, f.name = x.2.1 → (x.1, x.2.2) ∈ f.wr) ∧ ∀ l : List PW, l.Perm (pends L) → l.Pairwise (fun x y => x.2.1 ≤ y.2.1) → l = M.map fun x => (toG L x.2.1, x.1, x.2.2) := by
  obtain ⟨M, h1, h2, h3, h4, h5⟩ := h
  have hp : (pends L).Perm (M.map fun x => (toG L x.2.1, x.1, x.2.2)) := by
    have e : pends L = ((L.map FR.name).flatMap fun c => M.filter fun x => decide (x.2.1 = c)).map fun x => (toG L x.2.1, x.1, x.2.2) := by
      rw [pends, List.map_flatMap, List.flatMap_map, List.flatMap_def, List.flatMap_def]
      congr 1
      apply List.map_congr_left
      intro f hf
      rw [h4 f hf, List.map_map]
      apply List.map_congr_left
      intro x hx
      have : x.2.1 = f.name := by simpa using (List.mem_filter.1 hx).2
      show (f.G, x.1, x.2.2) = (toG L x.2.1, x.1, x.2.2)
      rw [this, toG_of hr hf]
    rw [e]
    refine (perm_by_key (fun x : Nat × Nm × Nat × Sec => x.2.1) _ M (names_nodup hr) fun x hx => ?_).map _
    obtain ⟨f, hf, e⟩ := h5 x hx
    exact List.mem_map.2 ⟨f, hf, e⟩
  refine ⟨M, h1, ?_, h5, by rw [hp.length_eq, List.length_map], fun x hx f hf e => ?_, fun l hl hs => rise_of_perm (fun y : PW => y.2.1) (List.pairwise_map.2 h2) (hl.trans hp) hs⟩
  · have := rise_len (M.map (·.1)) cnt (List.pairwise_map.2 h2) (fun y hy => by obtain ⟨z, hz, rfl⟩ := List.mem_map.1 hy; exact h3 z hz)
    rwa [List.length_map] at this
  · rw [h4 f hf]
    exact List.mem_map.2 ⟨x, List.mem_filter.2 ⟨hx, by simp [e]⟩, rfl⟩
end Go.Proofs.Ytnhaidofblfopaa
