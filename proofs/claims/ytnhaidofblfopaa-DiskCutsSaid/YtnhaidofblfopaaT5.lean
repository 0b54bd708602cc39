/-
  What each call does to what the disk stands for: plain mathematics. Conditions: none.
-/
import Derived.Test.YtnhaidofblfopaaS5
namespace Go.Proofs.Ytnhaidofblfopaa
open Go.RowKit

section
variable {D : Dsk} {room cnt fails : Nat} {L1 L2 : List FR} {f f' : FR} {dead : Bool}
theorem others (h : (L1 ++ f :: L2).Pairwise fun f g => nmLt f.name g.name) : ∀ g, (g ∈ L1 ∨ g ∈ L2) → g.name ≠ f.name := fun g hg e => by
  rw [List.pairwise_append, List.pairwise_cons] at h
  obtain ⟨_, ⟨p2, _⟩, p4⟩ := h
  rcases hg with hg | hg
  · exact nm_irrefl _ (e ▸ p4 g hg f (by simp))
  · exact nm_irrefl _ (e ▸ p2 g hg)
theorem mem_mid {g : FR} : g ∈ L1 ++ f :: L2 ↔ g = f ∨ (g ∈ L1 ∨ g ∈ L2) := by
  rw [List.mem_append, List.mem_cons]
  constructor
  · rintro (h | h | h)
    · exact Or.inr (Or.inl h)
    · exact Or.inl h
    · exact Or.inr (Or.inr h)
  · rintro (h | h | h)
    · exact Or.inr (Or.inl h)
    · exact Or.inl h
    · exact Or.inr (Or.inr h)
theorem rise_swap (h : (L1 ++ f :: L2).Pairwise fun f g => nmLt f.name g.name) (hn : f'.name = f.name) : (L1 ++ f' :: L2).Pairwise fun f g => nmLt f.name g.name := by
  rw [List.pairwise_append, List.pairwise_cons] at h ⊢
  obtain ⟨p1, ⟨p2, p3⟩, p4⟩ := h
  refine ⟨p1, ⟨fun g hg => by rw [hn]; exact p2 g hg, p3⟩, fun g hg g' hg' => ?_⟩
  rcases List.mem_cons.1 hg' with rfl | hg'
  · rw [hn]
    exact p4 g hg f (by simp)
  · exact p4 g hg g' (by simp [hg'])
theorem PendOk.keep {pend : List (Nm × Nat × Sec)} (h : PendOk cnt pend (L1 ++ f :: L2)) (hr : (L1 ++ f :: L2).Pairwise fun f g => nmLt f.name g.name) (q : Nm × Nat × Sec → Bool) (hq : ∀ x, x.1 ≠ f.name → q x = true)
    (hn : f'.name = f.name) (hw : f'.wr = f.wr.filter fun r => q (f.name, r.2)) : PendOk cnt (pend.filter q) (L1 ++ f' :: L2) := by
  obtain ⟨M, rfl, h2, h3, h4, h5⟩ := h
  refine ⟨M.filter fun x => q x.2, by rw [List.filter_map]; rfl, h2.filter _, fun x hx => h3 x (List.mem_filter.1 hx).1, fun g hg => ?_, fun x hx => ?_⟩
  · rcases mem_mid.1 hg with rfl | hg
    · rw [hw, h4 f (by simp), hn, List.filter_map, List.filter_filter, List.filter_filter]
      congr 1
      apply List.filter_congr
      intro x _
      by_cases e : x.2.1 = f.name
      · have : (f.name, x.2.2) = x.2 := by rw [← e]
        simp [e, this, Bool.and_comm]
      · simp [e]
    · rw [h4 g (mem_mid.2 (Or.inr hg)), List.filter_filter]
      congr 1
      apply List.filter_congr
      intro x _
      by_cases e : x.2.1 = g.name
      · have := hq x.2 (by rw [e]; exact others hr g hg)
        simp [e, this]
      · simp [e]
  · obtain ⟨g, hg, e⟩ := h5 x (List.mem_filter.1 hx).1
    rcases mem_mid.1 hg with rfl | hg
    · exact ⟨f', mem_mid.2 (Or.inl rfl), hn.trans e⟩
    · exact ⟨g, mem_mid.2 (Or.inr hg), e⟩
theorem PendOk.remove {pend : List (Nm × Nat × Sec)} (h : PendOk cnt pend (L1 ++ f :: L2)) (hr : (L1 ++ f :: L2).Pairwise fun f g => nmLt f.name g.name) : PendOk cnt (pend.filter fun x => !decide (x.1 = f.name)) (L1 ++ L2) := by
  obtain ⟨M, rfl, h2, h3, h4, h5⟩ := h
  have hin : ∀ g, g ∈ L1 ++ L2 → (g ∈ L1 ∨ g ∈ L2) := fun g hg => List.mem_append.1 hg
  refine ⟨M.filter fun x => !decide (x.2.1 = f.name), by rw [List.filter_map]; rfl, h2.filter _, fun x hx => h3 x (List.mem_filter.1 hx).1, fun g hg => ?_, fun x hx => ?_⟩
  · rw [h4 g (mem_mid.2 (Or.inr (hin g hg))), List.filter_filter]
    congr 1
    apply List.filter_congr
    intro x _
    by_cases e : x.2.1 = g.name
    · have := others hr g (hin g hg)
      simp [e, this]
    · simp [e]
  · obtain ⟨hx1, hx2⟩ := List.mem_filter.1 hx
    obtain ⟨g, hg, e⟩ := h5 x hx1
    rcases mem_mid.1 hg with rfl | hg
    · rw [e] at hx2
      simp at hx2
    · exact ⟨g, List.mem_append.2 hg, e⟩
theorem PendOk.insert {pend : List (Nm × Nat × Sec)} (h : PendOk cnt pend (L1 ++ L2)) (hn : ∀ g, (g ∈ L1 ∨ g ∈ L2) → g.name ≠ f'.name) (hw : f'.wr = []) : PendOk cnt pend (L1 ++ f' :: L2) ∧ pend.filter (fun x => !decide (x.1 = f'.name)) = pend := by
  obtain ⟨M, rfl, h2, h3, h4, h5⟩ := h
  have hno : ∀ x ∈ M, x.2.1 ≠ f'.name := fun x hx e => by
    obtain ⟨g, hg, e'⟩ := h5 x hx
    exact hn g (List.mem_append.1 hg) (e'.trans e)
  refine ⟨⟨M, rfl, h2, h3, fun g hg => ?_, fun x hx => ?_⟩, ?_⟩
  · rcases mem_mid.1 hg with rfl | hg
    · rw [hw, List.filter_eq_nil_iff.2 fun x hx => by simp [hno x hx]]
      rfl
    · exact h4 g (List.mem_append.2 hg)
  · obtain ⟨g, hg, e⟩ := h5 x hx
    exact ⟨g, mem_mid.2 (Or.inr (List.mem_append.1 hg)), e⟩
  · rw [List.filter_eq_self]
    intro y hy
    obtain ⟨x, hx, rfl⟩ := List.mem_map.1 hy
    simp [hno x hx]
theorem PendOk.add {pend : List (Nm × Nat × Sec)} (h : PendOk cnt pend (L1 ++ f :: L2)) (hr : (L1 ++ f :: L2).Pairwise fun f g => nmLt f.name g.name) (i : Nat) (x : Sec) (hn : f'.name = f.name) (hw : f'.wr = f.wr ++ [(cnt + 1, i, x)]) :
    PendOk (cnt + 1) (pend ++ [(f.name, i, x)]) (L1 ++ f' :: L2) := by
  obtain ⟨M, rfl, h2, h3, h4, h5⟩ := h
  refine ⟨M ++ [(cnt + 1, f.name, i, x)], by simp, ?_, fun y hy => ?_, fun g hg => ?_, fun y hy => ?_⟩
  · rw [List.pairwise_append]
    refine ⟨h2, List.pairwise_singleton _ _, fun y hy z hz => ?_⟩
    rw [List.mem_singleton.1 hz]
    have := h3 y hy
    show y.1 < cnt + 1
    omega
  · rcases List.mem_append.1 hy with hy | hy
    · exact Nat.le_succ_of_le (h3 y hy)
    · rw [List.mem_singleton.1 hy]
      exact Nat.le_refl _
  · rw [List.filter_append]
    rcases mem_mid.1 hg with rfl | hg
    · rw [hw, h4 f (by simp), hn, List.filter_cons_of_pos (by simp), List.map_append]
      rfl
    · rw [h4 g (mem_mid.2 (Or.inr hg)), List.filter_cons_of_neg (by simpa using fun e => others hr g hg e.symm), List.filter_nil, List.append_nil]
  · rcases List.mem_append.1 hy with hy | hy
    · obtain ⟨g, hg, e⟩ := h5 y hy
      rcases mem_mid.1 hg with rfl | hg
      · exact ⟨f', mem_mid.2 (Or.inl rfl), hn.trans e⟩
      · exact ⟨g, mem_mid.2 (Or.inr hg), e⟩
    · rw [List.mem_singleton.1 hy]
      exact ⟨f', mem_mid.2 (Or.inl rfl), hn⟩
theorem perm_swap (h : D.files.Perm ((L1 ++ f :: L2).map fmOf)) (hr : (L1 ++ f :: L2).Pairwise fun f g => nmLt f.name g.name) (hn : f'.name = f.name) : (fset D.files f.name ⟨f'.now, f'.dur⟩).Perm ((L1 ++ f' :: L2).map fmOf) := by
  refine (fset_perm h f.name _).trans ?_
  rw [fset_map hr, List.map_append, List.map_cons]
  have : fmOf f' = (f.name, ⟨f'.now, f'.dur⟩) := by rw [fmOf, hn]
  rw [this]
theorem cov_swap {L1 L2 : List FR} (h : ∀ g ∈ L1 ++ f :: L2, Cov g.now g.dur (g.wr.map (·.2))) (hf : Cov f'.now f'.dur (f'.wr.map (·.2))) : ∀ g ∈ L1 ++ f' :: L2, Cov g.now g.dur (g.wr.map (·.2)) := fun g hg => by
  rcases mem_mid.1 hg with rfl | hg
  · exact hf
  · exact h g (mem_mid.2 (Or.inr hg))
/-- A sector written. -/
theorem Rel.put (h : Rel D room (L1 ++ f :: L2) cnt fails false) (i : Nat) (x : Sec) (hf1 : D.fuse ≠ 1) (hc : cnt + 1 ≤ 2000000) (hn : f'.name = f.name) (h1 : f'.now = putS f.now i x) (h2 : f'.dur = f.dur) (hw : f'.wr = f.wr ++ [(cnt + 1, i, x)]) :
    Rel (D.put f.name ⟨f.now, f.dur⟩ i x) room (L1 ++ f' :: L2) (cnt + 1) fails false where
  roomEq := h.roomEq
  roomB := h.roomB
  deadEq := h.deadEq
  cntEq := by show D.cnt + 1 = _; rw [h.cntEq]
  cntB := hc
  failsB := h.failsB
  fuse := fun _ => by
    show (fails = 0 ∧ D.fuse - 1 = 0) ∨ (0 < D.fuse - 1 ∧ fails = cnt + 1 + (D.fuse - 1))
    rcases h.fuse rfl with h' | h'
    · exact Or.inl ⟨h'.1, by omega⟩
    · exact Or.inr (by omega)
  rise := rise_swap h.rise hn
  many := by have := h.many; simpa using this
  perm := by
    have := perm_swap (f' := f') h.perm h.rise hn
    rw [h1, h2] at this
    exact this
  cov := cov_swap h.cov (by
    rw [h1, h2, hw, List.map_append]
    exact (h.cov f (by simp)).write i x)
  pend := h.pend.add h.rise i x hn hw
/-- A file flushed. -/
theorem Rel.flush (h : Rel D room (L1 ++ f :: L2) cnt fails dead) (hn : f'.name = f.name) (h1 : f'.now = f.now) (h2 : f'.dur = f.now) (hw : f'.wr = []) :
    Rel { D with files := fset D.files f.name ⟨f.now, f.now⟩, pend := D.pend.filter fun x => !decide (x.1 = f.name) } room (L1 ++ f' :: L2) cnt fails dead where
  roomEq := h.roomEq
  roomB := h.roomB
  deadEq := h.deadEq
  cntEq := h.cntEq
  cntB := h.cntB
  failsB := h.failsB
  fuse := h.fuse
  rise := rise_swap h.rise hn
  many := by have := h.many; simpa using this
  perm := by
    have := perm_swap (f' := f') h.perm h.rise hn
    rw [h1, h2] at this
    exact this
  cov := cov_swap h.cov (by rw [h1, h2, hw]; exact Cov.self _)
  pend := h.pend.keep h.rise _ (fun x hx => by simp [hx]) hn (by rw [hw]; simp)
/-- A file cut. -/
theorem Rel.cut (h : Rel D room (L1 ++ f :: L2) cnt fails dead) (n : Nat) (hl : n ≤ f.now.length) (hn : f'.name = f.name) (h1 : f'.now = f.now.take n) (h2 : f'.dur = f.dur.take n) (hw : f'.wr = f.wr.filter fun r => !decide (n ≤ r.2.1)) :
    Rel { D with files := fset D.files f.name ⟨f.now.take n, f.dur.take n⟩, pend := D.pend.filter fun x => !(decide (x.1 = f.name) && decide (n ≤ x.2.1)) } room (L1 ++ f' :: L2) cnt fails dead where
  roomEq := h.roomEq
  roomB := h.roomB
  deadEq := h.deadEq
  cntEq := h.cntEq
  cntB := h.cntB
  failsB := h.failsB
  fuse := h.fuse
  rise := rise_swap h.rise hn
  many := by have := h.many; simpa using this
  perm := by
    have := perm_swap (f' := f') h.perm h.rise hn
    rw [h1, h2] at this
    exact this
  cov := cov_swap h.cov (by
    have := (h.cov f (by simp)).cut n hl
    rw [h1, h2, hw]
    rw [List.filter_map] at this
    exact this)
  pend := h.pend.keep h.rise _ (fun x hx => by simp [hx]) hn (by rw [hw]; simp)
/-- A file gone. -/
theorem Rel.remove (h : Rel D room (L1 ++ f :: L2) cnt fails dead) :
    Rel { D with files := fdel D.files f.name, pend := D.pend.filter fun x => !decide (x.1 = f.name) } room (L1 ++ L2) cnt fails dead where
  roomEq := h.roomEq
  roomB := h.roomB
  deadEq := h.deadEq
  cntEq := h.cntEq
  cntB := h.cntB
  failsB := h.failsB
  fuse := h.fuse
  rise := by
    have h' := h.rise
    rw [List.pairwise_append, List.pairwise_cons] at h'
    rw [List.pairwise_append]
    exact ⟨h'.1, h'.2.1.2, fun g hg g' hg' => h'.2.2 g hg g' (by simp [hg'])⟩
  many := by have := h.many; simp at this ⊢; omega
  perm := by
    have := fdel_perm h.perm f.name
    rw [show (L1 ++ f :: L2).map (fun f => (f.name, FileM.mk f.now f.dur)) = (L1 ++ f :: L2).map fmOf from rfl, fdel_map h.rise] at this
    exact this
  cov := fun g hg => h.cov g (mem_mid.2 (Or.inr (List.mem_append.1 hg)))
  pend := h.pend.remove h.rise
/-- A file made, where there was none. -/
theorem Rel.make (h : Rel D room (L1 ++ L2) cnt fails dead) (hm : (L1 ++ L2).length < 32) (ha : ∀ g ∈ L1, nmLt g.name f'.name) (hb : ∀ g ∈ L2, nmLt f'.name g.name) (h1 : f'.now = []) (h2 : f'.dur = []) (hw : f'.wr = []) :
    Rel { D with files := fdel D.files f'.name ++ [(f'.name, ⟨[], []⟩)], pend := D.pend.filter fun x => !decide (x.1 = f'.name) } room (L1 ++ f' :: L2) cnt fails dead := by
  have hno : ∀ g, (g ∈ L1 ∨ g ∈ L2) → g.name ≠ f'.name := fun g hg e => by
    rcases hg with hg | hg
    · exact nm_irrefl _ (e ▸ ha g hg)
    · exact nm_irrefl _ (e ▸ hb g hg)
  obtain ⟨q1, q2⟩ := h.pend.insert hno hw
  have hdel : fdel D.files f'.name = D.files := by
    unfold fdel
    rw [List.filter_eq_self]
    intro y hy
    obtain ⟨g, hg, rfl⟩ := List.mem_map.1 (h.perm.mem_iff.1 hy)
    simp [hno g (List.mem_append.1 hg)]
  rw [hdel, q2]
  refine ⟨h.roomEq, h.roomB, h.deadEq, h.cntEq, h.cntB, h.failsB, h.fuse, ?_, by simp at hm ⊢; omega, ?_, fun g hg => ?_, q1⟩
  · have h' := h.rise
    rw [List.pairwise_append] at h' ⊢
    rw [List.pairwise_cons]
    refine ⟨h'.1, ⟨hb, h'.2.1⟩, fun g hg g' hg' => ?_⟩
    rcases List.mem_cons.1 hg' with rfl | hg'
    · exact ha g hg
    · exact h'.2.2 g hg g' hg'
  · have e : fmOf f' = (f'.name, ⟨[], []⟩) := by rw [fmOf, h1, h2]
    show (D.files ++ [(f'.name, FileM.mk [] [])]).Perm ((L1 ++ f' :: L2).map fmOf)
    rw [List.map_append, List.map_cons, e]
    refine (h.perm.append_right _).trans ?_
    rw [show (L1 ++ L2).map (fun f => (f.name, FileM.mk f.now f.dur)) = (L1 ++ L2).map fmOf from rfl, List.map_append, List.append_assoc]
    exact List.Perm.append_left _ List.perm_append_comm
  · rcases mem_mid.1 hg with rfl | hg
    · rw [h1, h2, hw]
      exact Cov.self _
    · exact h.cov g (List.mem_append.2 hg)
/-- A file made anew. -/
theorem Rel.anew (h : Rel D room (L1 ++ f :: L2) cnt fails dead) (hn : f'.name = f.name) (h1 : f'.now = []) (h2 : f'.dur = []) (hw : f'.wr = []) :
    Rel { D with files := fdel D.files f.name ++ [(f.name, ⟨[], []⟩)], pend := D.pend.filter fun x => !decide (x.1 = f.name) } room (L1 ++ f' :: L2) cnt fails dead where
  roomEq := h.roomEq
  roomB := h.roomB
  deadEq := h.deadEq
  cntEq := h.cntEq
  cntB := h.cntB
  failsB := h.failsB
  fuse := h.fuse
  rise := rise_swap h.rise hn
  many := by have := h.many; simpa using this
  perm := by
    have e : fmOf f' = (f.name, ⟨[], []⟩) := by rw [fmOf, h1, h2, hn]
    show (fdel D.files f.name ++ [(f.name, FileM.mk [] [])]).Perm ((L1 ++ f' :: L2).map fmOf)
    have := fdel_perm h.perm f.name
    rw [show (L1 ++ f :: L2).map (fun f => (f.name, FileM.mk f.now f.dur)) = (L1 ++ f :: L2).map fmOf from rfl, fdel_map h.rise] at this
    refine (this.append_right _).trans ?_
    rw [List.map_append, List.map_append, List.map_cons, e, List.append_assoc]
    exact List.Perm.append_left _ List.perm_append_comm
  cov := cov_swap h.cov (by rw [h1, h2, hw]; exact Cov.self _)
  pend := h.pend.keep h.rise _ (fun x hx => by simp [hx]) hn (by rw [hw]; simp)
/-- The power goes. -/
theorem Rel.dies {L : List FR} (h : Rel D room L cnt fails dead) : Rel D.dies room L cnt fails true := ⟨h.roomEq, h.roomB, rfl, h.cntEq, h.cntB, h.failsB, (fun e => by cases e), h.rise, h.many, h.perm, h.cov, h.pend⟩
end
end Go.Proofs.Ytnhaidofblfopaa
