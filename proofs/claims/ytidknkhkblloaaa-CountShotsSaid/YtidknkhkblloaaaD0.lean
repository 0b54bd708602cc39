/-
  The lines and counts of a meta with a shot more (layer 9). Conditions: none.
-/
import Derived.Test.YtidknkhkblloaaaA0
namespace Go.Proofs.Ytidknkhkblloaaa
open Go.RowKit
set_option linter.unusedVariables false

theorem sg_lines (a b : Int) (T : Tb) : (tabLines a T).map sgOf = (tabLines b T).map sgOf := by
  unfold tabLines linesTo
  rw [List.map_filterMap, List.map_filterMap]
  congr 1
  funext k
  unfold lnAt
  split <;> rfl
theorem allLines_more (T T' : Tb) (S : List Tb) : allLines T (S ++ [T']) = allLines T S ++ tabLines (S.length : Int) T' := by
  unfold allLines shotsTo
  rw [List.length_append, List.length_singleton, List.range_succ, List.flatMap_append, ← List.append_assoc]
  have h1 : (List.range S.length).flatMap (fun (i : Nat) => tabLines (i : Int) (tbNth (S ++ [T']) i)) = (List.range S.length).flatMap fun (i : Nat) => tabLines (i : Int) (tbNth S i) := by
    rw [List.flatMap_def, List.flatMap_def]
    congr 1
    refine List.map_congr_left fun i hi => ?_
    have hi := List.mem_range.1 hi
    unfold tbNth
    rw [List.getD_eq_getElem?_getD, List.getElem?_append_left hi, ← List.getD_eq_getElem?_getD]
  have h2 : tbNth (S ++ [T']) S.length = T' := by
    unfold tbNth
    rw [List.getD_eq_getElem?_getD, List.getElem?_append_right (Nat.le_refl _), Nat.sub_self]
    rfl
  rw [h1]
  simp [h2]
theorem cntS_append (A B : List Sg) (k : Nat) : cntS (A ++ B) k = cntS A k + cntS B k := by simp [cntS]
theorem ofL_high (L : List Ln) {k : Nat} (hk : 2 ≤ k) : ofL L k = cntS (L.map sgOf) k := by
  show onS (0, 2) k + cntS (L.map sgOf) k = _
  unfold onS
  rw [if_neg (by dsimp only; omega)]
  omega
theorem of_more (T : Tb) (S : List Tb) {k : Nat} (hk : 2 ≤ k) : ofL (allLines T (S ++ [T])) k = ofL (allLines T S) k + ofL (allLines T []) k := by
  rw [ofL_high _ hk, ofL_high _ hk, ofL_high _ hk, allLines_more, List.map_append, cntS_append, sg_lines _ (-1)]
  have e : allLines T [] = tabLines (-1) T := by
    unfold allLines shotsTo
    simp
  rw [e]
theorem len_more (T : Tb) (S : List Tb) : (allLines T (S ++ [T])).length = (allLines T S).length + (allLines T []).length := by
  rw [allLines_more, List.length_append]
  have e : allLines T [] = tabLines (-1) T := by
    unfold allLines shotsTo
    simp
  have := congrArg List.length (sg_lines (S.length : Int) (-1) T)
  rw [List.length_map, List.length_map] at this
  rw [e, this]
theorem right_more {T : Tb} {S S1 : List Sh} (h : RightX T S) (h1 : S1.map shT = S.map shT ++ [T]) : RightX T S1 := by
  obtain ⟨c, h2, h3⟩ := h
  refine ⟨c, h2, fun d hd => ?_⟩
  have hm : shT d ∈ S1.map shT := List.mem_map.2 ⟨d, hd, rfl⟩
  rw [h1] at hm
  rcases List.mem_append.1 hm with hm | hm
  · obtain ⟨x, hx, e⟩ := List.mem_map.1 hm
    rw [← e]
    exact h3 x hx
  · obtain rfl : shT d = T := by simpa using hm
    exact h2
theorem right_nil0 {T : Tb} {S : List Sh} (h : RightX T S) : RightX T [] := by
  obtain ⟨c, h2, _⟩ := h
  exact ⟨c, h2, fun d hd => by cases hd⟩
theorem ShsR.nil (w : World) : ShsR w none 0 [] := ⟨⟨rfl, by omega, Or.inl rfl⟩, fun d hd => by cases hd⟩
/-- Three metas in their boxes. -/
structure S3 (X N : Nat) (w W : World) (cm cn co : Array Value) : Prop where
  m : Blk W X 29 cm
  n : Blk W N 29 cn
  o : Blk W (N + 1) 29 co
  dat : Below X w W
theorem S3.later {X N : Nat} {w W W' : World} {cm cn co : Array Value} (h : S3 X N w W cm cn co) (hb : Below W.heap.size W W') : S3 X N w W' cm cn co :=
  ⟨h.m.later hb, h.n.later hb, h.o.later hb, h.dat.trans (hb.mono (Nat.le_of_lt h.m.lt))⟩
theorem S3.first {w W : World} {cm : Array Value} (h : RtS w W cm) (cn co : Array Value) (i : Nat) (v : Value) : S3 w.heap.size W.heap.size w (((W.alloc (.cells cn 29)).alloc (.cells co 29)).setCell ⟨W.heap.size + 1, i, none⟩ v) cm cn (co.setIfInBounds i v) := by
  have h1 : Blk ((W.alloc (.cells cn 29)).alloc (.cells co 29)) (W.heap.size + 1) 29 co := by
    have := Blk.new (W.alloc (.cells cn 29)) 29 co
    rwa [World.size_alloc] at this
  have hlt := h.box.lt
  have hs := h.below.size
  exact ⟨((h.box.alloc _).alloc _).other (by omega) _, ((Blk.new W _ _).alloc _).other (by omega) _, h1.set i v, ((h.below.alloc hs _).alloc (by simp; omega) _).setCell (by show w.heap.size ≤ W.heap.size + 1; omega) v⟩
end Go.Proofs.Ytidknkhkblloaaa
