/-
  What the project's own Cut answers (package table). Conditions: the table reads, no more than 6000 leaves; the place is an int.
-/
import Derived.Test.YtlljcdmblmkblaaGreatP9
namespace Go.Proofs.YtlljcdmblmkblaaGreat
open Go.RowKit
set_option linter.unusedVariables false

theorem clear_none9 {P : Program} {w : World} {t e ty : TypeId} {z : Value} (ht : P.underlying t = some (.slice e)) (hv : ∀ w, (zeroValue e).run P w = .ok z w) (a : Option Addr) (c : Nat) : (Builtin.clear_ #[t] ty #[.slice a 0 c]).run P w = .ok (.tuple #[]) w := by
  cases a <;> simp [Builtin.clear_, run_underlying ht]
theorem zeroV9 : ∀ w, (zeroValue 24).run Tryz.prog w = .ok (.agg (enV enZ).toArray) w := fun w => by kernel_rfl
/-- The entries of a leaf from K on become none. -/
theorem LfO.clear {w : World} {base : Nat} {d : LfD} (h : LfO w base d) {b : Nat} (hb : d.1 = some ⟨b, 0, Option.none⟩) (K O c : Nat) (hK : K ≤ d.2.1) (hO : O = 0 + K * 5 ∨ K = d.2.1) (ty : TypeId) :
    ∃ w', (Builtin.clear_ #[68] ty #[.slice (some ⟨b, O, Option.none⟩) (d.2.1 - K) c]).run Tryz.prog w = .ok (.tuple #[]) w' ∧ LfO w' base (d.1, d.2.1, d.2.2.1, cutL d.2.2.2 K) ∧ w.grownBy w' (some b) := by
  obtain ⟨al, ll, cl, xs⟩ := d
  obtain ⟨h1, h2⟩ := h
  dsimp only at hb hK hO h1 h2 ⊢
  subst hb
  have hl : xs.length = ll := h1.2.1
  by_cases hk : K = ll
  · subst hk
    refine ⟨w, ?_, ⟨?_, fun x hx => ?_⟩, World.grownBy.refl _ _⟩
    · rw [Nat.sub_self]
      exact clear_none9 Tryz.underlying68 zeroV9 _ _
    · have e : cutL xs K = xs := by unfold cutL; rw [← hl]; simp
      rw [e]
      exact h1
    · have e : cutL xs K = xs := by unfold cutL; rw [← hl]; simp
      rw [e] at hx
      exact h2 x hx
  · obtain rfl : O = K * 5 := by omega
    have hz := zero_en (ll - K)
    have hzl : ((List.replicate (ll - K) enZ).flatMap enV).length = (ll - K) * 5 := by rw [flat_len enV_len, List.length_replicate]
    obtain ⟨cur, g1, g2, g3, g4⟩ := own_mid enV_len h1 (M' := cutL xs K) (K * 5) ((List.replicate (ll - K) enZ).flatMap enV) (by rw [cutL_len]; exact hl) (by
      have hs : xs.flatMap enV = (xs.take K).flatMap enV ++ (xs.drop K).flatMap enV := by rw [← List.flatMap_append, List.take_append_drop]
      have hl1 : ((xs.take K).flatMap enV).length = K * 5 := by rw [flat_len enV_len, List.length_take, Nat.min_eq_left (by omega)]
      have e1 : (xs.flatMap enV).take (K * 5) = (xs.take K).flatMap enV := by
        conv => lhs; rw [hs]
        rw [List.take_append_of_le_length (by omega), List.take_of_length_le (by omega)]
      have e2 : (xs.flatMap enV).drop (K * 5 + (ll - K) * 5) = [] := List.drop_eq_nil_of_le (by rw [flat_len enV_len]; omega)
      unfold cutL
      rw [List.flatMap_append, hzl, e1, e2, List.append_nil, hl]) (by rw [hzl]; omega)
    obtain ⟨_, hcl⟩ := run_clear9 (P := Tryz.prog) w 68 24 ty (.agg (enV enZ).toArray) 5 Tryz.underlying68 zeroV9 rfl (fun u hu => enV_one enZ u (by simpa [Value.cells] using hu)) b (K * 5) (ll - K) c cur (by omega) g1 (by rw [← hzl]; exact g2)
    rw [hz] at hcl
    refine ⟨_, hcl, ⟨g3, fun x hx => ?_⟩, g4⟩
    unfold cutL at hx
    rcases List.mem_append.1 hx with hx | hx
    · exact h2 x (List.mem_of_mem_take hx)
    · obtain ⟨_, rfl⟩ := List.mem_replicate.1 hx
      unfold EnOk enZ I64
      dsimp only
      omega
def cutD (K : Nat) (d : LfD) : LfD := (d.1, d.2.1, d.2.2.1, cutL d.2.2.2 K)
def cutsD (es : List LfD) (N j : Nat) : List LfD := es.mapIdx fun i d => if i < j then cutD (belowN N i) d else d
theorem cutsD_zero (es : List LfD) (N : Nat) : cutsD es N 0 = es := by
  unfold cutsD
  refine List.ext_getElem? fun i => ?_
  rw [List.getElem?_mapIdx]
  cases es[i]? <;> simp
theorem cutsD_at (es : List LfD) (N j : Nat) : (cutsD es N j)[j]? = es[j]? := by
  unfold cutsD
  rw [List.getElem?_mapIdx]
  cases es[j]? <;> simp
theorem cutsD_succ (es : List LfD) (N j : Nat) (d : LfD) (h : es[j]? = some d) : (cutsD es N j).set j (cutD (belowN N j) d) = cutsD es N (j + 1) := by
  unfold cutsD
  refine List.ext_getElem? fun i => ?_
  rw [List.getElem?_set, List.getElem?_mapIdx, List.getElem?_mapIdx, List.length_mapIdx]
  by_cases hi : j = i
  · subst hi
    have := (List.getElem?_eq_some_iff.1 h).1
    rw [if_pos rfl, if_pos this, h]
    simp
  · rw [if_neg hi]
    cases es[i]? with
    | none => rfl
    | some x =>
      simp only [Option.map_some]
      by_cases h1 : i < j
      · rw [if_pos h1, if_pos (by omega)]
      · rw [if_neg h1, if_neg (by omega)]
theorem cutsD_skip (es : List LfD) (N j : Nat) (d : LfD) (h : es[j]? = some d) (h0 : d.2.2.2 = []) : cutsD es N j = cutsD es N (j + 1) := by
  rw [← cutsD_succ es N j d h]
  have e : cutD (belowN N j) d = d := by
    obtain ⟨al, ll, cl, xs⟩ := d
    dsimp only at h0
    subst h0
    unfold cutD
    dsimp only
    rw [cutL_nil]
  rw [e]
  refine List.ext_getElem? fun i => ?_
  rw [List.getElem?_set]
  by_cases hi : j = i
  · subst hi
    rw [if_pos rfl, cutsD_at, h]
    have := (List.getElem?_eq_some_iff.1 h).1
    rw [if_pos (by unfold cutsD; rw [List.length_mapIdx]; exact this)]
  · rw [if_neg hi]
theorem cutsD_map (es : List LfD) (N j : Nat) : (cutsD es N j).map cvD = es.map cvD := by
  unfold cutsD
  refine List.ext_getElem? fun i => ?_
  rw [List.getElem?_map, List.getElem?_map, List.getElem?_mapIdx]
  cases es[i]? with
  | none => rfl
  | some x =>
    simp only [Option.map_some]
    split <;> rfl
theorem cutsD_all (es : List LfD) (N : Nat) : tbOf (cutsD es N es.length) = cutsT (tbOf es) N := by
  unfold cutsD cutsT tbOf
  refine List.ext_getElem? fun i => ?_
  rw [List.getElem?_map, List.getElem?_mapIdx, List.getElem?_mapIdx, List.getElem?_map]
  cases h : es[i]? with
  | none => rfl
  | some x =>
    have := (List.getElem?_eq_some_iff.1 h).1
    simp [cutD, this]
/-- The boxes of Cut. -/
def BoxC (X Y : Nat) (s r o : Value) (w0 W : World) : Prop := Blk W X 36 #[s] ∧ Blk W (X + 1) 36 #[r] ∧ Blk W Y 36 #[o] ∧ Below X w0 W ∧ X + 2 ≤ Y
section
variable {X Y : Nat} {s r o : Value} {w0 W W' : World}
theorem BoxC.later (h : BoxC X Y s r o w0 W) (hb : Below W.heap.size W W') : BoxC X Y s r o w0 W' := ⟨h.1.later hb, h.2.1.later hb, h.2.2.1.later hb, h.2.2.2.1.trans (hb.mono (Nat.le_of_lt h.1.lt)), h.2.2.2.2⟩
theorem BoxC.row (h : BoxC X Y s r o w0 W) {g : Nat} (hg : X + 2 ≤ g) (hY : g ≠ Y) (hr : W.grownBy W' (some g)) : BoxC X Y s r o w0 W' :=
  ⟨h.1.kept hr (fun e => by simp at e; omega), h.2.1.kept hr (fun e => by simp at e; omega), h.2.2.1.kept hr (fun e => by simp at e; omega), h.2.2.2.1.grown hr (Nat.le_of_lt h.1.lt) (fun k hk => by cases hk; omega), h.2.2.2.2⟩
theorem BoxC.res (h : BoxC X Y s r o w0 W) (v : Value) : BoxC X Y s v o w0 (W.setCell ⟨X + 1, 0, none⟩ v) :=
  ⟨h.1.other (by omega) _, h.2.1.set 0 v, h.2.2.1.other (by have := h.2.2.2.2; omega) _, h.2.2.2.1.setCell (by show X ≤ X + 1; omega) _, h.2.2.2.2⟩
theorem BoxC.cells (h : BoxC X Y s r o w0 W) : W.cell? ⟨X, 0, none⟩ = some s ∧ W.cell? ⟨X + 1, 0, none⟩ = some r ∧ W.frozen? ⟨X + 1, 0, none⟩ = false ∧ W.cell? ⟨Y, 0, none⟩ = some o ∧ W.frozen? ⟨Y, 0, none⟩ = false :=
  ⟨one_cell9 h.1, one_cell9 h.2.1, h.2.1.free 0, one_cell9 h.2.2.1, h.2.2.1.free 0⟩
theorem BoxC.first {w w1 : World} {s r o : Value} (hb : Below ((w.alloc (.cells #[s] 36)).alloc (.cells #[r] 36)).heap.size ((w.alloc (.cells #[s] 36)).alloc (.cells #[r] 36)) w1) :
    BoxC w.heap.size w1.heap.size s r o w (w1.alloc (.cells #[o] 36)) := by
  have hs := hb.size
  rw [World.size_alloc, World.size_alloc] at hs
  have h1 : Blk w1 w.heap.size 36 #[s] := ((Blk.new w _ _).alloc _).later hb
  have h2 : Blk w1 (w.heap.size + 1) 36 #[r] := Blk.later (blk_next9 _ _ _ _ _) hb
  refine ⟨h1.alloc _, h2.alloc _, Blk.new _ _ _, ?_, by omega⟩
  refine Below.alloc (Below.trans ?_ (hb.mono (by rw [World.size_alloc, World.size_alloc]; omega))) (by omega) _
  exact ((Below.refl _ _).alloc (Nat.le_refl _) _).alloc (by simp) _
end
end Go.Proofs.YtlljcdmblmkblaaGreat
