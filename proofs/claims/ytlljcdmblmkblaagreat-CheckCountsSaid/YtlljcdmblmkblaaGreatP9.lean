/-
  What the project's own Set answers (package table). Conditions: the table reads, no more than 6000 leaves; the place is an int, the entry's fields are numbers of their types.
-/
import Derived.Test.YtlljcdmblmkblaaGreatO9
import Derived.Test.YtlljcdmblmkblaaGreatMb
namespace Go.Proofs.YtlljcdmblmkblaaGreat
open Go.RowKit
set_option linter.unusedVariables false

/-- The boxes of Set. -/
def BoxS (X Y : Nat) (s r o : Value) (cs : Array Value) (w0 W : World) : Prop := Blk W X 36 #[s] ∧ Blk W (X + 1) 24 cs ∧ Blk W (X + 2) 36 #[r] ∧ Blk W Y 36 #[o] ∧ Below X w0 W ∧ X + 3 ≤ Y
section
variable {X Y : Nat} {s r o : Value} {cs : Array Value} {w0 W W' : World}
theorem BoxS.later (h : BoxS X Y s r o cs w0 W) (hb : Below W.heap.size W W') : BoxS X Y s r o cs w0 W' := ⟨h.1.later hb, h.2.1.later hb, h.2.2.1.later hb, h.2.2.2.1.later hb, h.2.2.2.2.1.trans (hb.mono (Nat.le_of_lt h.1.lt)), h.2.2.2.2.2⟩
/-- A row of the table's turns. -/
theorem BoxS.row (h : BoxS X Y s r o cs w0 W) {g : Nat} (hg : X + 3 ≤ g) (hY : g ≠ Y) (hr : W.grownBy W' (some g)) : BoxS X Y s r o cs w0 W' :=
  ⟨h.1.kept hr (fun e => by simp at e; omega), h.2.1.kept hr (fun e => by simp at e; omega), h.2.2.1.kept hr (fun e => by simp at e; omega), h.2.2.2.1.kept hr (fun e => by simp at e; omega), h.2.2.2.2.1.grown hr (Nat.le_of_lt h.1.lt) (fun k hk => by cases hk; omega), h.2.2.2.2.2⟩
theorem BoxS.out (h : BoxS X Y s r o cs w0 W) (v : Value) : BoxS X Y s r v cs w0 (W.setCell ⟨Y, 0, none⟩ v) :=
  ⟨h.1.other (by have := h.2.2.2.2.2; omega) _, h.2.1.other (by have := h.2.2.2.2.2; omega) _, h.2.2.1.other (by have := h.2.2.2.2.2; omega) _, h.2.2.2.1.set 0 v, h.2.2.2.2.1.setCell (by show X ≤ Y; have := h.2.2.2.2.2; omega) _, h.2.2.2.2.2⟩
theorem BoxS.res (h : BoxS X Y s r o cs w0 W) (v : Value) : BoxS X Y s v o cs w0 (W.setCell ⟨X + 2, 0, none⟩ v) :=
  ⟨h.1.other (by omega) _, h.2.1.other (by omega) _, h.2.2.1.set 0 v, h.2.2.2.1.other (by have := h.2.2.2.2.2; omega) _, h.2.2.2.2.1.setCell (by show X ≤ X + 2; omega) _, h.2.2.2.2.2⟩
end
theorem BoxS.first {w w1 : World} {s r o : Value} {cs : Array Value} (hb : Below (((w.alloc (.cells #[s] 36)).alloc (.cells cs 24)).alloc (.cells #[r] 36)).heap.size (((w.alloc (.cells #[s] 36)).alloc (.cells cs 24)).alloc (.cells #[r] 36)) w1) :
    BoxS w.heap.size w1.heap.size s r o cs w (w1.alloc (.cells #[o] 36)) := by
  have hs := hb.size
  rw [World.size_alloc, World.size_alloc, World.size_alloc] at hs
  have h1 : Blk w1 w.heap.size 36 #[s] := (((Blk.new w _ _).alloc _).alloc _).later hb
  have h2 : Blk w1 (w.heap.size + 1) 24 cs := (Blk.alloc (blk_next9 _ _ _ _ _) _).later hb
  have h3 : Blk w1 (w.heap.size + 2) 36 #[r] := by
    have := Blk.new ((w.alloc (.cells #[s] 36)).alloc (.cells cs 24)) 36 #[r]
    rw [World.size_alloc, World.size_alloc] at this
    exact Blk.later this hb
  refine ⟨h1.alloc _, h2.alloc _, h3.alloc _, Blk.new _ _ _, ?_, by omega⟩
  refine Below.alloc (Below.trans ?_ (hb.mono (by rw [World.size_alloc, World.size_alloc, World.size_alloc]; omega))) (by omega) _
  exact (((Below.refl _ _).alloc (Nat.le_refl _) _).alloc (by simp) _).alloc (by simp; omega) _
theorem BoxS.cells {X Y : Nat} {s r o a b c d e : Value} {w0 W : World} (h : BoxS X Y s r o #[a, b, c, d, e] w0 W) : W.cell? ⟨X, 0, none⟩ = some s ∧ (W.cell? ⟨X + 1, 0, none⟩ = some a ∧ W.cell? ⟨X + 1, 1, none⟩ = some b ∧ W.cell? ⟨X + 1, 2, none⟩ = some c ∧ W.cell? ⟨X + 1, 3, none⟩ = some d ∧ W.cell? ⟨X + 1, 4, none⟩ = some e) ∧ W.cell? ⟨X + 1 + 1, 0, none⟩ = some r ∧ W.frozen? ⟨X + 1 + 1, 0, none⟩ = false ∧ W.cell? ⟨Y, 0, none⟩ = some o ∧ W.frozen? ⟨Y, 0, none⟩ = false :=
  ⟨one_cell9 h.1, cells5 h.2.1, one_cell9 h.2.2.1, h.2.2.1.free 0, one_cell9 h.2.2.2.1, h.2.2.2.1.free 0⟩
/-- The outer row grows. -/
theorem BoxS.app {X Y : Nat} {s r o : Value} {cs : Array Value} {w0 W W' : World} (h : BoxS X Y s r o cs w0 W) {base n : Nat} {v : Value} {l : List LfD} (hq : OwnG cvD 68 1 W base v n l) (hb : X ≤ base) (hg : W.grownBy W' v.ownBlock) : BoxS X Y s r o cs w0 W' :=
  ⟨h.1.kept hg (h.1.not_row (by decide) hq), h.2.1.kept hg (h.2.1.not_row (by decide) hq), h.2.2.1.kept hg (h.2.2.1.not_row (by decide) hq), h.2.2.2.1.kept hg (h.2.2.2.1.not_row (by decide) hq), h.2.2.2.2.1.grown hg (Nat.le_of_lt h.1.lt) (fun k hk => Nat.le_trans hb (hq.1.lt k hk).1), h.2.2.2.2.2⟩
/-- A boxed table turns. -/
theorem TabQ.box {w w' : World} {base len cap : Nat} {a : Option Addr} {ds es : List LfD} (h : TabQ w base a len cap ds es) {Y : Nat} {cs : Array Value} (hY : Blk w Y 36 cs) (hg : w.grownBy w' (some Y)) : TabQ w' base a len cap ds es :=
  h.kept hg (fun k hk e => by cases e; exact hY.not_row (by decide) h.out hk.symm) (fun d hd k hk e => by cases e; exact hY.not_row (by decide) (h.leaf d hd).1 hk.symm)
/-- An absent leaf more. -/
theorem TabQ.nilMore {w w' : World} {base len cap : Nat} {a : Option Addr} {es : List LfD} (h : TabQ w base a len cap es es) {a' : Option Addr} {c' : Nat} (hO : OwnG cvD 68 1 w' base (.slice a' (len + 1) c') (len + 1) (es ++ [(none, 0, 0, [])])) (hg : w.grownBy w' (Value.slice a len cap).ownBlock) : TabQ w' base a' (len + 1) c' (es ++ [(none, 0, 0, [])]) (es ++ [(none, 0, 0, [])]) :=
  (h.push hO hg).addEs _ (LfO.none _ _) (fun _ _ _ _ e => by cases e)
theorem tb_set (es : List LfD) (j : Nat) (d : LfD) : tbOf (es.set j d) = (tbOf es).set j d.2.2.2 := by
  unfold tbOf
  rw [List.map_set]
/-- An entry goes into a leaf of the table. -/
theorem TabQ.storeEn {w : World} {base len cap : Nat} {a : Option Addr} {es : List LfD} (h : TabQ w base a len cap es es) (j : Nat) (d : LfD) (hd : es[j]? = some d) {b : Nat} (hb : d.1 = some ⟨b, 0, none⟩) (k : Nat) (hk : k < d.2.1) (x : En) (hx : EnOk x) :
    ∃ cur, w.heap[b]? = some (.cells cur 24 (0, 0)) ∧ k * 5 + (enV x).length ≤ cur.size ∧
      TabQ (w.setRow b (cur.toList.take (k * 5) ++ enV x ++ cur.toList.drop (k * 5 + (enV x).length)).toArray) base a len cap (es.set j (d.1, d.2.1, d.2.2.1, d.2.2.2.set k x)) (es.set j (d.1, d.2.1, d.2.2.1, d.2.2.2.set k x)) ∧
      w.grownBy (w.setRow b (cur.toList.take (k * 5) ++ enV x ++ cur.toList.drop (k * 5 + (enV x).length)).toArray) (some b) ∧ base ≤ b := by
  have hl := h.leaf d (List.mem_of_getElem? hd)
  obtain ⟨cur, k1, k2, k3, k4⟩ := hl.store hb k hk x hx
  have hbk : blkD d = some b := by unfold blkD; rw [hb]; rfl
  refine ⟨cur, k1, k2, (h.setEs j d (d.1, d.2.1, d.2.2.1, d.2.2.2.set k x) hd (by rw [hbk]; exact k4) rfl k3).same ?_, k4, (hl.lt hbk).1⟩
  refine List.ext_getElem? fun i => ?_
  rw [List.getElem?_map, List.getElem?_map, List.getElem?_set]
  by_cases hi : j = i
  · subst hi
    rw [if_pos rfl, hd]
    have := (List.getElem?_eq_some_iff.1 hd).1
    rw [if_pos this]
    rfl
  · rw [if_neg hi]
/-- A leaf of one's own goes into the table. -/
theorem TabQ.newLeaf {w : World} {base len cap g : Nat} {es : List LfD} (h : TabQ w base (some ⟨g, 0, none⟩) len cap es es) (j : Nat) (d : LfD) (hl : LfO w base d) (hnew : ∀ x ∈ es, ∀ b, blkD x = some b → blkD d ≠ some b) :
    TabQ (w.setCell ⟨g, j, none⟩ (.slice d.1 d.2.1 d.2.2.1)) base (some ⟨g, 0, none⟩) len cap (es.set j d) (es.set j d) ∧ w.grownBy (w.setCell ⟨g, j, none⟩ (.slice d.1 d.2.1 d.2.2.1)) (some g) :=
  (h.putEs j d hl hnew).setOut g j rfl d
theorem set_is9 {T : Tb} {e : En} (hf : fitsT T e) {I J R : Nat} (hI : I < 4096) (hJ : I / 8 = J) (hR : I % 8 = R) {T' : Tb} (hT : T' = (padT T J).set J ((full (tbAt T J)).set R e)) : wbT T' = setT T I e := by
  obtain ⟨c, h1, h2⟩ := hf
  rw [hT, ← hJ, ← hR]
  show setG T I e = _
  rw [setG_is h1 h2 hI]
  unfold setT
  rw [if_pos ⟨by omega, c, h1, h2⟩, Int.toNat_natCast]
theorem set_in9 {T : Tb} {e : En} {i : Int} (hf : fitsT T e) (hi : 0 ≤ i ∧ i < 4096) : ∃ c, rightT (setT T i e) 4096 c := by
  obtain ⟨c, h1, h2⟩ := hf
  exact ⟨c, (setT_at h1 h2 hi).1⟩
def lenOf9 (w : World) (Y : Nat) : Nat := match w.cell? ⟨Y, 0, none⟩ with | some (.slice _ l _) => l | _ => 0
theorem lenOf9_is {w : World} {Y l c : Nat} {a : Option Addr} (h : w.cell? ⟨Y, 0, none⟩ = some (.slice a l c)) : lenOf9 w Y = l := by unfold lenOf9; rw [h]
end Go.Proofs.YtlljcdmblmkblaaGreat
