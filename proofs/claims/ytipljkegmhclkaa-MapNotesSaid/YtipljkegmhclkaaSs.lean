/-
  What the reference's Copy answers: a meta anew (layer 12). Conditions: the meta reads.
-/
import Derived.Test.YtipljkegmhclkaaSr
namespace Go.Proofs.Ytipljkegmhclkaa
open Go.RowKit
set_option linter.unusedVariables false

/-- Three boxes of metas, all else below them as it was. -/
structure Cp3 (w0 : World) (cs rs os : Array Value) (W : World) : Prop where
  m : Blk W w0.heap.size 29 cs
  r : Blk W (w0.heap.size + 1) 29 rs
  o : Blk W (w0.heap.size + 2) 29 os
  dat : Below w0.heap.size w0 W
section
variable {w0 W W' : World} {cs rs os : Array Value}
theorem Cp3.size (h : Cp3 w0 cs rs os W) : w0.heap.size + 3 ≤ W.heap.size := h.o.lt
theorem Cp3.later (h : Cp3 w0 cs rs os W) (hb : Below W.heap.size W W') : Cp3 w0 cs rs os W' := ⟨h.m.later hb, h.r.later hb, h.o.later hb, h.dat.trans (hb.mono h.dat.size)⟩
theorem Cp3.out (h : Cp3 w0 cs rs os W) (i : Nat) (v : Value) : Cp3 w0 cs rs (os.setIfInBounds i v) (W.setCell ⟨w0.heap.size + 2, i, none⟩ v) := ⟨h.m.other (by omega) _, h.r.other (by omega) _, h.o.set i v, h.dat.setCell (by show w0.heap.size ≤ w0.heap.size + 2; omega) v⟩
theorem Cp3.row (h : Cp3 w0 cs rs os W) {row : Option Nat} (hg : W.grownBy W' row) (hr : ∀ k, row = some k → w0.heap.size + 3 ≤ k) : Cp3 w0 cs rs os W' :=
  ⟨h.m.kept hg (fun e => by have := hr _ e.symm; omega), h.r.kept hg (fun e => by have := hr _ e.symm; omega), h.o.kept hg (fun e => by have := hr _ e.symm; omega), h.dat.grown hg h.dat.size fun k hk => by have := hr k hk; omega⟩
theorem Cp3.first (w : World) (cs rs os : Array Value) : Cp3 w cs rs os (((w.alloc (.cells cs 29)).alloc (.cells rs 29)).alloc (.cells os 29)) := by
  have h2 : Blk (((w.alloc (.cells cs 29)).alloc (.cells rs 29)).alloc (.cells os 29)) (w.heap.size + 2) 29 os := by
    have := Blk.new ((w.alloc (.cells cs 29)).alloc (.cells rs 29)) 29 os
    rwa [World.size_alloc, World.size_alloc] at this
  exact ⟨((Blk.new w _ _).alloc _).alloc _, blk_next.alloc _, h2, (((Below.refl _ _).alloc (Nat.le_refl _) _).alloc (by simp) _).alloc (by simp; omega) _⟩
end
/-- ... a table and shots of one's own. -/
structure Rc3 (w0 : World) (H : Nat) (cs rs os : Array Value) (a1 : Option Addr) (n0 c1 : Nat) (T : Tb) (pa : Option Addr) (pc j : Nat) (S : List ShM) (L : List Sh) (W : World) : Prop where
  cp : Cp3 w0 cs rs os W
  T : TabF W (w0.heap.size + 3) (Iv w0.heap.size H) a1 n0 c1 T
  row : OwnG shV 62 3 W (w0.heap.size + 3) (.slice pa j pc) j L
  tabs : ∀ d ∈ L, TabF W (w0.heap.size + 3) (From H) d.2.2.1 d.2.2.2.1 d.2.2.2.2.1 (shT d)
  is : L.map shM = S.take j
  hH : H ≤ W.heap.size
section
variable {w0 W W' : World} {H : Nat} {cs rs os : Array Value} {a1 : Option Addr} {n0 c1 : Nat} {T : Tb} {pa : Option Addr} {pc j : Nat} {S : List ShM} {L : List Sh}
theorem Rc3.later (h : Rc3 w0 H cs rs os a1 n0 c1 T pa pc j S L W) (hb : Below W.heap.size W W') : Rc3 w0 H cs rs os a1 n0 c1 T pa pc j S L W' :=
  have k := KeepL.later L6 hb
  ⟨h.cp.later hb, h.T.keep (by decide) (by decide) k, h.row.keep (L := L6) (by decide) k, fun d hd => (h.tabs d hd).keep (L := L6) (by decide) (by decide) k, h.is, Nat.le_trans h.hH hb.size⟩
/-- A cell of a box of a shot that lies apart from the row. -/
theorem Rc3.shot (h : Rc3 w0 H cs rs os a1 n0 c1 T pa pc j S L W) {Y : Nat} {ct : Array Value} (hY : Blk W Y 62 ct) (h1 : w0.heap.size + 3 ≤ Y) (h2 : (Value.slice pa j pc).ownBlock ≠ some Y) (i : Nat) (v : Value) : Rc3 w0 H cs rs os a1 n0 c1 T pa pc j S L (W.setCell ⟨Y, i, none⟩ v) :=
  have hg := grownBy_setCell4 W Y i v
  have k := hY.keepL (L := L5) (by decide) hg
  ⟨h.cp.row hg (fun k hk => by cases hk; exact h1), h.T.keep (by decide) (by decide) k, h.row.kept' hg (fun k hk e => h2 (hk.trans e.symm)), fun d hd => (h.tabs d hd).keep (L := L5) (by decide) (by decide) k, h.is, by rw [World.size_setCell]; exact h.hH⟩
/-- The append of a shot. -/
theorem Rc3.push (h : Rc3 w0 H cs rs os a1 n0 c1 T pa pc j S L W) {d : Sh} (hd : TabF W (w0.heap.size + 3) (From H) d.2.2.1 d.2.2.2.1 d.2.2.2.2.1 (shT d)) (hS : S[j]? = some (shM d)) {pa' : Option Addr} {pc' : Nat} (hO : OwnG shV 62 3 W' (w0.heap.size + 3) (.slice pa' (j + 1) pc') (j + 1) (L ++ [d])) (hg : W.grownBy W' (Value.slice pa j pc).ownBlock) (v : Value) :
    Rc3 w0 H cs rs (os.setIfInBounds 4 v) a1 n0 c1 T pa' pc' (j + 1) S (L ++ [d]) (W'.setCell ⟨w0.heap.size + 2, 4, none⟩ v) := by
  have k1 := OwnG.keepL (L := L5) h.row (by decide) hg
  have c1 := h.cp.row hg (fun k hk => (h.row.1.lt k hk).1)
  have hg2 := grownBy_setCell4 W' (w0.heap.size + 2) 4 v
  have k2 := c1.o.keepL (L := L6) (by decide) hg2
  have kk := k1.trans (k2.weak (L' := L5) (by decide))
  refine ⟨c1.out 4 v, h.T.keep (by decide) (by decide) kk, hO.keep (L := L6) (by decide) k2, fun x hx => ?_, ?_, by rw [World.size_setCell]; exact Nat.le_trans h.hH hg.size⟩
  · rcases List.mem_append.1 hx with hx | hx
    · exact (h.tabs x hx).keep (L := L5) (by decide) (by decide) kk
    · obtain rfl : x = d := by simpa using hx
      exact hd.keep (L := L5) (by decide) (by decide) kk
  · rw [List.map_append, h.is, List.take_add_one, hS]
    rfl
end
end Go.Proofs.Ytipljkegmhclkaa
