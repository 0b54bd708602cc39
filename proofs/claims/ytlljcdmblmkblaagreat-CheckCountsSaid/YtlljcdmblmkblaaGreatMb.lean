/-
  What layer 15 needs, part 2: bytes, sums, unpacking, entries, tables, counts, metas, copies, check. Conditions: stated at each.
-/
import Derived.Test.YtlljcdmblmkblaaGreatMa
import Derived.Laws.CopyRow
import Derived.Deep.MidRow
import Derived.Deep.Slices
import Derived.Lib.SmallJoins
import Derived.RegionTactic
import Derived.Deep.QuietTactic
import Derived.BigQuiet
import Derived.Deep.RegionHeld3
import Derived.RegionCalls
import Derived.Deep.SlicePairs
import Derived.RangeFuncNested
import Derived.RangeFuncBound
import Derived.RangeFuncLeaves
import Derived.Shelf.Abstract
import Derived.OwnWalkIn
import Derived.TacticsInMore
import Derived.LoopNIn
import Derived.LoopIn
namespace Go.Proofs.YtlljcdmblmkblaaGreat
open Go.RowKit
set_option linter.unusedVariables false

/-- A leaf as its slice says it: where it lies, how long, how much room, its entries. -/
abbrev LfD := Option Addr × Nat × Nat × List En
def cvD (d : LfD) : List Value := [.slice d.1 d.2.1 d.2.2.1]
theorem en_rowed : Rowed Tryz.prog 68 24 5 40 enV where
  under := Tryz.underlying68
  info := by
    have h : (Tryz.prog.info? 24).map (fun i => (i.zero.map (fun z => z.cells.size), i.size, i.bytes)) = some (some 5, 5, 40) := by kernel_rfl
    obtain ⟨i, hi, he⟩ := Option.map_eq_some_iff.1 h
    simp only [Prod.mk.injEq] at he
    obtain ⟨z, hz, hzs⟩ := Option.map_eq_some_iff.1 he.1
    exact ⟨i, z, hi, hz, he.2.1, he.2.2, hzs⟩
  pos := by decide
  small := by decide
  len := enV_len
  one := enV_one
theorem lf_rowed : Rowed Tryz.prog 34 68 1 24 cvD where
  under := Tryz.underlying34
  info := by
    have h : (Tryz.prog.info? 68).map (fun i => (i.zero.map (fun z => z.cells.size), i.size, i.bytes)) = some (some 1, 1, 24) := by kernel_rfl
    obtain ⟨i, hi, he⟩ := Option.map_eq_some_iff.1 h
    simp only [Prod.mk.injEq] at he
    obtain ⟨z, hz, hzs⟩ := Option.map_eq_some_iff.1 he.1
    exact ⟨i, z, hi, hz, he.2.1, he.2.2, hzs⟩
  pos := by decide
  small := by decide
  len := fun _ => rfl
  one := fun x u hu => by
    simp only [cvD, List.mem_singleton] at hu
    subst hu
    rfl
/-- A leaf reads. -/
def LfR (w : World) (d : LfD) : Prop := Reads enV w d.1 d.2.1 d.2.2.2 ∧ d.2.1 ≤ d.2.2.1 ∧ (d.1 = none → d.2.2.1 = 0) ∧ ∀ x ∈ d.2.2.2, EnOk x
/-- A table reads. -/
def TabR (w : World) (a : Option Addr) (len : Nat) (ds : List LfD) : Prop := Reads cvD w a len ds ∧ ∀ d ∈ ds, LfR w d
def tbOf (ds : List LfD) : Tb := ds.map (·.2.2.2)
theorem LfR.later {w w' : World} {d : LfD} (h : LfR w d) (hb : Below w.heap.size w w') : LfR w' d := ⟨h.1.later hb, h.2⟩
theorem TabR.later {w w' : World} {a : Option Addr} {len : Nat} {ds : List LfD} (h : TabR w a len ds) (hb : Below w.heap.size w w') : TabR w' a len ds := ⟨h.1.later hb, fun d hd => (h.2 d hd).later hb⟩
theorem TabR.len {w : World} {a : Option Addr} {len : Nat} {ds : List LfD} (h : TabR w a len ds) : ds.length = len := h.1.1
theorem TabR.tlen {w : World} {a : Option Addr} {len : Nat} {ds : List LfD} (h : TabR w a len ds) : (tbOf ds).length = len := by
  unfold tbOf
  rw [List.length_map]
  exact h.1.1
theorem LfR.len {w : World} {d : LfD} (h : LfR w d) : d.2.2.2.length = d.2.1 := h.1.1
/-- The leaf at a place. -/
theorem TabR.at {w : World} {a : Option Addr} {len : Nat} {ds : List LfD} (h : TabR w a len ds) (i : Nat) (hi : i < len) :
    ∃ b off al ll cl xs, a = some ⟨b, off, none⟩ ∧ w.cell? ⟨b, off + i, none⟩ = some (.slice al ll cl) ∧ LfR w (al, ll, cl, xs) ∧ tbAt (tbOf ds) i = xs ∧ ds[i]? = some (al, ll, cl, xs) := by
  obtain ⟨b, off, rfl⟩ := h.1.lies (by omega)
  have hl := h.len
  have hd : ds[i]? = some ds[i] := List.getElem?_eq_getElem (by omega)
  have hc := h.1.cellAt lf_rowed i 0 ds[i] _ hd rfl
  rw [Nat.mul_one, Nat.add_zero] at hc
  refine ⟨b, off, ds[i].1, ds[i].2.1, ds[i].2.2.1, ds[i].2.2.2, rfl, hc, h.2 _ (List.getElem_mem _), ?_, hd⟩
  unfold tbAt tbOf
  rw [List.getD_eq_getElem?_getD, List.getElem?_map, hd]
  rfl
/-- The entry at a place of a leaf. -/
theorem LfR.at {w : World} {d : LfD} (h : LfR w d) (k : Nat) (hk : k < d.2.1) : ∃ b off, d.1 = some ⟨b, off, none⟩ ∧ EnOk (lfAt d.2.2.2 k) ∧
    w.cell? ⟨b, off + k * 5, none⟩ = some (.int .i64 (lfAt d.2.2.2 k).1) ∧ w.cell? ⟨b, off + k * 5 + 1, none⟩ = some (.int .i64 (lfAt d.2.2.2 k).2.1) ∧ w.cell? ⟨b, off + k * 5 + 2, none⟩ = some (.int .i64 (lfAt d.2.2.2 k).2.2.1) ∧
    w.cell? ⟨b, off + k * 5 + 3, none⟩ = some (.int .i64 (lfAt d.2.2.2 k).2.2.2.1) ∧ w.cell? ⟨b, off + k * 5 + 4, none⟩ = some (.int .u32 (lfAt d.2.2.2 k).2.2.2.2) := by
  obtain ⟨al, ll, cl, xs⟩ := d
  obtain ⟨h1, h2, h3, h4⟩ := h
  dsimp only at h1 h2 h3 h4 hk ⊢
  obtain ⟨b, off, rfl⟩ := h1.lies (by omega)
  have hl := h1.1
  have hx : xs[k]? = some (lfAt xs k) := by rw [lfAt_in (by omega), List.getElem?_eq_getElem (by omega)]
  have hm : lfAt xs k ∈ xs := by rw [lfAt_in (by omega)]; exact List.getElem_mem _
  refine ⟨b, off, rfl, h4 _ hm, ?_, ?_, ?_, ?_, ?_⟩
  · have := h1.cellAt en_rowed k 0 _ _ hx rfl
    exact this
  · have := h1.cellAt en_rowed k 1 _ _ hx rfl
    rwa [← Nat.add_assoc] at this
  · have := h1.cellAt en_rowed k 2 _ _ hx rfl
    rwa [← Nat.add_assoc] at this
  · have := h1.cellAt en_rowed k 3 _ _ hx rfl
    rwa [← Nat.add_assoc] at this
  · have := h1.cellAt en_rowed k 4 _ _ hx rfl
    rwa [← Nat.add_assoc] at this
theorem blk_next9 (w : World) (t t' : TypeId) (cs cs' : Array Value) : ((w.alloc (.cells cs t)).alloc (.cells cs' t')).heap[w.heap.size + 1]? = some (.cells cs' t' (0, 0)) := by
  have := Blk.new (w.alloc (.cells cs t)) t' cs'
  rwa [World.size_alloc] at this
theorem tbl_size : (Tryz.prog.info? 36).map (·.size) = some 1 := by kernel_rfl
end Go.Proofs.YtlljcdmblmkblaaGreat
namespace Go.Proofs.YtlljcdmblmkblaaGreat
open Go.RowKit
set_option linter.unusedVariables false

/-- The leaf's own block. -/
def blkD (d : LfD) : Option Nat := (Value.slice d.1 d.2.1 d.2.2.1).ownBlock
/-- A leaf of the call's own. -/
def LfO (w : World) (base : Nat) (d : LfD) : Prop := OwnG enV 24 5 w base (.slice d.1 d.2.1 d.2.2.1) d.2.1 d.2.2.2 ∧ ∀ x ∈ d.2.2.2, EnOk x
theorem LfO.reads {w : World} {base : Nat} {d : LfD} (h : LfO w base d) : LfR w d := by
  obtain ⟨h1, h2, h3⟩ := h.1.reads en_rowed
  exact ⟨h1, h3, h2, h.2⟩
theorem LfO.kept {w w' : World} {base : Nat} {d : LfD} (h : LfO w base d) {row : Option Nat} (hg : w.grownBy w' row) (hne : ∀ k, blkD d = some k → row ≠ some k) : LfO w' base d := ⟨h.1.kept' hg hne, h.2⟩
theorem LfO.later {w w' : World} {base : Nat} {d : LfD} (h : LfO w base d) (hb : Below w.heap.size w w') : LfO w' base d := h.kept (grown_of_below hb) (fun k _ e => by cases e)
theorem LfO.lt {w : World} {base : Nat} {d : LfD} (h : LfO w base d) {b : Nat} (hb : blkD d = some b) : base ≤ b ∧ b < w.heap.size := h.1.1.lt b hb
theorem LfO.none (w : World) (base : Nat) : LfO w base (Option.none, 0, 0, []) := ⟨OwnG.none _ _ _ _ _, by simp⟩
theorem OwnG.mono9 {α : Type} {cv : α → List Value} {e : TypeId} {sz : Nat} {w : World} {base base' : Nat} {v : Value} {n : Nat} {l : List α} (h : OwnG cv e sz w base v n l) (hb : base' ≤ base) : OwnG cv e sz w base' v n l := by
  obtain ⟨⟨h1, h2⟩, h3⟩ := h
  refine ⟨⟨h1, ?_⟩, h3⟩
  rcases h2 with h2 | ⟨g, cap, cur, e, hg, r⟩
  · exact Or.inl h2
  · exact Or.inr ⟨g, cap, cur, e, Nat.le_trans hb hg, r⟩
theorem LfO.mono {w : World} {base base' : Nat} {d : LfD} (h : LfO w base d) (hb : base' ≤ base) : LfO w base' d := ⟨h.1.mono9 hb, h.2⟩
theorem row_apart {α β : Type} {cv : α → List Value} {cv' : β → List Value} {e e' : TypeId} {sz sz' : Nat} {w : World} {base base' : Nat} {v v' : Value} {n n' : Nat} {l : List α} {l' : List β} (h : OwnG cv e sz w base v n l) (h' : OwnG cv' e' sz' w base' v' n' l') (hne : e ≠ e') (b : Nat) (hb : v.ownBlock = some b) : v'.ownBlock ≠ some b := by
  intro hb'
  rcases h.1.2 with ⟨rfl, _⟩ | ⟨g, cap, cur, rfl, _, hg, _⟩
  · simp [Value.ownBlock] at hb
  · rcases h'.1.2 with ⟨rfl, _⟩ | ⟨g', cap', cur', rfl, _, hg', _⟩
    · simp [Value.ownBlock] at hb'
    · simp only [Value.ownBlock, Option.some.injEq] at hb hb'
      subst hb
      subst hb'
      rw [hg] at hg'
      simp only [Option.some.injEq, Obj.cells.injEq] at hg'
      exact hne hg'.2.1
/-- A table of the call's own: its outer row says ds, its leaves are es. -/
structure TabQ (w : World) (base : Nat) (a : Option Addr) (len cap : Nat) (ds es : List LfD) : Prop where
  out : OwnG cvD 68 1 w base (.slice a len cap) len ds
  leaf : ∀ d ∈ es, LfO w base d
  apart : ∀ (i j : Nat) (d d' : LfD), es[i]? = some d → es[j]? = some d' → i ≠ j → ∀ b, blkD d = some b → blkD d' ≠ some b
section
variable {w w' : World} {base len cap : Nat} {a : Option Addr} {ds es : List LfD}
theorem TabQ.kept (h : TabQ w base a len cap ds es) {row : Option Nat} (hg : w.grownBy w' row) (ho : ∀ k, (Value.slice a len cap).ownBlock = some k → row ≠ some k) (hl : ∀ d ∈ es, ∀ k, blkD d = some k → row ≠ some k) : TabQ w' base a len cap ds es :=
  ⟨h.out.kept' hg ho, fun d hd => (h.leaf d hd).kept hg (hl d hd), h.apart⟩
theorem TabQ.later (h : TabQ w base a len cap ds es) (hb : Below w.heap.size w w') : TabQ w' base a len cap ds es := h.kept (grown_of_below hb) (fun _ _ e => by cases e) (fun _ _ _ _ e => by cases e)
theorem TabQ.drew (h : TabQ w base a len cap ds es) : TabQ w.drew base a len cap ds es := h.later (Below.refl _ _).drew
theorem TabQ.alloc (h : TabQ w base a len cap ds es) (o : Obj) : TabQ (w.alloc o) base a len cap ds es := h.later ((Below.refl _ _).alloc (Nat.le_refl _) _)
/-- A block below the table's turns. -/
theorem TabQ.low (h : TabQ w base a len cap ds es) {X : Nat} (hX : X < base) (hg : w.grownBy w' (some X)) : TabQ w' base a len cap ds es :=
  h.kept hg (fun k hk e => by cases e; have := (h.out.1.lt X hk).1; omega) (fun d hd k hk e => by cases e; have := ((h.leaf d hd).lt hk).1; omega)
theorem flat_cvD {ds es : List LfD} (he : ds.map cvD = es.map cvD) : ds.flatMap cvD = es.flatMap cvD := by rw [List.flatMap_def, List.flatMap_def, he]
theorem TabQ.same (h : TabQ w base a len cap ds es) (he : ds.map cvD = es.map cvD) : TabQ w base a len cap es es := by
  refine ⟨?_, h.leaf, h.apart⟩
  obtain ⟨h1, h2, h3⟩ := h.out
  refine ⟨?_, ?_, h3⟩
  · rw [← flat_cvD he]
    exact h1
  · have := congrArg List.length he
    rw [List.length_map, List.length_map] at this
    rw [← this]
    exact h2
theorem TabQ.reads (h : TabQ w base a len cap es es) : TabR w a len es := ⟨(h.out.reads lf_rowed).1, fun d hd => (h.leaf d hd).reads⟩
theorem TabQ.caps (h : TabQ w base a len cap ds es) : (a = none → cap = 0) ∧ len ≤ cap := (h.out.reads lf_rowed).2
theorem TabQ.size (h : TabQ w base a len cap ds es) : ds.length = len := h.out.2.1
theorem TabQ.first (w : World) (base : Nat) : TabQ w base none 0 0 [] [] := ⟨OwnG.none _ _ _ _ _, by simp, fun i j d d' hi => by simp at hi⟩
theorem TabQ.mono (h : TabQ w base a len cap ds es) {base' : Nat} (hb : base' ≤ base) : TabQ w base' a len cap ds es := ⟨h.out.mono9 hb, fun d hd => (h.leaf d hd).mono hb, h.apart⟩
/-- The cell of the outer row at a place. -/
theorem TabQ.at (h : TabQ w base a len cap ds es) (j : Nat) (hj : j < len) : ∃ g d, a = some ⟨g, 0, none⟩ ∧ base ≤ g ∧ g < w.heap.size ∧ ds[j]? = some d ∧ w.cell? ⟨g, j, none⟩ = some (.slice d.1 d.2.1 d.2.2.1) ∧ w.frozen? ⟨g, j, none⟩ = false := by
  obtain ⟨h1, h2, h3⟩ := h.out
  have hd : ds[j]? = some ds[j] := List.getElem?_eq_getElem (by omega)
  rcases h1.2 with ⟨e, e0⟩ | ⟨g, cap', cur, e, hb, hg, _⟩
  · omega
  · cases e
    refine ⟨g, ds[j], rfl, hb, lt_of_block hg, hd, ?_, h1.frozenAt j⟩
    rw [h1.cellAt j (by omega)]
    have := flat_at lf_rowed.len ds j 0 _ hd (by omega)
    rw [Nat.mul_one, Nat.add_zero] at this
    rw [this]
    rfl
theorem flat_set9 : ∀ (ds : List LfD) (j : Nat) (d : LfD), (ds.set j d).flatMap cvD = (ds.flatMap cvD).set j (.slice d.1 d.2.1 d.2.2.1)
  | [], _, _ => by simp
  | x :: r, 0, d => by simp [cvD]
  | x :: r, j + 1, d => by
    rw [List.set_cons_succ, List.flatMap_cons, flat_set9 r j d, List.flatMap_cons]
    simp [cvD]
/-- A slice goes into the outer row. -/
theorem TabQ.setOut (h : TabQ w base a len cap ds es) (g j : Nat) (ha : a = some ⟨g, 0, none⟩) (d : LfD) : TabQ (w.setCell ⟨g, j, none⟩ (.slice d.1 d.2.1 d.2.2.1)) base a len cap (ds.set j d) es ∧ w.grownBy (w.setCell ⟨g, j, none⟩ (.slice d.1 d.2.1 d.2.2.1)) (some g) := by
  subst ha
  obtain ⟨h1, h2⟩ := h.out.1.stored j (.slice d.1 d.2.1 d.2.2.1)
  refine ⟨⟨⟨?_, by rw [List.length_set]; exact h.out.2.1, h.out.2.2⟩, fun d' hd' => (h.leaf d' hd').kept h2 (fun k hk e => ?_), h.apart⟩, h2⟩
  · rw [flat_set9]
    exact h1
  · cases e
    exact row_apart h.out (h.leaf d' hd').1 (by decide) g rfl hk
/-- A leaf turns in its own block. -/
theorem TabQ.setEs (h : TabQ w base a len cap ds es) (j : Nat) (d d' : LfD) (hd : es[j]? = some d) (hg : w.grownBy w' (blkD d)) (hb : blkD d' = blkD d) (hl : LfO w' base d') : TabQ w' base a len cap ds (es.set j d') := by
  have hm := List.mem_of_getElem? hd
  refine ⟨h.out.kept' hg fun k hk e => row_apart h.out (h.leaf d hm).1 (by decide) k hk e, fun x hx => ?_, fun i i' x x' hi hi' hne b hb1 hb2 => ?_⟩
  · obtain ⟨i, hi⟩ := List.getElem?_of_mem hx
    rw [List.getElem?_set] at hi
    by_cases hj : j = i
    · rw [if_pos hj] at hi
      split at hi
      · cases hi
        exact hl
      · cases hi
    · rw [if_neg hj] at hi
      exact (h.leaf x (List.mem_of_getElem? hi)).kept hg fun k hk e => h.apart i j x d hi hd (fun e' => hj e'.symm) k hk e
  · rw [List.getElem?_set] at hi hi'
    have key : ∀ q y, (if j = q then if q < es.length then some d' else none else es[q]?) = some y → ∃ y', es[q]? = some y' ∧ blkD y = blkD y' := fun q y hy => by
      by_cases hj : j = q
      · rw [if_pos hj] at hy
        split at hy
        · cases hy
          exact ⟨d, by rw [← hj]; exact hd, hb⟩
        · cases hy
      · rw [if_neg hj] at hy
        exact ⟨y, hy, rfl⟩
    obtain ⟨y, hy1, hy2⟩ := key i x (by split at hi <;> simp_all)
    obtain ⟨y', hy1', hy2'⟩ := key i' x' (by split at hi' <;> simp_all)
    exact h.apart i i' y y' hy1 hy1' hne b (hy2 ▸ hb1) (hy2' ▸ hb2)
/-- A leaf of one's own takes a place. -/
theorem TabQ.putEs (h : TabQ w base a len cap ds es) (j : Nat) (d' : LfD) (hl : LfO w base d') (hnew : ∀ d ∈ es, ∀ b, blkD d = some b → blkD d' ≠ some b) : TabQ w base a len cap ds (es.set j d') := by
  refine ⟨h.out, fun x hx => ?_, fun i i' x x' hi hi' hne b hb1 hb2 => ?_⟩
  · rcases List.mem_or_eq_of_mem_set hx with hx | rfl
    · exact h.leaf x hx
    · exact hl
  · rw [List.getElem?_set] at hi hi'
    by_cases h1 : j = i
    · rw [if_pos h1] at hi
      rw [if_neg (by omega)] at hi'
      split at hi
      · cases hi
        exact hnew x' (List.mem_of_getElem? hi') b hb2 hb1
      · cases hi
    · rw [if_neg h1] at hi
      by_cases h2 : j = i'
      · rw [if_pos h2] at hi'
        split at hi'
        · cases hi'
          exact hnew x (List.mem_of_getElem? hi) b hb1 hb2
        · cases hi'
      · rw [if_neg h2] at hi'
        exact h.apart i i' x x' hi hi' hne b hb1 hb2
theorem TabQ.addEs (h : TabQ w base a len cap ds es) (d' : LfD) (hl : LfO w base d') (hnew : ∀ d ∈ es, ∀ b, blkD d = some b → blkD d' ≠ some b) : TabQ w base a len cap ds (es ++ [d']) := by
  refine ⟨h.out, fun x hx => ?_, fun i i' x x' hi hi' hne b hb1 hb2 => ?_⟩
  · rcases List.mem_append.1 hx with hx | hx
    · exact h.leaf x hx
    · rw [List.mem_singleton] at hx
      subst hx
      exact hl
  · rw [List.getElem?_append] at hi hi'
    by_cases h1 : i < es.length
    · rw [if_pos h1] at hi
      by_cases h2 : i' < es.length
      · rw [if_pos h2] at hi'
        exact h.apart i i' x x' hi hi' hne b hb1 hb2
      · rw [if_neg h2] at hi'
        obtain rfl : x' = d' := by
          have := List.mem_of_getElem? hi'
          simpa using this
        exact hnew x (List.mem_of_getElem? hi) b hb1 hb2
    · rw [if_neg h1] at hi
      have e1 : i = es.length := by
        rcases Nat.lt_or_ge es.length i with h' | h'
        · rw [List.getElem?_eq_none (by simp; omega)] at hi
          cases hi
        · omega
      obtain rfl : x = d' := by
        have := List.mem_of_getElem? hi
        simpa using this
      by_cases h2 : i' < es.length
      · rw [if_pos h2] at hi'
        exact hnew x' (List.mem_of_getElem? hi') b hb2 hb1
      · rw [if_neg h2] at hi'
        have e2 : i' = es.length := by
          rcases Nat.lt_or_ge es.length i' with h' | h'
          · rw [List.getElem?_eq_none (by simp; omega)] at hi'
            cases hi'
          · omega
        omega
theorem TabQ.lt (h : TabQ w base a len cap ds es) : ∀ d ∈ es, ∀ b, blkD d = some b → b < w.heap.size := fun d hd b hb => ((h.leaf d hd).lt hb).2
/-- The outer row grew by an append. -/
theorem TabQ.push (h : TabQ w base a len cap ds es) {a' : Option Addr} {c' len' : Nat} {ds' : List LfD} (hown : OwnG cvD 68 1 w' base (.slice a' len' c') len' ds') (hg : w.grownBy w' (Value.slice a len cap).ownBlock) : TabQ w' base a' len' c' ds' es :=
  ⟨hown, fun d hd => (h.leaf d hd).kept hg fun k hk e => row_apart h.out (h.leaf d hd).1 (by decide) k e hk, h.apart⟩
/-- The first k leaves. -/
theorem TabQ.take (h : TabQ w base a len cap es es) (k : Nat) (hk : k ≤ len) : TabQ w base a k cap (es.take k) (es.take k) := by
  obtain ⟨⟨h1, h2⟩, h3, h4⟩ := h.out
  refine ⟨⟨⟨?_, ?_⟩, by rw [List.length_take]; omega, by omega⟩, fun d hd => h.leaf d (List.mem_of_mem_take hd), fun i j d d' hi hj => ?_⟩
  · rw [flat_len lf_rowed.len, List.length_take]
    omega
  · rcases h2 with ⟨e, e0⟩ | ⟨g, cap', cur, e, hb, hg, hn, hm, hs, ht⟩
    · cases e
      exact Or.inl ⟨by rw [show k = 0 by omega], by omega⟩
    · cases e
      refine Or.inr ⟨g, cap, cur, rfl, hb, hg, by omega, hm, hs, ?_⟩
      have e1 : ∀ (l : List LfD) (k : Nat), (l.take k).flatMap cvD = (l.flatMap cvD).take k := fun l => by
        induction l with
        | nil => intro k; simp
        | cons x r ih =>
          intro k
          cases k with
          | zero => rfl
          | succ k =>
            rw [List.take_succ_cons, List.flatMap_cons, ih, List.flatMap_cons]
            simp [cvD]
      rw [e1, ← ht, List.take_take, Nat.mul_one, Nat.mul_one, Nat.min_eq_left (by omega)]
  · rw [List.getElem?_take] at hi hj
    split at hi
    · split at hj
      · exact h.apart i j d d' hi hj
      · cases hj
    · cases hi
end
/-- Cells in the middle of a row of one's own. -/
theorem own_mid {α : Type} {cv : α → List Value} {sz : Nat} (hl : ∀ x, (cv x).length = sz) {e : TypeId} {w : World} {base n b c : Nat} {M M' : List α} (h : OwnG cv e sz w base (.slice (some ⟨b, 0, Option.none⟩) n c) n M) (o : Nat) (mid : List Value) (hM : M'.length = n)
    (he : M'.flatMap cv = (M.flatMap cv).take o ++ mid ++ (M.flatMap cv).drop (o + mid.length)) (ho : o + mid.length ≤ n * sz) :
    ∃ cur, w.heap[b]? = some (.cells cur e (0, 0)) ∧ o + mid.length ≤ cur.size ∧
      OwnG cv e sz (w.setRow b (cur.toList.take o ++ mid ++ cur.toList.drop (o + mid.length)).toArray) base (.slice (some ⟨b, 0, Option.none⟩) n c) n M' ∧
      w.grownBy (w.setRow b (cur.toList.take o ++ mid ++ cur.toList.drop (o + mid.length)).toArray) (some b) := by
  obtain ⟨⟨h1, h2⟩, h3, h4⟩ := h
  rcases h2 with ⟨e', _⟩ | ⟨g, cap, cur, e', hb, hg, hn, hm, hs, ht⟩
  · cases e'
  · cases e'
    have hcl : cur.toList.length = c * sz := by rw [Array.length_toList, hs]
    have hns : n * sz ≤ c * sz := Nat.mul_le_mul_right _ hn
    refine ⟨cur, hg, by rw [hs]; omega, ⟨⟨by rw [flat_len hl, hM], Or.inr ⟨b, c, _, rfl, hb, setRow_heap w b cur _ _ _ hg, hn, hm, ?_, ?_⟩⟩, hM, h4⟩, ⟨rfl, rfl, rfl, by simp [World.setRow], fun k _ hk => setRow_other w b k _ (fun e => hk (by rw [e]))⟩⟩
    · rw [List.size_toArray, List.length_append, List.length_append, List.length_take, List.length_drop, hcl]
      omega
    · rw [he, ← ht]
      show (cur.toList.take o ++ mid ++ cur.toList.drop (o + mid.length)).take (n * sz) = _
      rw [List.take_take, Nat.min_eq_left (by omega), List.drop_take, List.take_append, List.length_append, List.length_take, hcl, Nat.min_eq_left (by omega), List.take_of_length_le (by rw [List.length_append, List.length_take]; omega)]
end Go.Proofs.YtlljcdmblmkblaaGreat
namespace Go.Proofs.YtlljcdmblmkblaaGreat
open Go.RowKit
set_option linter.unusedVariables false

theorem run_clear9 {P : Program} (w : World) (t e ty : TypeId) (z : Value) (k : Nat) (ht : P.underlying t = some (.slice e)) (hv : ∀ w, (zeroValue e).run P w = .ok z w) (hz : z.cells.size = k) (h1 : ∀ u ∈ z.cells, u.oneCell' = true) (g o m c : Nat) (cur : Array Value) (hm : 0 < m)
    (hg : w.heap[g]? = some (.cells cur e (0, 0))) (hfit : o + m * k ≤ cur.size) :
    (Builtin.zeroCells z.cells m).toList.length = m * k ∧ (Builtin.clear_ #[t] ty #[.slice (some ⟨g, o, none⟩) m c]).run P w = .ok (.tuple #[]) (w.setRow g (cur.toList.take o ++ (Builtin.zeroCells z.cells m).toList ++ cur.toList.drop (o + (Builtin.zeroCells z.cells m).toList.length)).toArray) := by
  have hl : (Builtin.zeroCells z.cells m).toList.length = m * k := by rw [Array.length_toList, size_zeroCells, hz]
  have hone : ∀ u ∈ (Builtin.zeroCells z.cells m).toList, u.oneCell' = true := fun u hu => by
    simp only [Builtin.zeroCells, Array.toList_map, List.mem_map, Array.mem_toList_iff, Array.mem_range] at hu
    obtain ⟨i, hi, rfl⟩ := hu
    have h0 : 0 < z.cells.size := by
      rcases Nat.eq_zero_or_pos z.cells.size with h | h
      · rw [h, Nat.mul_zero] at hi
        omega
      · exact h
    have hlt := Nat.mod_lt i h0
    rw [getElem!_pos z.cells _ hlt]
    exact h1 _ (Array.getElem_mem hlt)
  refine ⟨hl, ?_⟩
  have hst := run_storeCells_at P g o e (Builtin.zeroCells z.cells m).toList 0 cur w hg (by rw [hl]; simpa using hfit) hone
  simp only [Nat.add_zero] at hst
  obtain ⟨m, rfl⟩ : ∃ q, m = q + 1 := ⟨m - 1, by omega⟩
  simp [Builtin.clear_, run_underlying ht, hv, hst]
theorem run_storeAt_in9 {P : Program} (w : World) (t e : TypeId) (g o : Nat) (cur c' : Array Value) (hg : w.heap[g]? = some (.cells cur e (0, 0))) (hi : (P.info? t).map (·.size) = some c'.size) (hfit : o + c'.toList.length ≤ cur.size) (h1 : ∀ u ∈ c'.toList, u.oneCell' = true) :
    (Instr.storeAt t (.pointer (some ⟨g, o, none⟩)) (.agg c')).run P w = .ok () (w.setRow g (cur.toList.take o ++ c'.toList ++ cur.toList.drop (o + c'.toList.length)).toArray) := by
  have hst := run_storeCells_at P g o e c'.toList 0 cur w hg (by simpa using hfit) h1
  simp only [Nat.add_zero] at hst
  obtain ⟨i, hii, hs⟩ := Option.map_eq_some_iff.1 hi
  simp [Instr.storeAt, Instr.sureAddr, storeVar, sizeOf, typeInfo, hii, hs, Value.cells, Result.andThen, hst]
theorem wpList_store_in9 {P : Program} {ops : Array Oper} {rest : List Oper} {op : Oper} {a : Act} {w : World} {Q : Exit → Act → World → Prop} {t e : TypeId} (hgd : op.guard = none) (x y : Operand) (ho : op.op = .store t x y) (g o : Nat) (cur c' : Array Value)
    (hx : a.eval x = .pointer (some ⟨g, o, none⟩)) (hy : a.eval y = .agg c') (hg : w.heap[g]? = some (.cells cur e (0, 0))) (hi : (P.info? t).map (·.size) = some c'.size) (hfit : o + c'.toList.length ≤ cur.size) (h1 : ∀ u ∈ c'.toList, u.oneCell' = true)
    (h : wpList P ops Q rest (a.put op.dst undef) (w.setRow g (cur.toList.take o ++ c'.toList ++ cur.toList.drop (o + c'.toList.length)).toArray)) : wpList P ops Q (op :: rest) a w := by
  refine wpList_plain hgd fun K' hK => ?_
  unfold Oper.wp execOp
  simp only [ho, hx, hy, run_storeAt_in9 w t e g o cur c' hg hi hfit h1, Sem.run_bind, Result.andThen_ok]
  exact hK _ _ h
theorem flat_set_en : ∀ (xs : List En) (k : Nat) (x : En), k < xs.length → (xs.set k x).flatMap enV = (xs.flatMap enV).take (k * 5) ++ enV x ++ (xs.flatMap enV).drop (k * 5 + (enV x).length)
  | [], k, x, h => absurd h (by simp)
  | y :: r, 0, x, h => by
    rw [List.set_cons_zero, List.flatMap_cons, List.flatMap_cons, Nat.zero_mul, List.take_zero, List.nil_append, Nat.zero_add, enV_len, List.drop_append_of_le_length (by rw [enV_len]; exact Nat.le_refl _), List.drop_eq_nil_of_le (by rw [enV_len]; exact Nat.le_refl _), List.nil_append]
  | y :: r, k + 1, x, h => by
    rw [List.set_cons_succ, List.flatMap_cons, flat_set_en r k x (by simpa using h), List.flatMap_cons, show (k + 1) * 5 = (enV y).length + k * 5 by rw [enV_len]; omega, Nat.add_assoc, List.take_length_add_append, List.drop_length_add_append]
    simp only [List.append_assoc]
theorem LfO.form {w : World} {base : Nat} {d : LfD} (h : LfO w base d) (h0 : 0 < d.2.1) : ∃ b, d.1 = some ⟨b, 0, Option.none⟩ ∧ base ≤ b ∧ b < w.heap.size := by
  obtain ⟨al, ll, cl, xs⟩ := d
  obtain ⟨⟨⟨h1, h2⟩, _⟩, _⟩ := h
  rcases h2 with ⟨_, e⟩ | ⟨g, cap, cur, e, hb, hg, _⟩
  · dsimp only at h0 e
    omega
  · simp only [Value.slice.injEq] at e
    exact ⟨g, e.1, hb, lt_of_block hg⟩
/-- An entry stored into a leaf. -/
theorem LfO.store {w : World} {base : Nat} {d : LfD} (h : LfO w base d) {b : Nat} (hb : d.1 = some ⟨b, 0, Option.none⟩) (k : Nat) (hk : k < d.2.1) (x : En) (hx : EnOk x) :
    ∃ cur, w.heap[b]? = some (.cells cur 24 (0, 0)) ∧ k * 5 + (enV x).length ≤ cur.size ∧
      LfO (w.setRow b (cur.toList.take (k * 5) ++ enV x ++ cur.toList.drop (k * 5 + (enV x).length)).toArray) base (d.1, d.2.1, d.2.2.1, d.2.2.2.set k x) ∧
      w.grownBy (w.setRow b (cur.toList.take (k * 5) ++ enV x ++ cur.toList.drop (k * 5 + (enV x).length)).toArray) (some b) := by
  obtain ⟨al, ll, cl, xs⟩ := d
  obtain ⟨h1, h2⟩ := h
  dsimp only at hb hk h1 h2
  subst hb
  have hl : xs.length = ll := h1.2.1
  obtain ⟨cur, g1, g2, g3, g4⟩ := own_mid enV_len h1 (M' := xs.set k x) (k * 5) (enV x) (by simpa using hl) (flat_set_en xs k x (by omega)) (by rw [enV_len]; omega)
  refine ⟨cur, g1, g2, ⟨g3, fun y hy => ?_⟩, g4⟩
  rcases List.mem_or_eq_of_mem_set hy with hy | rfl
  · exact h2 y hy
  · exact hx
theorem zero_en (m : Nat) : (Builtin.zeroCells (Value.agg (enV enZ).toArray).cells m).toList = (List.replicate m enZ).flatMap enV := by
  induction m with
  | zero => simp [Builtin.zeroCells]
  | succ m ih =>
    rw [List.replicate_succ', List.flatMap_append, ← ih]
    refine List.ext_getElem? fun j => ?_
    have hz : (Value.agg (enV enZ).toArray).cells.size = 5 := rfl
    rw [List.getElem?_append]
    simp only [Builtin.zeroCells, Array.toList_map, Array.toList_range, List.getElem?_map, List.length_map, List.length_range, hz]
    by_cases h1 : j < m * 5
    · rw [if_pos h1]
      rw [List.getElem?_range h1, List.getElem?_range (by omega)]
    · rw [if_neg h1]
      by_cases h2 : j < (m + 1) * 5
      · rw [List.getElem?_range h2]
        obtain ⟨q, rfl⟩ : ∃ q, j = m * 5 + q := ⟨j - m * 5, by omega⟩
        have hq : q < 5 := by omega
        rw [Nat.add_sub_cancel_left]
        have hm : (m * 5 + q) % 5 = q := by omega
        simp only [Option.map_some, hm]
        match q, hq with
        | 0, _ => rfl
        | 1, _ => rfl
        | 2, _ => rfl
        | 3, _ => rfl
        | 4, _ => rfl
      · rw [List.getElem?_eq_none (by simp; omega), List.getElem?_eq_none (by simp [enV]; omega)]
        rfl
theorem made8 : (madeCells (enV enZ).toArray (8 * 5)).toList = (List.replicate 8 enZ).flatMap enV := by kernel_rfl
/-- A leaf made. -/
theorem make9 (w : World) (base : Nat) (hb : base ≤ w.heap.size) : ∃ w', (Instr.makeSlice 68 (.int .i64 8) (.int .i64 8)).run Tryz.prog w = .ok (.slice (some ⟨w.heap.size, 0, none⟩) 8 8) w' ∧ LfO w' base (some ⟨w.heap.size, 0, none⟩, 8, 8, List.replicate 8 enZ) ∧ w.grownBy w' none := by
  have h : (Tryz.prog.info? 24).map (fun i => (i.zero.map (fun z => z.cells.toList), i.size, i.bytes)) = some (some (enV enZ), 5, 40) := by kernel_rfl
  obtain ⟨i, hi, he⟩ := Option.map_eq_some_iff.1 h
  simp only [Prod.mk.injEq] at he
  obtain ⟨z, hz, hzs⟩ := Option.map_eq_some_iff.1 he.1
  obtain ⟨w', h1, h2, h3⟩ := run_makeSlice_full (P := Tryz.prog) w base 68 24 i z 5 Tryz.underlying68 hi hz he.2.1 .i64 .i64 8 (by decide) (by rw [he.2.2]; decide) (by decide) hb
  refine ⟨w', h1, ⟨⟨?_, by simp, by show 8 ≤ 100000000; omega⟩, fun x hx => ?_⟩, h3⟩
  · have e : (madeCells z.cells (8 * 5)).toList = (List.replicate 8 enZ).flatMap enV := by
      have : z.cells = (enV enZ).toArray := by
        rw [← hzs]
      rw [this]
      exact made8
    rw [← e]
    exact h2
  · obtain ⟨_, rfl⟩ := List.mem_replicate.1 hx
    unfold EnOk enZ I64
    dsimp only
    omega
end Go.Proofs.YtlljcdmblmkblaaGreat
namespace Go.Proofs.YtlljcdmblmkblaaGreat
open Go.RowKit
set_option linter.unusedVariables false

/-- The outer slice of whatever table that came in. -/
def OutR (w : World) (a : Option Addr) (len : Nat) (g : Nat → Option Addr × Nat × Nat) : Prop := len ≤ maxLen ∧ (∀ i, i < len → (g i).2.1 ≤ maxLen) ∧ (0 < len → ∃ b off, a = some ⟨b, off, none⟩ ∧ b < w.heap.size ∧ ∀ i, i < len → w.cell? ⟨b, off + i, none⟩ = some (.slice (g i).1 (g i).2.1 (g i).2.2))
theorem OutR.later {w w' : World} {a : Option Addr} {len : Nat} {g : Nat → Option Addr × Nat × Nat} (h : OutR w a len g) (hb : Below w.heap.size w w') : OutR w' a len g := by
  refine ⟨h.1, h.2.1, fun h0 => ?_⟩
  obtain ⟨b, off, h1, h2, h3⟩ := h.2.2 h0
  exact ⟨b, off, h1, Nat.lt_of_lt_of_le h2 hb.size, fun i hi => (hb.cell (p := ⟨b, off + i, none⟩) h2).trans (h3 i hi)⟩
def greatN (g : Nat → Option Addr × Nat × Nat) : Nat → Nat
  | 0 => 0
  | i + 1 => greatN g i + 1 + min (g i).2.1 6000
theorem greatN_mono (g : Nat → Option Addr × Nat × Nat) (i : Nat) : ∀ d, greatN g i ≤ greatN g (i + d)
  | 0 => Nat.le_refl _
  | d + 1 => by
    have := greatN_mono g i d
    have e : greatN g (i + (d + 1)) = greatN g (i + d) + 1 + min (g (i + d)).2.1 6000 := rfl
    omega
theorem greatN_le (g : Nat → Option Addr × Nat × Nat) : ∀ n, n ≤ greatN g n
  | 0 => Nat.le_refl _
  | n + 1 => by
    have := greatN_le g n
    have e : greatN g (n + 1) = greatN g n + 1 + min (g n).2.1 6000 := rfl
    omega
theorem greatN_small {g : Nat → Option Addr × Nat × Nat} {n : Nat} (h : ¬ 6000 < greatN g n) : n ≤ 6000 ∧ ∀ i, i < n → (g i).2.1 ≤ 6000 := by
  have h1 := greatN_le g n
  refine ⟨by omega, fun i hi => ?_⟩
  have h2 := greatN_mono g (i + 1) (n - (i + 1))
  rw [show i + 1 + (n - (i + 1)) = n by omega] at h2
  have e : greatN g (i + 1) = greatN g i + 1 + min (g i).2.1 6000 := rfl
  omega
theorem run_min9 (P : Program) (ts : Array TypeId) (t : TypeId) (x y : Int) (w : World) : (Builtin.min_ ts t #[.int .i64 x, .int .i64 y]).run P w = .ok (.int .i64 (if y < x then y else x)) w := by
  simp [Builtin.min_, Builtin.min2]
set_option maxHeartbeats 1600000 in
theorem great_any (w : World) (a : Option Addr) (len cap : Nat) (g : Nat → Option Addr × Nat × Nat) (h : OutR w a len g) : Calls Tryz.prog 62 #[.agg #[.slice a len cap]] w fun e w' => e = .returned (.bool (decide (6000 < greatN g len))) ∧ Below w.heap.size w w' := by
  have HG : Hid (Below w.heap.size w (w.alloc (.cells #[.slice a len cap] 36))) := (Below.refl _ _).alloc (Nat.le_refl _) _
  have h2 := Lib.hid (h.later HG.out)
  have hlen := h.1
  unfold maxLen at hlen
  have e0 : greatN g 0 = 0 := rfl
  have es : ∀ i, greatN g (i + 1) = greatN g i + 1 + min (g i).2.1 6000 := fun _ => rfl
  have hm : ∀ i, i ≤ len → 6000 < greatN g i → 6000 < greatN g len := fun i hi hg => by
    have := greatN_mono g i (len - i)
    rw [show i + (len - i) = len by omega] at this
    omega
  obtain ⟨F, hF⟩ := named (greatN g)
  rw [hF.out] at e0 es hm ⊢
  have HE0 := Lib.hid e0
  have HES := Lib.hid es
  have HM := Lib.hid hm
  clear e0 es hm hF h
  go_enter Tryz.func62, Tryz.ntmps62
  go_wp2
  go_loop [3, 4] (fun n i => ∃ j t : Nat, j ≤ len ∧ n = .int .i64 t ∧ i = .int .i64 j ∧ Hid (t = F j) ∧ t ≤ 12001) (fun _ i => len - (intOf i).toNat)
  case atStart => exact ⟨0, 0, Nat.zero_le _, rfl, rfl, HE0.out.symm, by omega⟩
  case round =>
    obtain ⟨j, t, hj, rfl, rfl, HT, ht⟩ := hrel
    by_cases hc : j < len ∧ t ≤ 6000
    · obtain ⟨hlt, ht6⟩ := hc
      obtain ⟨b, off, rfl, _, hcell⟩ := h2.out.2.2 (by omega)
      have hc := hcell j hlt
      have hll := h2.out.2.1 j hlt
      unfold maxLen at hll
      have hs := HES.out j
      rcases hgj : g j with ⟨al, ll, cl⟩
      rw [hgj] at hc hs hll
      simp only at hc hs hll
      clear hgj
      rw [← HT.out] at hs
      clear hcell
      by_cases hmn : ll ≤ 6000
      · rw [Nat.min_eq_left hmn] at hs
        have hmin : ∀ w : World, (Builtin.min_ #[3, 3] 3 #[.int .i64 ll, .int .i64 6000]).run Tryz.prog w = .ok (.int .i64 ll) w := fun w => by rw [run_min9, if_neg (by omega)]
        have HS := Lib.hid hs
        clear hs
        go_wp2
        go_round
        case rel => exact ⟨j + 1, t + 1 + ll, by omega, by go_num, by go_num, HS.out.symm, by omega⟩
        case measure => simp [intOf]; omega
      · rw [Nat.min_eq_right (by omega)] at hs
        have hmin : ∀ w : World, (Builtin.min_ #[3, 3] 3 #[.int .i64 ll, .int .i64 6000]).run Tryz.prog w = .ok (.int .i64 6000) w := fun w => by rw [run_min9, if_pos (by omega)]
        have HS := Lib.hid hs
        clear hs
        go_wp2
        go_round
        case rel => exact ⟨j + 1, t + 1 + 6000, by omega, by go_num, by go_num, HS.out.symm, by omega⟩
        case measure => simp [intOf]; omega
    · have hfin : decide (6000 < F len) = decide (6000 < t) := by
        refine decide_eq_decide.2 ⟨fun h => ?_, fun h => ?_⟩
        · rcases Nat.lt_or_ge 6000 t with h' | h'
          · exact h'
          · have : j = len := by omega
            subst this
            rw [HT.out]
            exact h
        · exact HM.out j hj (by rw [← HT.out]; exact h)
      have hc2 : (j < len ∧ ¬ t ≤ 6000) ∨ ¬ j < len := by omega
      rcases hc2 with ⟨c1, c2⟩ | c1
      all_goals
        go_wp2
        go_ret
        refine ⟨?_, HG.out⟩
        first | (simp; done) | (simp; omega)
end Go.Proofs.YtlljcdmblmkblaaGreat
namespace Go.Proofs.YtlljcdmblmkblaaGreat
open Go.RowKit
set_option linter.unusedVariables false

theorem below_drewN9 {B : Nat} {a w : World} (h : Below B a w) (k : Nat) : Below B a (w.drewN k) := ⟨h.os, h.tape, h.output, h.size, h.block⟩
theorem one_cell9 {W : World} {X : Nat} {t : TypeId} {s : Value} (h : Blk W X t #[s]) : W.cell? ⟨X, 0, none⟩ = some s := by
  rw [h.cell]
  rfl
/-- A boxed table, all else below it as it was. -/
def Box1 (X : Nat) (s : Value) (w0 W : World) : Prop := Blk W X 36 #[s] ∧ Below X w0 W
theorem Box1.first (w : World) (s : Value) : Box1 w.heap.size s w (w.alloc (.cells #[s] 36)) := ⟨Blk.new w _ _, (Below.refl _ _).alloc (Nat.le_refl _) _⟩
theorem Box1.later {X : Nat} {s : Value} {w0 W W' : World} (h : Box1 X s w0 W) (hb : Below W.heap.size W W') : Box1 X s w0 W' := ⟨h.1.later hb, h.2.trans (hb.mono (Nat.le_of_lt h.1.lt))⟩
theorem Box1.alloc {X : Nat} {s : Value} {w0 W : World} (h : Box1 X s w0 W) (o : Obj) : Box1 X s w0 (W.alloc o) := h.later ((Below.refl _ _).alloc (Nat.le_refl _) _)
theorem Box1.drew {X : Nat} {s : Value} {w0 W : World} (h : Box1 X s w0 W) : Box1 X s w0 W.drew := h.later (Below.refl _ _).drew
theorem Box1.cell {X : Nat} {s : Value} {w0 W : World} (h : Box1 X s w0 W) : W.cell? ⟨X, 0, none⟩ = some s := one_cell9 h.1
def Caps (a : Option Addr) (len cap : Nat) : Prop := (a = none → cap = 0) ∧ len ≤ cap
theorem cell_kept9 {w w' : World} {g j : Nat} {v : Value} (hb : Below w.heap.size w w') (hg : g < w.heap.size) (hc : w.cell? ⟨g, j, none⟩ = some v) (hf : w.frozen? ⟨g, j, none⟩ = false) : w'.cell? ⟨g, j, none⟩ = some v ∧ w'.frozen? ⟨g, j, none⟩ = false := by
  refine ⟨(hb.cell (p := ⟨g, j, none⟩) hg).trans hc, ?_⟩
  rw [← hf]
  exact hb.frozen (p := ⟨g, j, none⟩) hg
theorem tb_take_succ {ds : List LfD} {j : Nat} {d : LfD} (h : ds[j]? = some d) : (tbOf ds).take (j + 1) = (tbOf ds).take j ++ [d.2.2.2] := by
  unfold tbOf
  rw [List.take_add_one, List.getElem?_map, h]
  rfl
/-- The entry at a place of whatever row of entries. -/
theorem en_at {w : World} {a : Option Addr} {len : Nat} {xs : List En} (h1 : Reads enV w a len xs) (k : Nat) (hk : k < len) : ∃ b off, a = some ⟨b, off, none⟩ ∧
    w.cell? ⟨b, off + k * 5, none⟩ = some (.int .i64 (lfAt xs k).1) ∧ w.cell? ⟨b, off + k * 5 + 1, none⟩ = some (.int .i64 (lfAt xs k).2.1) ∧ w.cell? ⟨b, off + k * 5 + 2, none⟩ = some (.int .i64 (lfAt xs k).2.2.1) ∧
    w.cell? ⟨b, off + k * 5 + 3, none⟩ = some (.int .i64 (lfAt xs k).2.2.2.1) ∧ w.cell? ⟨b, off + k * 5 + 4, none⟩ = some (.int .u32 (lfAt xs k).2.2.2.2) := by
  obtain ⟨b, off, rfl⟩ := h1.lies (by omega)
  have hl := h1.1
  have hx : xs[k]? = some (lfAt xs k) := by rw [lfAt_in (by omega), List.getElem?_eq_getElem (by omega)]
  refine ⟨b, off, rfl, ?_, ?_, ?_, ?_, ?_⟩
  · have := h1.cellAt en_rowed k 0 _ _ hx rfl
    exact this
  · have := h1.cellAt en_rowed k 1 _ _ hx rfl
    rwa [← Nat.add_assoc] at this
  · have := h1.cellAt en_rowed k 2 _ _ hx rfl
    rwa [← Nat.add_assoc] at this
  · have := h1.cellAt en_rowed k 3 _ _ hx rfl
    rwa [← Nat.add_assoc] at this
  · have := h1.cellAt en_rowed k 4 _ _ hx rfl
    rwa [← Nat.add_assoc] at this
set_option maxHeartbeats 1600000 in
theorem get9_any (w : World) (a : Option Addr) (len cap : Nat) (ds : List LfD) (i : Int) (h : TabR w a len ds) (hi64 : I64 i) : Calls Tryz.prog 117 #[.agg #[.slice a len cap], .int .i64 i] w fun e w' => e = .returned (.agg (enV (atT (tbOf ds) i)).toArray) ∧ Below w.heap.size w w' := by
  have HG : Hid (∀ cs ds, Below w.heap.size w ((w.alloc (.cells cs 36)).alloc (.cells ds 24))) := fun cs ds => ((Below.refl _ _).alloc (Nat.le_refl _) _).alloc (by simp) _
  by_cases hi : i < 0
  · have e0 : atT (tbOf ds) i = enZ := by unfold atT; rw [if_pos hi]
    rw [e0]
    clear h
    go_enter Tryz.func117, Tryz.ntmps117
    go_wp2
    refine bodyPost_ret (v := .agg (enV enZ).toArray) (results_cell_row rfl _ _ (w.heap.size + 1) 24 (enV enZ).toArray (0, 0) _ rfl ?_ Tryz.underlying24 rfl entry_size) rfl ⟨rfl, HG.out _ _⟩
    exact blk_next9 _ _ _ _ _
  · obtain ⟨I, rfl⟩ : ∃ I : Nat, i = I := ⟨i.toNat, by omega⟩
    have hI := hi64.2
    rw [atT_nat]
    unfold atN
    obtain ⟨J, hJ⟩ := named (I / 8)
    obtain ⟨R, hR⟩ := named (I % 8)
    have hq : wrap64 ((I : Int) / 8) = (J : Int) := by rw [← hJ.out]; unfold wrap64; omega
    have hr : (I : Int) % 8 = (R : Int) := by rw [← hR.out]; omega
    rw [hJ.out, hR.out]
    clear hJ hR hI hi64
    have h2 : TabR ((w.alloc (.cells #[.slice a len cap] 36)).alloc (.cells #[.int .i64 0, .int .i64 0, .int .i64 0, .int .i64 0, .int .u32 0] 24)) a len ds := h.later (HG.out _ _)
    by_cases hlt : J < len
    · have n1 : ¬ len ≤ J := by omega
      obtain ⟨b, off, al, ll, cl, xs, rfl, hc, hL, hx, _⟩ := h2.at J hlt
      rw [hx]
      by_cases hk : R < ll
      · obtain ⟨b', off', e1, _, c0, c1, c2, c3, c4⟩ := hL.at R hk
        dsimp only at e1 c0 c1 c2 c3 c4
        subst e1
        have n2 : ¬ ll ≤ R := by omega
        clear h h2 hL hx
        go_enter Tryz.func117, Tryz.ntmps117
        go_wp2
        refine bodyPost_ret (v := .agg (enV (lfAt xs R)).toArray) (results_cell_row rfl _ _ (w.heap.size + 1) 24 (enV (lfAt xs R)).toArray (0, 0) _ rfl ?_ Tryz.underlying24 rfl entry_size) rfl ⟨rfl, HG.out _ _⟩
        exact blk_next9 _ _ _ _ _
      · rw [lfAt_out (by have := hL.len; dsimp only at this; omega)]
        have n2 : ll ≤ R := by omega
        clear h h2 hL hx
        go_enter Tryz.func117, Tryz.ntmps117
        go_wp2
        refine bodyPost_ret (v := .agg (enV enZ).toArray) (results_cell_row rfl _ _ (w.heap.size + 1) 24 (enV enZ).toArray (0, 0) _ rfl ?_ Tryz.underlying24 rfl entry_size) rfl ⟨rfl, HG.out _ _⟩
        exact blk_next9 _ _ _ _ _
    · rw [tbAt_out (by rw [h.tlen]; omega), lfAt_nil]
      clear h h2
      have n1 : len ≤ J := by omega
      go_enter Tryz.func117, Tryz.ntmps117
      go_wp2
      refine bodyPost_ret (v := .agg (enV enZ).toArray) (results_cell_row rfl _ _ (w.heap.size + 1) 24 (enV enZ).toArray (0, 0) _ rfl ?_ Tryz.underlying24 rfl entry_size) rfl ⟨rfl, HG.out _ _⟩
      exact blk_next9 _ _ _ _ _
/-- A table that reads as T. -/
def Tab (w : World) (a : Option Addr) (len cap : Nat) (T : Tb) : Prop := ∃ ds, TabR w a len ds ∧ Caps a len cap ∧ tbOf ds = T ∧ len ≤ 6000 ∧ ∀ d ∈ ds, d.2.1 ≤ 1000000
theorem Tab.later {w w' : World} {a : Option Addr} {len cap : Nat} {T : Tb} (h : Tab w a len cap T) (hb : Below w.heap.size w w') : Tab w' a len cap T := by
  obtain ⟨ds, h1, h2⟩ := h
  exact ⟨ds, h1.later hb, h2⟩
/-- A table of the call's own that reads as T. -/
def TabN (w : World) (base : Nat) (a : Option Addr) (len cap : Nat) (T : Tb) : Prop := ∃ es, TabQ w base a len cap es es ∧ tbOf es = T ∧ len ≤ 6000 ∧ ∀ lf ∈ T, lf.length ≤ 1000000
theorem TabN.later {w w' : World} {base len cap : Nat} {a : Option Addr} {T : Tb} (h : TabN w base a len cap T) (hb : Below w.heap.size w w') : TabN w' base a len cap T := by
  obtain ⟨es, h1, h2⟩ := h
  exact ⟨es, h1.later hb, h2⟩
theorem TabN.low {w w' : World} {base len cap X : Nat} {a : Option Addr} {T : Tb} (h : TabN w base a len cap T) (hX : X < base) (hg : w.grownBy w' (some X)) : TabN w' base a len cap T := by
  obtain ⟨es, h1, h2⟩ := h
  exact ⟨es, h1.low hX hg, h2⟩
theorem TabN.mono {w : World} {base base' len cap : Nat} {a : Option Addr} {T : Tb} (h : TabN w base a len cap T) (hb : base' ≤ base) : TabN w base' a len cap T := by
  obtain ⟨es, h1, h2⟩ := h
  exact ⟨es, h1.mono hb, h2⟩
theorem TabN.first (w : World) (base : Nat) : TabN w base none 0 0 [] := ⟨[], TabQ.first _ _, rfl, Nat.zero_le _, by simp⟩
theorem TabQ.tabN {w : World} {base base' len cap : Nat} {a : Option Addr} {es : List LfD} (h : TabQ w base a len cap es es) {T : Tb} (hT : tbOf es = T) (hlen : len ≤ 6000) (hll : ∀ lf ∈ T, lf.length ≤ 1000000) (hb : base' ≤ base) : TabN w base' a len cap T := ⟨es, h.mono hb, hT, hlen, hll⟩
theorem tbOf_len (es : List LfD) : (tbOf es).length = es.length := by unfold tbOf; rw [List.length_map]
theorem right_lens {T : Tb} {n c : Int} (h : rightT T n c) : T.length ≤ 512 ∧ ∀ lf ∈ T, lf.length ≤ 8 := by
  refine ⟨h.2.2.2.1, fun lf hlf => ?_⟩
  obtain ⟨i, hi, rfl⟩ := List.getElem_of_mem hlf
  rw [← tbAt_in hi]
  by_cases he : tbAt T i = []
  · rw [he]; exact Nat.zero_le _
  · rw [(h.2.2.2.2 i hi he).1]; exact Nat.le_refl _
theorem TabQ.tab {w : World} {base len cap : Nat} {a : Option Addr} {es : List LfD} (h : TabQ w base a len cap es es) {T : Tb} (hT : tbOf es = T) (hlen : len ≤ 6000) (hll : ∀ lf ∈ T, lf.length ≤ 1000000) : Tab w a len cap T := by
  refine ⟨es, h.reads, h.caps, hT, hlen, fun d hd => ?_⟩
  have := (h.leaf d hd).reads.len
  rw [← this]
  refine hll d.2.2.2 ?_
  rw [← hT]
  exact List.mem_map.2 ⟨d, hd, rfl⟩
theorem TabN.tab {w : World} {base len cap : Nat} {a : Option Addr} {T : Tb} (h : TabN w base a len cap T) : Tab w a len cap T := by
  obtain ⟨es, h1, h2, h3, h4⟩ := h
  exact h1.tab h2 h3 h4
theorem Tab.lens {w : World} {a : Option Addr} {len cap : Nat} {T : Tb} (h : Tab w a len cap T) : T.length = len ∧ len ≤ 6000 ∧ (∀ lf ∈ T, lf.length ≤ 1000000) ∧ ∀ lf ∈ T, ∀ x ∈ lf, EnOk x := by
  obtain ⟨ds, h1, h2, rfl, h4, h5⟩ := h
  refine ⟨h1.tlen, h4, fun lf hlf => ?_, fun lf hlf => ?_⟩ <;> obtain ⟨d, hd, rfl⟩ := List.mem_map.1 hlf
  · rw [(h1.2 d hd).len]
    exact h5 d hd
  · exact (h1.2 d hd).2.2.2
theorem rmayC {k s n z m c : Int} (ho : EnOk (k, s, n, z, m)) {B : Bool} (hB : decide (MayE (k, s, n, z, m) c) = B) (w : World) : Calls Tryz.prog 32 #[.agg #[.int .i64 k, .int .i64 s, .int .i64 n, .int .i64 z, .int .u32 m], .int .i64 c] w fun e w' => e = .returned (.bool B) ∧ Below w.heap.size w w' := by
  subst hB
  exact refMay_any k s n z m c ho w
theorem ek_at {w1 w2 : World} {v1 v2 v3 v4 v5 : Value} (g : Below (w1.alloc (.cells #[v1, v2, v3, v4, v5] 24)).heap.size (w1.alloc (.cells #[v1, v2, v3, v4, v5] 24)) w2) : w2.cell? ⟨w1.heap.size, 0, none⟩ = some v1 := by
  have := (Blk.new w1 24 #[v1, v2, v3, v4, v5]).later g
  rw [this.cell]
  rfl
set_option maxRecDepth 100000 in
set_option maxHeartbeats 3200000 in
theorem refRight9_is (w : World) (a : Option Addr) (len cap : Nat) (ds : List LfD) (n c : Int) (h : TabR w a len ds) (R : Bool) (hR : decide (rightT (tbOf ds) n c) = R) : Calls Tryz.prog 47 #[.agg #[.slice a len cap], .int .i64 n, .int .i64 c] w fun e w' => e = .returned (.bool R) ∧ Below w.heap.size w w' := by
  have hR' : R = true ↔ rightT (tbOf ds) n c := by rw [← hR, decide_eq_true_iff]
  have HG0 : Hid (Below w.heap.size w (w.alloc (.cells #[.slice a len cap] 36))) := (Below.refl _ _).alloc (Nat.le_refl _) _
  have hlt' := h.tlen
  by_cases hg : (0 ≤ n ∧ n ≤ 4096) ∧ (0 ≤ c ∧ c ≤ 6)
  · obtain ⟨hn, hc⟩ := hg
    obtain ⟨N, rfl⟩ : ∃ N : Nat, n = N := ⟨n.toNat, by omega⟩
    obtain ⟨C, rfl⟩ : ∃ C : Nat, c = C := ⟨c.toNat, by omega⟩
    by_cases hlast : 0 < len → tbAt (tbOf ds) (len - 1) ≠ []
    · by_cases h512 : len ≤ 512
      · have HRL : Hid (R = true ↔ ∀ i, i < len → tbAt (tbOf ds) i ≠ [] → rightL (tbAt (tbOf ds) i) i N C) := by
          show _ ↔ _
          rw [hR']
          unfold rightT
          rw [hlt']
          exact ⟨fun h => h.2.2.2.2, fun h => ⟨hn, hc, hlast, h512, h⟩⟩
        have HT := Lib.hid h
        have HB0 := Lib.hid (Box1.first w (.slice a len cap))
        obtain ⟨X, hX⟩ := named w.heap.size
        have hXX := hX.out
        rw [hX.out] at HB0 ⊢
        clear hR hR'
        by_cases h0 : len = 0
        · subst h0
          have hr : R = true := HRL.out.2 fun i hi => by omega
          subst hr
          clear h
          go_enter Tryz.func47, Tryz.ntmps47
          go_wp2
          go_loopw [7] (fun i wr => i = .int .i64 0 ∧ Hid (Box1 X (.slice a 0 cap) w wr)) (fun _ _ => 1)
          case atStart => exact ⟨rfl, HB0.out⟩
          case round =>
            obtain ⟨rfl, HB⟩ := hrel
            have b1 := HB.out.cell
            go_wp2
            go_ret
            exact ⟨rfl, HB.out.2⟩
        · obtain ⟨b, off, al, ll, cl, xs, rfl, hcell, hL, hxs, _⟩ := (h.later HG0.out).at (len - 1) (by omega)
          have hl0 : ¬ ll = 0 := fun e => hlast (by omega) (hxs.trans (List.eq_nil_of_length_eq_zero (hL.len.trans e)))
          have e1 : wrap64 ((len : Int) - 1) = ((len - 1 : Nat) : Int) := by unfold wrap64; omega
          have h02 : len - 1 < len := by omega
          have h03 : 0 < len := by omega
          have d1 : decide ((N : Int) < 0) = false := decide_eq_false (by omega)
          have d2 : decide (4096 < (N : Int)) = false := decide_eq_false (by omega)
          have d3 : decide ((C : Int) < 0) = false := decide_eq_false (by omega)
          have d4 : decide (6 < (C : Int)) = false := decide_eq_false (by omega)
          have d5 : ((ll : Int) == 0) = false := by simp [hl0]
          have d6 : decide (512 < (len : Int)) = false := decide_eq_false (by omega)
          clear hlast h hL hxs
          go_enter Tryz.func47, Tryz.ntmps47
          go_wp2
          clear hcell d5
          go_loopw [7] (fun i wr => ∃ j : Nat, j ≤ len ∧ i = .int .i64 j ∧ Hid (∀ i, i < j → tbAt (tbOf ds) i ≠ [] → rightL (tbAt (tbOf ds) i) i N C) ∧ Hid (Box1 X (.slice (some ⟨b, off, none⟩) len cap) w wr)) (fun i _ => len - (intOf i).toNat)
          case atStart => exact ⟨0, Nat.zero_le _, rfl, fun k hk => by omega, HB0.out⟩
          case round =>
            obtain ⟨j, hj, rfl, HJ, HB⟩ := hrel
            have hTR := HT.out.later (hX.out.symm ▸ HB.out.2)
            have b1 := HB.out.cell
            by_cases hlt : j < len
            · obtain ⟨b0, off0, al, ll, cl, xs, e0, hcell, hL, hxs, hget⟩ := hTR.at j hlt
              cases e0
              have HXS := Lib.hid hxs
              by_cases h0 : ll = 0
              · subst h0
                have he : xs = [] := List.eq_nil_of_length_eq_zero hL.len
                have HJ2 : Hid (∀ i, i < j + 1 → tbAt (tbOf ds) i ≠ [] → rightL (tbAt (tbOf ds) i) i N C) := fun i hi hne => by
                  by_cases e : i = j
                  · subst e
                    exact absurd (HXS.out.trans he) hne
                  · exact HJ.out i (by omega) hne
                clear hTR hL hxs he hget
                go_wp2
                go_roundw
                case rel => exact ⟨j + 1, by omega, by go_num, HJ2, HB.out⟩
                case measure => simp [intOf]; omega
              · have hne : xs ≠ [] := fun e => by
                  have := hL.len
                  dsimp only at this
                  rw [e] at this
                  exact h0 this.symm
                have HL := Lib.hid hL
                have HNO : Hid (¬ rightL xs j N C → R = false) := fun hno => by
                  cases R with
                  | false => rfl
                  | true =>
                    have := HRL.out.1 rfl j hlt (by rw [HXS.out]; exact hne)
                    rw [HXS.out] at this
                    exact absurd this hno
                by_cases h8 : ll = 8
                · subst h8
                  have HJ2 : Hid (rightL xs j N C → ∀ i, i < j + 1 → tbAt (tbOf ds) i ≠ [] → rightL (tbAt (tbOf ds) i) i N C) := fun hrj i hi hne => by
                    by_cases e : i = j
                    · subst e
                      rw [HXS.out]
                      exact hrj
                    · exact HJ.out i (by omega) hne
                  have HLEN := Lib.hid hL.len
                  have HGET := Lib.hid hget
                  clear hTR hL hxs hget
                  go_wp2
                  go_loopw [8, 9] (fun v i w9 => ∃ q : Nat, ∃ B : Bool, q ≤ 8 ∧ i = .int .i64 q ∧ v = .bool B ∧ Hid (∀ k, k < q → MayE (lfAt xs k) C ∧ ((lfAt xs k).1 ≠ 0 → ((j * 8 + k : Nat) : Int) < N)) ∧ Hid (B = true ↔ ∃ k, k < q ∧ (lfAt xs k).1 ≠ 0) ∧ Hid (Box1 X (.slice (some ⟨b, off, none⟩) len cap) w w9)) (fun _ i _ => 8 - (intOf i).toNat)
                  case atStart => exact ⟨0, false, by omega, rfl, rfl, fun k hk => by omega, ⟨fun e => (by cases e), fun ⟨k, hk, _⟩ => by omega⟩, HB.out⟩
                  case round =>
                    obtain ⟨q, B, hq, rfl, rfl, HK, HBB, HB9⟩ := hrel
                    have b9 := HB9.out.cell
                    have hTR9 := HT.out.later (hX.out.symm ▸ HB9.out.2)
                    by_cases hql : q < 8
                    · obtain ⟨b0, off0, al0, ll0, cl0, xs0, e0, hcell9, hL9, hxs9, hget⟩ := hTR9.at j hlt
                      cases e0
                      obtain ⟨rfl, rfl, rfl, rfl⟩ : al0 = al ∧ ll0 = 8 ∧ cl0 = cl ∧ xs0 = xs := by
                        have := HGET.out.symm.trans hget
                        simp only [Option.some.injEq, Prod.mk.injEq] at this
                        exact ⟨this.1.symm, this.2.1.symm, this.2.2.1.symm, this.2.2.2.symm⟩
                      obtain ⟨b', off', e1, hs, x1, x2, x3, x4, x5⟩ := hL9.at q hql
                      dsimp only at e1 hs x1 x2 x3 x4 x5
                      subst e1
                      have hno : ¬ (MayE (lfAt xs0 q) C ∧ ((lfAt xs0 q).1 ≠ 0 → ((j * 8 + q : Nat) : Int) < N)) → R = false := fun h => HNO.out fun hr => h (hr.2.1 q hql)
                      have heq : MayE (lfAt xs0 q) C ∧ ((lfAt xs0 q).1 ≠ 0 → ((j * 8 + q : Nat) : Int) < N) → Hid (∀ k, k < q + 1 → MayE (lfAt xs0 k) C ∧ ((lfAt xs0 k).1 ≠ 0 → ((j * 8 + k : Nat) : Int) < N)) := fun h k hk => by
                        by_cases e : k = q
                        · rw [e]; exact h
                        · exact HK.out k (by omega)
                      have hB1 : (lfAt xs0 q).1 ≠ 0 → Hid (true = true ↔ ∃ k, k < q + 1 ∧ (lfAt xs0 k).1 ≠ 0) := fun h => ⟨fun _ => ⟨q, by omega, h⟩, fun _ => rfl⟩
                      have hB2 : (lfAt xs0 q).1 = 0 → Hid (B = true ↔ ∃ k, k < q + 1 ∧ (lfAt xs0 k).1 ≠ 0) := fun h => ⟨fun e => by
                        obtain ⟨k, h1, h2⟩ := HBB.out.1 e
                        exact ⟨k, by omega, h2⟩, fun ⟨k, h1, h2⟩ => HBB.out.2 ⟨k, by
                          rcases Nat.lt_or_ge k q with h' | h'
                          · exact h'
                          · exact absurd (by rw [show k = q by omega]; exact h) h2, h2⟩⟩
                      obtain ⟨⟨v1, v2, v3, v4, v5⟩, HV⟩ := named (lfAt xs0 q)
                      rw [HV.out] at x1 x2 x3 x4 x5 hno heq hs hB1 hB2
                      dsimp only at x1 x2 x3 x4 x5 hno heq hB1 hB2
                      have hcast : ((j * 8 + q : Nat) : Int) = (j : Int) * 8 + q := by omega
                      rw [hcast] at hno heq
                      clear hcast
                      clear HV hTR9 hget hxs9 hL9
                      by_cases hm : MayE (v1, v2, v3, v4, v5) C
                      · have HM := Lib.hid (fun w => rmayC hs (decide_eq_true hm) w)
                        by_cases hv : v1 = 0
                        · subst hv
                          have HQ2 := heq ⟨hm, fun h => absurd rfl h⟩
                          have HB2 := hB2 rfl
                          clear hno heq hs hm hB1 hB2
                          have hvb : ((0 : Int) != 0) = false := rfl
                          cases B
                          all_goals
                            go_wp2_with (go_at_call 32; (with_reducible refine (HM.out _).mono ?_); rintro e w2 ⟨rfl, g⟩; have HN2 := Lib.hid ((HB9.out.alloc (.cells #[.int .i64 0, .int .i64 v2, .int .i64 v3, .int .i64 v4, .int .u32 v5] 24)).later g); have k1 := ek_at g; clear g)
                            go_roundw
                            case rel => exact ⟨q + 1, _, by omega, by go_num, rfl, HQ2, (by have := HB2.out; show _ ↔ _; simpa using this), HN2.out⟩
                            case measure => simp [intOf]; omega
                        · by_cases hlt9 : (j : Int) * 8 + q < N
                          · have HQ2 := heq ⟨hm, fun _ => hlt9⟩
                            have HB2 := hB1 hv
                            have hvb : (v1 != 0) = true := by simp [hv]
                            have d7 : decide ((N : Int) ≤ (j : Int) * 8 + q) = false := decide_eq_false (by omega)
                            clear hno heq hs hm hB1 hB2 HBB
                            cases B
                            all_goals
                              go_wp2_with (go_at_call 32; (with_reducible refine (HM.out _).mono ?_); rintro e w2 ⟨rfl, g⟩; have HN2 := Lib.hid ((HB9.out.alloc (.cells #[.int .i64 v1, .int .i64 v2, .int .i64 v3, .int .i64 v4, .int .u32 v5] 24)).later g); have k1 := ek_at g; clear g)
                              go_roundw
                              case rel => exact ⟨q + 1, true, by omega, by go_num, rfl, HQ2, (by have := HB2.out; show _ ↔ _; simpa using this), HN2.out⟩
                              case measure => simp [intOf]; omega
                          · have hr : R = false := hno fun h => hlt9 (h.2 hv)
                            have hvb : (v1 != 0) = true := by simp [hv]
                            have d7 : decide ((N : Int) ≤ (j : Int) * 8 + q) = true := decide_eq_true (by omega)
                            subst hr
                            clear hno heq hs hm hB1 hB2
                            go_wp2_with (go_at_call 32; (with_reducible refine (HM.out _).mono ?_); rintro e w2 ⟨rfl, g⟩; have HN2 := Lib.hid ((HB9.out.alloc (.cells #[.int .i64 v1, .int .i64 v2, .int .i64 v3, .int .i64 v4, .int .u32 v5] 24)).later g); have k1 := ek_at g; clear g)
                            go_ret
                            exact ⟨rfl, HN2.out.2⟩
                      · have HM := Lib.hid (fun w => rmayC hs (decide_eq_false hm) w)
                        have hr : R = false := hno fun h => hm h.1
                        subst hr
                        clear hno heq hs hm hB1 hB2
                        go_wp2_with (go_at_call 32; (with_reducible refine (HM.out _).mono ?_); rintro e w2 ⟨rfl, g⟩; have HN2 := Lib.hid ((HB9.out.alloc (.cells #[.int .i64 v1, .int .i64 v2, .int .i64 v3, .int .i64 v4, .int .u32 v5] 24)).later g); have k1 := ek_at g; clear g)
                        go_ret
                        exact ⟨rfl, HN2.out.2⟩
                    · have hq8 : q = 8 := by omega
                      subst hq8
                      by_cases hB : B = true
                      · subst hB
                        have HJ3 := Lib.hid (HJ2.out ⟨HLEN.out, HK.out, HBB.out.1 rfl⟩)
                        clear hTR9
                        go_wp2
                        go_roundw
                        case rel => exact ⟨j + 1, by omega, by go_num, HJ3.out, HB9.out⟩
                        case measure => simp [intOf]; omega
                      · have hr : R = false := HNO.out fun h => hB (HBB.out.2 h.2.2)
                        subst hr
                        clear hTR9
                        go_wp2
                        go_ret
                        exact ⟨rfl, HB9.out.2⟩
                · have hr : R = false := HNO.out fun h => h8 (hL.len.symm.trans h.1)
                  subst hr
                  clear hTR hL hxs hget
                  go_wp2
                  go_ret
                  exact ⟨rfl, HB.out.2⟩
            · have hr : R = true := HRL.out.2 fun i hi => HJ.out i (by omega)
              subst hr
              clear hTR
              go_wp2
              go_ret
              exact ⟨rfl, HB.out.2⟩
      · have hr : R = false := by
          cases R with
          | false => rfl
          | true =>
            have := (hR'.1 rfl).2.2.2.1
            omega
        subst hr
        obtain ⟨b, off, al, ll, cl, xs, rfl, hcell, hL, hxs, _⟩ := (h.later HG0.out).at (len - 1) (by omega)
        have hl0 : ¬ ll = 0 := fun e => hlast (by omega) (hxs.trans (List.eq_nil_of_length_eq_zero (hL.len.trans e)))
        have hm := h.1.2.1
        have e1 : wrap64 ((len : Int) - 1) = ((len - 1 : Nat) : Int) := by unfold wrap64; omega
        have h02 : len - 1 < len := by omega
        clear hlast h hL hxs hR hR'
        go_enter Tryz.func47, Tryz.ntmps47
        go_wp2
        go_ret
        exact ⟨rfl, HG0.out⟩
    · have hr : R = false := by
        cases R with
        | false => rfl
        | true =>
          have := (hR'.1 rfl).2.2.1
          rw [hlt'] at this
          exact absurd this hlast
      subst hr
      have hp : 0 < len := Decidable.byContradiction fun h' => hlast fun h => absurd h h'
      have hnil : tbAt (tbOf ds) (len - 1) = [] := Decidable.byContradiction fun h' => hlast fun _ => h'
      obtain ⟨b, off, al, ll, cl, xs, rfl, hcell, hL, hxs, _⟩ := (h.later HG0.out).at (len - 1) (by omega)
      have hl0 : ll = 0 := by
        have := hL.len
        dsimp only at this
        rw [← hxs, hnil] at this
        exact this.symm
      subst hl0
      have hm := h.1.2.1
      have e1 : wrap64 ((len : Int) - 1) = ((len - 1 : Nat) : Int) := by unfold wrap64; omega
      have h02 : len - 1 < len := by omega
      have h03 : ¬ len = 0 := by omega
      clear hlast h hL hxs hR hR' hnil
      go_enter Tryz.func47, Tryz.ntmps47
      go_wp2
      go_ret
      exact ⟨rfl, HG0.out⟩
  · have hr : R = false := by
      cases R with
      | false => rfl
      | true => exact absurd ⟨(hR'.1 rfl).1, (hR'.1 rfl).2.1⟩ hg
    subst hr
    have hcs : n < 0 ∨ (0 ≤ n ∧ 4096 < n) ∨ (0 ≤ n ∧ n ≤ 4096 ∧ c < 0) ∨ (0 ≤ n ∧ n ≤ 4096 ∧ 0 ≤ c ∧ 6 < c) := by omega
    clear hR hR' h hg
    rcases hcs with h1 | ⟨h1, h2⟩ | ⟨h1, h2, h3⟩ | ⟨h1, h2, h3, h4⟩
    all_goals
      go_enter Tryz.func47, Tryz.ntmps47
      go_wp2
      go_ret
      exact ⟨rfl, HG0.out⟩
theorem getT {a : Option Addr} {len cap : Nat} {T : Tb} (w : World) (h : Tab w a len cap T) (i : Int) (hi : I64 i) {v1 v2 v3 v4 v5 : Int} (hv : atT T i = (v1, v2, v3, v4, v5)) : Calls Tryz.prog 117 #[.agg #[.slice a len cap], .int .i64 i] w fun e w' => e = .returned (.agg #[.int .i64 v1, .int .i64 v2, .int .i64 v3, .int .i64 v4, .int .u32 v5]) ∧ Below w.heap.size w w' := by
  obtain ⟨ds, h1, h2, rfl, _⟩ := h
  have := get9_any w a len cap ds i h1 hi
  rw [hv] at this
  exact this
theorem refRightT {a : Option Addr} {len cap : Nat} {T : Tb} {n c : Int} {R : Bool} (hR : decide (rightT T n c) = R) (w : World) (h : Tab w a len cap T) : Calls Tryz.prog 47 #[.agg #[.slice a len cap], .int .i64 n, .int .i64 c] w fun e w' => e = .returned (.bool R) ∧ Below w.heap.size w w' := by
  obtain ⟨ds, h1, h2, rfl, h3, _⟩ := h
  exact refRight9_is w a len cap ds n c h1 R hR
theorem Tab.nil (w : World) : Tab w none 0 0 [] := (TabN.first w 0).tab
open Go.ChangeShapes Go.WideShapes Go.Deep
set_option maxRecDepth 100000

theorem some_at {α : Type} {xs : List α} (i : Nat) (h : i < xs.length) : ∃ y, xs[i]? = some y := ⟨_, List.getElem?_eq_getElem h⟩
section
variable {H : Type} {enc : TypeId × Value → H} {W : World} {base : Nat} {spare : Nat → Bool} {held : Bool}
theorem en_of_trod {fuel : Nat} {cs : List Value} {x : DataW H × List MemPlace} (hlen : cs.length = 5) (hf : DataW.trod enc Tryz.prog W base spare held fuel 24 cs = some x) : ∃ e : En, cs = enV e ∧ EnOk e := by
  obtain ⟨xs, q, _, _, _, hxl, hx⟩ := DataW.trod_struct Tryz.underlying24 hf
  have hl : xs.length = 5 := hxl
  have ci : Tryz.prog.cellsOf 3 = 1 := by kernel_rfl
  have cu : Tryz.prog.cellsOf 22 = 1 := by kernel_rfl
  match cs, hlen with
  | [c0, c1, c2, c3, c4], _ =>
    obtain ⟨y0, g0⟩ := some_at (xs := xs) 0 (by omega)
    obtain ⟨y1, g1⟩ := some_at (xs := xs) 1 (by omega)
    obtain ⟨y2, g2⟩ := some_at (xs := xs) 2 (by omega)
    obtain ⟨y3, g3⟩ := some_at (xs := xs) 3 (by omega)
    obtain ⟨y4, g4⟩ := some_at (xs := xs) 4 (by omega)
    have t0 := (hx 0 _ rfl).trans g0
    have t1 := (hx 1 _ rfl).trans g1
    have t2 := (hx 2 _ rfl).trans g2
    have t3 := (hx 3 _ rfl).trans g3
    have t4 := (hx 4 _ rfl).trans g4
    obtain ⟨k, e0, _, w0⟩ := DataW.trod_int Tryz.underlying3 t0
    obtain ⟨s, e1, _, w1⟩ := DataW.trod_int Tryz.underlying3 t1
    obtain ⟨n, e2, _, w2⟩ := DataW.trod_int Tryz.underlying3 t2
    obtain ⟨z, e3, _, w3⟩ := DataW.trod_int Tryz.underlying3 t3
    obtain ⟨m, e4, _, w4⟩ := DataW.trod_int Tryz.underlying22 t4
    obtain rfl : c0 = .int .i64 k := by simpa [ci] using e0
    obtain rfl : c1 = .int .i64 s := by simpa [ci] using e1
    obtain rfl : c2 = .int .i64 n := by simpa [ci] using e2
    obtain rfl : c3 = .int .i64 z := by simpa [ci] using e3
    obtain rfl : c4 = .int .u32 m := by simpa [cu] using e4
    have b0 := bounds_i64 w0
    have b1 := bounds_i64 w1
    have b2 := bounds_i64 w2
    have b3 := bounds_i64 w3
    have b4 := bounds_u32 w4
    refine ⟨(k, s, n, z, m), rfl, ?_⟩
    unfold EnOk I64
    dsimp only
    omega
set_option maxRecDepth 100000 in
theorem entry_open {r : Reach} {b0 : Nat} {v : Value} {d : DataW H} {p : List MemPlace} (hv : Value.okWide Tryz.prog W r b0 24 v) (h : DataW.Trod enc Tryz.prog W base spare held 24 v d p) :
    ∃ k s n z m, v = .agg #[.int .i64 k, .int .i64 s, .int .i64 n, .int .i64 z, .int .u32 m] ∧ EnOk (k, s, n, z, m) := by
  obtain ⟨cs, rfl, hsz⟩ := okWide_struct Tryz.underlying24 hv
  have h5 : cs.size = 5 := hsz.trans (by kernel_rfl)
  obtain ⟨fuel, hf⟩ := h
  obtain ⟨⟨k, s, n, z, m⟩, he, ho⟩ := en_of_trod (cs := cs.toList) (by simpa using h5) hf
  exact ⟨k, s, n, z, m, by obtain ⟨l⟩ := cs; dsimp only at he; rw [he]; rfl, ho⟩
set_option maxRecDepth 100000 in
/-- A leaf that came in: if it is short it reads. -/
theorem leaf_open {fuel : Nat} {cs : List Value} {x : DataW H × List MemPlace} (hf : DataW.trod enc Tryz.prog W base (fun _ => true) held fuel 68 cs = some x) :
    ∃ (a : Option Addr) (len cap : Nat), cs = [.slice a len cap] ∧ len ≤ maxLen ∧ (len ≤ 6000 → ∃ xs, LfR W (a, len, cap, xs)) := by
  have c5 : Tryz.prog.cellsOf 24 = 5 := by kernel_rfl
  rcases open_slice Tryz.underlying68 hf with ⟨rfl, _⟩ | ⟨a, len, cap, m, n, D, Pl, rfl, hb, hl, hm, hmm, _, hx⟩
  · exact ⟨none, 0, 0, rfl, Nat.zero_le _, fun _ => ⟨[], Reads.nil _ _ _, Nat.le_refl _, fun _ => rfl, by simp⟩⟩
  · have hmc : m = cap := by simpa using hmm
    subst hmc
    refine ⟨some a, len, m, rfl, Nat.le_trans hl hm, fun h6 => ?_⟩
    have each : ∀ i, i < len → ∃ e : En, EnOk e ∧ ∀ j u, (enV e)[j]? = some u → W.cell? (a.add (i * 5 + j)) = some u := fun i hi => by
      obtain ⟨cs', h1, h2⟩ := hx i (by omega)
      rw [c5] at h1
      obtain ⟨_, hlen, hcell⟩ := World.cells?_some h1
      obtain ⟨e, he, ho⟩ := en_of_trod hlen h2
      refine ⟨e, ho, fun j u hu => ?_⟩
      have hj : j < 5 := by
        rcases Nat.lt_or_ge j 5 with h' | h'
        · exact h'
        · rw [List.getElem?_eq_none (by rw [enV_len]; exact h')] at hu
          cases hu
      have := hcell j hj
      rw [add_add] at this
      rw [this, he]
      exact hu
    obtain ⟨g, hg⟩ := choose_lt (α := En) each
    refine ⟨(List.range len).map g, ⟨by simp, (show len ≤ 100000000 by omega), ?_⟩, hl, fun e => (by cases e), fun y hy => ?_⟩
    · by_cases h0 : len = 0
      · exact Or.inl h0
      · obtain ⟨b, off, spot⟩ := a
        have hc := (hg 0 (by omega)).2 0 _ rfl
        have hspot : spot = none := by simpa [Addr.add] using World.cell?_spot hc
        subst hspot
        refine Or.inr ⟨b, off, rfl, block_lt_of_cell hc, fun j u hu => ?_⟩
        have hlt : j < len * 5 := by
          rcases Nat.lt_or_ge j (len * 5) with h' | h'
          · exact h'
          · rw [List.getElem?_eq_none (by rw [flat_len enV_len, List.length_map, List.length_range]; exact h')] at hu
            cases hu
        have hd : j / 5 < len := by omega
        have hat := flat_at enV_len ((List.range len).map g) (j / 5) (j % 5) (g (j / 5)) (by rw [List.getElem?_map, List.getElem?_range hd]; rfl) (Nat.mod_lt _ (by omega))
        rw [show j / 5 * 5 + j % 5 = j by omega, hu] at hat
        have := (hg (j / 5) hd).2 (j % 5) u hat.symm
        rw [add_none, show j / 5 * 5 + j % 5 = j by omega] at this
        exact this
    · obtain ⟨i, hi, rfl⟩ := List.mem_map.1 hy
      exact (hg i (List.mem_range.1 hi)).1
/-- A table that came in: its outer slice, and its leaves where they are short. -/
def TabArg (w : World) (a : Option Addr) (len cap : Nat) : Prop := Caps a len cap ∧ ∃ g : Nat → Option Addr × Nat × Nat, OutR w a len g ∧ ∀ i, i < len → (g i).2.1 ≤ 6000 → ∃ xs, LfR w ((g i).1, (g i).2.1, (g i).2.2, xs)
set_option maxRecDepth 100000 in
theorem tab_open {r : Reach} {b0 : Nat} {v : Value} {d : DataW H} {p : List MemPlace} (hv : Value.okWide Tryz.prog W r b0 36 v) (h : DataW.Trod enc Tryz.prog W base (fun _ => true) held 36 v d p) :
    ∃ a len cap, v = .agg #[.slice a len cap] ∧ TabArg W a len cap := by
  obtain ⟨cs, rfl, hsz⟩ := okWide_struct Tryz.underlying36 hv
  have h1 : cs.size = 1 := hsz.trans (by kernel_rfl)
  obtain ⟨fuel, hf⟩ := h
  obtain ⟨xs, q, _, _, _, hxl, hx⟩ := DataW.trod_struct Tryz.underlying36 hf
  have hl : xs.length = 1 := hxl
  obtain ⟨y0, g0⟩ := some_at (xs := xs) 0 (by omega)
  have t0 := (hx 0 _ rfl).trans g0
  have c1 : Tryz.prog.cellsOf 34 = 1 := by kernel_rfl
  have ce : Tryz.prog.cellsOf 68 = 1 := by kernel_rfl
  obtain ⟨l⟩ := cs
  match l, h1 with
  | [c0], _ =>
    have t1 : DataW.trod enc Tryz.prog W base (fun _ => true) held q 34 [c0] = some y0 := by simpa [c1, Value.cells] using t0
    rcases open_slice1 Tryz.underlying34 ce t1 with ⟨hc, _⟩ | ⟨a, len, cap, m, n, V, D, Pl, hc, hb, hle, hm, hmm, _, hi⟩
    · obtain rfl : c0 = .slice none 0 0 := by simpa using hc
      exact ⟨none, 0, 0, rfl, ⟨fun _ => rfl, Nat.le_refl _⟩, fun _ => (none, 0, 0), ⟨Nat.zero_le _, fun i hi => by omega, fun h => by omega⟩, fun i hi => by omega⟩
    · obtain rfl : c0 = .slice (some a) len cap := by simpa using hc
      have hmc : m = cap := by simpa using hmm
      subst hmc
      have each : ∀ i, i < len → ∃ g : Option Addr × Nat × Nat, W.cell? (a.add i) = some (.slice g.1 g.2.1 g.2.2) ∧ g.2.1 ≤ maxLen ∧ (g.2.1 ≤ 6000 → ∃ xs, LfR W (g.1, g.2.1, g.2.2, xs)) := fun i hil => by
        obtain ⟨k1, k2⟩ := hi i (by omega)
        obtain ⟨al, ll, cl, e1, e2, e3⟩ := leaf_open k2
        obtain e1 : V i = .slice al ll cl := by simpa using e1
        exact ⟨(al, ll, cl), by rw [k1, e1], e2, e3⟩
      obtain ⟨g, hg⟩ := choose_lt (α := Option Addr × Nat × Nat) each
      refine ⟨some a, len, m, rfl, ⟨fun e => (by cases e), hle⟩, g, ⟨Nat.le_trans hle hm, fun i hil => (hg i hil).2.1, fun h0 => ?_⟩, fun i hil => (hg i hil).2.2⟩
      obtain ⟨b, off, spot⟩ := a
      have hc := (hg 0 h0).1
      have hspot : spot = none := by simpa [Addr.add] using World.cell?_spot hc
      subst hspot
      refine ⟨b, off, rfl, block_lt_of_cell hc, fun i hil => ?_⟩
      have := (hg i hil).1
      rwa [add_none] at this
end
/-- A table that came in and is small reads. -/
theorem TabArg.tab {w : World} {a : Option Addr} {len cap : Nat} (h : TabArg w a len cap) {g : Nat → Option Addr × Nat × Nat} (hg : OutR w a len g) (hi : ∀ i, i < len → (g i).2.1 ≤ 6000 → ∃ xs, LfR w ((g i).1, (g i).2.1, (g i).2.2, xs)) (hs : ¬ 6000 < greatN g len) : ∃ T, Tab w a len cap T := by
  obtain ⟨h1, h2⟩ := greatN_small hs
  obtain ⟨xs, hxs⟩ := choose_lt (α := List En) (fun i (hil : i < len) => hi i hil (h2 i hil))
  refine ⟨_, (List.range len).map (fun i => ((g i).1, (g i).2.1, (g i).2.2, xs i)), ⟨⟨by simp, by omega, ?_⟩, fun d hd => ?_⟩, h.1, rfl, h1, fun d hd => ?_⟩
  · by_cases h0 : len = 0
    · exact Or.inl h0
    · obtain ⟨b, off, e, hlt, hc⟩ := hg.2.2 (by omega)
      refine Or.inr ⟨b, off, e, hlt, fun j u hu => ?_⟩
      have hlt : j < len * 1 := by
        rcases Nat.lt_or_ge j (len * 1) with h' | h'
        · exact h'
        · rw [List.getElem?_eq_none (by rw [flat_len lf_rowed.len, List.length_map, List.length_range]; exact h')] at hu
          cases hu
      rw [Nat.mul_one] at hlt
      have hat := flat_at lf_rowed.len ((List.range len).map (fun i => ((g i).1, (g i).2.1, (g i).2.2, xs i))) j 0 _ (by rw [List.getElem?_map, List.getElem?_range hlt]; rfl) (by omega)
      rw [Nat.mul_one, Nat.add_zero, hu] at hat
      obtain rfl : u = .slice (g j).1 (g j).2.1 (g j).2.2 := Option.some.inj hat
      exact hc j hlt
  · obtain ⟨i, hil, rfl⟩ := List.mem_map.1 hd
    exact hxs i (List.mem_range.1 hil)
  · obtain ⟨i, hil, rfl⟩ := List.mem_map.1 hd
    have := h2 i (List.mem_range.1 hil)
    dsimp only
    omega


end Go.Proofs.YtlljcdmblmkblaaGreat
namespace Go.Proofs.YtlljcdmblmkblaaGreat
open Go.RowKit
set_option linter.unusedVariables false

theorem within9 (n a b : Int) (w : World) : Calls Tryz.prog 104 #[.int .i64 n, .int .i64 a, .int .i64 b] w fun e w' => e = .returned (.bool (decide (a ≤ n ∧ n ≤ b))) ∧ w = w' := by
  by_cases h1 : a ≤ n
  · by_cases h2 : n ≤ b
    · go_enter Tryz.func104, Tryz.ntmps104
      go_wp2
      go_ret
      exact ⟨by simp [h1, h2], rfl⟩
    · go_enter Tryz.func104, Tryz.ntmps104
      go_wp2
      go_ret
      exact ⟨by simp; omega, rfl⟩
  · go_enter Tryz.func104, Tryz.ntmps104
    go_wp2
    go_ret
    exact ⟨by simp; omega, rfl⟩
theorem within9_is {n a b : Int} {B : Bool} (h : decide (a ≤ n ∧ n ≤ b) = B) (w : World) : Calls Tryz.prog 104 #[.int .i64 n, .int .i64 a, .int .i64 b] w fun e w' => e = .returned (.bool B) ∧ w = w' := by
  have := within9 n a b w
  rwa [h] at this
theorem absent9 (a : Option Addr) (len cap : Nat) (B : Bool) (hB : decide (len = 0) = B) (w : World) : Calls Tryz.prog 105 #[.slice a len cap] w fun e w' => e = .returned (.bool B) ∧ w = w' := by
  subst hB
  by_cases h : len = 0
  · subst h
    go_enter Tryz.func105, Tryz.ntmps105
    go_wp2
    go_ret
    exact ⟨rfl, rfl⟩
  · go_enter Tryz.func105, Tryz.ntmps105
    go_wp2
    go_ret
    exact ⟨by simp [h], rfl⟩
theorem run_max9 (P : Program) (ts : Array TypeId) (t : TypeId) (x y : Int) (w : World) : (Builtin.max_ ts t #[.int .i64 x, .int .i64 y]).run P w = .ok (.int .i64 (if x < y then y else x)) w := by
  simp [Builtin.max_, Builtin.max2]
theorem below9 (n : Int) (j : Nat) (hj : j ≤ 100000) (hn : -1000000000000 ≤ n) (hn2 : n ≤ 9223372036854775807) (w : World) : Calls Tryz.prog 108 #[.int .i64 n, .int .i64 j] w fun e w' => e = .returned (.int .i64 (belowN n.toNat j : Nat)) ∧ w = w' := by
  obtain ⟨K, hK⟩ := named (belowN n.toNat j)
  unfold belowN at hK
  rw [show belowN n.toNat j = K from hK.out]
  have hKo := hK.out
  have m1 : ∀ w : World, (Builtin.max_ #[3, 3] 3 #[.int .i64 (n - j * 8), .int .i64 0]).run Tryz.prog w = .ok (.int .i64 (n.toNat - j * 8 : Nat)) w := fun w => by
    rw [run_max9]
    congr 2
    split <;> omega
  have m2 : ∀ w : World, (Builtin.min_ #[3, 3] 3 #[.int .i64 (n.toNat - j * 8 : Nat), .int .i64 8]).run Tryz.prog w = .ok (.int .i64 K) w := fun w => by
    rw [run_min9]
    congr 2
    split <;> omega
  obtain ⟨M, hM⟩ := named (n.toNat - j * 8)
  rw [hM.out] at m1 m2
  have e1 : IntKind.i64.wrap ((j : Int) * 8) = j * 8 := by rw [IntKind.wrap_i64]; omega
  have e2 : IntKind.i64.wrap (n - (j : Int) * 8) = n - j * 8 := by rw [IntKind.wrap_i64]; omega
  clear hK hM hKo
  go_enter Tryz.func108, Tryz.ntmps108
  go_wp2
  go_ret
  exact ⟨rfl, rfl⟩
set_option maxHeartbeats 1600000 in
theorem blank9 (a : Option Addr) (len cap : Nat) (xs : List En) (w : World) (h : Reads enV w a len xs) (hok : ∀ x ∈ xs, EnOk x) : Calls Tryz.prog 107 #[.slice a len cap] w fun e w' => e = .returned (.bool (decide (¬ liveL xs))) ∧ Below w.heap.size w w' := by
  have hl := h.1
  have hlen := h.2.1
  have HR := Lib.hid h
  clear h
  obtain ⟨R, hR⟩ := named (decide (¬ liveL xs))
  rw [hR.out]
  have HRf : Hid (∀ k, k < len → (lfAt xs k).1 ≠ 0 → R = false) := fun k hk h0 => by
    rw [← hR.out, decide_eq_false_iff_not, Classical.not_not]
    exact liveL_at.2 ⟨k, by omega, h0⟩
  have HRt : Hid ((∀ k, k < len → (lfAt xs k).1 = 0) → R = true) := fun h => by
    rw [← hR.out, decide_eq_true_iff]
    intro hv
    obtain ⟨k, hk, h0⟩ := liveL_at.1 hv
    exact h0 (h k (by omega))
  clear hR
  go_enter Tryz.func107, Tryz.ntmps107
  go_wp2
  go_loopw [7] (fun i wr => ∃ j : Nat, j ≤ len ∧ i = .int .i64 j ∧ Hid (∀ k, k < j → (lfAt xs k).1 = 0) ∧ Hid (Below w.heap.size w wr)) (fun i _ => len - (intOf i).toNat)
  case atStart => exact ⟨0, Nat.zero_le _, rfl, fun k hk => by omega, Below.refl _ _⟩
  case round =>
    obtain ⟨j, hj, rfl, HJ, HG⟩ := hrel
    by_cases hlt : j < len
    · obtain ⟨b, off, rfl, x1, x2, x3, x4, x5⟩ := en_at (HR.out.later HG.out) j hlt
      have hs := hok (lfAt xs j) (by rw [lfAt_in (by omega)]; exact List.getElem_mem _)
      obtain ⟨hs1, _⟩ := hs
      have HN : Hid (Below w.heap.size w (wr.alloc (.cells #[.int .i64 (lfAt xs j).1, .int .i64 (lfAt xs j).2.1, .int .i64 (lfAt xs j).2.2.1, .int .i64 (lfAt xs j).2.2.2.1, .int .u32 (lfAt xs j).2.2.2.2] 24))) := HG.out.alloc HG.out.size _
      have hne : (lfAt xs j).1 ≠ 0 → R = false := HRf.out j hlt
      have heq : (lfAt xs j).1 = 0 → Hid (∀ k, k < j + 1 → (lfAt xs k).1 = 0) := fun h k hk => by
        by_cases e : k = j
        · rw [e]; exact h
        · exact HJ.out k (by omega)
      obtain ⟨⟨v1, v2, v3, v4, v5⟩, HV⟩ := named (lfAt xs j)
      rw [HV.out] at x1 x2 x3 x4 x5 hne heq HN hs1
      dsimp only at x1 x2 x3 x4 x5 hne heq HN hs1
      clear HV
      by_cases h0 : v1 = 0
      · subst h0
        have HQ2 := heq rfl
        clear hne heq
        go_wp2
        go_roundw
        case rel => exact ⟨j + 1, by omega, by go_num, HQ2, HN.out⟩
        case measure => simp [intOf]; omega
      · have hr : R = false := hne h0
        subst hr
        clear hne heq
        go_wp2
        go_ret
        exact ⟨rfl, HN.out⟩
    · have hr : R = true := HRt.out fun k hk => HJ.out k (by omega)
      subst hr
      go_wp2
      go_ret
      exact ⟨rfl, HG.out⟩
/-- The entries from m on. -/
theorem Reads.drop9 {w : World} {b off len : Nat} {xs : List En} (h : Reads enV w (some ⟨b, off, none⟩) len xs) (m : Nat) (hm : m ≤ len) : Reads enV w (some ⟨b, off + m * 5, none⟩) (len - m) (xs.drop m) := by
  obtain ⟨h1, h2, h3⟩ := h
  refine ⟨by rw [List.length_drop, h1], by omega, ?_⟩
  rcases h3 with h3 | ⟨b', off', e, hlt, hc⟩
  · exact Or.inl (by omega)
  · cases e
    refine Or.inr ⟨b, off + m * 5, rfl, hlt, fun j u hu => ?_⟩
    have hs : xs.flatMap enV = (xs.take m).flatMap enV ++ (xs.drop m).flatMap enV := by rw [← List.flatMap_append, List.take_append_drop]
    have hl : ((xs.take m).flatMap enV).length = m * 5 := by rw [flat_len enV_len, List.length_take, Nat.min_eq_left (by omega)]
    rw [Nat.add_assoc]
    refine hc (m * 5 + j) u ?_
    rw [hs, List.getElem?_append_right (by omega), hl, Nat.add_sub_cancel_left]
    exact hu
theorem slice_tail9 {b off len cap p : Nat} (h1 : p ≤ len) (h2 : len ≤ cap) : ∃ O, (∀ w' : World, (Instr.slice 68 (.slice (some ⟨b, off, none⟩) len cap) (some (.int .i64 p)) none none).run Tryz.prog w' = .ok (.slice (some ⟨b, O, none⟩) (len - p) (cap - p)) w') ∧ (O = off + p * 5 ∨ p = len) := by
  have hinf : (Tryz.prog.info? 24).map (fun i => i.size) = some 5 := entry_size
  obtain ⟨i0, hi0, hi1⟩ := Option.map_eq_some_iff.1 hinf
  by_cases b2 : cap = p
  · subst b2
    have b1 : len = cap := by omega
    subst b1
    refine ⟨off, fun w' => ?_, Or.inr rfl⟩
    simp [Instr.slice, Instr.sliceBounds, Instr.sliceBound, asIntOf, run_underlying Tryz.underlying68, sizeOf, typeInfo, hi0, go_sem]
  · refine ⟨off + p * 5, fun w' => ?_, Or.inl rfl⟩
    simp [Instr.slice, Instr.sliceBounds, Instr.sliceBound, asIntOf, run_underlying Tryz.underlying68, sizeOf, typeInfo, hi0, hi1, h1, b2, Addr.add, go_sem]
theorem Reads.tail9 {w : World} {b off len O : Nat} {xs : List En} (h : Reads enV w (some ⟨b, off, none⟩) len xs) (m : Nat) (hm : m ≤ len) (hO : O = off + m * 5 ∨ m = len) : Reads enV w (some ⟨b, O, none⟩) (len - m) (xs.drop m) := by
  rcases hO with rfl | rfl
  · exact h.drop9 m hm
  · rw [Nat.sub_self, List.drop_eq_nil_of_le (Nat.le_of_eq h.1)]
    exact Reads.nil _ _ _
end Go.Proofs.YtlljcdmblmkblaaGreat
namespace Go.Proofs.YtlljcdmblmkblaaGreat
open Go.RowKit
set_option linter.unusedVariables false

def okLeaf (xs : List En) (c : Int) : Prop := xs.length = 8 ∧ liveL xs ∧ ∀ k, k < 8 → MayE (lfAt xs k) c
theorem mayC {k s n z m c : Int} (ho : EnOk (k, s, n, z, m)) {B : Bool} (hB : decide (MayE (k, s, n, z, m) c) = B) (w : World) : Calls Tryz.prog 27 #[.agg #[.int .i64 k, .int .i64 s, .int .i64 n, .int .i64 z, .int .u32 m], .int .i64 c] w fun e w' => e = .returned (.bool B) ∧ Below w.heap.size w w' := by
  subst hB
  exact entryMay_any k s n z m c ho w
set_option maxHeartbeats 1600000 in
theorem leaf9 (a : Option Addr) (len cap : Nat) (xs : List En) (c : Int) (R : Bool) (hR1 : R = true → okLeaf xs c) (hR2 : okLeaf xs c → R = true) (w : World) (h : LfR w (a, len, cap, xs)) : Calls Tryz.prog 106 #[.slice a len cap, .int .i64 c] w fun e w' => e = .returned (.bool R) ∧ Below w.heap.size w w' := by
  have hl : xs.length = len := h.len
  have HL := Lib.hid h
  by_cases h8 : len = 8
  · subst h8
    have HB := Lib.hid (blank9 a 8 cap xs w h.1 h.2.2.2)
    by_cases hv : liveL xs
    · have e0 : decide (¬ liveL xs) = false := by simp [hv]
      rw [e0] at HB
      have HRf : Hid (∀ k, k < 8 → ¬ MayE (lfAt xs k) c → R = false) := fun k hk h0 => by
        cases R with
        | false => rfl
        | true => exact absurd ((hR1 rfl).2.2 k hk) h0
      have HRt : Hid ((∀ k, k < 8 → MayE (lfAt xs k) c) → R = true) := fun h => hR2 ⟨hl, hv, h⟩
      clear hR1 hR2 h e0
      go_enter Tryz.func106, Tryz.ntmps106
      go_wp2_with (go_at_call 107; (with_reducible refine HB.out.mono ?_); rintro e w1 ⟨rfl, g⟩; have HG1 := Lib.hid g; clear g)
      go_loopw [16] (fun i wr => ∃ j : Nat, j ≤ 8 ∧ i = .int .i64 j ∧ Hid (∀ k, k < j → MayE (lfAt xs k) c) ∧ Hid (Below w.heap.size w wr)) (fun i _ => 8 - (intOf i).toNat)
      case atStart => exact ⟨0, Nat.zero_le _, rfl, fun k hk => by omega, HG1.out⟩
      case round =>
        obtain ⟨j, hj, rfl, HJ, HG⟩ := hrel
        by_cases hlt : j < 8
        · obtain ⟨b, off, e1, hs, x1, x2, x3, x4, x5⟩ := (HL.out.later HG.out).at j hlt
          dsimp only at e1 hs x1 x2 x3 x4 x5
          subst e1
          have HN : Hid (Below w.heap.size w (wr.alloc (.cells #[.int .i64 (lfAt xs j).1, .int .i64 (lfAt xs j).2.1, .int .i64 (lfAt xs j).2.2.1, .int .i64 (lfAt xs j).2.2.2.1, .int .u32 (lfAt xs j).2.2.2.2] 24))) := HG.out.alloc HG.out.size _
          have hne : ¬ MayE (lfAt xs j) c → R = false := HRf.out j hlt
          have heq : MayE (lfAt xs j) c → Hid (∀ k, k < j + 1 → MayE (lfAt xs k) c) := fun h k hk => by
            by_cases e : k = j
            · rw [e]; exact h
            · exact HJ.out k (by omega)
          obtain ⟨⟨v1, v2, v3, v4, v5⟩, HV⟩ := named (lfAt xs j)
          rw [HV.out] at x1 x2 x3 x4 x5 hne heq HN hs
          dsimp only at x1 x2 x3 x4 x5 HN
          clear HV
          by_cases hm : MayE (v1, v2, v3, v4, v5) c
          · have HM := Lib.hid (fun w => mayC hs (decide_eq_true hm) w)
            have HQ2 := heq hm
            clear hne heq hs hm
            go_wp2_with (go_at_call 27; (with_reducible refine (HM.out _).mono ?_); rintro e w2 ⟨rfl, g⟩; have HN2 := Lib.hid (HN.out.trans (g.mono (HN.out.size))); clear g)
            go_roundw
            case rel => exact ⟨j + 1, by omega, by go_num, HQ2, HN2.out⟩
            case measure => simp [intOf]; omega
          · have HM := Lib.hid (fun w => mayC hs (decide_eq_false hm) w)
            have hr : R = false := hne hm
            subst hr
            clear hne heq hs hm
            go_wp2_with (go_at_call 27; (with_reducible refine (HM.out _).mono ?_); rintro e w2 ⟨rfl, g⟩; have HN2 := Lib.hid (HN.out.trans (g.mono (HN.out.size))); clear g)
            go_ret
            exact ⟨rfl, HN2.out⟩
        · have hr : R = true := HRt.out fun k hk => HJ.out k (by omega)
          subst hr
          go_wp2
          go_ret
          exact ⟨rfl, HG.out⟩
    · have e0 : decide (¬ liveL xs) = true := by simp [hv]
      rw [e0] at HB
      have hr : R = false := by
        cases R with
        | false => rfl
        | true => exact absurd (hR1 rfl).2.1 hv
      subst hr
      clear hR1 hR2 h e0
      go_enter Tryz.func106, Tryz.ntmps106
      go_wp2_with (go_at_call 107; (with_reducible refine HB.out.mono ?_); rintro e w1 ⟨rfl, g⟩; have HG1 := Lib.hid g; clear g)
      go_ret
      exact ⟨rfl, HG1.out⟩
  · have hr : R = false := by
      cases R with
      | false => rfl
      | true => exact absurd (hl.symm.trans (hR1 rfl).1) h8
    subst hr
    clear hR1 hR2 h
    go_enter Tryz.func106, Tryz.ntmps106
    go_wp2
    go_ret
    exact ⟨rfl, Below.refl _ _⟩
end Go.Proofs.YtlljcdmblmkblaaGreat
namespace Go.Proofs.YtlljcdmblmkblaaGreat
open Go.RowKit
set_option linter.unusedVariables false

theorem live_drop {xs : List En} {m : Nat} : liveL (xs.drop m) ↔ ∃ k, m ≤ k ∧ k < xs.length ∧ (lfAt xs k).1 ≠ 0 := by
  rw [liveL_at]
  have e : ∀ k, lfAt (xs.drop m) k = lfAt xs (m + k) := fun k => by
    unfold lfAt
    rw [List.getD_eq_getElem?_getD, List.getD_eq_getElem?_getD, List.getElem?_drop]
  constructor
  · rintro ⟨k, hk, h0⟩
    rw [List.length_drop] at hk
    rw [e] at h0
    exact ⟨m + k, by omega, by omega, h0⟩
  · rintro ⟨k, h1, h2, h0⟩
    refine ⟨k - m, by rw [List.length_drop]; omega, ?_⟩
    rw [e, show m + (k - m) = k by omega]
    exact h0
theorem rightL_iff {xs : List En} {j : Nat} {n c : Int} (hn : 0 ≤ n) : rightL xs j n c ↔ okLeaf xs c ∧ ¬ liveL (xs.drop (belowN n.toNat j)) := by
  unfold rightL okLeaf
  rw [live_drop]
  constructor
  · rintro ⟨h1, h2, k, hk, h0⟩
    refine ⟨⟨h1, liveL_at.2 ⟨k, by omega, h0⟩, fun k hk => (h2 k hk).1⟩, ?_⟩
    rintro ⟨k, g1, g2, g3⟩
    have := (h2 k (by omega)).2 g3
    unfold belowN at g1
    omega
  · rintro ⟨⟨h1, h2, h3⟩, h4⟩
    obtain ⟨k, hk, h0⟩ := liveL_at.1 h2
    refine ⟨h1, fun k hk => ⟨h3 k hk, fun h0 => ?_⟩, k, by omega, h0⟩
    refine Decidable.byContradiction fun hlt => h4 ⟨k, ?_, by omega, h0⟩
    unfold belowN
    omega
theorem leafC {a : Option Addr} {len cap : Nat} {xs : List En} {c : Int} {R : Bool} (hR : R = true ↔ okLeaf xs c) (w : World) (h : LfR w (a, len, cap, xs)) : Calls Tryz.prog 106 #[.slice a len cap, .int .i64 c] w fun e w' => e = .returned (.bool R) ∧ Below w.heap.size w w' :=
  leaf9 a len cap xs c R hR.1 hR.2 w h
theorem blankC {a : Option Addr} {len cap : Nat} {xs : List En} {B : Bool} (hB : decide (¬ liveL xs) = B) (w : World) (h : Reads enV w a len xs) (hok : ∀ x ∈ xs, EnOk x) : Calls Tryz.prog 107 #[.slice a len cap] w fun e w' => e = .returned (.bool B) ∧ Below w.heap.size w w' := by
  subst hB
  exact blank9 a len cap xs w h hok
set_option maxHeartbeats 3200000 in
theorem right9_is (w : World) (a : Option Addr) (len cap : Nat) (ds : List LfD) (n c : Int) (h : TabR w a len ds) (hlen : len ≤ 6000) (R : Bool) (hR : decide (rightT (tbOf ds) n c) = R) : Calls Tryz.prog 83 #[.agg #[.slice a len cap], .int .i64 n, .int .i64 c] w fun e w' => e = .returned (.bool R) ∧ Below w.heap.size w w' := by
  have hR' : R = true ↔ rightM (tbOf ds) n c := by rw [← hR, decide_eq_true_iff]; exact rightM_iff
  have HG0 : Hid (Below w.heap.size w (w.alloc (.cells #[.slice a len cap] 36))) := (Below.refl _ _).alloc (Nat.le_refl _) _
  by_cases hn : 0 ≤ n ∧ n ≤ 4096
  · by_cases hc : 0 ≤ c ∧ c ≤ 6
    · have W1 := Lib.hid (fun w => within9_is (n := n) (a := 0) (b := 4096) (decide_eq_true hn) w)
      have W2 := Lib.hid (fun w => within9_is (n := c) (a := 0) (b := 6) (decide_eq_true hc) w)
      have hlt' := h.tlen
      have HT := Lib.hid h
      have HRL : Hid (R = true ↔ (0 < len → tbAt (tbOf ds) (len - 1) ≠ []) ∧ ∀ i, i < len → tbAt (tbOf ds) i ≠ [] → rightL (tbAt (tbOf ds) i) i n c) := by
        show _ ↔ _
        rw [hR']
        unfold rightM
        rw [hlt']
        exact ⟨fun h => h.2.2, fun h => ⟨hn, hc, h⟩⟩
      clear hR hR' h
      obtain ⟨N, rfl⟩ : ∃ N : Nat, n = N := ⟨n.toNat, by omega⟩
      have HB0 := Lib.hid (Box1.first w (.slice a len cap))
      obtain ⟨X, hX⟩ := named w.heap.size
      have hXX := hX.out
      rw [hX.out] at HB0 ⊢
      go_enter Tryz.func83, Tryz.ntmps83
      go_wp2_with (first
        | (go_at_call 104; (with_reducible refine (W1.out _).mono ?_); rintro e w1 ⟨rfl, rfl⟩)
        | (go_at_call 104; (with_reducible refine (W2.out _).mono ?_); rintro e w1 ⟨rfl, rfl⟩))
      go_loopw [20] (fun i wr => ∃ j : Nat, j ≤ len ∧ i = .int .i64 j ∧ Hid (∀ i, i < j → tbAt (tbOf ds) i ≠ [] → rightL (tbAt (tbOf ds) i) i (↑N) c) ∧ Hid (Box1 X (.slice a len cap) w wr)) (fun i _ => len - (intOf i).toNat)
      case atStart => exact ⟨0, Nat.zero_le _, rfl, fun k hk => by omega, HB0.out⟩
      case round =>
        obtain ⟨j, hj, rfl, HJ, HB⟩ := hrel
        have hTR := HT.out.later (hX.out.symm ▸ HB.out.2)
        have b1 := HB.out.cell
        by_cases hlt : j < len
        · obtain ⟨b, off, al, ll, cl, xs, rfl, hcell, hL, hxs, _⟩ := hTR.at j hlt
          have HXS := Lib.hid hxs
          by_cases h0 : ll = 0
          · subst h0
            have he : xs = [] := List.eq_nil_of_length_eq_zero hL.len
            have HJ2 : Hid (∀ i, i < j + 1 → tbAt (tbOf ds) i ≠ [] → rightL (tbAt (tbOf ds) i) i (↑N) c) := fun i hi hne => by
              by_cases e : i = j
              · subst e
                exact absurd (HXS.out.trans he) hne
              · exact HJ.out i (by omega) hne
            have HA := Lib.hid (fun w => absent9 al 0 cl true (by decide) w)
            clear hTR hL hxs he
            go_wp2_with (go_at_call 105; (with_reducible refine (HA.out _).mono ?_); rintro e w1 ⟨rfl, rfl⟩)
            go_roundw
            case rel => exact ⟨j + 1, by omega, by go_num, HJ2, HB.out⟩
            case measure => simp [intOf]; omega
          · have HA := Lib.hid (fun w => absent9 al ll cl false (by simp [h0]) w)
            have hne : xs ≠ [] := fun e => by
              have := hL.len
              dsimp only at this
              rw [e] at this
              exact h0 this.symm
            have hrl := rightL_iff (xs := xs) (j := j) (n := (N : Int)) (c := c) (by omega)
            have HL := Lib.hid hL
            by_cases hok : okLeaf xs c
            · have HF := Lib.hid (leafC (R := true) ⟨fun _ => hok, fun _ => rfl⟩ wr hL)
              have h8 : ll = 8 := hL.len.symm.trans hok.1
              subst h8
              have HW := Lib.hid (fun w => below9 (N : Int) j (by omega) (by omega) (by omega) w)
              obtain ⟨K, hK⟩ := named (belowN (N : Int).toNat j)
              rw [hK.out] at HW hrl
              have hK8 : K ≤ 8 := by rw [← hK.out]; unfold belowN; omega
              obtain ⟨b', off', rfl⟩ := hL.1.lies (show 0 < 8 by omega)
              obtain ⟨O, hsl, hO⟩ := slice_tail9 (b := b') (off := off') (len := 8) (cap := cl) (p := K) hK8 hL.2.1
              have HRd := Lib.hid (hL.1.tail9 K hK8 hO)
              have hoks : ∀ x ∈ xs.drop K, EnOk x := fun x hx => hL.2.2.2 x (List.mem_of_mem_drop hx)
              clear hK hO
              by_cases hbl : liveL (xs.drop K)
              · have HK := Lib.hid (fun w h => blankC (a := some ⟨b', O, none⟩) (len := 8 - K) (cap := cl - K) (decide_eq_false (Classical.not_not.2 hbl)) w h hoks)
                have hr : R = false := by
                  cases R with
                  | false => rfl
                  | true =>
                    have := (HRL.out.1 rfl).2 j hlt (by rw [HXS.out]; exact hne)
                    rw [HXS.out] at this
                    exact absurd hbl (hrl.1 this).2
                subst hr
                clear hTR hxs hne hrl hok hbl hoks
                go_wp2_with (first
                  | (go_at_call 105; (with_reducible refine (HA.out _).mono ?_); rintro e w1 ⟨rfl, rfl⟩)
                  | (go_at_call 106; (with_reducible refine HF.out.mono ?_); rintro e w1 ⟨rfl, g⟩; have HG1 := Lib.hid g; clear g)
                  | (go_at_call 108; (with_reducible refine (HW.out _).mono ?_); rintro e w2 ⟨rfl, rfl⟩)
                  | (go_at_call 107; (with_reducible refine (HK.out _ (HRd.out.later HG1.out)).mono ?_); rintro e w2 ⟨rfl, g⟩; have HG2 := Lib.hid g; clear g))
                go_ret
                exact ⟨rfl, ((HB.out.later HG1.out).later HG2.out).2⟩
              · have HK := Lib.hid (fun w h => blankC (a := some ⟨b', O, none⟩) (len := 8 - K) (cap := cl - K) (decide_eq_true hbl) w h hoks)
                have hrj : rightL xs j (↑N) c := hrl.2 ⟨hok, hbl⟩
                have HJ2 : Hid (∀ i, i < j + 1 → tbAt (tbOf ds) i ≠ [] → rightL (tbAt (tbOf ds) i) i (↑N) c) := fun i hi hne => by
                  by_cases e : i = j
                  · subst e
                    rw [HXS.out]
                    exact hrj
                  · exact HJ.out i (by omega) hne
                clear hTR hxs hne hrl hok hbl hoks hrj
                go_wp2_with (first
                  | (go_at_call 105; (with_reducible refine (HA.out _).mono ?_); rintro e w1 ⟨rfl, rfl⟩)
                  | (go_at_call 106; (with_reducible refine HF.out.mono ?_); rintro e w1 ⟨rfl, g⟩; have HG1 := Lib.hid g; clear g)
                  | (go_at_call 108; (with_reducible refine (HW.out _).mono ?_); rintro e w2 ⟨rfl, rfl⟩)
                  | (go_at_call 107; (with_reducible refine (HK.out _ (HRd.out.later HG1.out)).mono ?_); rintro e w2 ⟨rfl, g⟩; have HG2 := Lib.hid g; clear g))
                go_roundw
                case rel => exact ⟨j + 1, by omega, by go_num, HJ2, (HB.out.later HG1.out).later HG2.out⟩
                case measure => simp [intOf]; omega
            · have HF := Lib.hid (leafC (R := false) ⟨fun e => (by cases e), fun h => absurd h hok⟩ wr hL)
              have hr : R = false := by
                cases R with
                | false => rfl
                | true =>
                  have := (HRL.out.1 rfl).2 j hlt (by rw [HXS.out]; exact hne)
                  rw [HXS.out] at this
                  exact absurd (hrl.1 this).1 hok
              subst hr
              clear hTR hL hxs hne hrl hok
              go_wp2_with (first
                | (go_at_call 105; (with_reducible refine (HA.out _).mono ?_); rintro e w1 ⟨rfl, rfl⟩)
                | (go_at_call 106; (with_reducible refine HF.out.mono ?_); rintro e w1 ⟨rfl, g⟩; have HG1 := Lib.hid g; clear g))
              go_ret
              exact ⟨rfl, (HB.out.later HG1.out).2⟩
        · have hjl : j = len := by omega
          subst hjl
          by_cases h0 : j = 0
          · subst h0
            have hr : R = true := HRL.out.2 ⟨fun h => by omega, HJ.out⟩
            subst hr
            clear hTR
            go_wp2
            go_ret
            exact ⟨rfl, HB.out.2⟩
          · obtain ⟨b, off, al, ll, cl, xs, rfl, hcell, hL, hxs, _⟩ := hTR.at (j - 1) (by omega)
            have HA : Hid (∀ w, Calls Tryz.prog 105 #[.slice al ll cl] w fun e w' => e = .returned (.bool (!R)) ∧ w = w') := fun w => absent9 al ll cl (!R) (by
              have hl := hL.len
              dsimp only at hl
              cases R with
              | false =>
                have : ¬ (0 < j → tbAt (tbOf ds) (j - 1) ≠ []) := fun h => by cases HRL.out.2 ⟨h, HJ.out⟩
                rw [hxs] at this
                have e : xs = [] := Decidable.byContradiction fun h => this fun _ => h
                rw [e] at hl
                simp [← hl]
              | true =>
                have := (HRL.out.1 rfl).1 (by omega)
                rw [hxs] at this
                have : ll ≠ 0 := fun e => this (List.eq_nil_of_length_eq_zero (hl.trans e))
                simp [this]) w
            have e1 : wrap64 ((j : Int) - 1) = ((j - 1 : Nat) : Int) := by unfold wrap64; omega
            have h00 : ¬ (j : Int) = 0 := by omega
            have h01 : ((j : Int) == 0) = false := by simp [h0]
            have h02 : j - 1 < j := by omega
            clear hTR hL hxs hj hlt
            go_wp2_with (go_at_call 105; (with_reducible refine (HA.out _).mono ?_); rintro e w1 ⟨rfl, rfl⟩)
            go_ret
            exact ⟨by simp, HB.out.2⟩
    · have hr : R = false := by
        cases R with
        | false => rfl
        | true => exact absurd (hR'.1 rfl).2.1 hc
      subst hr
      have W1 := Lib.hid (fun w => within9_is (n := n) (a := 0) (b := 4096) (decide_eq_true hn) w)
      have W2 := Lib.hid (fun w => within9_is (n := c) (a := 0) (b := 6) (decide_eq_false hc) w)
      clear hR hR' h
      go_enter Tryz.func83, Tryz.ntmps83
      go_wp2_with (first
        | (go_at_call 104; (with_reducible refine (W1.out _).mono ?_); rintro e w1 ⟨rfl, rfl⟩)
        | (go_at_call 104; (with_reducible refine (W2.out _).mono ?_); rintro e w1 ⟨rfl, rfl⟩))
      go_ret
      exact ⟨rfl, HG0.out⟩
  · have hr : R = false := by
      cases R with
      | false => rfl
      | true => exact absurd (hR'.1 rfl).1 hn
    subst hr
    have W1 := Lib.hid (fun w => within9_is (n := n) (a := 0) (b := 4096) (decide_eq_false hn) w)
    clear hR hR' h
    go_enter Tryz.func83, Tryz.ntmps83
    go_wp2_with (go_at_call 104; (with_reducible refine (W1.out _).mono ?_); rintro e w1 ⟨rfl, rfl⟩)
    go_ret
    exact ⟨rfl, HG0.out⟩
end Go.Proofs.YtlljcdmblmkblaaGreat
namespace Go.Proofs.YtlljcdmblmkblaaGreat
open Go.RowKit

abbrev Sp := Int × Int
/-- Could a span stand in a list? -/
def mayB (s : Sp) : Bool := decide (0 ≤ s.1) && decide (s.1 < s.2) && decide (s.2 ≤ 1073741824)
theorem mayB_iff (s : Sp) : mayB s = true ↔ 0 ≤ s.1 ∧ s.1 < s.2 ∧ s.2 ≤ 1073741824 := by
  unfold mayB
  simp only [Bool.and_eq_true, decide_eq_true_eq]
  omega
/-- Right spans, all behind lo. -/
def Rt : Int → List Sp → Prop
  | _, [] => True
  | lo, x :: r => lo < x.1 ∧ x.1 < x.2 ∧ x.2 ≤ 1073741824 ∧ Rt x.2 r
instance Rt.dec : ∀ (lo : Int) (l : List Sp), Decidable (Rt lo l)
  | _, [] => isTrue trivial
  | lo, x :: r => by
    unfold Rt
    have := Rt.dec x.2 r
    infer_instance
theorem Rt.weak : ∀ {lo lo' : Int} {l : List Sp}, Rt lo l → lo' ≤ lo → Rt lo' l
  | _, _, [], _, _ => trivial
  | _, _, _ :: _, h, hl => ⟨by have := h.1; omega, h.2⟩
/-- A list, or nothing, if it is none. -/
def norm (l : List Sp) : List Sp := if Rt (-1) l then l else []
theorem norm_right (l : List Sp) : Rt (-1) (norm l) := by
  unfold norm
  split
  · assumption
  · trivial
theorem norm_of {l : List Sp} (h : Rt (-1) l) : norm l = l := if_pos h
/-- Is a number there? -/
def inL (l : List Sp) (n : Int) : Prop := ∃ x ∈ l, x.1 ≤ n ∧ n < x.2
theorem inL_nil (n : Int) : ¬ inL [] n := fun ⟨_, h, _⟩ => by cases h
theorem inL_cons (x : Sp) (r : List Sp) (n : Int) : inL (x :: r) n ↔ (x.1 ≤ n ∧ n < x.2) ∨ inL r n := by
  constructor
  · rintro ⟨y, hy, h⟩
    rcases List.mem_cons.1 hy with rfl | hy
    · exact Or.inl h
    · exact Or.inr ⟨y, hy, h⟩
  · rintro (h | ⟨y, hy, h⟩)
    · exact ⟨x, List.mem_cons_self, h⟩
    · exact ⟨y, List.mem_cons_of_mem _ hy, h⟩
theorem inL_append (a b : List Sp) (n : Int) : inL (a ++ b) n ↔ inL a n ∨ inL b n := by
  unfold inL
  simp only [List.mem_append]
  constructor
  · rintro ⟨x, h | h, g⟩
    · exact Or.inl ⟨x, h, g⟩
    · exact Or.inr ⟨x, h, g⟩
  · rintro (⟨x, h, g⟩ | ⟨x, h, g⟩)
    · exact ⟨x, Or.inl h, g⟩
    · exact ⟨x, Or.inr h, g⟩
theorem Rt.above : ∀ {lo : Int} {l : List Sp}, Rt lo l → ∀ n, inL l n → lo < n
  | _, [], _, n, h => absurd h (inL_nil n)
  | _, x :: r, h, n, hn => by
    rcases (inL_cons x r n).1 hn with g | g
    · have := h.1
      omega
    · have h1 := h.2.2.2.above n g
      have h2 := h.1
      have h3 := h.2.1
      omega
theorem Rt.below : ∀ {lo : Int} {l : List Sp}, Rt lo l → ∀ n, inL l n → n < 1073741824
  | _, [], _, n, h => absurd h (inL_nil n)
  | _, x :: r, h, n, hn => by
    rcases (inL_cons x r n).1 hn with g | g
    · have := h.2.2.1
      omega
    · exact h.2.2.2.below n g
/-- Right lists of the same numbers are one list. -/
theorem same_list : ∀ {lo lo' : Int} (a b : List Sp), Rt lo a → Rt lo' b → (∀ n, inL a n ↔ inL b n) → a = b
  | _, _, [], [], _, _, _ => rfl
  | _, _, [], y :: t, _, hb, h => absurd ((h y.1).2 ((inL_cons y t y.1).2 (Or.inl ⟨Int.le_refl _, hb.2.1⟩))) (inL_nil _)
  | _, _, x :: r, [], ha, _, h => absurd ((h x.1).1 ((inL_cons x r x.1).2 (Or.inl ⟨Int.le_refl _, ha.2.1⟩))) (inL_nil _)
  | _, _, x :: r, y :: t, ha, hb, h => by
    have a0 := ha.2.1
    have b0 := hb.2.1
    have ra := fun n => ha.2.2.2.above n
    have rb := fun n => hb.2.2.2.above n
    have hx : x.1 = y.1 := by
      have h1 := (inL_cons y t x.1).1 ((h x.1).1 ((inL_cons x r x.1).2 (Or.inl ⟨Int.le_refl _, a0⟩)))
      have h2 := (inL_cons x r y.1).1 ((h y.1).2 ((inL_cons y t y.1).2 (Or.inl ⟨Int.le_refl _, b0⟩)))
      have h1' : y.1 ≤ x.1 := by
        rcases h1 with g | g
        · exact g.1
        · have := rb _ g
          omega
      have h2' : x.1 ≤ y.1 := by
        rcases h2 with g | g
        · exact g.1
        · have := ra _ g
          omega
      omega
    have hy : x.2 = y.2 := by
      rcases Int.lt_trichotomy x.2 y.2 with g | g | g
      · have h1 := (inL_cons x r x.2).1 ((h x.2).2 ((inL_cons y t x.2).2 (Or.inl ⟨by omega, g⟩)))
        rcases h1 with g1 | g1
        · omega
        · have := ra _ g1
          omega
      · exact g
      · have h1 := (inL_cons y t y.2).1 ((h y.2).1 ((inL_cons x r y.2).2 (Or.inl ⟨by omega, g⟩)))
        rcases h1 with g1 | g1
        · omega
        · have := rb _ g1
          omega
    have hxy : x = y := Prod.ext hx hy
    subst hxy
    have ht : r = t := same_list r t ha.2.2.2 hb.2.2.2 fun n => by
      constructor
      · intro g
        have := ra n g
        rcases (inL_cons x t n).1 ((h n).1 ((inL_cons x r n).2 (Or.inr g))) with g1 | g1
        · omega
        · exact g1
      · intro g
        have := rb n g
        rcases (inL_cons x r n).1 ((h n).2 ((inL_cons x t n).2 (Or.inr g))) with g1 | g1
        · omega
        · exact g1
    rw [ht]

/-- One span more. -/
def ins : List Sp → Sp → List Sp
  | [], s => [s]
  | x :: r, s => if x.2 < s.1 then x :: ins r s else if s.2 < x.1 then s :: x :: r else ins r (min s.1 x.1, max s.2 x.2)
theorem ins_right : ∀ {lo : Int} (l : List Sp) (s : Sp), Rt lo l → lo < s.1 → s.1 < s.2 → s.2 ≤ 1073741824 → Rt lo (ins l s)
  | _, [], _, _, h1, h2, h3 => ⟨h1, h2, h3, trivial⟩
  | lo, x :: r, s, h, h1, h2, h3 => by
    have g0 := h.1
    have g1 := h.2.1
    have g2 := h.2.2.1
    unfold ins
    by_cases c1 : x.2 < s.1
    · rw [if_pos c1]
      exact ⟨h.1, h.2.1, h.2.2.1, ins_right r s h.2.2.2 c1 h2 h3⟩
    · rw [if_neg c1]
      by_cases c2 : s.2 < x.1
      · rw [if_pos c2]
        exact ⟨h1, h2, h3, c2, h.2⟩
      · rw [if_neg c2]
        refine ins_right r _ (h.2.2.2.weak (by omega)) ?_ ?_ ?_
        · show lo < min s.1 x.1
          omega
        · show min s.1 x.1 < max s.2 x.2
          omega
        · show max s.2 x.2 ≤ _
          omega
theorem ins_in : ∀ {lo : Int} (l : List Sp) (s : Sp), Rt lo l → s.1 < s.2 → ∀ n, inL (ins l s) n ↔ inL l n ∨ (s.1 ≤ n ∧ n < s.2)
  | _, [], s, _, _, n => by
    show inL [s] n ↔ _
    rw [inL_cons]
    constructor
    · rintro (g | g)
      · exact Or.inr g
      · exact Or.inl g
    · rintro (g | g)
      · exact Or.inr g
      · exact Or.inl g
  | _, x :: r, s, h, h2, n => by
    have g1 := h.2.1
    unfold ins
    by_cases c1 : x.2 < s.1
    · rw [if_pos c1, inL_cons, inL_cons, ins_in r s h.2.2.2 h2 n]
      constructor
      · rintro (g | g | g)
        · exact Or.inl (Or.inl g)
        · exact Or.inl (Or.inr g)
        · exact Or.inr g
      · rintro ((g | g) | g)
        · exact Or.inl g
        · exact Or.inr (Or.inl g)
        · exact Or.inr (Or.inr g)
    · rw [if_neg c1]
      by_cases c2 : s.2 < x.1
      · rw [if_pos c2, inL_cons s]
        constructor
        · rintro (g | g)
          · exact Or.inr g
          · exact Or.inl g
        · rintro (g | g)
          · exact Or.inr g
          · exact Or.inl g
      · rw [if_neg c2, ins_in r _ h.2.2.2 (by show min s.1 x.1 < max s.2 x.2; omega) n, inL_cons]
        have e : (min s.1 x.1 ≤ n ∧ n < max s.2 x.2) ↔ (x.1 ≤ n ∧ n < x.2) ∨ (s.1 ≤ n ∧ n < s.2) := by omega
        show inL r n ∨ (min s.1 x.1 ≤ n ∧ n < max s.2 x.2) ↔ _
        rw [e]
        constructor
        · rintro (g | g | g)
          · exact Or.inl (Or.inr g)
          · exact Or.inl (Or.inl g)
          · exact Or.inr g
        · rintro ((g | g) | g)
          · exact Or.inr (Or.inl g)
          · exact Or.inl g
          · exact Or.inr (Or.inr g)
def addL (l : List Sp) (s : Sp) : List Sp := if mayB s then ins (norm l) s else norm l
theorem addL_right (l : List Sp) (s : Sp) : Rt (-1) (addL l s) := by
  unfold addL
  cases hm : mayB s with
  | false => exact norm_right l
  | true =>
    have := (mayB_iff s).1 hm
    exact ins_right _ s (norm_right l) (by omega) this.2.1 this.2.2
theorem addL_in (l : List Sp) (s : Sp) (hm : mayB s = true) (n : Int) : inL (addL l s) n ↔ inL (norm l) n ∨ (s.1 ≤ n ∧ n < s.2) := by
  unfold addL
  rw [if_pos hm]
  exact ins_in _ s (norm_right l) ((mayB_iff s).1 hm).2.1 n
/-- One span less. -/
def piece (s x : Sp) : List Sp := (if x.1 < s.1 then [(x.1, min x.2 s.1)] else []) ++ (if s.2 < x.2 then [(max x.1 s.2, x.2)] else [])
def subs (l : List Sp) (s : Sp) : List Sp := l.flatMap (piece s)
theorem piece_in (s x : Sp) (hs : s.1 < s.2) (_hx : x.1 < x.2) (n : Int) : inL (piece s x) n ↔ (x.1 ≤ n ∧ n < x.2) ∧ ¬ (s.1 ≤ n ∧ n < s.2) := by
  unfold piece
  rw [inL_append]
  by_cases c1 : x.1 < s.1
  · rw [if_pos c1, inL_cons]
    by_cases c2 : s.2 < x.2
    · rw [if_pos c2, inL_cons]
      constructor
      · rintro ((g | g) | (g | g))
        · omega
        · exact absurd g (inL_nil n)
        · omega
        · exact absurd g (inL_nil n)
      · intro g
        by_cases c3 : n < s.1
        · exact Or.inl (Or.inl (by omega))
        · exact Or.inr (Or.inl (by omega))
    · rw [if_neg c2]
      constructor
      · rintro ((g | g) | g)
        · omega
        · exact absurd g (inL_nil n)
        · exact absurd g (inL_nil n)
      · intro g
        exact Or.inl (Or.inl (by omega))
  · rw [if_neg c1]
    by_cases c2 : s.2 < x.2
    · rw [if_pos c2, inL_cons]
      constructor
      · rintro (g | (g | g))
        · exact absurd g (inL_nil n)
        · omega
        · exact absurd g (inL_nil n)
      · intro g
        exact Or.inr (Or.inl (by omega))
    · rw [if_neg c2]
      constructor
      · rintro (g | g) <;> exact absurd g (inL_nil n)
      · intro g
        omega
theorem subs_in : ∀ {lo : Int} (l : List Sp) (s : Sp), Rt lo l → s.1 < s.2 → ∀ n, inL (subs l s) n ↔ inL l n ∧ ¬ (s.1 ≤ n ∧ n < s.2)
  | _, [], _, _, _, n => ⟨fun g => absurd g (inL_nil n), fun g => absurd g.1 (inL_nil n)⟩
  | _, x :: r, s, h, h2, n => by
    show inL (piece s x ++ subs r s) n ↔ _
    rw [inL_append, piece_in s x h2 h.2.1 n, subs_in r s h.2.2.2 h2 n, inL_cons]
    constructor
    · rintro (g | g)
      · exact ⟨Or.inl g.1, g.2⟩
      · exact ⟨Or.inr g.1, g.2⟩
    · rintro ⟨g | g, k⟩
      · exact Or.inl ⟨g, k⟩
      · exact Or.inr ⟨g, k⟩
theorem piece_right {lo : Int} {s x : Sp} {r : List Sp} (h0 : lo < x.1) (h1 : x.1 < x.2) (h2 : x.2 ≤ 1073741824) (hs : s.1 < s.2) (hr : Rt x.2 r) : Rt lo (piece s x ++ r) := by
  unfold piece
  by_cases c1 : x.1 < s.1
  · rw [if_pos c1]
    by_cases c2 : s.2 < x.2
    · rw [if_pos c2]
      refine ⟨h0, ?_, ?_, ?_, ?_, h2, hr⟩
      · show x.1 < min x.2 s.1
        omega
      · show min x.2 s.1 ≤ _
        omega
      · show min x.2 s.1 < max x.1 s.2
        omega
      · show max x.1 s.2 < x.2
        omega
    · rw [if_neg c2]
      refine ⟨h0, ?_, ?_, hr.weak ?_⟩
      · show x.1 < min x.2 s.1
        omega
      · show min x.2 s.1 ≤ _
        omega
      · show min x.2 s.1 ≤ x.2
        omega
  · rw [if_neg c1]
    by_cases c2 : s.2 < x.2
    · rw [if_pos c2]
      refine ⟨?_, ?_, h2, hr⟩
      · show lo < max x.1 s.2
        omega
      · show max x.1 s.2 < x.2
        omega
    · rw [if_neg c2]
      exact hr.weak (by omega)
theorem subs_right : ∀ {lo : Int} (l : List Sp) (s : Sp), Rt lo l → s.1 < s.2 → Rt lo (subs l s)
  | _, [], _, _, _ => trivial
  | _, _ :: r, s, h, h2 => piece_right h.1 h.2.1 h.2.2.1 h2 (subs_right r s h.2.2.2 h2)
def subL (l : List Sp) (s : Sp) : List Sp := if mayB s then subs (norm l) s else norm l
theorem subL_right (l : List Sp) (s : Sp) : Rt (-1) (subL l s) := by
  unfold subL
  cases hm : mayB s with
  | false => exact norm_right l
  | true => exact subs_right _ s (norm_right l) ((mayB_iff s).1 hm).2.1
theorem subL_in (l : List Sp) (s : Sp) (hm : mayB s = true) (n : Int) : inL (subL l s) n ↔ inL (norm l) n ∧ ¬ (s.1 ≤ n ∧ n < s.2) := by
  unfold subL
  rw [if_pos hm]
  exact subs_in _ s (norm_right l) ((mayB_iff s).1 hm).2.1 n

/-! 4.3. -/
theorem sub_add (l : List Sp) (s : Sp) : subL (addL l s) s = subL l s := by
  cases hm : mayB s with
  | false => simp only [subL, addL, hm, Bool.false_eq_true, if_false, norm_of (norm_right l)]
  | true =>
    refine same_list _ _ (subL_right _ s) (subL_right l s) fun n => ?_
    rw [subL_in _ s hm, subL_in l s hm, norm_of (addL_right l s), addL_in l s hm]
    constructor
    · rintro ⟨g | g, k⟩
      · exact ⟨g, k⟩
      · exact absurd g k
    · rintro ⟨g, k⟩
      exact ⟨Or.inl g, k⟩
theorem add_sub (l : List Sp) (s : Sp) : addL (subL l s) s = addL l s := by
  cases hm : mayB s with
  | false => simp only [subL, addL, hm, Bool.false_eq_true, if_false, norm_of (norm_right l)]
  | true =>
    refine same_list _ _ (addL_right _ s) (addL_right l s) fun n => ?_
    rw [addL_in _ s hm, addL_in l s hm, norm_of (subL_right l s), subL_in l s hm]
    by_cases k : s.1 ≤ n ∧ n < s.2
    · exact ⟨fun _ => Or.inr k, fun _ => Or.inr k⟩
    · constructor
      · rintro (g | g)
        · exact Or.inl g.1
        · exact Or.inr g
      · rintro (g | g)
        · exact Or.inl ⟨g, k⟩
        · exact Or.inr g
theorem add_add (l : List Sp) (s t : Sp) : addL (addL l s) t = addL (addL l t) s := by
  cases hs : mayB s with
  | false =>
    have e1 : addL l s = norm l := by simp only [addL, hs, Bool.false_eq_true, if_false]
    have e2 : addL (addL l t) s = addL l t := by
      rw [show addL (addL l t) s = norm (addL l t) by simp only [addL, hs, Bool.false_eq_true, if_false], norm_of (addL_right l t)]
    rw [e1, e2]
    simp only [addL, norm_of (norm_right l)]
  | true =>
    cases ht : mayB t with
    | false =>
      have e1 : addL l t = norm l := by simp only [addL, ht, Bool.false_eq_true, if_false]
      have e2 : addL (addL l s) t = addL l s := by
        rw [show addL (addL l s) t = norm (addL l s) by simp only [addL, ht, Bool.false_eq_true, if_false], norm_of (addL_right l s)]
      rw [e1, e2]
      simp only [addL, norm_of (norm_right l)]
    | true =>
      refine same_list _ _ (addL_right _ t) (addL_right _ s) fun n => ?_
      rw [addL_in _ t ht, addL_in _ s hs, norm_of (addL_right l s), norm_of (addL_right l t), addL_in l s hs, addL_in l t ht]
      constructor
      · rintro ((g | g) | g)
        · exact Or.inl (Or.inl g)
        · exact Or.inr g
        · exact Or.inl (Or.inr g)
      · rintro ((g | g) | g)
        · exact Or.inl (Or.inl g)
        · exact Or.inr g
        · exact Or.inl (Or.inr g)
end Go.Proofs.YtlljcdmblmkblaaGreat
namespace Go.Proofs.YtlljcdmblmkblaaGreat
open Go.RowKit

/-- The cells of a span. -/
def spCells (s : Sp) : List Value := [.int .i64 s.1, .int .i64 s.2]
theorem sp_rowed : Rowed Tryz.prog 90 96 2 16 spCells where
  under := Tryz.underlying90
  info := by
    have h : (Tryz.prog.info? 96).map (fun i => (i.zero, i.size, i.bytes)) = some (some (.agg #[.int .i64 0, .int .i64 0]), 2, 16) := by kernel_rfl
    obtain ⟨i, hi, hz⟩ := Option.map_eq_some_iff.1 h
    simp only [Prod.mk.injEq] at hz
    exact ⟨i, _, hi, hz.1, hz.2.1, hz.2.2, rfl⟩
  pos := by decide
  small := by decide
  len := fun _ => rfl
  one := fun x u hu => by
    simp only [spCells, List.mem_cons, List.not_mem_nil, or_false] at hu
    rcases hu with rfl | rfl <;> rfl
abbrev Spans (w : World) (a : Option Addr) (len : Nat) (l : List Sp) : Prop := Reads spCells w a len l
abbrev OwnSp (w : World) (base : Nat) (v : Value) (n : Nat) (l : List Sp) : Prop := OwnG spCells 96 2 w base v n l
/-- The i-th span. -/
def spAt (l : List Sp) (i : Nat) : Sp := l.getD i (0, 0)
theorem spAt_some (l : List Sp) (i : Nat) (h : i < l.length) : l[i]? = some (spAt l i) := by
  unfold spAt
  rw [List.getD_eq_getElem?_getD, List.getElem?_eq_getElem h]
  rfl
theorem span_cells {w : World} {b off len : Nat} {l : List Sp} (h : Spans w (some ⟨b, off, none⟩) len l) (i : Nat) (hi : i < len) :
    w.cell? ⟨b, off + i * 2, none⟩ = some (.int .i64 (spAt l i).1) ∧ w.cell? ⟨b, off + i * 2 + 1, none⟩ = some (.int .i64 (spAt l i).2) := by
  have hs := spAt_some l i (by rw [h.1]; exact hi)
  exact ⟨h.cellAt sp_rowed i 0 _ _ hs rfl, h.cellAt sp_rowed i 1 _ _ hs rfl⟩
theorem ret_bool {a b : Bool} (h : a = b) : Ending.returned (.bool a) = .returned (.bool b) := by rw [h]
theorem rt_chain : ∀ (l : List Sp) (lo : Int), -1 ≤ lo → (Rt lo l ↔ ∀ k, k < l.length → mayB (spAt l k) = true ∧ (if k = 0 then lo else (spAt l (k - 1)).2) < (spAt l k).1)
  | [], _, _ => ⟨fun _ k h => by simp at h, fun _ => trivial⟩
  | x :: r, lo, hlo => by
    constructor
    · intro h k hk
      obtain ⟨h1, h2, h3, h4⟩ := h
      cases k with
      | zero => exact ⟨(mayB_iff x).2 ⟨by omega, h2, h3⟩, h1⟩
      | succ k =>
        obtain ⟨g1, g2⟩ := (rt_chain r x.2 (by omega)).1 h4 k (by simp at hk; exact hk)
        refine ⟨g1, ?_⟩
        rw [if_neg (by omega)]
        cases k with
        | zero => exact g2
        | succ k => exact g2
    · intro h
      obtain ⟨g1, g2⟩ := h 0 (by simp)
      obtain ⟨m1, m2, m3⟩ := (mayB_iff x).1 g1
      refine ⟨g2, m2, m3, (rt_chain r x.2 (by omega)).2 fun k hk => ?_⟩
      obtain ⟨k1, k2⟩ := h (k + 1) (by simp; exact hk)
      refine ⟨k1, ?_⟩
      rw [if_neg (by omega)] at k2
      cases k with
      | zero => exact k2
      | succ k => exact k2
/-- The first i spans are in order. -/
def okTo (l : List Sp) (i : Nat) : Prop := ∀ k, k < i → mayB (spAt l k) = true ∧ (0 < k → (spAt l (k - 1)).2 < (spAt l k).1)
theorem okTo_all (l : List Sp) : Rt (-1) l ↔ okTo l l.length := by
  rw [rt_chain l (-1) (by omega)]
  constructor
  · intro h k hk
    obtain ⟨g1, g2⟩ := h k hk
    exact ⟨g1, fun h0 => by rwa [if_neg (by omega)] at g2⟩
  · intro h k hk
    obtain ⟨g1, g2⟩ := h k hk
    refine ⟨g1, ?_⟩
    by_cases h0 : k = 0
    · rw [if_pos h0]
      have := (mayB_iff _).1 g1
      omega
    · rw [if_neg h0]
      exact g2 (by omega)
theorem okTo_zero (l : List Sp) : okTo l 0 := fun k h => by omega
theorem okTo_succ {l : List Sp} {i : Nat} (h : okTo l i) (h1 : mayB (spAt l i) = true) (h2 : 0 < i → (spAt l (i - 1)).2 < (spAt l i).1) : okTo l (i + 1) := fun k hk => by
  by_cases e : k = i
  · subst e
    exact ⟨h1, h2⟩
  · exact h k (by omega)

set_option maxHeartbeats 800000 in
theorem may_any (f t : Int) (w : World) : Calls Tryz.prog 74 #[.agg #[.int .i64 f, .int .i64 t]] w fun e w' => e = .returned (.bool (mayB (f, t))) ∧ Below w.heap.size w w' := by
  have hb : Below w.heap.size w (w.alloc (.cells #[.int .i64 f, .int .i64 t] 96)) := (Below.refl _ _).alloc (Nat.le_refl _) _
  have HB := Lib.hid hb
  clear hb
  unfold mayB
  by_cases h1 : 0 ≤ f
  · by_cases h2 : f < t
    · go_enter Tryz.func74, Tryz.ntmps74
      go_wp2
      go_ret
      exact ⟨ret_bool (by simp [h1, h2]), HB.out⟩
    · go_enter Tryz.func74, Tryz.ntmps74
      go_wp2
      go_ret
      exact ⟨ret_bool (by simp; omega), HB.out⟩
  · go_enter Tryz.func74, Tryz.ntmps74
    go_wp2
    go_ret
    exact ⟨ret_bool (by simp; omega), HB.out⟩

/-- Three cells that stay. -/
theorem three {w0 w : World} {p1 p2 p3 : Addr} {v1 v2 v3 : Value} (h1 : w0.cell? p1 = some v1) (h2 : w0.cell? p2 = some v2) (h3 : w0.cell? p3 = some v3) (b1 : p1.block < w0.heap.size) (b2 : p2.block < w0.heap.size) (b3 : p3.block < w0.heap.size) (h : Below w0.heap.size w0 w) :
    w.cell? p1 = some v1 ∧ w.cell? p2 = some v2 ∧ w.cell? p3 = some v3 ∧ Below w0.heap.size w0 w :=
  ⟨(h.cell b1).trans h1, (h.cell b2).trans h2, (h.cell b3).trans h3, h⟩
theorem mayCsp {w0 w : World} {f t : Int} {q1 q2 q3 : Prop} {M : Bool} (hm : mayB (f, t) = M) (h : q1 ∧ q2 ∧ q3 ∧ Below w0.heap.size w0 w) : Calls Tryz.prog 74 #[.agg #[.int .i64 f, .int .i64 t]] w fun e w' => e = .returned (.bool M) ∧ Below w0.heap.size w0 w' :=
  (may_any f t w).mono fun _ _ ⟨he, hb⟩ => ⟨by rw [he, hm], h.2.2.2.trans (hb.mono h.2.2.2.size)⟩
theorem may_no {f t : Int} {M : Bool} (hm : mayB (f, t) = M) (w : World) : Calls Tryz.prog 74 #[.agg #[.int .i64 f, .int .i64 t]] w fun e w' => e = .returned (.bool M) ∧ Below w.heap.size w w' :=
  (may_any f t w).mono fun _ _ ⟨he, hb⟩ => ⟨by rw [he, hm], hb⟩
theorem belowC {w0 w : World} {q1 q2 q3 : Prop} (h : q1 ∧ q2 ∧ q3 ∧ Below w0.heap.size w0 w) : Below w0.heap.size w0 w := h.2.2.2
theorem not_right {l : List Sp} {j : Nat} (hj : j < l.length) (h : mayB (spAt l j) = false ∨ (0 < j ∧ (spAt l j).1 ≤ (spAt l (j - 1)).2)) : decide (Rt (-1) l) = false := by
  rw [decide_eq_false_iff_not, okTo_all]
  intro g
  obtain ⟨g1, g2⟩ := g j hj
  rcases h with h | h
  · rw [h] at g1
    cases g1
  · have := g2 h.1
    omega

set_option maxHeartbeats 4000000 in
theorem refRight_any (a : Option Addr) (len cap : Nat) (l : List Sp) (w : World) (hB : Spans w a len l) (hlen : len ≤ 100000) (R : Bool) (hR : decide (Rt (-1) l) = R) :
    Calls Tryz.prog 50 #[.slice a len cap] w fun e w' => e = .returned (.bool R) ∧ Below w.heap.size w w' := by
  have HL := Lib.hid hB.1
  have HB := Lib.hid hB
  have HR := Lib.hid hR
  clear hB hR
  go_enter Tryz.func50, Tryz.ntmps50
  go_wp2
  go_loopw [3] (fun i wr => ∃ j : Nat, j ≤ len ∧ i = .int .i64 j ∧ Hid (okTo l j) ∧ Hid (Below w.heap.size w wr)) (fun i _ => len - (intOf i).toNat)
  case atStart => exact ⟨0, Nat.zero_le _, rfl, okTo_zero l, Below.refl _ _⟩
  case round =>
    obtain ⟨j, hj, rfl, HO, HG⟩ := hrel
    by_cases hlt : j < len
    · obtain ⟨b, off, rfl⟩ := HB.out.lies (by omega)
      have hS := HB.out.later HG.out
      have hbs : b < wr.heap.size := by
        obtain ⟨_, _, h3⟩ := hS
        obtain ⟨b', off', e, hlt', _⟩ := h3.resolve_left (by omega)
        cases e
        exact hlt'
      obtain ⟨c1, c2⟩ := span_cells hS j hlt
      obtain ⟨⟨f, t⟩, HS⟩ := named (spAt l j)
      rw [HS.out] at c1 c2
      have C1 := Lib.hid c1
      have C2 := Lib.hid c2
      have HBS := Lib.hid hbs
      obtain ⟨M, HM⟩ := named (mayB (f, t))
      have hB0 : Below wr.heap.size wr wr := Below.refl _ _
      cases M with
      | false =>
        have hRf : R = false := by rw [← HR.out]; exact not_right (by rw [HL.out]; exact hlt) (Or.inl (by rw [HS.out]; exact HM.out))
        subst hRf
        clear hS hbs
        go_wp2
        refine wp_region_held_drew (S := fun w' => w'.cell? ⟨b, off + j * 2, none⟩ = some (.int .i64 f) ∧ w'.cell? ⟨b, off + j * 2 + 1, none⟩ = some (.int .i64 t) ∧ w'.cell? ⟨b, off + j * 2, none⟩ = some (.int .i64 f) ∧ Below wr.heap.size wr w') (by kernel_rfl) (by first | exact three C1.out C2.out C1.out HBS.out HBS.out HBS.out (by assumption) | exact three C1.out C2.out C1.out HBS.out HBS.out HBS.out (Below.drew (by assumption))) (fun hHeld => ?_)
        refine wpAnyH_take (i := 0) (oi := _) (v := ?vb0) rfl (by kernel_rfl) (by kernel_rfl) (by kernel_rfl) (fun _ _ _ h => h) (Or.inl ⟨by rfl, ?hyb0⟩) (by assumption) ?restb0
        case hyb0 => (intro wz hSw; (try dsimp only at hSw); go_simp; try with_reducible rfl)
        (try simp only [List.getElem_toArray, List.getElem_cons_zero, Act.put, List.setIfInBounds_toArray, List.set_cons_zero, List.set_cons_succ])
        refine wpAnyH_take (i := 1) (oi := _) (v := ?vb1) rfl (by kernel_rfl) (by kernel_rfl) (by kernel_rfl) (fun _ _ _ h => h) (Or.inl ⟨by rfl, ?hyb1⟩) (by assumption) ?restb1
        case hyb1 => (intro wz hSw; (try dsimp only at hSw); go_simp; try with_reducible rfl)
        (try simp only [List.getElem_toArray, List.getElem_cons_zero, List.getElem_cons_succ, Act.put, List.setIfInBounds_toArray, List.set_cons_zero, List.set_cons_succ])
        refine wpAnyH_take (i := 2) (oi := _) (v := ?vb2) rfl (by kernel_rfl) (by kernel_rfl) (by kernel_rfl) (fun _ _ _ h => h) (Or.inl ⟨by rfl, ?hyb2⟩) (by assumption) ?restb2
        case hyb2 => (intro wz hSw; (try dsimp only at hSw); go_simp; try with_reducible rfl)
        (try simp only [List.getElem_toArray, List.getElem_cons_zero, List.getElem_cons_succ, Act.put, List.setIfInBounds_toArray, List.set_cons_zero, List.set_cons_succ])
        refine wpAnyH_take (i := 3) (oi := _) (v := ?vb3) rfl (by kernel_rfl) (by kernel_rfl) (by kernel_rfl) (fun _ _ _ h => h) (Or.inl ⟨by rfl, ?hyb3⟩) (by assumption) ?restb3
        case hyb3 => (intro wz hSw; (try dsimp only at hSw); go_simp; try with_reducible rfl)
        (try simp only [List.getElem_toArray, List.getElem_cons_zero, List.getElem_cons_succ, Act.put, List.setIfInBounds_toArray, List.set_cons_zero, List.set_cons_succ])
        refine wpAnyH_ready (rs := [4]) (by kernel_rfl) (by simp) ?_
        refine AllReadyH.cons (o := _) rfl (fun K hK => ?_) AllReadyH.nil
        rw [if_pos (by rfl)]
        go_simp
        (go_at_call 74; refine (mayCsp HM.out (by assumption)).mono ?_; rintro e w' ⟨rfl, hb⟩)
        dsimp only
        refine hK.out _ _ (by first | exact three C1.out C2.out C1.out HBS.out HBS.out HBS.out (by assumption) | exact three C1.out C2.out C1.out HBS.out HBS.out HBS.out (Below.drew (by assumption))) (fun hHeld => ?_)
        clear hK K
        (try simp only [List.getElem_toArray, List.getElem_cons_zero, List.getElem_cons_succ, Act.put, List.setIfInBounds_toArray, List.set_cons_zero, List.set_cons_succ])
        refine wpAnyH_take (i := 5) (oi := _) (v := ?vb5) rfl (by kernel_rfl) (by kernel_rfl) (by kernel_rfl) (fun _ _ _ h => h) (Or.inl ⟨by rfl, ?hyb5⟩) (by assumption) ?restb5
        case hyb5 => (intro wz hSw; (try dsimp only at hSw); go_simp; try with_reducible rfl)
        (try simp only [List.getElem_toArray, List.getElem_cons_zero, List.getElem_cons_succ, Act.put, List.setIfInBounds_toArray, List.set_cons_zero, List.set_cons_succ])
        refine wpAnyH_take (i := 6) (oi := _) (v := ?vb6) rfl (by kernel_rfl) (by kernel_rfl) (by kernel_rfl) (fun _ _ _ h => h) (Or.inl ⟨by rfl, ?hyb6⟩) (by assumption) ?restb6
        case hyb6 => (intro wz hSw; (try dsimp only at hSw); go_simp; try with_reducible rfl)
        (try simp only [List.getElem_toArray, List.getElem_cons_zero, List.getElem_cons_succ, Act.put, List.setIfInBounds_toArray, List.set_cons_zero, List.set_cons_succ])
        refine wpAnyH_take (i := 7) (oi := _) (v := undef) rfl (by kernel_rfl) (by kernel_rfl) (by kernel_rfl) (fun _ _ _ h => h) (Or.inr ⟨by rfl, rfl⟩) (by assumption) ?_
        (try simp only [List.getElem_toArray, List.getElem_cons_zero, List.getElem_cons_succ, Act.put, List.setIfInBounds_toArray, List.set_cons_zero, List.set_cons_succ])
        refine wpAnyH_take (i := 8) (oi := _) (v := undef) rfl (by kernel_rfl) (by kernel_rfl) (by kernel_rfl) (fun _ _ _ h => h) (Or.inr ⟨by rfl, rfl⟩) (by assumption) ?_
        (try simp only [List.getElem_toArray, List.getElem_cons_zero, List.getElem_cons_succ, Act.put, List.setIfInBounds_toArray, List.set_cons_zero, List.set_cons_succ])
        refine wpAnyH_take (i := 9) (oi := _) (v := undef) rfl (by kernel_rfl) (by kernel_rfl) (by kernel_rfl) (fun _ _ _ h => h) (Or.inr ⟨by rfl, rfl⟩) (by assumption) ?_
        (try simp only [List.getElem_toArray, List.getElem_cons_zero, List.getElem_cons_succ, Act.put, List.setIfInBounds_toArray, List.set_cons_zero, List.set_cons_succ])
        refine wpAnyH_take (i := 10) (oi := _) (v := undef) rfl (by kernel_rfl) (by kernel_rfl) (by kernel_rfl) (fun _ _ _ h => h) (Or.inr ⟨by rfl, rfl⟩) (by assumption) ?_
        (try simp only [List.getElem_toArray, List.getElem_cons_zero, List.getElem_cons_succ, Act.put, List.setIfInBounds_toArray, List.set_cons_zero, List.set_cons_succ])
        refine wpAnyH_take (i := 11) (oi := _) (v := undef) rfl (by kernel_rfl) (by kernel_rfl) (by kernel_rfl) (fun _ _ _ h => h) (Or.inr ⟨by rfl, rfl⟩) (by assumption) ?_
        (try simp only [List.getElem_toArray, List.getElem_cons_zero, List.getElem_cons_succ, Act.put, List.setIfInBounds_toArray, List.set_cons_zero, List.set_cons_succ])
        refine wpAnyH_take (i := 12) (oi := _) (v := undef) rfl (by kernel_rfl) (by kernel_rfl) (by kernel_rfl) (fun _ _ _ h => h) (Or.inr ⟨by rfl, rfl⟩) (by assumption) ?_
        (try simp only [List.getElem_toArray, List.getElem_cons_zero, List.getElem_cons_succ, Act.put, List.setIfInBounds_toArray, List.set_cons_zero, List.set_cons_succ])
        refine wpAnyH_take (i := 13) (oi := _) (v := undef) rfl (by kernel_rfl) (by kernel_rfl) (by kernel_rfl) (fun _ _ _ h => h) (Or.inr ⟨by rfl, rfl⟩) (by assumption) ?_
        (try simp only [List.getElem_toArray, List.getElem_cons_zero, List.getElem_cons_succ, Act.put, List.setIfInBounds_toArray, List.set_cons_zero, List.set_cons_succ])
        refine wpAnyH_take (i := 14) (oi := _) (v := undef) rfl (by kernel_rfl) (by kernel_rfl) (by kernel_rfl) (fun _ _ _ h => h) (Or.inr ⟨by rfl, rfl⟩) (by assumption) ?_
        (try simp only [List.getElem_toArray, List.getElem_cons_zero, List.getElem_cons_succ, Act.put, List.setIfInBounds_toArray, List.set_cons_zero, List.set_cons_succ])
        refine wpAnyH_take (i := 15) (oi := _) (v := undef) rfl (by kernel_rfl) (by kernel_rfl) (by kernel_rfl) (fun _ _ _ h => h) (Or.inr ⟨by rfl, rfl⟩) (by assumption) ?_
        (try simp only [List.getElem_toArray, List.getElem_cons_zero, List.getElem_cons_succ, Act.put, List.setIfInBounds_toArray, List.set_cons_zero, List.set_cons_succ])
        refine wpAnyH_take (i := 16) (oi := _) (v := undef) rfl (by kernel_rfl) (by kernel_rfl) (by kernel_rfl) (fun _ _ _ h => h) (Or.inr ⟨by rfl, rfl⟩) (by assumption) ?_
        (try simp only [List.getElem_toArray, List.getElem_cons_zero, List.getElem_cons_succ, Act.put, List.setIfInBounds_toArray, List.set_cons_zero, List.set_cons_succ])
        refine wpAnyH_take (i := 17) (oi := _) (v := undef) rfl (by kernel_rfl) (by kernel_rfl) (by kernel_rfl) (fun _ _ _ h => h) (Or.inr ⟨by rfl, rfl⟩) (by assumption) ?_
        (try simp only [List.getElem_toArray, List.getElem_cons_zero, List.getElem_cons_succ, Act.put, List.setIfInBounds_toArray, List.set_cons_zero, List.set_cons_succ])
        refine wpAnyH_take (i := 18) (oi := _) (v := undef) rfl (by kernel_rfl) (by kernel_rfl) (by kernel_rfl) (fun _ _ _ h => h) (Or.inr ⟨by rfl, rfl⟩) (by assumption) ?_
        (try simp only [List.getElem_toArray, List.getElem_cons_zero, List.getElem_cons_succ, Act.put, List.setIfInBounds_toArray, List.set_cons_zero, List.set_cons_succ])
        refine wpAnyH_take (i := 19) (oi := _) (v := undef) rfl (by kernel_rfl) (by kernel_rfl) (by kernel_rfl) (fun _ _ _ h => h) (Or.inr ⟨by rfl, rfl⟩) (by assumption) ?_
        (try simp only [List.getElem_toArray, List.getElem_cons_zero, List.getElem_cons_succ, Act.put, List.setIfInBounds_toArray, List.set_cons_zero, List.set_cons_succ])
        refine wpAnyH_take (i := 20) (oi := _) (v := undef) rfl (by kernel_rfl) (by kernel_rfl) (by kernel_rfl) (fun _ _ _ h => h) (Or.inr ⟨by rfl, rfl⟩) (by assumption) ?_
        (try simp only [List.getElem_toArray, List.getElem_cons_zero, List.getElem_cons_succ, Act.put, List.setIfInBounds_toArray, List.set_cons_zero, List.set_cons_succ])
        refine wpAnyH_take (i := 21) (oi := _) (v := undef) rfl (by kernel_rfl) (by kernel_rfl) (by kernel_rfl) (fun _ _ _ h => h) (Or.inr ⟨by rfl, rfl⟩) (by assumption) ?_
        (try simp only [List.getElem_toArray, List.getElem_cons_zero, List.getElem_cons_succ, Act.put, List.setIfInBounds_toArray, List.set_cons_zero, List.set_cons_succ])
        refine wpAnyH_take (i := 22) (oi := _) (v := undef) rfl (by kernel_rfl) (by kernel_rfl) (by kernel_rfl) (fun _ _ _ h => h) (Or.inr ⟨by rfl, rfl⟩) (by assumption) ?_
        (try simp only [List.getElem_toArray, List.getElem_cons_zero, List.getElem_cons_succ, Act.put, List.setIfInBounds_toArray, List.set_cons_zero, List.set_cons_succ])
        refine wpAnyH_take (i := 23) (oi := _) (v := ?vb23) rfl (by kernel_rfl) (by kernel_rfl) (by kernel_rfl) (fun _ _ _ h => h) (Or.inl ⟨by rfl, ?hyb23⟩) (by assumption) ?restb23
        case hyb23 => (intro wz hSw; (try dsimp only at hSw); go_simp; try with_reducible rfl)
        (try simp only [List.getElem_toArray, List.getElem_cons_zero, List.getElem_cons_succ, Act.put, List.setIfInBounds_toArray, List.set_cons_zero, List.set_cons_succ])
        refine wpAnyH_done (by kernel_rfl) ?_ _
        go_wp2
        go_ret
        exact ⟨rfl, HG.out.trans (hb.mono HG.out.size)⟩
      | true =>
        by_cases h0 : j = 0
        · have hgt : decide ((0 : Int) < (j : Int)) = false := by simp; omega
          have hgt2 : decide (0 < j) = false := by simp; omega
          have HO2 := Lib.hid (okTo_succ HO.out (by rw [HS.out]; exact HM.out) (fun h => by omega))
          clear hS hbs h0
          go_wp2
          refine wp_region_held_drew (S := fun w' => w'.cell? ⟨b, off + j * 2, none⟩ = some (.int .i64 f) ∧ w'.cell? ⟨b, off + j * 2 + 1, none⟩ = some (.int .i64 t) ∧ w'.cell? ⟨b, off + j * 2, none⟩ = some (.int .i64 f) ∧ Below wr.heap.size wr w') (by kernel_rfl) (by first | exact three C1.out C2.out C1.out HBS.out HBS.out HBS.out (by assumption) | exact three C1.out C2.out C1.out HBS.out HBS.out HBS.out (Below.drew (by assumption))) (fun hHeld => ?_)
          refine wpAnyH_take (i := 0) (oi := _) (v := ?vc0) rfl (by kernel_rfl) (by kernel_rfl) (by kernel_rfl) (fun _ _ _ h => h) (Or.inl ⟨by rfl, ?hyc0⟩) (by assumption) ?restc0
          case hyc0 => (intro wz hSw; (try dsimp only at hSw); go_simp; try with_reducible rfl)
          (try simp only [List.getElem_toArray, List.getElem_cons_zero, Act.put, List.setIfInBounds_toArray, List.set_cons_zero, List.set_cons_succ])
          refine wpAnyH_take (i := 1) (oi := _) (v := ?vc1) rfl (by kernel_rfl) (by kernel_rfl) (by kernel_rfl) (fun _ _ _ h => h) (Or.inl ⟨by rfl, ?hyc1⟩) (by assumption) ?restc1
          case hyc1 => (intro wz hSw; (try dsimp only at hSw); go_simp; try with_reducible rfl)
          (try simp only [List.getElem_toArray, List.getElem_cons_zero, List.getElem_cons_succ, Act.put, List.setIfInBounds_toArray, List.set_cons_zero, List.set_cons_succ])
          refine wpAnyH_take (i := 2) (oi := _) (v := ?vc2) rfl (by kernel_rfl) (by kernel_rfl) (by kernel_rfl) (fun _ _ _ h => h) (Or.inl ⟨by rfl, ?hyc2⟩) (by assumption) ?restc2
          case hyc2 => (intro wz hSw; (try dsimp only at hSw); go_simp; try with_reducible rfl)
          (try simp only [List.getElem_toArray, List.getElem_cons_zero, List.getElem_cons_succ, Act.put, List.setIfInBounds_toArray, List.set_cons_zero, List.set_cons_succ])
          refine wpAnyH_take (i := 3) (oi := _) (v := ?vc3) rfl (by kernel_rfl) (by kernel_rfl) (by kernel_rfl) (fun _ _ _ h => h) (Or.inl ⟨by rfl, ?hyc3⟩) (by assumption) ?restc3
          case hyc3 => (intro wz hSw; (try dsimp only at hSw); go_simp; try with_reducible rfl)
          (try simp only [List.getElem_toArray, List.getElem_cons_zero, List.getElem_cons_succ, Act.put, List.setIfInBounds_toArray, List.set_cons_zero, List.set_cons_succ])
          refine wpAnyH_ready (rs := [4]) (by kernel_rfl) (by simp) ?_
          refine AllReadyH.cons (o := _) rfl (fun K hK => ?_) AllReadyH.nil
          rw [if_pos (by rfl)]
          go_simp
          (go_at_call 74; refine (mayCsp HM.out (by assumption)).mono ?_; rintro e w' ⟨rfl, hb⟩)
          dsimp only
          refine hK.out _ _ (by first | exact three C1.out C2.out C1.out HBS.out HBS.out HBS.out (by assumption) | exact three C1.out C2.out C1.out HBS.out HBS.out HBS.out (Below.drew (by assumption))) (fun hHeld => ?_)
          clear hK K
          (try simp only [List.getElem_toArray, List.getElem_cons_zero, List.getElem_cons_succ, Act.put, List.setIfInBounds_toArray, List.set_cons_zero, List.set_cons_succ])
          refine wpAnyH_take (i := 5) (oi := _) (v := ?vc5) rfl (by kernel_rfl) (by kernel_rfl) (by kernel_rfl) (fun _ _ _ h => h) (Or.inl ⟨by rfl, ?hyc5⟩) (by assumption) ?restc5
          case hyc5 => (intro wz hSw; (try dsimp only at hSw); go_simp; try with_reducible rfl)
          (try simp only [List.getElem_toArray, List.getElem_cons_zero, List.getElem_cons_succ, Act.put, List.setIfInBounds_toArray, List.set_cons_zero, List.set_cons_succ])
          refine wpAnyH_take (i := 6) (oi := _) (v := ?vc6) rfl (by kernel_rfl) (by kernel_rfl) (by kernel_rfl) (fun _ _ _ h => h) (Or.inl ⟨by rfl, ?hyc6⟩) (by assumption) ?restc6
          case hyc6 => (intro wz hSw; (try dsimp only at hSw); go_simp; try with_reducible rfl)
          (try simp only [List.getElem_toArray, List.getElem_cons_zero, List.getElem_cons_succ, Act.put, List.setIfInBounds_toArray, List.set_cons_zero, List.set_cons_succ])
          refine wpAnyH_take (i := 7) (oi := _) (v := ?vc7) rfl (by kernel_rfl) (by kernel_rfl) (by kernel_rfl) (fun _ _ _ h => h) (Or.inl ⟨by rfl, ?hyc7⟩) (by assumption) ?restc7
          case hyc7 => (intro wz hSw; (try dsimp only at hSw); go_simp; try with_reducible rfl)
          (try simp only [List.getElem_toArray, List.getElem_cons_zero, List.getElem_cons_succ, Act.put, List.setIfInBounds_toArray, List.set_cons_zero, List.set_cons_succ])
          refine wpAnyH_take (i := 8) (oi := _) (v := ?vc8) rfl (by kernel_rfl) (by kernel_rfl) (by kernel_rfl) (fun _ _ _ h => h) (Or.inl ⟨by rfl, ?hyc8⟩) (by assumption) ?restc8
          case hyc8 => (intro wz hSw; (try dsimp only at hSw); go_simp; try with_reducible rfl)
          (try simp only [List.getElem_toArray, List.getElem_cons_zero, List.getElem_cons_succ, Act.put, List.setIfInBounds_toArray, List.set_cons_zero, List.set_cons_succ])
          refine wpAnyH_take (i := 9) (oi := _) (v := ?vc9) rfl (by kernel_rfl) (by kernel_rfl) (by kernel_rfl) (fun _ _ _ h => h) (Or.inl ⟨by rfl, ?hyc9⟩) (by assumption) ?restc9
          case hyc9 => (intro wz hSw; (try dsimp only at hSw); go_simp; try with_reducible rfl)
          (try simp only [List.getElem_toArray, List.getElem_cons_zero, List.getElem_cons_succ, Act.put, List.setIfInBounds_toArray, List.set_cons_zero, List.set_cons_succ])
          refine wpAnyH_take (i := 10) (oi := _) (v := undef) rfl (by kernel_rfl) (by kernel_rfl) (by kernel_rfl) (fun _ _ _ h => h) (Or.inr ⟨by rfl, rfl⟩) (by assumption) ?_
          (try simp only [List.getElem_toArray, List.getElem_cons_zero, List.getElem_cons_succ, Act.put, List.setIfInBounds_toArray, List.set_cons_zero, List.set_cons_succ])
          refine wpAnyH_take (i := 11) (oi := _) (v := undef) rfl (by kernel_rfl) (by kernel_rfl) (by kernel_rfl) (fun _ _ _ h => h) (Or.inr ⟨by rfl, rfl⟩) (by assumption) ?_
          (try simp only [List.getElem_toArray, List.getElem_cons_zero, List.getElem_cons_succ, Act.put, List.setIfInBounds_toArray, List.set_cons_zero, List.set_cons_succ])
          refine wpAnyH_take (i := 12) (oi := _) (v := undef) rfl (by kernel_rfl) (by kernel_rfl) (by kernel_rfl) (fun _ _ _ h => h) (Or.inr ⟨by rfl, rfl⟩) (by assumption) ?_
          (try simp only [List.getElem_toArray, List.getElem_cons_zero, List.getElem_cons_succ, Act.put, List.setIfInBounds_toArray, List.set_cons_zero, List.set_cons_succ])
          refine wpAnyH_take (i := 13) (oi := _) (v := undef) rfl (by kernel_rfl) (by kernel_rfl) (by kernel_rfl) (fun _ _ _ h => h) (Or.inr ⟨by rfl, rfl⟩) (by assumption) ?_
          (try simp only [List.getElem_toArray, List.getElem_cons_zero, List.getElem_cons_succ, Act.put, List.setIfInBounds_toArray, List.set_cons_zero, List.set_cons_succ])
          refine wpAnyH_take (i := 14) (oi := _) (v := undef) rfl (by kernel_rfl) (by kernel_rfl) (by kernel_rfl) (fun _ _ _ h => h) (Or.inr ⟨by rfl, rfl⟩) (by assumption) ?_
          (try simp only [List.getElem_toArray, List.getElem_cons_zero, List.getElem_cons_succ, Act.put, List.setIfInBounds_toArray, List.set_cons_zero, List.set_cons_succ])
          refine wpAnyH_take (i := 15) (oi := _) (v := undef) rfl (by kernel_rfl) (by kernel_rfl) (by kernel_rfl) (fun _ _ _ h => h) (Or.inr ⟨by rfl, rfl⟩) (by assumption) ?_
          (try simp only [List.getElem_toArray, List.getElem_cons_zero, List.getElem_cons_succ, Act.put, List.setIfInBounds_toArray, List.set_cons_zero, List.set_cons_succ])
          refine wpAnyH_take (i := 16) (oi := _) (v := undef) rfl (by kernel_rfl) (by kernel_rfl) (by kernel_rfl) (fun _ _ _ h => h) (Or.inr ⟨by rfl, rfl⟩) (by assumption) ?_
          (try simp only [List.getElem_toArray, List.getElem_cons_zero, List.getElem_cons_succ, Act.put, List.setIfInBounds_toArray, List.set_cons_zero, List.set_cons_succ])
          refine wpAnyH_take (i := 17) (oi := _) (v := undef) rfl (by kernel_rfl) (by kernel_rfl) (by kernel_rfl) (fun _ _ _ h => h) (Or.inr ⟨by rfl, rfl⟩) (by assumption) ?_
          (try simp only [List.getElem_toArray, List.getElem_cons_zero, List.getElem_cons_succ, Act.put, List.setIfInBounds_toArray, List.set_cons_zero, List.set_cons_succ])
          refine wpAnyH_take (i := 18) (oi := _) (v := undef) rfl (by kernel_rfl) (by kernel_rfl) (by kernel_rfl) (fun _ _ _ h => h) (Or.inr ⟨by rfl, rfl⟩) (by assumption) ?_
          (try simp only [List.getElem_toArray, List.getElem_cons_zero, List.getElem_cons_succ, Act.put, List.setIfInBounds_toArray, List.set_cons_zero, List.set_cons_succ])
          refine wpAnyH_take (i := 19) (oi := _) (v := undef) rfl (by kernel_rfl) (by kernel_rfl) (by kernel_rfl) (fun _ _ _ h => h) (Or.inr ⟨by rfl, rfl⟩) (by assumption) ?_
          (try simp only [List.getElem_toArray, List.getElem_cons_zero, List.getElem_cons_succ, Act.put, List.setIfInBounds_toArray, List.set_cons_zero, List.set_cons_succ])
          refine wpAnyH_take (i := 20) (oi := _) (v := undef) rfl (by kernel_rfl) (by kernel_rfl) (by kernel_rfl) (fun _ _ _ h => h) (Or.inr ⟨by rfl, rfl⟩) (by assumption) ?_
          (try simp only [List.getElem_toArray, List.getElem_cons_zero, List.getElem_cons_succ, Act.put, List.setIfInBounds_toArray, List.set_cons_zero, List.set_cons_succ])
          refine wpAnyH_take (i := 21) (oi := _) (v := undef) rfl (by kernel_rfl) (by kernel_rfl) (by kernel_rfl) (fun _ _ _ h => h) (Or.inr ⟨by rfl, rfl⟩) (by assumption) ?_
          (try simp only [List.getElem_toArray, List.getElem_cons_zero, List.getElem_cons_succ, Act.put, List.setIfInBounds_toArray, List.set_cons_zero, List.set_cons_succ])
          refine wpAnyH_take (i := 22) (oi := _) (v := ?vc22) rfl (by kernel_rfl) (by kernel_rfl) (by kernel_rfl) (fun _ _ _ h => h) (Or.inl ⟨by rfl, ?hyc22⟩) (by assumption) ?restc22
          case hyc22 => (intro wz hSw; (try dsimp only at hSw); go_simp; try with_reducible rfl)
          (try simp only [List.getElem_toArray, List.getElem_cons_zero, List.getElem_cons_succ, Act.put, List.setIfInBounds_toArray, List.set_cons_zero, List.set_cons_succ])
          refine wpAnyH_take (i := 23) (oi := _) (v := ?vc23) rfl (by kernel_rfl) (by kernel_rfl) (by kernel_rfl) (fun _ _ _ h => h) (Or.inl ⟨by rfl, ?hyc23⟩) (by assumption) ?restc23
          case hyc23 => (intro wz hSw; (try dsimp only at hSw); go_simp; try with_reducible rfl)
          (try simp only [List.getElem_toArray, List.getElem_cons_zero, List.getElem_cons_succ, Act.put, List.setIfInBounds_toArray, List.set_cons_zero, List.set_cons_succ])
          refine wpAnyH_done (by kernel_rfl) ?_ _
          clear hgt hgt2
          go_wp2
          go_roundw
          case rel => exact ⟨j + 1, by omega, by go_num, HO2.out, HG.out.trans (hb.mono HG.out.size)⟩
          case measure => simp [intOf]; omega
        · obtain ⟨q, hq, hq2⟩ : ∃ q : Nat, IntKind.i64.wrap ((j : Int) - 1) = (q : Int) ∧ q = j - 1 := ⟨j - 1, by rw [IntKind.wrap_i64]; omega, rfl⟩
          have c3 := (span_cells hS q (by omega)).2
          obtain ⟨p, HP⟩ := named (spAt l q).2
          rw [HP.out] at c3
          have C3 := Lib.hid c3
          have hql : q < len := by omega
          have hgt : decide ((0 : Int) < (j : Int)) = true := by simp; omega
          have hgt2 : decide (0 < j) = true := by simp; omega
          by_cases hle : f ≤ p
          · have hd : decide (f ≤ p) = true := by simp; exact hle
            have hRf : R = false := by
              rw [← HR.out]
              exact not_right (by rw [HL.out]; exact hlt) (Or.inr ⟨by omega, by rw [HS.out, ← hq2, HP.out]; exact hle⟩)
            subst hRf
            clear hS hbs h0 hq2 hle
            go_wp2
            refine wp_region_held_drew (S := fun w' => w'.cell? ⟨b, off + j * 2, none⟩ = some (.int .i64 f) ∧ w'.cell? ⟨b, off + j * 2 + 1, none⟩ = some (.int .i64 t) ∧ w'.cell? ⟨b, off + q * 2 + 1, none⟩ = some (.int .i64 p) ∧ Below wr.heap.size wr w') (by kernel_rfl) (by first | exact three C1.out C2.out C3.out HBS.out HBS.out HBS.out (by assumption) | exact three C1.out C2.out C3.out HBS.out HBS.out HBS.out (Below.drew (by assumption))) (fun hHeld => ?_)
            refine wpAnyH_take (i := 0) (oi := _) (v := ?vd0) rfl (by kernel_rfl) (by kernel_rfl) (by kernel_rfl) (fun _ _ _ h => h) (Or.inl ⟨by rfl, ?hyd0⟩) (by assumption) ?restd0
            case hyd0 => (intro wz hSw; (try dsimp only at hSw); go_simp; try with_reducible rfl)
            (try simp only [List.getElem_toArray, List.getElem_cons_zero, Act.put, List.setIfInBounds_toArray, List.set_cons_zero, List.set_cons_succ])
            refine wpAnyH_take (i := 1) (oi := _) (v := ?vd1) rfl (by kernel_rfl) (by kernel_rfl) (by kernel_rfl) (fun _ _ _ h => h) (Or.inl ⟨by rfl, ?hyd1⟩) (by assumption) ?restd1
            case hyd1 => (intro wz hSw; (try dsimp only at hSw); go_simp; try with_reducible rfl)
            (try simp only [List.getElem_toArray, List.getElem_cons_zero, List.getElem_cons_succ, Act.put, List.setIfInBounds_toArray, List.set_cons_zero, List.set_cons_succ])
            refine wpAnyH_take (i := 2) (oi := _) (v := ?vd2) rfl (by kernel_rfl) (by kernel_rfl) (by kernel_rfl) (fun _ _ _ h => h) (Or.inl ⟨by rfl, ?hyd2⟩) (by assumption) ?restd2
            case hyd2 => (intro wz hSw; (try dsimp only at hSw); go_simp; try with_reducible rfl)
            (try simp only [List.getElem_toArray, List.getElem_cons_zero, List.getElem_cons_succ, Act.put, List.setIfInBounds_toArray, List.set_cons_zero, List.set_cons_succ])
            refine wpAnyH_take (i := 3) (oi := _) (v := ?vd3) rfl (by kernel_rfl) (by kernel_rfl) (by kernel_rfl) (fun _ _ _ h => h) (Or.inl ⟨by rfl, ?hyd3⟩) (by assumption) ?restd3
            case hyd3 => (intro wz hSw; (try dsimp only at hSw); go_simp; try with_reducible rfl)
            (try simp only [List.getElem_toArray, List.getElem_cons_zero, List.getElem_cons_succ, Act.put, List.setIfInBounds_toArray, List.set_cons_zero, List.set_cons_succ])
            refine wpAnyH_ready (rs := [4]) (by kernel_rfl) (by simp) ?_
            refine AllReadyH.cons (o := _) rfl (fun K hK => ?_) AllReadyH.nil
            rw [if_pos (by rfl)]
            go_simp
            (go_at_call 74; refine (mayCsp HM.out (by assumption)).mono ?_; rintro e w' ⟨rfl, hb⟩)
            dsimp only
            refine hK.out _ _ (by first | exact three C1.out C2.out C3.out HBS.out HBS.out HBS.out (by assumption) | exact three C1.out C2.out C3.out HBS.out HBS.out HBS.out (Below.drew (by assumption))) (fun hHeld => ?_)
            clear hK K
            (try simp only [List.getElem_toArray, List.getElem_cons_zero, List.getElem_cons_succ, Act.put, List.setIfInBounds_toArray, List.set_cons_zero, List.set_cons_succ])
            refine wpAnyH_take (i := 5) (oi := _) (v := ?vd5) rfl (by kernel_rfl) (by kernel_rfl) (by kernel_rfl) (fun _ _ _ h => h) (Or.inl ⟨by rfl, ?hyd5⟩) (by assumption) ?restd5
            case hyd5 => (intro wz hSw; (try dsimp only at hSw); go_simp; try with_reducible rfl)
            (try simp only [List.getElem_toArray, List.getElem_cons_zero, List.getElem_cons_succ, Act.put, List.setIfInBounds_toArray, List.set_cons_zero, List.set_cons_succ])
            refine wpAnyH_take (i := 6) (oi := _) (v := ?vd6) rfl (by kernel_rfl) (by kernel_rfl) (by kernel_rfl) (fun _ _ _ h => h) (Or.inl ⟨by rfl, ?hyd6⟩) (by assumption) ?restd6
            case hyd6 => (intro wz hSw; (try dsimp only at hSw); go_simp; try with_reducible rfl)
            (try simp only [List.getElem_toArray, List.getElem_cons_zero, List.getElem_cons_succ, Act.put, List.setIfInBounds_toArray, List.set_cons_zero, List.set_cons_succ])
            refine wpAnyH_take (i := 7) (oi := _) (v := ?vd7) rfl (by kernel_rfl) (by kernel_rfl) (by kernel_rfl) (fun _ _ _ h => h) (Or.inl ⟨by rfl, ?hyd7⟩) (by assumption) ?restd7
            case hyd7 => (intro wz hSw; (try dsimp only at hSw); go_simp; try with_reducible rfl)
            (try simp only [List.getElem_toArray, List.getElem_cons_zero, List.getElem_cons_succ, Act.put, List.setIfInBounds_toArray, List.set_cons_zero, List.set_cons_succ])
            refine wpAnyH_take (i := 8) (oi := _) (v := ?vd8) rfl (by kernel_rfl) (by kernel_rfl) (by kernel_rfl) (fun _ _ _ h => h) (Or.inl ⟨by rfl, ?hyd8⟩) (by assumption) ?restd8
            case hyd8 => (intro wz hSw; (try dsimp only at hSw); go_simp; try with_reducible rfl)
            (try simp only [List.getElem_toArray, List.getElem_cons_zero, List.getElem_cons_succ, Act.put, List.setIfInBounds_toArray, List.set_cons_zero, List.set_cons_succ])
            refine wpAnyH_take (i := 9) (oi := _) (v := ?vd9) rfl (by kernel_rfl) (by kernel_rfl) (by kernel_rfl) (fun _ _ _ h => h) (Or.inl ⟨by rfl, ?hyd9⟩) (by assumption) ?restd9
            case hyd9 => (intro wz hSw; (try dsimp only at hSw); go_simp; try with_reducible rfl)
            (try simp only [List.getElem_toArray, List.getElem_cons_zero, List.getElem_cons_succ, Act.put, List.setIfInBounds_toArray, List.set_cons_zero, List.set_cons_succ])
            refine wpAnyH_take (i := 10) (oi := _) (v := ?vd10) rfl (by kernel_rfl) (by kernel_rfl) (by kernel_rfl) (fun _ _ _ h => h) (Or.inl ⟨by rfl, ?hyd10⟩) (by assumption) ?restd10
            case hyd10 => (intro wz hSw; (try dsimp only at hSw); go_simp; try with_reducible rfl)
            (try simp only [List.getElem_toArray, List.getElem_cons_zero, List.getElem_cons_succ, Act.put, List.setIfInBounds_toArray, List.set_cons_zero, List.set_cons_succ])
            refine wpAnyH_take (i := 11) (oi := _) (v := ?vd11) rfl (by kernel_rfl) (by kernel_rfl) (by kernel_rfl) (fun _ _ _ h => h) (Or.inl ⟨by rfl, ?hyd11⟩) (by assumption) ?restd11
            case hyd11 => (intro wz hSw; (try dsimp only at hSw); go_simp; try with_reducible rfl)
            (try simp only [List.getElem_toArray, List.getElem_cons_zero, List.getElem_cons_succ, Act.put, List.setIfInBounds_toArray, List.set_cons_zero, List.set_cons_succ])
            refine wpAnyH_take (i := 12) (oi := _) (v := ?vd12) rfl (by kernel_rfl) (by kernel_rfl) (by kernel_rfl) (fun _ _ _ h => h) (Or.inl ⟨by rfl, ?hyd12⟩) (by assumption) ?restd12
            case hyd12 => (intro wz hSw; (try dsimp only at hSw); go_simp; try with_reducible rfl)
            (try simp only [List.getElem_toArray, List.getElem_cons_zero, List.getElem_cons_succ, Act.put, List.setIfInBounds_toArray, List.set_cons_zero, List.set_cons_succ])
            refine wpAnyH_take (i := 13) (oi := _) (v := ?vd13) rfl (by kernel_rfl) (by kernel_rfl) (by kernel_rfl) (fun _ _ _ h => h) (Or.inl ⟨by rfl, ?hyd13⟩) (by assumption) ?restd13
            case hyd13 => (intro wz hSw; (try dsimp only at hSw); go_simp; try with_reducible rfl)
            (try simp only [List.getElem_toArray, List.getElem_cons_zero, List.getElem_cons_succ, Act.put, List.setIfInBounds_toArray, List.set_cons_zero, List.set_cons_succ])
            refine wpAnyH_take (i := 14) (oi := _) (v := ?vd14) rfl (by kernel_rfl) (by kernel_rfl) (by kernel_rfl) (fun _ _ _ h => h) (Or.inl ⟨by rfl, ?hyd14⟩) (by assumption) ?restd14
            case hyd14 => (intro wz hSw; (try dsimp only at hSw); go_simp; try with_reducible rfl)
            (try simp only [List.getElem_toArray, List.getElem_cons_zero, List.getElem_cons_succ, Act.put, List.setIfInBounds_toArray, List.set_cons_zero, List.set_cons_succ])
            refine wpAnyH_take (i := 15) (oi := _) (v := ?vd15) rfl (by kernel_rfl) (by kernel_rfl) (by kernel_rfl) (fun _ _ _ h => h) (Or.inl ⟨by rfl, ?hyd15⟩) (by assumption) ?restd15
            case hyd15 => (intro wz hSw; (try dsimp only at hSw); go_simp; try with_reducible rfl)
            (try simp only [List.getElem_toArray, List.getElem_cons_zero, List.getElem_cons_succ, Act.put, List.setIfInBounds_toArray, List.set_cons_zero, List.set_cons_succ])
            refine wpAnyH_take (i := 16) (oi := _) (v := ?vd16) rfl (by kernel_rfl) (by kernel_rfl) (by kernel_rfl) (fun _ _ _ h => h) (Or.inl ⟨by rfl, ?hyd16⟩) (by assumption) ?restd16
            case hyd16 => (intro wz hSw; (try dsimp only at hSw); go_simp; try with_reducible rfl)
            (try simp only [List.getElem_toArray, List.getElem_cons_zero, List.getElem_cons_succ, Act.put, List.setIfInBounds_toArray, List.set_cons_zero, List.set_cons_succ])
            refine wpAnyH_take (i := 17) (oi := _) (v := ?vd17) rfl (by kernel_rfl) (by kernel_rfl) (by kernel_rfl) (fun _ _ _ h => h) (Or.inl ⟨by rfl, ?hyd17⟩) (by assumption) ?restd17
            case hyd17 => (intro wz hSw; (try dsimp only at hSw); go_simp; try with_reducible rfl)
            (try simp only [List.getElem_toArray, List.getElem_cons_zero, List.getElem_cons_succ, Act.put, List.setIfInBounds_toArray, List.set_cons_zero, List.set_cons_succ])
            refine wpAnyH_take (i := 18) (oi := _) (v := ?vd18) rfl (by kernel_rfl) (by kernel_rfl) (by kernel_rfl) (fun _ _ _ h => h) (Or.inl ⟨by rfl, ?hyd18⟩) (by assumption) ?restd18
            case hyd18 => (intro wz hSw; (try dsimp only at hSw); go_simp; try with_reducible rfl)
            (try simp only [List.getElem_toArray, List.getElem_cons_zero, List.getElem_cons_succ, Act.put, List.setIfInBounds_toArray, List.set_cons_zero, List.set_cons_succ])
            refine wpAnyH_take (i := 19) (oi := _) (v := ?vd19) rfl (by kernel_rfl) (by kernel_rfl) (by kernel_rfl) (fun _ _ _ h => h) (Or.inl ⟨by rfl, ?hyd19⟩) (by assumption) ?restd19
            case hyd19 => (intro wz hSw; (try dsimp only at hSw); go_simp; try with_reducible rfl)
            (try simp only [List.getElem_toArray, List.getElem_cons_zero, List.getElem_cons_succ, Act.put, List.setIfInBounds_toArray, List.set_cons_zero, List.set_cons_succ])
            refine wpAnyH_take (i := 20) (oi := _) (v := ?vd20) rfl (by kernel_rfl) (by kernel_rfl) (by kernel_rfl) (fun _ _ _ h => h) (Or.inl ⟨by rfl, ?hyd20⟩) (by assumption) ?restd20
            case hyd20 => (intro wz hSw; (try dsimp only at hSw); go_simp; try with_reducible rfl)
            (try simp only [List.getElem_toArray, List.getElem_cons_zero, List.getElem_cons_succ, Act.put, List.setIfInBounds_toArray, List.set_cons_zero, List.set_cons_succ])
            refine wpAnyH_take (i := 21) (oi := _) (v := ?vd21) rfl (by kernel_rfl) (by kernel_rfl) (by kernel_rfl) (fun _ _ _ h => h) (Or.inl ⟨by rfl, ?hyd21⟩) (by assumption) ?restd21
            case hyd21 => (intro wz hSw; (try dsimp only at hSw); go_simp; try with_reducible rfl)
            (try simp only [List.getElem_toArray, List.getElem_cons_zero, List.getElem_cons_succ, Act.put, List.setIfInBounds_toArray, List.set_cons_zero, List.set_cons_succ])
            refine wpAnyH_take (i := 22) (oi := _) (v := ?vd22) rfl (by kernel_rfl) (by kernel_rfl) (by kernel_rfl) (fun _ _ _ h => h) (Or.inl ⟨by rfl, ?hyd22⟩) (by assumption) ?restd22
            case hyd22 => (intro wz hSw; (try dsimp only at hSw); go_simp; try with_reducible rfl)
            (try simp only [List.getElem_toArray, List.getElem_cons_zero, List.getElem_cons_succ, Act.put, List.setIfInBounds_toArray, List.set_cons_zero, List.set_cons_succ])
            refine wpAnyH_take (i := 23) (oi := _) (v := ?vd23) rfl (by kernel_rfl) (by kernel_rfl) (by kernel_rfl) (fun _ _ _ h => h) (Or.inl ⟨by rfl, ?hyd23⟩) (by assumption) ?restd23
            case hyd23 => (intro wz hSw; (try dsimp only at hSw); go_simp; try with_reducible rfl)
            (try simp only [List.getElem_toArray, List.getElem_cons_zero, List.getElem_cons_succ, Act.put, List.setIfInBounds_toArray, List.set_cons_zero, List.set_cons_succ])
            refine wpAnyH_done (by kernel_rfl) ?_ _
            clear hgt hgt2 hq hd
            go_wp2
            go_ret
            exact ⟨rfl, HG.out.trans (hb.mono HG.out.size)⟩
          · have hd : decide (f ≤ p) = false := by simp; omega
            have HO2 := Lib.hid (okTo_succ HO.out (by rw [HS.out]; exact HM.out) (fun h => by rw [HS.out, ← hq2, HP.out]; show p < f; omega))
            clear hS hbs h0 hq2 hle
            go_wp2
            refine wp_region_held_drew (S := fun w' => w'.cell? ⟨b, off + j * 2, none⟩ = some (.int .i64 f) ∧ w'.cell? ⟨b, off + j * 2 + 1, none⟩ = some (.int .i64 t) ∧ w'.cell? ⟨b, off + q * 2 + 1, none⟩ = some (.int .i64 p) ∧ Below wr.heap.size wr w') (by kernel_rfl) (by first | exact three C1.out C2.out C3.out HBS.out HBS.out HBS.out (by assumption) | exact three C1.out C2.out C3.out HBS.out HBS.out HBS.out (Below.drew (by assumption))) (fun hHeld => ?_)
            refine wpAnyH_take (i := 0) (oi := _) (v := ?ve0) rfl (by kernel_rfl) (by kernel_rfl) (by kernel_rfl) (fun _ _ _ h => h) (Or.inl ⟨by rfl, ?hye0⟩) (by assumption) ?reste0
            case hye0 => (intro wz hSw; (try dsimp only at hSw); go_simp; try with_reducible rfl)
            (try simp only [List.getElem_toArray, List.getElem_cons_zero, Act.put, List.setIfInBounds_toArray, List.set_cons_zero, List.set_cons_succ])
            refine wpAnyH_take (i := 1) (oi := _) (v := ?ve1) rfl (by kernel_rfl) (by kernel_rfl) (by kernel_rfl) (fun _ _ _ h => h) (Or.inl ⟨by rfl, ?hye1⟩) (by assumption) ?reste1
            case hye1 => (intro wz hSw; (try dsimp only at hSw); go_simp; try with_reducible rfl)
            (try simp only [List.getElem_toArray, List.getElem_cons_zero, List.getElem_cons_succ, Act.put, List.setIfInBounds_toArray, List.set_cons_zero, List.set_cons_succ])
            refine wpAnyH_take (i := 2) (oi := _) (v := ?ve2) rfl (by kernel_rfl) (by kernel_rfl) (by kernel_rfl) (fun _ _ _ h => h) (Or.inl ⟨by rfl, ?hye2⟩) (by assumption) ?reste2
            case hye2 => (intro wz hSw; (try dsimp only at hSw); go_simp; try with_reducible rfl)
            (try simp only [List.getElem_toArray, List.getElem_cons_zero, List.getElem_cons_succ, Act.put, List.setIfInBounds_toArray, List.set_cons_zero, List.set_cons_succ])
            refine wpAnyH_take (i := 3) (oi := _) (v := ?ve3) rfl (by kernel_rfl) (by kernel_rfl) (by kernel_rfl) (fun _ _ _ h => h) (Or.inl ⟨by rfl, ?hye3⟩) (by assumption) ?reste3
            case hye3 => (intro wz hSw; (try dsimp only at hSw); go_simp; try with_reducible rfl)
            (try simp only [List.getElem_toArray, List.getElem_cons_zero, List.getElem_cons_succ, Act.put, List.setIfInBounds_toArray, List.set_cons_zero, List.set_cons_succ])
            refine wpAnyH_ready (rs := [4]) (by kernel_rfl) (by simp) ?_
            refine AllReadyH.cons (o := _) rfl (fun K hK => ?_) AllReadyH.nil
            rw [if_pos (by rfl)]
            go_simp
            (go_at_call 74; refine (mayCsp HM.out (by assumption)).mono ?_; rintro e w' ⟨rfl, hb⟩)
            dsimp only
            refine hK.out _ _ (by first | exact three C1.out C2.out C3.out HBS.out HBS.out HBS.out (by assumption) | exact three C1.out C2.out C3.out HBS.out HBS.out HBS.out (Below.drew (by assumption))) (fun hHeld => ?_)
            clear hK K
            (try simp only [List.getElem_toArray, List.getElem_cons_zero, List.getElem_cons_succ, Act.put, List.setIfInBounds_toArray, List.set_cons_zero, List.set_cons_succ])
            refine wpAnyH_take (i := 5) (oi := _) (v := ?ve5) rfl (by kernel_rfl) (by kernel_rfl) (by kernel_rfl) (fun _ _ _ h => h) (Or.inl ⟨by rfl, ?hye5⟩) (by assumption) ?reste5
            case hye5 => (intro wz hSw; (try dsimp only at hSw); go_simp; try with_reducible rfl)
            (try simp only [List.getElem_toArray, List.getElem_cons_zero, List.getElem_cons_succ, Act.put, List.setIfInBounds_toArray, List.set_cons_zero, List.set_cons_succ])
            refine wpAnyH_take (i := 6) (oi := _) (v := ?ve6) rfl (by kernel_rfl) (by kernel_rfl) (by kernel_rfl) (fun _ _ _ h => h) (Or.inl ⟨by rfl, ?hye6⟩) (by assumption) ?reste6
            case hye6 => (intro wz hSw; (try dsimp only at hSw); go_simp; try with_reducible rfl)
            (try simp only [List.getElem_toArray, List.getElem_cons_zero, List.getElem_cons_succ, Act.put, List.setIfInBounds_toArray, List.set_cons_zero, List.set_cons_succ])
            refine wpAnyH_take (i := 7) (oi := _) (v := ?ve7) rfl (by kernel_rfl) (by kernel_rfl) (by kernel_rfl) (fun _ _ _ h => h) (Or.inl ⟨by rfl, ?hye7⟩) (by assumption) ?reste7
            case hye7 => (intro wz hSw; (try dsimp only at hSw); go_simp; try with_reducible rfl)
            (try simp only [List.getElem_toArray, List.getElem_cons_zero, List.getElem_cons_succ, Act.put, List.setIfInBounds_toArray, List.set_cons_zero, List.set_cons_succ])
            refine wpAnyH_take (i := 8) (oi := _) (v := ?ve8) rfl (by kernel_rfl) (by kernel_rfl) (by kernel_rfl) (fun _ _ _ h => h) (Or.inl ⟨by rfl, ?hye8⟩) (by assumption) ?reste8
            case hye8 => (intro wz hSw; (try dsimp only at hSw); go_simp; try with_reducible rfl)
            (try simp only [List.getElem_toArray, List.getElem_cons_zero, List.getElem_cons_succ, Act.put, List.setIfInBounds_toArray, List.set_cons_zero, List.set_cons_succ])
            refine wpAnyH_take (i := 9) (oi := _) (v := ?ve9) rfl (by kernel_rfl) (by kernel_rfl) (by kernel_rfl) (fun _ _ _ h => h) (Or.inl ⟨by rfl, ?hye9⟩) (by assumption) ?reste9
            case hye9 => (intro wz hSw; (try dsimp only at hSw); go_simp; try with_reducible rfl)
            (try simp only [List.getElem_toArray, List.getElem_cons_zero, List.getElem_cons_succ, Act.put, List.setIfInBounds_toArray, List.set_cons_zero, List.set_cons_succ])
            refine wpAnyH_take (i := 10) (oi := _) (v := ?ve10) rfl (by kernel_rfl) (by kernel_rfl) (by kernel_rfl) (fun _ _ _ h => h) (Or.inl ⟨by rfl, ?hye10⟩) (by assumption) ?reste10
            case hye10 => (intro wz hSw; (try dsimp only at hSw); go_simp; try with_reducible rfl)
            (try simp only [List.getElem_toArray, List.getElem_cons_zero, List.getElem_cons_succ, Act.put, List.setIfInBounds_toArray, List.set_cons_zero, List.set_cons_succ])
            refine wpAnyH_take (i := 11) (oi := _) (v := ?ve11) rfl (by kernel_rfl) (by kernel_rfl) (by kernel_rfl) (fun _ _ _ h => h) (Or.inl ⟨by rfl, ?hye11⟩) (by assumption) ?reste11
            case hye11 => (intro wz hSw; (try dsimp only at hSw); go_simp; try with_reducible rfl)
            (try simp only [List.getElem_toArray, List.getElem_cons_zero, List.getElem_cons_succ, Act.put, List.setIfInBounds_toArray, List.set_cons_zero, List.set_cons_succ])
            refine wpAnyH_take (i := 12) (oi := _) (v := ?ve12) rfl (by kernel_rfl) (by kernel_rfl) (by kernel_rfl) (fun _ _ _ h => h) (Or.inl ⟨by rfl, ?hye12⟩) (by assumption) ?reste12
            case hye12 => (intro wz hSw; (try dsimp only at hSw); go_simp; try with_reducible rfl)
            (try simp only [List.getElem_toArray, List.getElem_cons_zero, List.getElem_cons_succ, Act.put, List.setIfInBounds_toArray, List.set_cons_zero, List.set_cons_succ])
            refine wpAnyH_take (i := 13) (oi := _) (v := ?ve13) rfl (by kernel_rfl) (by kernel_rfl) (by kernel_rfl) (fun _ _ _ h => h) (Or.inl ⟨by rfl, ?hye13⟩) (by assumption) ?reste13
            case hye13 => (intro wz hSw; (try dsimp only at hSw); go_simp; try with_reducible rfl)
            (try simp only [List.getElem_toArray, List.getElem_cons_zero, List.getElem_cons_succ, Act.put, List.setIfInBounds_toArray, List.set_cons_zero, List.set_cons_succ])
            refine wpAnyH_take (i := 14) (oi := _) (v := ?ve14) rfl (by kernel_rfl) (by kernel_rfl) (by kernel_rfl) (fun _ _ _ h => h) (Or.inl ⟨by rfl, ?hye14⟩) (by assumption) ?reste14
            case hye14 => (intro wz hSw; (try dsimp only at hSw); go_simp; try with_reducible rfl)
            (try simp only [List.getElem_toArray, List.getElem_cons_zero, List.getElem_cons_succ, Act.put, List.setIfInBounds_toArray, List.set_cons_zero, List.set_cons_succ])
            refine wpAnyH_take (i := 15) (oi := _) (v := ?ve15) rfl (by kernel_rfl) (by kernel_rfl) (by kernel_rfl) (fun _ _ _ h => h) (Or.inl ⟨by rfl, ?hye15⟩) (by assumption) ?reste15
            case hye15 => (intro wz hSw; (try dsimp only at hSw); go_simp; try with_reducible rfl)
            (try simp only [List.getElem_toArray, List.getElem_cons_zero, List.getElem_cons_succ, Act.put, List.setIfInBounds_toArray, List.set_cons_zero, List.set_cons_succ])
            refine wpAnyH_take (i := 16) (oi := _) (v := ?ve16) rfl (by kernel_rfl) (by kernel_rfl) (by kernel_rfl) (fun _ _ _ h => h) (Or.inl ⟨by rfl, ?hye16⟩) (by assumption) ?reste16
            case hye16 => (intro wz hSw; (try dsimp only at hSw); go_simp; try with_reducible rfl)
            (try simp only [List.getElem_toArray, List.getElem_cons_zero, List.getElem_cons_succ, Act.put, List.setIfInBounds_toArray, List.set_cons_zero, List.set_cons_succ])
            refine wpAnyH_take (i := 17) (oi := _) (v := ?ve17) rfl (by kernel_rfl) (by kernel_rfl) (by kernel_rfl) (fun _ _ _ h => h) (Or.inl ⟨by rfl, ?hye17⟩) (by assumption) ?reste17
            case hye17 => (intro wz hSw; (try dsimp only at hSw); go_simp; try with_reducible rfl)
            (try simp only [List.getElem_toArray, List.getElem_cons_zero, List.getElem_cons_succ, Act.put, List.setIfInBounds_toArray, List.set_cons_zero, List.set_cons_succ])
            refine wpAnyH_take (i := 18) (oi := _) (v := ?ve18) rfl (by kernel_rfl) (by kernel_rfl) (by kernel_rfl) (fun _ _ _ h => h) (Or.inl ⟨by rfl, ?hye18⟩) (by assumption) ?reste18
            case hye18 => (intro wz hSw; (try dsimp only at hSw); go_simp; try with_reducible rfl)
            (try simp only [List.getElem_toArray, List.getElem_cons_zero, List.getElem_cons_succ, Act.put, List.setIfInBounds_toArray, List.set_cons_zero, List.set_cons_succ])
            refine wpAnyH_take (i := 19) (oi := _) (v := ?ve19) rfl (by kernel_rfl) (by kernel_rfl) (by kernel_rfl) (fun _ _ _ h => h) (Or.inl ⟨by rfl, ?hye19⟩) (by assumption) ?reste19
            case hye19 => (intro wz hSw; (try dsimp only at hSw); go_simp; try with_reducible rfl)
            (try simp only [List.getElem_toArray, List.getElem_cons_zero, List.getElem_cons_succ, Act.put, List.setIfInBounds_toArray, List.set_cons_zero, List.set_cons_succ])
            refine wpAnyH_take (i := 20) (oi := _) (v := ?ve20) rfl (by kernel_rfl) (by kernel_rfl) (by kernel_rfl) (fun _ _ _ h => h) (Or.inl ⟨by rfl, ?hye20⟩) (by assumption) ?reste20
            case hye20 => (intro wz hSw; (try dsimp only at hSw); go_simp; try with_reducible rfl)
            (try simp only [List.getElem_toArray, List.getElem_cons_zero, List.getElem_cons_succ, Act.put, List.setIfInBounds_toArray, List.set_cons_zero, List.set_cons_succ])
            refine wpAnyH_take (i := 21) (oi := _) (v := ?ve21) rfl (by kernel_rfl) (by kernel_rfl) (by kernel_rfl) (fun _ _ _ h => h) (Or.inl ⟨by rfl, ?hye21⟩) (by assumption) ?reste21
            case hye21 => (intro wz hSw; (try dsimp only at hSw); go_simp; try with_reducible rfl)
            (try simp only [List.getElem_toArray, List.getElem_cons_zero, List.getElem_cons_succ, Act.put, List.setIfInBounds_toArray, List.set_cons_zero, List.set_cons_succ])
            refine wpAnyH_take (i := 22) (oi := _) (v := ?ve22) rfl (by kernel_rfl) (by kernel_rfl) (by kernel_rfl) (fun _ _ _ h => h) (Or.inl ⟨by rfl, ?hye22⟩) (by assumption) ?reste22
            case hye22 => (intro wz hSw; (try dsimp only at hSw); go_simp; try with_reducible rfl)
            (try simp only [List.getElem_toArray, List.getElem_cons_zero, List.getElem_cons_succ, Act.put, List.setIfInBounds_toArray, List.set_cons_zero, List.set_cons_succ])
            refine wpAnyH_take (i := 23) (oi := _) (v := ?ve23) rfl (by kernel_rfl) (by kernel_rfl) (by kernel_rfl) (fun _ _ _ h => h) (Or.inl ⟨by rfl, ?hye23⟩) (by assumption) ?reste23
            case hye23 => (intro wz hSw; (try dsimp only at hSw); go_simp; try with_reducible rfl)
            (try simp only [List.getElem_toArray, List.getElem_cons_zero, List.getElem_cons_succ, Act.put, List.setIfInBounds_toArray, List.set_cons_zero, List.set_cons_succ])
            refine wpAnyH_done (by kernel_rfl) ?_ _
            clear hgt hgt2 hq hd
            go_wp2
            go_roundw
            case rel => exact ⟨j + 1, by omega, by go_num, HO2.out, HG.out.trans (hb.mono HG.out.size)⟩
            case measure => simp [intOf]; omega
    · obtain rfl : j = len := by omega
      have hRt : R = true := by rw [← HR.out, decide_eq_true_iff, okTo_all, HL.out]; exact HO.out
      subst hRt
      go_wp2
      go_ret
      exact ⟨rfl, HG.out⟩
end Go.Proofs.YtlljcdmblmkblaaGreat
namespace Go.Proofs.YtlljcdmblmkblaaGreat
open Go.RowKit Go.ChangeShapes Go.WideShapes Go.Deep Go.Joins

/-- A slice of spans that came in: nil, or a row of cells. -/
def IsSpans (w : World) (a : Option Addr) (len cap : Nat) (zs : List Sp) : Prop :=
  (a = none ∧ len = 0 ∧ cap = 0 ∧ zs = []) ∨
  ∃ x, a = some x ∧ len ≤ cap ∧ cap ≤ maxLen ∧ zs.length = cap ∧ ∀ i, i < cap → w.cell? (x.add (i * 2)) = some (.int .i64 (spAt zs i).1) ∧ w.cell? (x.add (i * 2 + 1)) = some (.int .i64 (spAt zs i).2) ∧ (Lit.int .i64 (spAt zs i).1).wf = true ∧ (Lit.int .i64 (spAt zs i).2).wf = true
set_option maxRecDepth 100000 in
theorem span_open {H : Type} {enc : TypeId × Value → H} {W : World} {r : Reach} {b0 base : Nat} {spare : Nat → Bool} {held : Bool} {v : Value} {d : DataW H} {p : List MemPlace} (hv : Value.okWide Tryz.prog W r b0 96 v) (h : DataW.Trod enc Tryz.prog W base spare held 96 v d p) :
    ∃ f t, v = .agg #[.int .i64 f, .int .i64 t] ∧ (Lit.int .i64 f).wf = true ∧ (Lit.int .i64 t).wf = true := by
  obtain ⟨v0, v1, y0, y1, n, rfl, _, _, h0, h1⟩ := open_agg2 Tryz.underlying96 (by kernel_rfl) (by kernel_rfl) hv h
  obtain ⟨f, e0, _, w0⟩ := DataW.trod_int Tryz.underlying3 h0
  obtain ⟨t, e1, _, w1⟩ := DataW.trod_int Tryz.underlying3 h1
  obtain rfl : v0 = .int .i64 f := by simpa using e0
  obtain rfl : v1 = .int .i64 t := by simpa using e1
  exact ⟨f, t, rfl, w0, w1⟩
set_option maxRecDepth 100000 in
theorem spans_open {H : Type} {enc : TypeId × Value → H} {W : World} {base : Nat} {held : Bool} {a : Option Addr} {len cap : Nat} {d : DataW H} {p : List MemPlace} (h : DataW.Trod enc Tryz.prog W base (fun _ => true) held 90 (.slice a len cap) d p) :
    ∃ zs, IsSpans W a len cap zs := by
  obtain ⟨fuel, hf⟩ := h
  rcases open_slice_pairs Tryz.underlying90 Tryz.underlying96 (by kernel_rfl) rfl rfl (by kernel_rfl) (by kernel_rfl) hf with ⟨hcs, _⟩ | ⟨x, l, c, m, n, V0, V1, D0, D1, P0, P1, hcs, _, hl, hm, hmm, _, hi⟩
  · simp [Value.cells] at hcs
    obtain ⟨rfl, rfl, rfl⟩ := hcs
    exact ⟨[], Or.inl ⟨rfl, rfl, rfl, rfl⟩⟩
  · simp [Value.cells] at hcs
    obtain ⟨rfl, rfl, rfl⟩ := hcs
    have hmc : m = cap := by simpa using hmm
    subst hmc
    have hs : ∀ i, i < m → ∃ s : Sp, W.cell? (x.add (i * 2)) = some (.int .i64 s.1) ∧ W.cell? (x.add (i * 2 + 1)) = some (.int .i64 s.2) ∧ (Lit.int .i64 s.1).wf = true ∧ (Lit.int .i64 s.2).wf = true := fun i him => by
      obtain ⟨g1, g2, g3, g4⟩ := hi i him
      obtain ⟨f, e0, _, w0⟩ := DataW.trod_int Tryz.underlying3 g3
      obtain ⟨t, e1, _, w1⟩ := DataW.trod_int Tryz.underlying3 g4
      have e0' : V0 i = .int .i64 f := by simpa using e0
      have e1' : V1 i = .int .i64 t := by simpa using e1
      exact ⟨(f, t), by rw [g1, e0'], by rw [g2, e1'], w0, w1⟩
    have hz : ∃ g : Nat → Sp, ∀ i, i < m → W.cell? (x.add (i * 2)) = some (.int .i64 (g i).1) ∧ W.cell? (x.add (i * 2 + 1)) = some (.int .i64 (g i).2) ∧ (Lit.int .i64 (g i).1).wf = true ∧ (Lit.int .i64 (g i).2).wf = true :=
      ⟨fun i => if h : i < m then Classical.choose (hs i h) else (0, 0), fun i him => by
        dsimp only
        rw [dif_pos him]
        exact Classical.choose_spec (hs i him)⟩
    obtain ⟨g, hg⟩ := hz
    refine ⟨(List.range m).map g, Or.inr ⟨x, rfl, hl, hm, by simp, fun i him => ?_⟩⟩
    have e : spAt ((List.range m).map g) i = g i := by
      unfold spAt
      rw [List.getD_eq_getElem?_getD, List.getElem?_map, List.getElem?_range him]
      rfl
    rw [e]
    exact hg i him
/-- What a list that came in reads as. -/
theorem spans_arg {w : World} {a : Option Addr} {len cap : Nat} {zs : List Sp} (h : IsSpans w a len cap zs) (hlen : len ≤ 100000) : ∃ l, Spans w a len l ∧ len ≤ cap ∧ (a = none → cap = 0) ∧ ∀ i, i < len → (Lit.int .i64 (spAt l i).1).wf = true ∧ (Lit.int .i64 (spAt l i).2).wf = true := by
  rcases h with ⟨rfl, rfl, rfl, rfl⟩ | ⟨x, rfl, h1, h2, h3, h4⟩
  · exact ⟨[], Reads.nil _ _ _, Nat.le_refl _, fun _ => rfl, fun i hi => by omega⟩
  · have ht : ∀ i, i < len → spAt (zs.take len) i = spAt zs i := fun i hi => by
      unfold spAt
      rw [List.getD_eq_getElem?_getD, List.getD_eq_getElem?_getD, List.getElem?_take, if_pos hi]
    refine ⟨zs.take len, ⟨by rw [List.length_take]; omega, by omega, ?_⟩, h1, (fun e => by cases e), fun i hi => ?_⟩
    · by_cases h0 : len = 0
      · exact Or.inl h0
      · obtain ⟨b, off, spot⟩ := x
        have hc := (h4 0 (by omega)).1
        have hspot : spot = none := by simpa [Addr.add] using World.cell?_spot hc
        subst hspot
        refine Or.inr ⟨b, off, rfl, block_lt_of_cell hc, fun j u hu => ?_⟩
        have hlt : j < (zs.take len).length * 2 := by
          rcases Nat.lt_or_ge j ((zs.take len).length * 2) with g | g
          · exact g
          · rw [List.getElem?_eq_none (by rw [flat_len sp_rowed.len]; exact g)] at hu
            cases hu
        rw [List.length_take] at hlt
        have hi : j / 2 < len := by omega
        have e := flat_at sp_rowed.len (zs.take len) (j / 2) (j % 2) _ (spAt_some (zs.take len) (j / 2) (by rw [List.length_take]; omega)) (Nat.mod_lt _ (by decide))
        rw [show j / 2 * 2 + j % 2 = j by omega, hu, ht _ hi] at e
        obtain ⟨g1, g2, _, _⟩ := h4 (j / 2) (by omega)
        rw [add_none] at g1 g2
        have : j % 2 = 0 ∨ j % 2 = 1 := by omega
        rcases this with k | k
        · rw [k] at e
          have e' : u = .int .i64 (spAt zs (j / 2)).1 := by simpa [spCells] using e
          rw [e', show off + j = off + j / 2 * 2 by omega]
          exact g1
        · rw [k] at e
          have e' : u = .int .i64 (spAt zs (j / 2)).2 := by simpa [spCells] using e
          rw [e', show off + j = off + (j / 2 * 2 + 1) by omega]
          exact g2
    · rw [ht i hi]
      exact ⟨(h4 i (by omega)).2.2.1, (h4 i (by omega)).2.2.2⟩
end Go.Proofs.YtlljcdmblmkblaaGreat
namespace Go.Proofs.YtlljcdmblmkblaaGreat
open Go.RowKit

/-- What hands back a list of spans. -/
def SpPost (w0 : World) (L : List Sp) (e : Ending) (w : World) : Prop :=
  ∃ a c, e = .returned (.slice a L.length c) ∧ OwnSp w w0.heap.size (.slice a L.length c) L.length L ∧ ((a = none → c = 0) ∧ L.length ≤ c) ∧ Below w0.heap.size w0 w
theorem OwnG.monoB {α : Type} {cv : α → List Value} {e : TypeId} {sz : Nat} {w : World} {base base' : Nat} {v : Value} {n : Nat} {l : List α} (h : OwnG cv e sz w base v n l) (hb : base' ≤ base) : OwnG cv e sz w base' v n l := by
  obtain ⟨⟨h1, h2⟩, h3⟩ := h
  refine ⟨⟨h1, ?_⟩, h3⟩
  rcases h2 with h2 | ⟨g, cap, cur, e, hg, r⟩
  · exact Or.inl h2
  · exact Or.inr ⟨g, cap, cur, e, Nat.le_trans hb hg, r⟩
theorem SpPost.named {w0 : World} {L : List Sp} {e : Ending} {w : World} (h : SpPost w0 L e w) {n : Nat} (hn : L.length = n) :
    ∃ a c, e = .returned (.slice a n c) ∧ Spans w a n L ∧ ((a = none → c = 0) ∧ n ≤ c) ∧ Below w0.heap.size w0 w := by
  subst hn
  obtain ⟨a, c, h1, h2, h3, h4⟩ := h
  exact ⟨a, c, h1, (h2.reads sp_rowed).1, h3, h4⟩
theorem SpPost.namedO {w0 : World} {L : List Sp} {e : Ending} {w : World} (h : SpPost w0 L e w) {n : Nat} (hn : L.length = n) :
    ∃ a c, e = .returned (.slice a n c) ∧ OwnSp w w0.heap.size (.slice a n c) n L ∧ ((a = none → c = 0) ∧ n ≤ c) ∧ Below w0.heap.size w0 w := by
  subst hn
  exact h
theorem OwnG.laterB {α : Type} {cv : α → List Value} {e : TypeId} {sz : Nat} {w w' : World} {base : Nat} {v : Value} {n : Nat} {l : List α} (h : OwnG cv e sz w base v n l) (hb : Below w.heap.size w w') : OwnG cv e sz w' base v n l :=
  ⟨h.1.kept (row := Option.none) ⟨hb.os, hb.tape, hb.output, hb.size, fun k hk _ => hb.block k hk⟩ (by
    cases hv : v.ownBlock with
    | none => exact .inl rfl
    | some k => exact .inr (fun e' => by cases e')), h.2⟩
theorem SpPost.empty (w0 : World) : SpPost w0 [] (.returned (.slice none 0 0)) w0 := ⟨none, 0, rfl, OwnG.none _ _ _ _ _, ⟨fun _ => rfl, Nat.le_refl _⟩, Below.refl _ _⟩
theorem SpPost.own {w0 w : World} {L : List Sp} {a : Option Addr} {n c base : Nat} (h : OwnSp w base (.slice a n c) n L) (hb : Below w0.heap.size w0 w) (hbase : w0.heap.size ≤ base := by first | exact Nat.le_refl _ | (simp; done) | omega) : SpPost w0 L (.returned (.slice a n c)) w := by
  have hl := h.2.1
  obtain ⟨h1, h2, h3⟩ := h.reads sp_rowed
  subst hl
  exact ⟨a, c, rfl, h.monoB hbase, ⟨h2, h3⟩, hb⟩

theorem norm_len (l : List Sp) : (norm l).length ≤ l.length := by
  unfold norm
  split
  · exact Nat.le_refl _
  · exact Nat.zero_le _

/-- Is a number there? -/
def sameTo (l m : List Sp) (i : Nat) : Prop := ∀ k, k < i → spAt l k = spAt m k
theorem same_all {l m : List Sp} (hl : l.length = m.length) (h : sameTo l m l.length) : l = m := by
  refine List.ext_getElem hl fun i h1 h2 => ?_
  have e := h i h1
  have a := spAt_some l i h1
  have b := spAt_some m i h2
  rw [List.getElem?_eq_getElem h1] at a
  rw [List.getElem?_eq_getElem h2] at b
  injection a with a
  injection b with b
  rw [a, b, e]

set_option maxHeartbeats 1600000 in
theorem refSpans_any (a1 a2 : Option Addr) (n1 n2 c1 c2 : Nat) (l m : List Sp) (w : World) (hA : Spans w a1 n1 l) (hB : Spans w a2 n2 m) :
    Calls Tryz.prog 73 #[.slice a1 n1 c1, .slice a2 n2 c2] w fun e w' => e = .returned (.bool (decide (l = m))) ∧ Below w.heap.size w w' := by
  by_cases hn : n1 = n2
  · subst hn
    obtain ⟨R, HR⟩ := named (decide (l = m))
    rw [HR.out]
    have HA := Lib.hid hA
    have HB := Lib.hid hB
    have hsz := hA.2.1
    have HL1 := Lib.hid hA.1
    have HL2 := Lib.hid hB.1
    clear hA hB
    go_enter Tryz.func73, Tryz.ntmps73
    go_wp2
    go_loopw [5] (fun i wr => ∃ j : Nat, j ≤ n1 ∧ i = .int .i64 j ∧ Hid (sameTo l m j) ∧ Hid (Below w.heap.size w wr)) (fun i _ => n1 - (intOf i).toNat)
    case atStart => exact ⟨0, Nat.zero_le _, rfl, fun k hk => by omega, Below.refl _ _⟩
    case round =>
      obtain ⟨j, hj, rfl, HJ, HG⟩ := hrel
      by_cases hlt : j < n1
      · obtain ⟨b1, o1, rfl⟩ := HA.out.lies (by omega)
        obtain ⟨b2, o2, rfl⟩ := HB.out.lies (by omega)
        obtain ⟨d1, d2⟩ := span_cells (HA.out.later HG.out) j hlt
        obtain ⟨e1, e2⟩ := span_cells (HB.out.later HG.out) j hlt
        have hne : spAt l j ≠ spAt m j → R = false := fun h => by
          rw [← HR.out, decide_eq_false_iff_not]
          intro e
          exact h (by rw [e])
        have heq : spAt l j = spAt m j → Hid (sameTo l m (j + 1)) := fun h k hk => by
          by_cases e : k = j
          · rw [e]; exact h
          · exact HJ.out k (by omega)
        obtain ⟨⟨f1, t1⟩, HF1⟩ := named (spAt l j)
        obtain ⟨⟨f2, t2⟩, HF2⟩ := named (spAt m j)
        rw [HF1.out] at d1 d2 hne heq
        rw [HF2.out] at e1 e2 hne heq
        have HNE := Lib.hid hne
        have HEQ := Lib.hid heq
        clear hne heq
        by_cases hf : f1 = f2
        · subst hf
          by_cases ht : t1 = t2
          · subst ht
            have HJ2 := HEQ.out rfl
            go_wp2
            go_region
            go_wp2
            go_roundw
            case rel => exact ⟨j + 1, by omega, by go_num, HJ2, HG.out.drew⟩
            case measure => simp [intOf]; omega
          · have hr : R = false := HNE.out fun e => ht (congrArg Prod.snd e)
            subst hr
            go_wp2
            go_region
            go_wp2
            go_ret
            exact ⟨rfl, HG.out.drew⟩
        · have hr : R = false := HNE.out fun e => hf (congrArg Prod.fst e)
          subst hr
          go_wp2
          go_region
          go_wp2
          go_ret
          exact ⟨rfl, HG.out.drew⟩
      · obtain rfl : j = n1 := by omega
        have hr : R = true := by rw [← HR.out, decide_eq_true_iff]; exact same_all (by rw [HL1.out, HL2.out]) (by rw [HL1.out]; exact HJ.out)
        subst hr
        go_wp2
        go_ret
        exact ⟨rfl, HG.out⟩
  · have hR : decide (l = m) = false := by
      rw [decide_eq_false_iff_not]
      intro e
      exact hn (by rw [← hA.1, ← hB.1, e])
    rw [hR]
    clear hA hB
    go_enter Tryz.func73, Tryz.ntmps73
    go_wp2
    go_ret
    exact ⟨rfl, Below.refl _ _⟩
end Go.Proofs.YtlljcdmblmkblaaGreat
namespace Go.Proofs.YtlljcdmblmkblaaGreat
open Go.RowKit

theorem i64_wf {n : Int} (h : (Lit.int .i64 n).wf = true) : I64 n := bounds_i64 h
def SpFit (l : List Sp) : Prop := ∀ x ∈ l, I64 x.1 ∧ I64 x.2
theorem Rt.fit : ∀ {lo : Int} {l : List Sp}, Rt lo l → -1 ≤ lo → SpFit l
  | _, [], _, _ => fun x hx => by cases hx
  | lo, y :: r, h, hlo => fun x hx => by
    have h1 := h.1
    have h2 := h.2.1
    have h3 := h.2.2.1
    rcases List.mem_cons.1 hx with rfl | hx
    · unfold I64
      omega
    · exact Rt.fit h.2.2.2 (by omega) x hx
theorem fit_of {l : List Sp} {len : Nat} (hl : l.length = len) (h : ∀ i, i < len → (Lit.int .i64 (spAt l i).1).wf = true ∧ (Lit.int .i64 (spAt l i).2).wf = true) : SpFit l := fun x hx => by
  obtain ⟨i, hi, rfl⟩ := List.getElem_of_mem hx
  have e : spAt l i = l[i] := by
    have := spAt_some l i hi
    rw [List.getElem?_eq_getElem hi] at this
    injection this with this
    exact this.symm
  obtain ⟨g1, g2⟩ := h i (by omega)
  rw [e] at g1 g2
  exact ⟨i64_wf g1, i64_wf g2⟩
end Go.Proofs.YtlljcdmblmkblaaGreat
namespace Go.Proofs.YtlljcdmblmkblaaGreat
open Go.RowKit

set_option maxHeartbeats 800000 in
theorem isSpan_any (f t : Int) (w : World) : Calls Tryz.prog 126 #[.agg #[.int .i64 f, .int .i64 t]] w fun e w' => e = .returned (.bool (mayB (f, t))) ∧ Below w.heap.size w w' := by
  have hb : Below w.heap.size w (w.alloc (.cells #[.int .i64 f, .int .i64 t] 96)) := (Below.refl _ _).alloc (Nat.le_refl _) _
  have HB := Lib.hid hb
  clear hb
  unfold mayB
  by_cases h1 : 0 ≤ f
  · by_cases h2 : f < t
    · go_enter Tryz.func126, Tryz.ntmps126
      go_wp2
      go_ret
      exact ⟨ret_bool (by simp [h1, h2]), HB.out⟩
    · go_enter Tryz.func126, Tryz.ntmps126
      go_wp2
      go_ret
      exact ⟨ret_bool (by simp; omega), HB.out⟩
  · go_enter Tryz.func126, Tryz.ntmps126
    go_wp2
    go_ret
    exact ⟨ret_bool (by simp; omega), HB.out⟩
theorem isSpan_is {f t : Int} {M : Bool} (hm : mayB (f, t) = M) (w : World) : Calls Tryz.prog 126 #[.agg #[.int .i64 f, .int .i64 t]] w fun e w' => e = .returned (.bool M) ∧ Below w.heap.size w w' :=
  (isSpan_any f t w).mono fun _ _ ⟨he, hb⟩ => ⟨by rw [he, hm], hb⟩
theorem isSpanC {w0 w : World} {f t : Int} {q1 q2 q3 : Prop} {M : Bool} (hm : mayB (f, t) = M) (h : q1 ∧ q2 ∧ q3 ∧ Below w0.heap.size w0 w) : Calls Tryz.prog 126 #[.agg #[.int .i64 f, .int .i64 t]] w fun e w' => e = .returned (.bool M) ∧ Below w0.heap.size w0 w' :=
  (isSpan_any f t w).mono fun _ _ ⟨he, hb⟩ => ⟨by rw [he, hm], h.2.2.2.trans (hb.mono h.2.2.2.size)⟩

set_option maxHeartbeats 4000000 in
theorem spanRight_is (a : Option Addr) (len cap : Nat) (l : List Sp) (w : World) (hB : Spans w a len l) (hlen : len ≤ 100000) (R : Bool) (hR : decide (Rt (-1) l) = R) :
    Calls Tryz.prog 110 #[.slice a len cap] w fun e w' => e = .returned (.bool R) ∧ Below w.heap.size w w' := by
  have HL := Lib.hid hB.1
  have HB := Lib.hid hB
  have HR := Lib.hid hR
  clear hB hR
  go_enter Tryz.func110, Tryz.ntmps110
  go_wp2
  go_loopw [7] (fun i wr => ∃ j : Nat, j ≤ len ∧ i = .int .i64 j ∧ Hid (okTo l j) ∧ Hid (Below w.heap.size w wr)) (fun i _ => len - (intOf i).toNat)
  case atStart => exact ⟨0, Nat.zero_le _, rfl, okTo_zero l, Below.refl _ _⟩
  case round =>
    obtain ⟨j, hj, rfl, HO, HG⟩ := hrel
    by_cases hlt : j < len
    · obtain ⟨b, off, rfl⟩ := HB.out.lies (by omega)
      have hS := HB.out.later HG.out
      have hbs : b < wr.heap.size := by
        obtain ⟨_, _, h3⟩ := hS
        obtain ⟨b', off', e, hlt', _⟩ := h3.resolve_left (by omega)
        cases e
        exact hlt'
      obtain ⟨c1, c2⟩ := span_cells hS j hlt
      obtain ⟨⟨f, t⟩, HS⟩ := named (spAt l j)
      rw [HS.out] at c1 c2
      obtain ⟨M, HM⟩ := named (mayB (f, t))
      cases M with
      | false =>
        have hRf : R = false := by rw [← HR.out]; exact not_right (by rw [HL.out]; exact hlt) (Or.inl (by rw [HS.out]; exact HM.out))
        subst hRf
        clear hS
        go_wp2
        obtain ⟨wa, hwa⟩ : ∃ wa, wr.alloc (.cells #[.int .i64 f, .int .i64 t] 96) = wa := ⟨_, rfl⟩
        have C1 : Hid (wa.cell? ⟨wr.heap.size, 0, none⟩ = some (.int .i64 f)) := by rw [← hwa, World.cell?_alloc_new]; rfl
        have C2 : Hid (wa.cell? ⟨wr.heap.size, 1, none⟩ = some (.int .i64 t)) := by rw [← hwa, World.cell?_alloc_new]; rfl
        have B1 : Hid (wr.heap.size < wa.heap.size) := by rw [← hwa, World.size_alloc]; exact Nat.lt_succ_self _
        have HA : Hid (Below wr.heap.size wr wa) := by rw [← hwa]; exact (Below.refl _ _).alloc (Nat.le_refl _) _
        have hB0 : Below wa.heap.size wa wa := Below.refl _ _
        rw [hwa]
        clear hwa c1 c2
        refine wp_region_held_drew (S := fun w' => w'.cell? ⟨wr.heap.size, 0, none⟩ = some (.int .i64 f) ∧ w'.cell? ⟨wr.heap.size, 1, none⟩ = some (.int .i64 t) ∧ w'.cell? ⟨wr.heap.size, 0, none⟩ = some (.int .i64 f) ∧ Below wa.heap.size wa w') (by kernel_rfl) (by first | exact three C1.out C2.out C1.out B1.out B1.out B1.out (by assumption) | exact three C1.out C2.out C1.out B1.out B1.out B1.out (Below.drew (by assumption))) (fun hHeld => ?_)
        refine wpAnyH_take (i := 0) (oi := _) (v := ?vb0) rfl (by kernel_rfl) (by kernel_rfl) (by kernel_rfl) (fun _ _ _ h => h) (Or.inl ⟨by rfl, ?hyb0⟩) (by assumption) ?restb0
        case hyb0 => (intro wz hSw; (try dsimp only at hSw); go_simp; try with_reducible rfl)
        (try simp only [List.getElem_toArray, List.getElem_cons_zero, Act.put, List.setIfInBounds_toArray, List.set_cons_zero, List.set_cons_succ])
        refine wpAnyH_ready (rs := [1]) (by kernel_rfl) (by simp) ?_
        refine AllReadyH.cons (o := _) rfl (fun K hK => ?_) AllReadyH.nil
        rw [if_pos (by rfl)]
        go_simp
        (go_at_call 126; refine (isSpanC HM.out (by assumption)).mono ?_; rintro e w' ⟨rfl, hb⟩)
        dsimp only
        refine hK.out _ _ (by first | exact three C1.out C2.out C1.out B1.out B1.out B1.out (by assumption) | exact three C1.out C2.out C1.out B1.out B1.out B1.out (Below.drew (by assumption))) (fun hHeld => ?_)
        clear hK K
        (try simp only [List.getElem_toArray, List.getElem_cons_zero, List.getElem_cons_succ, Act.put, List.setIfInBounds_toArray, List.set_cons_zero, List.set_cons_succ])
        refine wpAnyH_take (i := 2) (oi := _) (v := ?vb2) rfl (by kernel_rfl) (by kernel_rfl) (by kernel_rfl) (fun _ _ _ h => h) (Or.inl ⟨by rfl, ?hyb2⟩) (by assumption) ?restb2
        case hyb2 => (intro wz hSw; (try dsimp only at hSw); go_simp; try with_reducible rfl)
        (try simp only [List.getElem_toArray, List.getElem_cons_zero, List.getElem_cons_succ, Act.put, List.setIfInBounds_toArray, List.set_cons_zero, List.set_cons_succ])
        refine wpAnyH_take (i := 3) (oi := _) (v := ?vb3) rfl (by kernel_rfl) (by kernel_rfl) (by kernel_rfl) (fun _ _ _ h => h) (Or.inl ⟨by rfl, ?hyb3⟩) (by assumption) ?restb3
        case hyb3 => (intro wz hSw; (try dsimp only at hSw); go_simp; try with_reducible rfl)
        (try simp only [List.getElem_toArray, List.getElem_cons_zero, List.getElem_cons_succ, Act.put, List.setIfInBounds_toArray, List.set_cons_zero, List.set_cons_succ])
        refine wpAnyH_take (i := 4) (oi := _) (v := undef) rfl (by kernel_rfl) (by kernel_rfl) (by kernel_rfl) (fun _ _ _ h => h) (Or.inr ⟨by rfl, rfl⟩) (by assumption) ?_
        (try simp only [List.getElem_toArray, List.getElem_cons_zero, List.getElem_cons_succ, Act.put, List.setIfInBounds_toArray, List.set_cons_zero, List.set_cons_succ])
        refine wpAnyH_take (i := 5) (oi := _) (v := undef) rfl (by kernel_rfl) (by kernel_rfl) (by kernel_rfl) (fun _ _ _ h => h) (Or.inr ⟨by rfl, rfl⟩) (by assumption) ?_
        (try simp only [List.getElem_toArray, List.getElem_cons_zero, List.getElem_cons_succ, Act.put, List.setIfInBounds_toArray, List.set_cons_zero, List.set_cons_succ])
        refine wpAnyH_take (i := 6) (oi := _) (v := undef) rfl (by kernel_rfl) (by kernel_rfl) (by kernel_rfl) (fun _ _ _ h => h) (Or.inr ⟨by rfl, rfl⟩) (by assumption) ?_
        (try simp only [List.getElem_toArray, List.getElem_cons_zero, List.getElem_cons_succ, Act.put, List.setIfInBounds_toArray, List.set_cons_zero, List.set_cons_succ])
        refine wpAnyH_take (i := 7) (oi := _) (v := undef) rfl (by kernel_rfl) (by kernel_rfl) (by kernel_rfl) (fun _ _ _ h => h) (Or.inr ⟨by rfl, rfl⟩) (by assumption) ?_
        (try simp only [List.getElem_toArray, List.getElem_cons_zero, List.getElem_cons_succ, Act.put, List.setIfInBounds_toArray, List.set_cons_zero, List.set_cons_succ])
        refine wpAnyH_take (i := 8) (oi := _) (v := undef) rfl (by kernel_rfl) (by kernel_rfl) (by kernel_rfl) (fun _ _ _ h => h) (Or.inr ⟨by rfl, rfl⟩) (by assumption) ?_
        (try simp only [List.getElem_toArray, List.getElem_cons_zero, List.getElem_cons_succ, Act.put, List.setIfInBounds_toArray, List.set_cons_zero, List.set_cons_succ])
        refine wpAnyH_take (i := 9) (oi := _) (v := undef) rfl (by kernel_rfl) (by kernel_rfl) (by kernel_rfl) (fun _ _ _ h => h) (Or.inr ⟨by rfl, rfl⟩) (by assumption) ?_
        (try simp only [List.getElem_toArray, List.getElem_cons_zero, List.getElem_cons_succ, Act.put, List.setIfInBounds_toArray, List.set_cons_zero, List.set_cons_succ])
        refine wpAnyH_take (i := 10) (oi := _) (v := undef) rfl (by kernel_rfl) (by kernel_rfl) (by kernel_rfl) (fun _ _ _ h => h) (Or.inr ⟨by rfl, rfl⟩) (by assumption) ?_
        (try simp only [List.getElem_toArray, List.getElem_cons_zero, List.getElem_cons_succ, Act.put, List.setIfInBounds_toArray, List.set_cons_zero, List.set_cons_succ])
        refine wpAnyH_take (i := 11) (oi := _) (v := undef) rfl (by kernel_rfl) (by kernel_rfl) (by kernel_rfl) (fun _ _ _ h => h) (Or.inr ⟨by rfl, rfl⟩) (by assumption) ?_
        (try simp only [List.getElem_toArray, List.getElem_cons_zero, List.getElem_cons_succ, Act.put, List.setIfInBounds_toArray, List.set_cons_zero, List.set_cons_succ])
        refine wpAnyH_take (i := 12) (oi := _) (v := undef) rfl (by kernel_rfl) (by kernel_rfl) (by kernel_rfl) (fun _ _ _ h => h) (Or.inr ⟨by rfl, rfl⟩) (by assumption) ?_
        (try simp only [List.getElem_toArray, List.getElem_cons_zero, List.getElem_cons_succ, Act.put, List.setIfInBounds_toArray, List.set_cons_zero, List.set_cons_succ])
        refine wpAnyH_take (i := 13) (oi := _) (v := undef) rfl (by kernel_rfl) (by kernel_rfl) (by kernel_rfl) (fun _ _ _ h => h) (Or.inr ⟨by rfl, rfl⟩) (by assumption) ?_
        (try simp only [List.getElem_toArray, List.getElem_cons_zero, List.getElem_cons_succ, Act.put, List.setIfInBounds_toArray, List.set_cons_zero, List.set_cons_succ])
        refine wpAnyH_take (i := 14) (oi := _) (v := undef) rfl (by kernel_rfl) (by kernel_rfl) (by kernel_rfl) (fun _ _ _ h => h) (Or.inr ⟨by rfl, rfl⟩) (by assumption) ?_
        (try simp only [List.getElem_toArray, List.getElem_cons_zero, List.getElem_cons_succ, Act.put, List.setIfInBounds_toArray, List.set_cons_zero, List.set_cons_succ])
        refine wpAnyH_take (i := 15) (oi := _) (v := undef) rfl (by kernel_rfl) (by kernel_rfl) (by kernel_rfl) (fun _ _ _ h => h) (Or.inr ⟨by rfl, rfl⟩) (by assumption) ?_
        (try simp only [List.getElem_toArray, List.getElem_cons_zero, List.getElem_cons_succ, Act.put, List.setIfInBounds_toArray, List.set_cons_zero, List.set_cons_succ])
        refine wpAnyH_take (i := 16) (oi := _) (v := undef) rfl (by kernel_rfl) (by kernel_rfl) (by kernel_rfl) (fun _ _ _ h => h) (Or.inr ⟨by rfl, rfl⟩) (by assumption) ?_
        (try simp only [List.getElem_toArray, List.getElem_cons_zero, List.getElem_cons_succ, Act.put, List.setIfInBounds_toArray, List.set_cons_zero, List.set_cons_succ])
        refine wpAnyH_take (i := 17) (oi := _) (v := ?vb17) rfl (by kernel_rfl) (by kernel_rfl) (by kernel_rfl) (fun _ _ _ h => h) (Or.inl ⟨by rfl, ?hyb17⟩) (by assumption) ?restb17
        case hyb17 => (intro wz hSw; (try dsimp only at hSw); go_simp; try with_reducible rfl)
        (try simp only [List.getElem_toArray, List.getElem_cons_zero, List.getElem_cons_succ, Act.put, List.setIfInBounds_toArray, List.set_cons_zero, List.set_cons_succ])
        refine wpAnyH_done (by kernel_rfl) ?_ _
        go_wp2
        go_ret
        exact ⟨rfl, HG.out.trans ((HA.out.trans (hb.mono HA.out.size)).mono HG.out.size)⟩
      | true =>
        by_cases h0 : j = 0
        · have hgt : decide ((0 : Int) < (j : Int)) = false := by simp; omega
          have hgt2 : decide (0 < j) = false := by simp; omega
          have HO2 := Lib.hid (okTo_succ HO.out (by rw [HS.out]; exact HM.out) (fun h => by omega))
          clear hS h0
          go_wp2
          obtain ⟨wa, hwa⟩ : ∃ wa, wr.alloc (.cells #[.int .i64 f, .int .i64 t] 96) = wa := ⟨_, rfl⟩
          have C1 : Hid (wa.cell? ⟨wr.heap.size, 0, none⟩ = some (.int .i64 f)) := by rw [← hwa, World.cell?_alloc_new]; rfl
          have C2 : Hid (wa.cell? ⟨wr.heap.size, 1, none⟩ = some (.int .i64 t)) := by rw [← hwa, World.cell?_alloc_new]; rfl
          have B1 : Hid (wr.heap.size < wa.heap.size) := by rw [← hwa, World.size_alloc]; exact Nat.lt_succ_self _
          have HA : Hid (Below wr.heap.size wr wa) := by rw [← hwa]; exact (Below.refl _ _).alloc (Nat.le_refl _) _
          have hB0 : Below wa.heap.size wa wa := Below.refl _ _
          rw [hwa]
          clear hwa c1 c2
          refine wp_region_held_drew (S := fun w' => w'.cell? ⟨wr.heap.size, 0, none⟩ = some (.int .i64 f) ∧ w'.cell? ⟨wr.heap.size, 1, none⟩ = some (.int .i64 t) ∧ w'.cell? ⟨wr.heap.size, 0, none⟩ = some (.int .i64 f) ∧ Below wa.heap.size wa w') (by kernel_rfl) (by first | exact three C1.out C2.out C1.out B1.out B1.out B1.out (by assumption) | exact three C1.out C2.out C1.out B1.out B1.out B1.out (Below.drew (by assumption))) (fun hHeld => ?_)
          refine wpAnyH_take (i := 0) (oi := _) (v := ?vc0) rfl (by kernel_rfl) (by kernel_rfl) (by kernel_rfl) (fun _ _ _ h => h) (Or.inl ⟨by rfl, ?hyc0⟩) (by assumption) ?restc0
          case hyc0 => (intro wz hSw; (try dsimp only at hSw); go_simp; try with_reducible rfl)
          (try simp only [List.getElem_toArray, List.getElem_cons_zero, Act.put, List.setIfInBounds_toArray, List.set_cons_zero, List.set_cons_succ])
          refine wpAnyH_ready (rs := [1]) (by kernel_rfl) (by simp) ?_
          refine AllReadyH.cons (o := _) rfl (fun K hK => ?_) AllReadyH.nil
          rw [if_pos (by rfl)]
          go_simp
          (go_at_call 126; refine (isSpanC HM.out (by assumption)).mono ?_; rintro e w' ⟨rfl, hb⟩)
          dsimp only
          refine hK.out _ _ (by first | exact three C1.out C2.out C1.out B1.out B1.out B1.out (by assumption) | exact three C1.out C2.out C1.out B1.out B1.out B1.out (Below.drew (by assumption))) (fun hHeld => ?_)
          clear hK K
          (try simp only [List.getElem_toArray, List.getElem_cons_zero, List.getElem_cons_succ, Act.put, List.setIfInBounds_toArray, List.set_cons_zero, List.set_cons_succ])
          refine wpAnyH_take (i := 2) (oi := _) (v := ?vc2) rfl (by kernel_rfl) (by kernel_rfl) (by kernel_rfl) (fun _ _ _ h => h) (Or.inl ⟨by rfl, ?hyc2⟩) (by assumption) ?restc2
          case hyc2 => (intro wz hSw; (try dsimp only at hSw); go_simp; try with_reducible rfl)
          (try simp only [List.getElem_toArray, List.getElem_cons_zero, List.getElem_cons_succ, Act.put, List.setIfInBounds_toArray, List.set_cons_zero, List.set_cons_succ])
          refine wpAnyH_take (i := 3) (oi := _) (v := ?vc3) rfl (by kernel_rfl) (by kernel_rfl) (by kernel_rfl) (fun _ _ _ h => h) (Or.inl ⟨by rfl, ?hyc3⟩) (by assumption) ?restc3
          case hyc3 => (intro wz hSw; (try dsimp only at hSw); go_simp; try with_reducible rfl)
          (try simp only [List.getElem_toArray, List.getElem_cons_zero, List.getElem_cons_succ, Act.put, List.setIfInBounds_toArray, List.set_cons_zero, List.set_cons_succ])
          refine wpAnyH_take (i := 4) (oi := _) (v := ?vc4) rfl (by kernel_rfl) (by kernel_rfl) (by kernel_rfl) (fun _ _ _ h => h) (Or.inl ⟨by rfl, ?hyc4⟩) (by assumption) ?restc4
          case hyc4 => (intro wz hSw; (try dsimp only at hSw); go_simp; try with_reducible rfl)
          (try simp only [List.getElem_toArray, List.getElem_cons_zero, List.getElem_cons_succ, Act.put, List.setIfInBounds_toArray, List.set_cons_zero, List.set_cons_succ])
          refine wpAnyH_take (i := 5) (oi := _) (v := ?vc5) rfl (by kernel_rfl) (by kernel_rfl) (by kernel_rfl) (fun _ _ _ h => h) (Or.inl ⟨by rfl, ?hyc5⟩) (by assumption) ?restc5
          case hyc5 => (intro wz hSw; (try dsimp only at hSw); go_simp; try with_reducible rfl)
          (try simp only [List.getElem_toArray, List.getElem_cons_zero, List.getElem_cons_succ, Act.put, List.setIfInBounds_toArray, List.set_cons_zero, List.set_cons_succ])
          refine wpAnyH_take (i := 6) (oi := _) (v := ?vc6) rfl (by kernel_rfl) (by kernel_rfl) (by kernel_rfl) (fun _ _ _ h => h) (Or.inl ⟨by rfl, ?hyc6⟩) (by assumption) ?restc6
          case hyc6 => (intro wz hSw; (try dsimp only at hSw); go_simp; try with_reducible rfl)
          (try simp only [List.getElem_toArray, List.getElem_cons_zero, List.getElem_cons_succ, Act.put, List.setIfInBounds_toArray, List.set_cons_zero, List.set_cons_succ])
          refine wpAnyH_take (i := 7) (oi := _) (v := undef) rfl (by kernel_rfl) (by kernel_rfl) (by kernel_rfl) (fun _ _ _ h => h) (Or.inr ⟨by rfl, rfl⟩) (by assumption) ?_
          (try simp only [List.getElem_toArray, List.getElem_cons_zero, List.getElem_cons_succ, Act.put, List.setIfInBounds_toArray, List.set_cons_zero, List.set_cons_succ])
          refine wpAnyH_take (i := 8) (oi := _) (v := undef) rfl (by kernel_rfl) (by kernel_rfl) (by kernel_rfl) (fun _ _ _ h => h) (Or.inr ⟨by rfl, rfl⟩) (by assumption) ?_
          (try simp only [List.getElem_toArray, List.getElem_cons_zero, List.getElem_cons_succ, Act.put, List.setIfInBounds_toArray, List.set_cons_zero, List.set_cons_succ])
          refine wpAnyH_take (i := 9) (oi := _) (v := undef) rfl (by kernel_rfl) (by kernel_rfl) (by kernel_rfl) (fun _ _ _ h => h) (Or.inr ⟨by rfl, rfl⟩) (by assumption) ?_
          (try simp only [List.getElem_toArray, List.getElem_cons_zero, List.getElem_cons_succ, Act.put, List.setIfInBounds_toArray, List.set_cons_zero, List.set_cons_succ])
          refine wpAnyH_take (i := 10) (oi := _) (v := undef) rfl (by kernel_rfl) (by kernel_rfl) (by kernel_rfl) (fun _ _ _ h => h) (Or.inr ⟨by rfl, rfl⟩) (by assumption) ?_
          (try simp only [List.getElem_toArray, List.getElem_cons_zero, List.getElem_cons_succ, Act.put, List.setIfInBounds_toArray, List.set_cons_zero, List.set_cons_succ])
          refine wpAnyH_take (i := 11) (oi := _) (v := undef) rfl (by kernel_rfl) (by kernel_rfl) (by kernel_rfl) (fun _ _ _ h => h) (Or.inr ⟨by rfl, rfl⟩) (by assumption) ?_
          (try simp only [List.getElem_toArray, List.getElem_cons_zero, List.getElem_cons_succ, Act.put, List.setIfInBounds_toArray, List.set_cons_zero, List.set_cons_succ])
          refine wpAnyH_take (i := 12) (oi := _) (v := undef) rfl (by kernel_rfl) (by kernel_rfl) (by kernel_rfl) (fun _ _ _ h => h) (Or.inr ⟨by rfl, rfl⟩) (by assumption) ?_
          (try simp only [List.getElem_toArray, List.getElem_cons_zero, List.getElem_cons_succ, Act.put, List.setIfInBounds_toArray, List.set_cons_zero, List.set_cons_succ])
          refine wpAnyH_take (i := 13) (oi := _) (v := undef) rfl (by kernel_rfl) (by kernel_rfl) (by kernel_rfl) (fun _ _ _ h => h) (Or.inr ⟨by rfl, rfl⟩) (by assumption) ?_
          (try simp only [List.getElem_toArray, List.getElem_cons_zero, List.getElem_cons_succ, Act.put, List.setIfInBounds_toArray, List.set_cons_zero, List.set_cons_succ])
          refine wpAnyH_take (i := 14) (oi := _) (v := undef) rfl (by kernel_rfl) (by kernel_rfl) (by kernel_rfl) (fun _ _ _ h => h) (Or.inr ⟨by rfl, rfl⟩) (by assumption) ?_
          (try simp only [List.getElem_toArray, List.getElem_cons_zero, List.getElem_cons_succ, Act.put, List.setIfInBounds_toArray, List.set_cons_zero, List.set_cons_succ])
          refine wpAnyH_take (i := 15) (oi := _) (v := undef) rfl (by kernel_rfl) (by kernel_rfl) (by kernel_rfl) (fun _ _ _ h => h) (Or.inr ⟨by rfl, rfl⟩) (by assumption) ?_
          (try simp only [List.getElem_toArray, List.getElem_cons_zero, List.getElem_cons_succ, Act.put, List.setIfInBounds_toArray, List.set_cons_zero, List.set_cons_succ])
          refine wpAnyH_take (i := 16) (oi := _) (v := ?vc16) rfl (by kernel_rfl) (by kernel_rfl) (by kernel_rfl) (fun _ _ _ h => h) (Or.inl ⟨by rfl, ?hyc16⟩) (by assumption) ?restc16
          case hyc16 => (intro wz hSw; (try dsimp only at hSw); go_simp; try with_reducible rfl)
          (try simp only [List.getElem_toArray, List.getElem_cons_zero, List.getElem_cons_succ, Act.put, List.setIfInBounds_toArray, List.set_cons_zero, List.set_cons_succ])
          refine wpAnyH_take (i := 17) (oi := _) (v := ?vc17) rfl (by kernel_rfl) (by kernel_rfl) (by kernel_rfl) (fun _ _ _ h => h) (Or.inl ⟨by rfl, ?hyc17⟩) (by assumption) ?restc17
          case hyc17 => (intro wz hSw; (try dsimp only at hSw); go_simp; try with_reducible rfl)
          (try simp only [List.getElem_toArray, List.getElem_cons_zero, List.getElem_cons_succ, Act.put, List.setIfInBounds_toArray, List.set_cons_zero, List.set_cons_succ])
          refine wpAnyH_done (by kernel_rfl) ?_ _
          clear hgt hgt2
          go_wp2
          go_roundw
          case rel => exact ⟨j + 1, by omega, by go_num, HO2.out, HG.out.trans ((HA.out.trans (hb.mono HA.out.size)).mono HG.out.size)⟩
          case measure => simp [intOf]; omega
        · obtain ⟨q, hq, hq2⟩ : ∃ q : Nat, IntKind.i64.wrap ((j : Int) - 1) = (q : Int) ∧ q = j - 1 := ⟨j - 1, by rw [IntKind.wrap_i64]; omega, rfl⟩
          have c3 := (span_cells hS q (by omega)).2
          obtain ⟨p, HP⟩ := named (spAt l q).2
          rw [HP.out] at c3
          have hql : q < len := by omega
          have hgt : decide ((0 : Int) < (j : Int)) = true := by simp; omega
          have hgt2 : decide (0 < j) = true := by simp; omega
          by_cases hle : f ≤ p
          · have hd : decide (f ≤ p) = true := by simp; exact hle
            have hRf : R = false := by
              rw [← HR.out]
              exact not_right (by rw [HL.out]; exact hlt) (Or.inr ⟨by omega, by rw [HS.out, ← hq2, HP.out]; exact hle⟩)
            subst hRf
            clear hS h0 hq2 hle
            go_wp2
            obtain ⟨wa, hwa⟩ : ∃ wa, wr.alloc (.cells #[.int .i64 f, .int .i64 t] 96) = wa := ⟨_, rfl⟩
            have C1 : Hid (wa.cell? ⟨wr.heap.size, 0, none⟩ = some (.int .i64 f)) := by rw [← hwa, World.cell?_alloc_new]; rfl
            have C2 : Hid (wa.cell? ⟨wr.heap.size, 1, none⟩ = some (.int .i64 t)) := by rw [← hwa, World.cell?_alloc_new]; rfl
            have B1 : Hid (wr.heap.size < wa.heap.size) := by rw [← hwa, World.size_alloc]; exact Nat.lt_succ_self _
            have HA : Hid (Below wr.heap.size wr wa) := by rw [← hwa]; exact (Below.refl _ _).alloc (Nat.le_refl _) _
            have B3 : Hid (b < wa.heap.size) := Nat.lt_of_lt_of_le hbs HA.out.size
            have C3 : Hid (wa.cell? ⟨b, off + q * 2 + 1, none⟩ = some (.int .i64 p)) := (HA.out.cell (p := ⟨b, off + q * 2 + 1, none⟩) hbs).trans c3
            have hB0 : Below wa.heap.size wa wa := Below.refl _ _
            rw [hwa]
            clear hwa c1 c2 c3
            refine wp_region_held_drew (S := fun w' => w'.cell? ⟨wr.heap.size, 0, none⟩ = some (.int .i64 f) ∧ w'.cell? ⟨wr.heap.size, 1, none⟩ = some (.int .i64 t) ∧ w'.cell? ⟨b, off + q * 2 + 1, none⟩ = some (.int .i64 p) ∧ Below wa.heap.size wa w') (by kernel_rfl) (by first | exact three C1.out C2.out C3.out B1.out B1.out B3.out (by assumption) | exact three C1.out C2.out C3.out B1.out B1.out B3.out (Below.drew (by assumption))) (fun hHeld => ?_)
            refine wpAnyH_take (i := 0) (oi := _) (v := ?vd0) rfl (by kernel_rfl) (by kernel_rfl) (by kernel_rfl) (fun _ _ _ h => h) (Or.inl ⟨by rfl, ?hyd0⟩) (by assumption) ?restd0
            case hyd0 => (intro wz hSw; (try dsimp only at hSw); go_simp; try with_reducible rfl)
            (try simp only [List.getElem_toArray, List.getElem_cons_zero, Act.put, List.setIfInBounds_toArray, List.set_cons_zero, List.set_cons_succ])
            refine wpAnyH_ready (rs := [1]) (by kernel_rfl) (by simp) ?_
            refine AllReadyH.cons (o := _) rfl (fun K hK => ?_) AllReadyH.nil
            rw [if_pos (by rfl)]
            go_simp
            (go_at_call 126; refine (isSpanC HM.out (by assumption)).mono ?_; rintro e w' ⟨rfl, hb⟩)
            dsimp only
            refine hK.out _ _ (by first | exact three C1.out C2.out C3.out B1.out B1.out B3.out (by assumption) | exact three C1.out C2.out C3.out B1.out B1.out B3.out (Below.drew (by assumption))) (fun hHeld => ?_)
            clear hK K
            (try simp only [List.getElem_toArray, List.getElem_cons_zero, List.getElem_cons_succ, Act.put, List.setIfInBounds_toArray, List.set_cons_zero, List.set_cons_succ])
            refine wpAnyH_take (i := 2) (oi := _) (v := ?vd2) rfl (by kernel_rfl) (by kernel_rfl) (by kernel_rfl) (fun _ _ _ h => h) (Or.inl ⟨by rfl, ?hyd2⟩) (by assumption) ?restd2
            case hyd2 => (intro wz hSw; (try dsimp only at hSw); go_simp; try with_reducible rfl)
            (try simp only [List.getElem_toArray, List.getElem_cons_zero, List.getElem_cons_succ, Act.put, List.setIfInBounds_toArray, List.set_cons_zero, List.set_cons_succ])
            refine wpAnyH_take (i := 3) (oi := _) (v := ?vd3) rfl (by kernel_rfl) (by kernel_rfl) (by kernel_rfl) (fun _ _ _ h => h) (Or.inl ⟨by rfl, ?hyd3⟩) (by assumption) ?restd3
            case hyd3 => (intro wz hSw; (try dsimp only at hSw); go_simp; try with_reducible rfl)
            (try simp only [List.getElem_toArray, List.getElem_cons_zero, List.getElem_cons_succ, Act.put, List.setIfInBounds_toArray, List.set_cons_zero, List.set_cons_succ])
            refine wpAnyH_take (i := 4) (oi := _) (v := ?vd4) rfl (by kernel_rfl) (by kernel_rfl) (by kernel_rfl) (fun _ _ _ h => h) (Or.inl ⟨by rfl, ?hyd4⟩) (by assumption) ?restd4
            case hyd4 => (intro wz hSw; (try dsimp only at hSw); go_simp; try with_reducible rfl)
            (try simp only [List.getElem_toArray, List.getElem_cons_zero, List.getElem_cons_succ, Act.put, List.setIfInBounds_toArray, List.set_cons_zero, List.set_cons_succ])
            refine wpAnyH_take (i := 5) (oi := _) (v := ?vd5) rfl (by kernel_rfl) (by kernel_rfl) (by kernel_rfl) (fun _ _ _ h => h) (Or.inl ⟨by rfl, ?hyd5⟩) (by assumption) ?restd5
            case hyd5 => (intro wz hSw; (try dsimp only at hSw); go_simp; try with_reducible rfl)
            (try simp only [List.getElem_toArray, List.getElem_cons_zero, List.getElem_cons_succ, Act.put, List.setIfInBounds_toArray, List.set_cons_zero, List.set_cons_succ])
            refine wpAnyH_take (i := 6) (oi := _) (v := ?vd6) rfl (by kernel_rfl) (by kernel_rfl) (by kernel_rfl) (fun _ _ _ h => h) (Or.inl ⟨by rfl, ?hyd6⟩) (by assumption) ?restd6
            case hyd6 => (intro wz hSw; (try dsimp only at hSw); go_simp; try with_reducible rfl)
            (try simp only [List.getElem_toArray, List.getElem_cons_zero, List.getElem_cons_succ, Act.put, List.setIfInBounds_toArray, List.set_cons_zero, List.set_cons_succ])
            refine wpAnyH_take (i := 7) (oi := _) (v := ?vd7) rfl (by kernel_rfl) (by kernel_rfl) (by kernel_rfl) (fun _ _ _ h => h) (Or.inl ⟨by rfl, ?hyd7⟩) (by assumption) ?restd7
            case hyd7 => (intro wz hSw; (try dsimp only at hSw); go_simp; try with_reducible rfl)
            (try simp only [List.getElem_toArray, List.getElem_cons_zero, List.getElem_cons_succ, Act.put, List.setIfInBounds_toArray, List.set_cons_zero, List.set_cons_succ])
            refine wpAnyH_take (i := 8) (oi := _) (v := ?vd8) rfl (by kernel_rfl) (by kernel_rfl) (by kernel_rfl) (fun _ _ _ h => h) (Or.inl ⟨by rfl, ?hyd8⟩) (by assumption) ?restd8
            case hyd8 => (intro wz hSw; (try dsimp only at hSw); go_simp; try with_reducible rfl)
            (try simp only [List.getElem_toArray, List.getElem_cons_zero, List.getElem_cons_succ, Act.put, List.setIfInBounds_toArray, List.set_cons_zero, List.set_cons_succ])
            refine wpAnyH_take (i := 9) (oi := _) (v := ?vd9) rfl (by kernel_rfl) (by kernel_rfl) (by kernel_rfl) (fun _ _ _ h => h) (Or.inl ⟨by rfl, ?hyd9⟩) (by assumption) ?restd9
            case hyd9 => (intro wz hSw; (try dsimp only at hSw); go_simp; try with_reducible rfl)
            (try simp only [List.getElem_toArray, List.getElem_cons_zero, List.getElem_cons_succ, Act.put, List.setIfInBounds_toArray, List.set_cons_zero, List.set_cons_succ])
            refine wpAnyH_take (i := 10) (oi := _) (v := ?vd10) rfl (by kernel_rfl) (by kernel_rfl) (by kernel_rfl) (fun _ _ _ h => h) (Or.inl ⟨by rfl, ?hyd10⟩) (by assumption) ?restd10
            case hyd10 => (intro wz hSw; (try dsimp only at hSw); go_simp; try with_reducible rfl)
            (try simp only [List.getElem_toArray, List.getElem_cons_zero, List.getElem_cons_succ, Act.put, List.setIfInBounds_toArray, List.set_cons_zero, List.set_cons_succ])
            refine wpAnyH_take (i := 11) (oi := _) (v := ?vd11) rfl (by kernel_rfl) (by kernel_rfl) (by kernel_rfl) (fun _ _ _ h => h) (Or.inl ⟨by rfl, ?hyd11⟩) (by assumption) ?restd11
            case hyd11 => (intro wz hSw; (try dsimp only at hSw); go_simp; try with_reducible rfl)
            (try simp only [List.getElem_toArray, List.getElem_cons_zero, List.getElem_cons_succ, Act.put, List.setIfInBounds_toArray, List.set_cons_zero, List.set_cons_succ])
            refine wpAnyH_take (i := 12) (oi := _) (v := ?vd12) rfl (by kernel_rfl) (by kernel_rfl) (by kernel_rfl) (fun _ _ _ h => h) (Or.inl ⟨by rfl, ?hyd12⟩) (by assumption) ?restd12
            case hyd12 => (intro wz hSw; (try dsimp only at hSw); go_simp; try with_reducible rfl)
            (try simp only [List.getElem_toArray, List.getElem_cons_zero, List.getElem_cons_succ, Act.put, List.setIfInBounds_toArray, List.set_cons_zero, List.set_cons_succ])
            refine wpAnyH_take (i := 13) (oi := _) (v := ?vd13) rfl (by kernel_rfl) (by kernel_rfl) (by kernel_rfl) (fun _ _ _ h => h) (Or.inl ⟨by rfl, ?hyd13⟩) (by assumption) ?restd13
            case hyd13 => (intro wz hSw; (try dsimp only at hSw); go_simp; try with_reducible rfl)
            (try simp only [List.getElem_toArray, List.getElem_cons_zero, List.getElem_cons_succ, Act.put, List.setIfInBounds_toArray, List.set_cons_zero, List.set_cons_succ])
            refine wpAnyH_take (i := 14) (oi := _) (v := ?vd14) rfl (by kernel_rfl) (by kernel_rfl) (by kernel_rfl) (fun _ _ _ h => h) (Or.inl ⟨by rfl, ?hyd14⟩) (by assumption) ?restd14
            case hyd14 => (intro wz hSw; (try dsimp only at hSw); go_simp; try with_reducible rfl)
            (try simp only [List.getElem_toArray, List.getElem_cons_zero, List.getElem_cons_succ, Act.put, List.setIfInBounds_toArray, List.set_cons_zero, List.set_cons_succ])
            refine wpAnyH_take (i := 15) (oi := _) (v := ?vd15) rfl (by kernel_rfl) (by kernel_rfl) (by kernel_rfl) (fun _ _ _ h => h) (Or.inl ⟨by rfl, ?hyd15⟩) (by assumption) ?restd15
            case hyd15 => (intro wz hSw; (try dsimp only at hSw); go_simp; try with_reducible rfl)
            (try simp only [List.getElem_toArray, List.getElem_cons_zero, List.getElem_cons_succ, Act.put, List.setIfInBounds_toArray, List.set_cons_zero, List.set_cons_succ])
            refine wpAnyH_take (i := 16) (oi := _) (v := ?vd16) rfl (by kernel_rfl) (by kernel_rfl) (by kernel_rfl) (fun _ _ _ h => h) (Or.inl ⟨by rfl, ?hyd16⟩) (by assumption) ?restd16
            case hyd16 => (intro wz hSw; (try dsimp only at hSw); go_simp; try with_reducible rfl)
            (try simp only [List.getElem_toArray, List.getElem_cons_zero, List.getElem_cons_succ, Act.put, List.setIfInBounds_toArray, List.set_cons_zero, List.set_cons_succ])
            refine wpAnyH_take (i := 17) (oi := _) (v := ?vd17) rfl (by kernel_rfl) (by kernel_rfl) (by kernel_rfl) (fun _ _ _ h => h) (Or.inl ⟨by rfl, ?hyd17⟩) (by assumption) ?restd17
            case hyd17 => (intro wz hSw; (try dsimp only at hSw); go_simp; try with_reducible rfl)
            (try simp only [List.getElem_toArray, List.getElem_cons_zero, List.getElem_cons_succ, Act.put, List.setIfInBounds_toArray, List.set_cons_zero, List.set_cons_succ])
            refine wpAnyH_done (by kernel_rfl) ?_ _
            clear hgt hgt2 hq hd
            go_wp2
            go_ret
            exact ⟨rfl, HG.out.trans ((HA.out.trans (hb.mono HA.out.size)).mono HG.out.size)⟩
          · have hd : decide (f ≤ p) = false := by simp; omega
            have HO2 := Lib.hid (okTo_succ HO.out (by rw [HS.out]; exact HM.out) (fun h => by rw [HS.out, ← hq2, HP.out]; show p < f; omega))
            clear hS h0 hq2 hle
            go_wp2
            obtain ⟨wa, hwa⟩ : ∃ wa, wr.alloc (.cells #[.int .i64 f, .int .i64 t] 96) = wa := ⟨_, rfl⟩
            have C1 : Hid (wa.cell? ⟨wr.heap.size, 0, none⟩ = some (.int .i64 f)) := by rw [← hwa, World.cell?_alloc_new]; rfl
            have C2 : Hid (wa.cell? ⟨wr.heap.size, 1, none⟩ = some (.int .i64 t)) := by rw [← hwa, World.cell?_alloc_new]; rfl
            have B1 : Hid (wr.heap.size < wa.heap.size) := by rw [← hwa, World.size_alloc]; exact Nat.lt_succ_self _
            have HA : Hid (Below wr.heap.size wr wa) := by rw [← hwa]; exact (Below.refl _ _).alloc (Nat.le_refl _) _
            have B3 : Hid (b < wa.heap.size) := Nat.lt_of_lt_of_le hbs HA.out.size
            have C3 : Hid (wa.cell? ⟨b, off + q * 2 + 1, none⟩ = some (.int .i64 p)) := (HA.out.cell (p := ⟨b, off + q * 2 + 1, none⟩) hbs).trans c3
            have hB0 : Below wa.heap.size wa wa := Below.refl _ _
            rw [hwa]
            clear hwa c1 c2 c3
            refine wp_region_held_drew (S := fun w' => w'.cell? ⟨wr.heap.size, 0, none⟩ = some (.int .i64 f) ∧ w'.cell? ⟨wr.heap.size, 1, none⟩ = some (.int .i64 t) ∧ w'.cell? ⟨b, off + q * 2 + 1, none⟩ = some (.int .i64 p) ∧ Below wa.heap.size wa w') (by kernel_rfl) (by first | exact three C1.out C2.out C3.out B1.out B1.out B3.out (by assumption) | exact three C1.out C2.out C3.out B1.out B1.out B3.out (Below.drew (by assumption))) (fun hHeld => ?_)
            refine wpAnyH_take (i := 0) (oi := _) (v := ?ve0) rfl (by kernel_rfl) (by kernel_rfl) (by kernel_rfl) (fun _ _ _ h => h) (Or.inl ⟨by rfl, ?hye0⟩) (by assumption) ?reste0
            case hye0 => (intro wz hSw; (try dsimp only at hSw); go_simp; try with_reducible rfl)
            (try simp only [List.getElem_toArray, List.getElem_cons_zero, Act.put, List.setIfInBounds_toArray, List.set_cons_zero, List.set_cons_succ])
            refine wpAnyH_ready (rs := [1]) (by kernel_rfl) (by simp) ?_
            refine AllReadyH.cons (o := _) rfl (fun K hK => ?_) AllReadyH.nil
            rw [if_pos (by rfl)]
            go_simp
            (go_at_call 126; refine (isSpanC HM.out (by assumption)).mono ?_; rintro e w' ⟨rfl, hb⟩)
            dsimp only
            refine hK.out _ _ (by first | exact three C1.out C2.out C3.out B1.out B1.out B3.out (by assumption) | exact three C1.out C2.out C3.out B1.out B1.out B3.out (Below.drew (by assumption))) (fun hHeld => ?_)
            clear hK K
            (try simp only [List.getElem_toArray, List.getElem_cons_zero, List.getElem_cons_succ, Act.put, List.setIfInBounds_toArray, List.set_cons_zero, List.set_cons_succ])
            refine wpAnyH_take (i := 2) (oi := _) (v := ?ve2) rfl (by kernel_rfl) (by kernel_rfl) (by kernel_rfl) (fun _ _ _ h => h) (Or.inl ⟨by rfl, ?hye2⟩) (by assumption) ?reste2
            case hye2 => (intro wz hSw; (try dsimp only at hSw); go_simp; try with_reducible rfl)
            (try simp only [List.getElem_toArray, List.getElem_cons_zero, List.getElem_cons_succ, Act.put, List.setIfInBounds_toArray, List.set_cons_zero, List.set_cons_succ])
            refine wpAnyH_take (i := 3) (oi := _) (v := ?ve3) rfl (by kernel_rfl) (by kernel_rfl) (by kernel_rfl) (fun _ _ _ h => h) (Or.inl ⟨by rfl, ?hye3⟩) (by assumption) ?reste3
            case hye3 => (intro wz hSw; (try dsimp only at hSw); go_simp; try with_reducible rfl)
            (try simp only [List.getElem_toArray, List.getElem_cons_zero, List.getElem_cons_succ, Act.put, List.setIfInBounds_toArray, List.set_cons_zero, List.set_cons_succ])
            refine wpAnyH_take (i := 4) (oi := _) (v := ?ve4) rfl (by kernel_rfl) (by kernel_rfl) (by kernel_rfl) (fun _ _ _ h => h) (Or.inl ⟨by rfl, ?hye4⟩) (by assumption) ?reste4
            case hye4 => (intro wz hSw; (try dsimp only at hSw); go_simp; try with_reducible rfl)
            (try simp only [List.getElem_toArray, List.getElem_cons_zero, List.getElem_cons_succ, Act.put, List.setIfInBounds_toArray, List.set_cons_zero, List.set_cons_succ])
            refine wpAnyH_take (i := 5) (oi := _) (v := ?ve5) rfl (by kernel_rfl) (by kernel_rfl) (by kernel_rfl) (fun _ _ _ h => h) (Or.inl ⟨by rfl, ?hye5⟩) (by assumption) ?reste5
            case hye5 => (intro wz hSw; (try dsimp only at hSw); go_simp; try with_reducible rfl)
            (try simp only [List.getElem_toArray, List.getElem_cons_zero, List.getElem_cons_succ, Act.put, List.setIfInBounds_toArray, List.set_cons_zero, List.set_cons_succ])
            refine wpAnyH_take (i := 6) (oi := _) (v := ?ve6) rfl (by kernel_rfl) (by kernel_rfl) (by kernel_rfl) (fun _ _ _ h => h) (Or.inl ⟨by rfl, ?hye6⟩) (by assumption) ?reste6
            case hye6 => (intro wz hSw; (try dsimp only at hSw); go_simp; try with_reducible rfl)
            (try simp only [List.getElem_toArray, List.getElem_cons_zero, List.getElem_cons_succ, Act.put, List.setIfInBounds_toArray, List.set_cons_zero, List.set_cons_succ])
            refine wpAnyH_take (i := 7) (oi := _) (v := ?ve7) rfl (by kernel_rfl) (by kernel_rfl) (by kernel_rfl) (fun _ _ _ h => h) (Or.inl ⟨by rfl, ?hye7⟩) (by assumption) ?reste7
            case hye7 => (intro wz hSw; (try dsimp only at hSw); go_simp; try with_reducible rfl)
            (try simp only [List.getElem_toArray, List.getElem_cons_zero, List.getElem_cons_succ, Act.put, List.setIfInBounds_toArray, List.set_cons_zero, List.set_cons_succ])
            refine wpAnyH_take (i := 8) (oi := _) (v := ?ve8) rfl (by kernel_rfl) (by kernel_rfl) (by kernel_rfl) (fun _ _ _ h => h) (Or.inl ⟨by rfl, ?hye8⟩) (by assumption) ?reste8
            case hye8 => (intro wz hSw; (try dsimp only at hSw); go_simp; try with_reducible rfl)
            (try simp only [List.getElem_toArray, List.getElem_cons_zero, List.getElem_cons_succ, Act.put, List.setIfInBounds_toArray, List.set_cons_zero, List.set_cons_succ])
            refine wpAnyH_take (i := 9) (oi := _) (v := ?ve9) rfl (by kernel_rfl) (by kernel_rfl) (by kernel_rfl) (fun _ _ _ h => h) (Or.inl ⟨by rfl, ?hye9⟩) (by assumption) ?reste9
            case hye9 => (intro wz hSw; (try dsimp only at hSw); go_simp; try with_reducible rfl)
            (try simp only [List.getElem_toArray, List.getElem_cons_zero, List.getElem_cons_succ, Act.put, List.setIfInBounds_toArray, List.set_cons_zero, List.set_cons_succ])
            refine wpAnyH_take (i := 10) (oi := _) (v := ?ve10) rfl (by kernel_rfl) (by kernel_rfl) (by kernel_rfl) (fun _ _ _ h => h) (Or.inl ⟨by rfl, ?hye10⟩) (by assumption) ?reste10
            case hye10 => (intro wz hSw; (try dsimp only at hSw); go_simp; try with_reducible rfl)
            (try simp only [List.getElem_toArray, List.getElem_cons_zero, List.getElem_cons_succ, Act.put, List.setIfInBounds_toArray, List.set_cons_zero, List.set_cons_succ])
            refine wpAnyH_take (i := 11) (oi := _) (v := ?ve11) rfl (by kernel_rfl) (by kernel_rfl) (by kernel_rfl) (fun _ _ _ h => h) (Or.inl ⟨by rfl, ?hye11⟩) (by assumption) ?reste11
            case hye11 => (intro wz hSw; (try dsimp only at hSw); go_simp; try with_reducible rfl)
            (try simp only [List.getElem_toArray, List.getElem_cons_zero, List.getElem_cons_succ, Act.put, List.setIfInBounds_toArray, List.set_cons_zero, List.set_cons_succ])
            refine wpAnyH_take (i := 12) (oi := _) (v := ?ve12) rfl (by kernel_rfl) (by kernel_rfl) (by kernel_rfl) (fun _ _ _ h => h) (Or.inl ⟨by rfl, ?hye12⟩) (by assumption) ?reste12
            case hye12 => (intro wz hSw; (try dsimp only at hSw); go_simp; try with_reducible rfl)
            (try simp only [List.getElem_toArray, List.getElem_cons_zero, List.getElem_cons_succ, Act.put, List.setIfInBounds_toArray, List.set_cons_zero, List.set_cons_succ])
            refine wpAnyH_take (i := 13) (oi := _) (v := ?ve13) rfl (by kernel_rfl) (by kernel_rfl) (by kernel_rfl) (fun _ _ _ h => h) (Or.inl ⟨by rfl, ?hye13⟩) (by assumption) ?reste13
            case hye13 => (intro wz hSw; (try dsimp only at hSw); go_simp; try with_reducible rfl)
            (try simp only [List.getElem_toArray, List.getElem_cons_zero, List.getElem_cons_succ, Act.put, List.setIfInBounds_toArray, List.set_cons_zero, List.set_cons_succ])
            refine wpAnyH_take (i := 14) (oi := _) (v := ?ve14) rfl (by kernel_rfl) (by kernel_rfl) (by kernel_rfl) (fun _ _ _ h => h) (Or.inl ⟨by rfl, ?hye14⟩) (by assumption) ?reste14
            case hye14 => (intro wz hSw; (try dsimp only at hSw); go_simp; try with_reducible rfl)
            (try simp only [List.getElem_toArray, List.getElem_cons_zero, List.getElem_cons_succ, Act.put, List.setIfInBounds_toArray, List.set_cons_zero, List.set_cons_succ])
            refine wpAnyH_take (i := 15) (oi := _) (v := ?ve15) rfl (by kernel_rfl) (by kernel_rfl) (by kernel_rfl) (fun _ _ _ h => h) (Or.inl ⟨by rfl, ?hye15⟩) (by assumption) ?reste15
            case hye15 => (intro wz hSw; (try dsimp only at hSw); go_simp; try with_reducible rfl)
            (try simp only [List.getElem_toArray, List.getElem_cons_zero, List.getElem_cons_succ, Act.put, List.setIfInBounds_toArray, List.set_cons_zero, List.set_cons_succ])
            refine wpAnyH_take (i := 16) (oi := _) (v := ?ve16) rfl (by kernel_rfl) (by kernel_rfl) (by kernel_rfl) (fun _ _ _ h => h) (Or.inl ⟨by rfl, ?hye16⟩) (by assumption) ?reste16
            case hye16 => (intro wz hSw; (try dsimp only at hSw); go_simp; try with_reducible rfl)
            (try simp only [List.getElem_toArray, List.getElem_cons_zero, List.getElem_cons_succ, Act.put, List.setIfInBounds_toArray, List.set_cons_zero, List.set_cons_succ])
            refine wpAnyH_take (i := 17) (oi := _) (v := ?ve17) rfl (by kernel_rfl) (by kernel_rfl) (by kernel_rfl) (fun _ _ _ h => h) (Or.inl ⟨by rfl, ?hye17⟩) (by assumption) ?reste17
            case hye17 => (intro wz hSw; (try dsimp only at hSw); go_simp; try with_reducible rfl)
            (try simp only [List.getElem_toArray, List.getElem_cons_zero, List.getElem_cons_succ, Act.put, List.setIfInBounds_toArray, List.set_cons_zero, List.set_cons_succ])
            refine wpAnyH_done (by kernel_rfl) ?_ _
            clear hgt hgt2 hq hd
            go_wp2
            go_roundw
            case rel => exact ⟨j + 1, by omega, by go_num, HO2.out, HG.out.trans ((HA.out.trans (hb.mono HA.out.size)).mono HG.out.size)⟩
            case measure => simp [intOf]; omega
    · obtain rfl : j = len := by omega
      have hRt : R = true := by rw [← HR.out, decide_eq_true_iff, okTo_all, HL.out]; exact HO.out
      subst hRt
      go_wp2
      go_ret
      exact ⟨rfl, HG.out⟩
end Go.Proofs.YtlljcdmblmkblaaGreat
namespace Go.Proofs.YtlljcdmblmkblaaGreat
open Go.RowKit
set_option linter.unusedVariables false

/-- A line: shot, cluster, entry. -/
abbrev Ln := Int × Int × En
def secE (e : En) : Prop := e.1 = 2 ∨ e.1 = 3
instance (e : En) : Decidable (secE e) := by unfold secE; exact inferInstance
def lnAt (shot : Int) (T : Tb) (c : Nat) : Option Ln := if secE (atN T c) then some (shot, c, atN T c) else none
def linesTo (shot : Int) (T : Tb) (n : Nat) : List Ln := (List.range n).filterMap (lnAt shot T)
def tabLines (shot : Int) (T : Tb) : List Ln := linesTo shot T (T.length * 8)
def tbNth (S : List Tb) (i : Nat) : Tb := S.getD i []
def shotsTo (S : List Tb) (n : Nat) : List Ln := (List.range n).flatMap fun (i : Nat) => tabLines (i : Int) (tbNth S i)
def allLines (T : Tb) (S : List Tb) : List Ln := tabLines (-1) T ++ shotsTo S S.length
theorem linesTo_zero (shot : Int) (T : Tb) : linesTo shot T 0 = [] := rfl
theorem linesTo_succ (shot : Int) (T : Tb) (n : Nat) : linesTo shot T (n + 1) = linesTo shot T n ++ (lnAt shot T n).toList := by
  unfold linesTo
  rw [List.range_succ, List.filterMap_append]
  cases h : lnAt shot T n <;> simp [h]
theorem linesTo_yes {shot : Int} {T : Tb} {n : Nat} (h : secE (atN T n)) : linesTo shot T (n + 1) = linesTo shot T n ++ [(shot, (n : Int), atN T n)] := by
  rw [linesTo_succ]
  unfold lnAt
  rw [if_pos h]
  rfl
theorem linesTo_no {shot : Int} {T : Tb} {n : Nat} (h : ¬ secE (atN T n)) : linesTo shot T (n + 1) = linesTo shot T n := by
  rw [linesTo_succ]
  unfold lnAt
  rw [if_neg h]
  simp
theorem linesTo_none {shot : Int} {T : Tb} (n : Nat) : ∀ d, (∀ k, n ≤ k → k < n + d → ¬ secE (atN T k)) → linesTo shot T (n + d) = linesTo shot T n
  | 0, _ => rfl
  | d + 1, h => by
    rw [← Nat.add_assoc, linesTo_no (h _ (by omega) (by omega))]
    exact linesTo_none n d fun k h1 h2 => h k h1 (by omega)
theorem linesTo_len (shot : Int) (T : Tb) (n : Nat) : (linesTo shot T n).length ≤ n := by
  have := List.length_filterMap_le (lnAt shot T) (List.range n)
  rwa [List.length_range] at this
theorem linesTo_mem {shot : Int} {T : Tb} {n : Nat} {x : Ln} (h : x ∈ linesTo shot T n) : ∃ c, c < n ∧ secE (atN T c) ∧ x = (shot, (c : Int), atN T c) := by
  obtain ⟨c, hc, hx⟩ := List.mem_filterMap.1 h
  unfold lnAt at hx
  split at hx
  case isTrue hs => exact ⟨c, List.mem_range.1 hc, hs, (Option.some.inj hx).symm⟩
  case isFalse => cases hx
theorem shotsTo_succ (S : List Tb) (n : Nat) : shotsTo S (n + 1) = shotsTo S n ++ tabLines n (tbNth S n) := by
  unfold shotsTo
  rw [List.range_succ, List.flatMap_append]
  simp

/-! ### What an entry of a right table is -/
/-- The bounds of a line that occupies sectors. -/
def LnOk (x : Ln) : Prop := EnOk x.2.2 ∧ (-1 ≤ x.1 ∧ x.1 < 1000) ∧ (0 ≤ x.2.1 ∧ x.2.1 < 100000) ∧ (2 ≤ x.2.2.2.1 ∧ x.2.2.2.1 < 65536) ∧ (1 ≤ x.2.2.2.2.1 ∧ x.2.2.2.2.1 ≤ 64) ∧ x.2.2.2.1 + x.2.2.2.2.1 ≤ 65536
theorem may_sec {e : En} {c : Int} (h : MayE e c) (hs : secE e) : (2 ≤ e.2.1 ∧ e.2.1 < 65536) ∧ (1 ≤ e.2.2.1 ∧ e.2.2.1 ≤ 64) ∧ e.2.1 + e.2.2.1 ≤ 65536 := by
  obtain ⟨k, s, n, z, m⟩ := e
  have hp := pow_le6 h.1
  unfold MayE at h
  unfold secE at hs
  dsimp only at h hs hp ⊢
  omega
theorem right_at {T : Tb} {n c : Int} (h : rightT T n c) {i : Nat} (hs : secE (atN T i)) : MayE (atN T i) c ∧ i < T.length * 8 := by
  have hi : i / 8 < T.length := by
    rcases Nat.lt_or_ge (i / 8) T.length with h' | h'
    · exact h'
    · exfalso
      unfold atN at hs
      rw [tbAt_out h', lfAt_nil] at hs
      unfold secE enZ at hs
      omega
  have hne : tbAt T (i / 8) ≠ [] := fun e => by
    unfold atN at hs
    rw [e, lfAt_nil] at hs
    unfold secE enZ at hs
    omega
  exact ⟨((h.2.2.2.2 _ hi hne).2.1 (i % 8) (by omega)).1, by omega⟩
theorem right_lines {T : Tb} {n c : Int} (h : rightT T n c) (hok : ∀ lf ∈ T, ∀ e ∈ lf, EnOk e) {shot : Int} (hsh : -1 ≤ shot ∧ shot < 1000) : ∀ x ∈ tabLines shot T, LnOk x := fun x hx => by
  obtain ⟨i, hi, hs, rfl⟩ := linesTo_mem hx
  obtain ⟨hm, _⟩ := right_at h hs
  have hl := h.2.2.2.1
  obtain ⟨b1, b2, b3⟩ := may_sec hm hs
  refine ⟨?_, hsh, by dsimp only; omega, b1, b2, b3⟩
  show EnOk (atN T i)
  have hb := hm.bounds
  unfold MayE at hm
  unfold atN at hs ⊢
  unfold lfAt tbAt at hs ⊢
  rw [List.getD_eq_getElem?_getD] at hs ⊢
  cases h1 : T[i / 8]? with
  | none =>
    simp only [List.getD_eq_getElem?_getD, h1] at hs
    simp [secE, enZ] at hs
  | some lf =>
    simp only [List.getD_eq_getElem?_getD, h1, Option.getD_some] at hs ⊢
    cases h2 : lf[i % 8]? with
    | none =>
      rw [h2] at hs
      simp [secE, enZ] at hs
    | some e => exact hok lf (List.mem_of_getElem? h1) e (List.mem_of_getElem? h2)

/-! ### Counts -/
/-- The sectors of an entry. -/
abbrev Sg := Int × Int
def sgOf (x : Ln) : Sg := (x.2.2.2.1, x.2.2.2.2.1)
def onS (x : Sg) (k : Nat) : Int := if x.1 ≤ k ∧ (k : Int) < x.1 + x.2 then 1 else 0
def stS (x : Sg) (k : Nat) : Int := (if x.1 = k then 1 else 0) - (if x.1 + x.2 = k then 1 else 0)
def cntS (L : List Sg) (k : Nat) : Int := (L.map (onS · k)).sum
def stepS (L : List Sg) (k : Nat) : Int := (L.map (stS · k)).sum
def SgOk (x : Sg) : Prop := 0 ≤ x.1 ∧ 1 ≤ x.2
theorem cntS_snoc (L : List Sg) (x : Sg) (k : Nat) : cntS (L ++ [x]) k = cntS L k + onS x k := by simp [cntS]
theorem stepS_snoc (L : List Sg) (x : Sg) (k : Nat) : stepS (L ++ [x]) k = stepS L k + stS x k := by simp [stepS]
theorem cnt_zero : ∀ L : List Sg, (∀ x ∈ L, SgOk x) → cntS L 0 = stepS L 0
  | [], _ => rfl
  | x :: L, h => by
    have h1 := cnt_zero L fun y hy => h y (List.mem_cons_of_mem _ hy)
    obtain ⟨a, b⟩ := h x (List.mem_cons_self ..)
    have e : onS x 0 = stS x 0 := by unfold onS stS; split <;> split <;> split <;> omega
    show onS x 0 + cntS L 0 = stS x 0 + stepS L 0
    rw [h1, e]
theorem cnt_succ (k : Nat) : ∀ L : List Sg, (∀ x ∈ L, SgOk x) → cntS L (k + 1) = cntS L k + stepS L (k + 1)
  | [], _ => rfl
  | x :: L, h => by
    have h1 := cnt_succ k L fun y hy => h y (List.mem_cons_of_mem _ hy)
    obtain ⟨a, b⟩ := h x (List.mem_cons_self ..)
    have e : onS x (k + 1) = onS x k + stS x (k + 1) := by unfold onS stS; split <;> split <;> split <;> split <;> omega
    show onS x (k + 1) + cntS L (k + 1) = (onS x k + cntS L k) + (stS x (k + 1) + stepS L (k + 1))
    rw [h1, e]
    omega
theorem cnt_bound (k : Nat) : ∀ L : List Sg, 0 ≤ cntS L k ∧ cntS L k ≤ L.length
  | [] => ⟨Int.le_refl _, Int.le_refl _⟩
  | x :: L => by
    have h1 := cnt_bound k L
    have e : 0 ≤ onS x k ∧ onS x k ≤ 1 := by unfold onS; split <;> omega
    have : cntS (x :: L) k = onS x k + cntS L k := rfl
    rw [List.length_cons]
    omega
theorem step_bound (k : Nat) : ∀ L : List Sg, -(L.length : Int) ≤ stepS L k ∧ stepS L k ≤ L.length
  | [] => ⟨Int.le_refl _, Int.le_refl _⟩
  | x :: L => by
    have h1 := step_bound k L
    have e : -1 ≤ stS x k ∧ stS x k ≤ 1 := by unfold stS; split <;> split <;> omega
    have : stepS (x :: L) k = stS x k + stepS L k := rfl
    rw [List.length_cons]
    omega
/-- The document's answer: the counts of lines. -/
def ofL (L : List Ln) (k : Nat) : Int := cntS ((0, 2) :: L.map sgOf) k
/-- The sum of the counts. -/
def sumTo (f : Nat → Int) : Nat → Int
  | 0 => 0
  | n + 1 => sumTo f n + f n
theorem sumTo_on (x : Sg) (h : SgOk x) : ∀ n : Nat, sumTo (onS x) n = max 0 (min (n : Int) (x.1 + x.2) - x.1)
  | 0 => by
    obtain ⟨a, b⟩ := h
    show (0 : Int) = _
    omega
  | n + 1 => by
    have h1 := sumTo_on x h n
    obtain ⟨a, b⟩ := h
    show sumTo (onS x) n + onS x n = _
    rw [h1]
    unfold onS
    split <;> omega
theorem sumTo_cnt (n : Nat) : ∀ L : List Sg, (∀ x ∈ L, SgOk x ∧ x.1 + x.2 ≤ n) → sumTo (cntS L) n = (L.map (·.2)).sum
  | [], _ => by
    have : ∀ n, sumTo (cntS []) n = 0 := fun n => by
      induction n with
      | zero => rfl
      | succ n ih => show sumTo (cntS []) n + 0 = 0; rw [ih]; rfl
    rw [this]
    rfl
  | x :: L, h => by
    have h1 := sumTo_cnt n L fun y hy => h y (List.mem_cons_of_mem _ hy)
    obtain ⟨⟨a, b⟩, c⟩ := h x (List.mem_cons_self ..)
    have hx := sumTo_on x ⟨a, b⟩ n
    have e : ∀ n, sumTo (cntS (x :: L)) n = sumTo (onS x) n + sumTo (cntS L) n := fun n => by
      induction n with
      | zero => rfl
      | succ n ih =>
        show sumTo (cntS (x :: L)) n + (onS x n + cntS L n) = (sumTo (onS x) n + onS x n) + (sumTo (cntS L) n + cntS L n)
        rw [ih]
        omega
    rw [e, h1, hx, List.map_cons, List.sum_cons]
    omega
end Go.Proofs.YtlljcdmblmkblaaGreat
namespace Go.Proofs.YtlljcdmblmkblaaGreat
open Go.RowKit Go.Shelf
set_option linter.unusedVariables false

/-- The block of the row that box X holds. -/
def ownX (X : Nat) (W : World) : Option Nat := (W.cell? ⟨X, 0, none⟩).bind Value.ownBlock
theorem ownX_is {X : Nat} {W : World} {v : Value} (h : W.cell? ⟨X, 0, none⟩ = some v) : ownX X W = v.ownBlock := by unfold ownX; rw [h]; rfl
theorem ownX_same {X : Nat} {W W' : World} (h : W'.heap[X]? = W.heap[X]?) : ownX X W' = ownX X W := by
  unfold ownX World.cell?
  rw [show W'.heap[(⟨X, 0, none⟩ : Addr).block]? = W.heap[(⟨X, 0, none⟩ : Addr).block]? from h]
/-- All is kept but the box X, the row that it holds, and block l. -/
structure KX (X l : Nat) (W W' : World) : Prop where
  os : W'.os = W.os
  tape : W'.tape = W.tape
  output : W'.output = W.output
  size : W.heap.size ≤ W'.heap.size
  same : ∀ (k : Nat) (o : Obj), W.heap[k]? = some o → k ≠ X → k ≠ l → (o.isCells = false ∨ ownX X W ≠ some k) → W'.heap[k]? = some o
  own : ∀ k, k < W.heap.size → ownX X W ≠ some k → ownX X W' ≠ some k
  fresh : (∀ k, ownX X W = some k → k < W.heap.size) → ∀ k, ownX X W' = some k → k < W'.heap.size
theorem heap_lt {W : World} {k : Nat} {o : Obj} (h : W.heap[k]? = some o) : k < W.heap.size := (Array.getElem?_eq_some_iff.1 h).1
theorem KX.refl (X l : Nat) (W : World) : KX X l W W := ⟨rfl, rfl, rfl, Nat.le_refl _, fun _ _ h _ _ _ => h, fun _ _ h => h, fun h => h⟩
theorem KX.trans {X l : Nat} {A B C : World} (h : KX X l A B) (k : KX X l B C) : KX X l A C :=
  ⟨k.os.trans h.os, k.tape.trans h.tape, k.output.trans h.output, Nat.le_trans h.size k.size,
    fun i o hi h1 h2 h3 => k.same i o (h.same i o hi h1 h2 h3) h1 h2 (h3.imp id fun h4 => h.own i (heap_lt hi) h4),
    fun i hi h1 => k.own i (Nat.lt_of_lt_of_le hi h.size) (h.own i hi h1), fun h1 => k.fresh (h.fresh h1)⟩
theorem KX.at {X l : Nat} {W W' : World} (h : KX X X W W') : KX X l W W' := ⟨h.os, h.tape, h.output, h.size, fun k o h1 h2 _ h3 => h.same k o h1 h2 h2 h3, h.own, h.fresh⟩
/-- A step that turns one row: that of the box, or none. -/
theorem KX.grown {X l : Nat} {W W' : World} {row : Option Nat} (hX : X < W.heap.size) (hg : W.grownBy W' row) (hr : row = none ∨ row = ownX X W) (hne : row ≠ some X) (hc : ∀ k o, row = some k → W.heap[k]? = some o → o.isCells = true) : KX X l W W' := by
  have e : ownX X W' = ownX X W := ownX_same (hg.block X hX fun e => hne e.symm)
  refine ⟨hg.os, hg.tape, hg.output, hg.size, fun k o hk h1 h2 h3 => ?_, fun k hk h1 => by rw [e]; exact h1, fun h k hk => by rw [e] at hk; exact Nat.lt_of_lt_of_le (h k hk) hg.size⟩
  refine (hg.block k (heap_lt hk) fun e' => ?_).trans hk
  rcases h3 with h3 | h3
  · have := hc k o e'.symm hk
    rw [h3] at this
    cases this
  · rcases hr with hr | hr
    · rw [hr] at e'
      cases e'
    · exact h3 (hr.symm.trans e'.symm)
theorem KX.putObj {X l : Nat} {W : World} (o : Obj) (hX : X ≠ l) : KX X l W (W.putObj l o) := by
  have e : ownX X (W.putObj l o) = ownX X W := ownX_same (World.putObj_heap_other hX)
  exact ⟨rfl, rfl, rfl, by simp, fun k o' hk h1 h2 h3 => (World.putObj_heap_other h2).trans hk, fun k _ h => by rw [e]; exact h, fun h k hk => by rw [e] at hk; simpa using h k hk⟩
theorem KX.alloc {X l : Nat} {W : World} (hX : X < W.heap.size) (o : Obj) : KX X l W (W.alloc o) := KX.grown hX (World.grownBy_alloc W o none) (Or.inl rfl) (by simp) (fun _ _ e => by cases e)
theorem KX.below {X l : Nat} {W W' : World} (hX : X < W.heap.size) (h : Below W.heap.size W W') : KX X l W W' := KX.grown hX (grown_of_below h) (Or.inl rfl) (by simp) (fun _ _ e => by cases e)
/-- A store into the box, of the row or of one that is new. -/
theorem KX.store {X l : Nat} {W : World} {v' : Value} (hc : ∃ v, W.cell? ⟨X, 0, none⟩ = some v) (hv : v'.ownBlock = ownX X W ∨ False) : KX X l W (W.setCell ⟨X, 0, none⟩ v') := by
  obtain ⟨v, hc⟩ := hc
  have e : ownX X (W.setCell ⟨X, 0, none⟩ v') = v'.ownBlock := ownX_is (World.cell?_setCell_same' _ _ _ (by rw [hc]; rfl))
  replace hv := hv.resolve_right id
  exact ⟨rfl, rfl, rfl, by simp [World.setCell], fun k o hk h1 h2 h3 => (Below.heap_setCell _ _ _ _ h1).trans hk, fun k hk h1 => by rw [e, hv]; exact h1,
    fun h k hk => by rw [e, hv] at hk; have := h k hk; simpa [World.setCell] using this⟩
/-- An append into the row that the box holds, stored back. -/
theorem KX.append {X l : Nat} {W W1 : World} {v v' : Value} (hX : X < W.heap.size) (hcell : W.cell? ⟨X, 0, none⟩ = some v) (hg : W.grownBy W1 v.ownBlock) (hne : v.ownBlock ≠ some X)
    (hc : ∀ k o, v.ownBlock = some k → W.heap[k]? = some o → o.isCells = true) (hv : v'.ownBlock = v.ownBlock ∨ ∃ k, v'.ownBlock = some k ∧ W.heap.size ≤ k) (hlt : ∀ k, v'.ownBlock = some k → k < W1.heap.size) :
    KX X l W (W1.setCell ⟨X, 0, none⟩ v') := by
  have e0 := ownX_is hcell
  have hb1 : W1.heap[X]? = W.heap[X]? := hg.block X hX fun e => hne e.symm
  have hc1 : W1.cell? ⟨X, 0, none⟩ = some v := by
    rw [← hcell]
    unfold World.cell?
    rw [show W1.heap[(⟨X, 0, none⟩ : Addr).block]? = W.heap[(⟨X, 0, none⟩ : Addr).block]? from hb1]
  have e : ownX X (W1.setCell ⟨X, 0, none⟩ v') = v'.ownBlock := ownX_is (World.cell?_setCell_same' _ _ _ (by rw [hc1]; rfl))
  refine ⟨hg.os, hg.tape, hg.output, by simpa [World.setCell] using hg.size, fun k o hk h1 h2 h3 => ?_, fun k hk h1 => ?_, fun h k hk => ?_⟩
  · refine (Below.heap_setCell _ _ _ _ h1).trans ((hg.block k (heap_lt hk) fun e' => ?_).trans hk)
    rcases h3 with h3 | h3
    · have := hc k o e'.symm hk
      rw [h3] at this
      cases this
    · exact h3 (e0.trans e'.symm)
  · rw [e]
    rcases hv with hv | ⟨k', hk', hle⟩
    · rw [hv, ← e0]
      exact h1
    · rw [hk']
      intro e'
      cases e'
      omega
  · rw [e] at hk
    have := hlt k hk
    simpa [World.setCell] using this

/-- An iterator that hands over whatever S says, if no round says 'no more'. -/
def SeqX {α : Type} (P : Program) (g : Nat) (lb : Array Value) (encs : α → Array Value) (Kp : World → World → Prop) (S : List α → Prop) (N : Nat) (w : World) : Prop :=
  ∀ (l : Nat) (J : List α → World → Prop) (W : World), Hid (l = w.heap.size + 1) → Below w.heap.size w W → w.heap.size + 2 ≤ W.heap.size → OwnFrom W.heap.size J →
    (∀ pre x W1, J pre W1 → pre.length < N → YieldAt Fence.wide 7 P l (encs x) W1 fun e W' => e = .returned (.bool true) ∧ J (pre ++ [x]) W' ∧ Kp W1 W') → J [] W →
    CallsIn Fence.wide 8 P g (#[.func (.yield l) #[] #[]] ++ lb) W fun e W' => (∃ v, e = .returned v) ∧ ∃ xs, S xs ∧ J xs W'
/-- The loop: what is owed of the assignment and the body alone. -/
theorem range_x {P : Program} {α : Type} {g : Operand} {ps : Array Tmp} {assign body : Code} {Q : Exit → Act → World → Prop} {a : Act} {w : World} (X : Nat) (hX : X < w.heap.size)
    {gf : Nat} {lb : Array Value} (hg : a.eval g = .func (.func gf) #[] lb) (eg : ∀ args w, (callFunc gf args).run P w = .ok (.enter gf args) w)
    {encs : α → Array Value} {S : List α → Prop} {N : Nat} (hseq : SeqX P gf lb encs (KX X (w.heap.size + 1)) S N w) (hps : ∀ x, (encs x).size = ps.size)
    (I : List α → World → Prop) (hI : OwnFrom w.heap.size I) (h0 : I [] w) (Ax : α → Act → World → Prop) (hAx : ∀ x a', OwnFrom w.heap.size (fun (_ : Unit) W => Ax x a' W))
    (hassign : ∀ (F : Fence) (l : Nat) (pre : List α) (x : α) (W : World) (K : Act → World → Prop), Hid (F = Fence.wide) → F.round = none → I pre W → w.heap.size ≤ W.heap.size → (∀ a' W', KX X X W W' → I pre W' → Ax x a' W' → K a' W') →
      assign.wpIn (F.inRound l) 7 P (Exit.then K (fun _ _ _ => False)) { tmps := (ps.zip (encs x)).foldl (fun t (p, v) => t.setIfInBounds p v) a.tmps, defers := [] } W)
    (hbody : ∀ (F : Fence) (l : Nat) (pre : List α) (x : α) (a' : Act) (W : World), Hid (F = Fence.wide) → F.round = none → I pre W → w.heap.size ≤ W.heap.size → Ax x a' W → pre.length < N →
      body.wpIn (F.inRound l) 7 P (fun e _ W' => e = .normal ∧ KX X X W W' ∧ I (pre ++ [x]) W') a' W)
    (hdone : ∀ (D : Nat) (xs : List α) (W : World), w.heap.size ≤ D → S xs → I xs W → W.heap[D]? = some (.deferred (some [])) → Q .normal { a with defers := { target := .collected D, args := #[] } :: a.defers } W) :
    (Code.rangeFunc g ps assign body).wp P Q a w := by
  refine (wpIn_wide (n := 9)).1 (wpIn_rangeFunc ?_)
  intro fn _
  obtain ⟨B, hB⟩ : ∃ B, w.heap.size = B := ⟨_, rfl⟩
  obtain ⟨rec, hrec⟩ : ∃ rec : LoopState → Loop, rec = fun st => { state := st, pending := none, fn, tmps := a.tmps, params := ps, assign, body, defers := B } := ⟨_, rfl⟩
  obtain ⟨W1, hW1⟩ : ∃ W1, (w.alloc (.deferred (some []))).alloc (.loop (rec .ready)) = W1 := ⟨_, rfl⟩
  have hL1 : W1.heap[B + 1]? = some (.loop (rec .ready)) := by
    rw [← hW1, ← hB]
    have := World.alloc_heap_new (w.alloc (.deferred (some []))) (.loop (rec .ready))
    rwa [World.size_alloc] at this
  have hK1 : W1.heap[B]? = some (.deferred (some [])) := by
    rw [← hW1, ← hB]
    exact (Below.heap_alloc _ _ _ (by simp)).trans (World.alloc_heap_new w _)
  have hI1 : I [] W1 := by
    rw [← hW1]
    exact hI.alloc _ (hI.alloc _ h0)
  have hb1 : Below w.heap.size w W1 := by
    rw [← hW1]
    exact ((Below.refl _ w).alloc (Nat.le_refl _) _).alloc (by simp) _
  have hent : (Instr.enterLoop fn a.tmps ps assign body Fence.wide.round).run P w = .ok (w.heap.size + 1, [{ target := .collected w.heap.size, args := #[] }]) W1 := by
    rw [← hW1, hrec, ← hB]
    exact run_enterLoop_outer _ _ _ _ _
  refine ⟨w.heap.size + 1, _, W1, { target := .fn (.func gf) lb, args := #[.func (.yield (w.heap.size + 1)) #[] #[]] }, W1, gf, #[.func (.yield (w.heap.size + 1)) #[] #[]] ++ lb, W1, hent, ?_, fun _ _ => trivial, ?_, fun _ => by omega, ?_⟩
  · simp only [resolve, hg]
    simp [go_sem]
  · simp [invoke, go_sem, eg]
  · rw [hB] at hseq hX hI hAx hassign hbody hdone hb1 ⊢
    have nw : ∀ {A : World} {row : Option Nat}, (∀ r, row = some r → W1.heap.size ≤ r ∧ ∃ o : Obj, A.heap[r]? = some o ∧ o.isCells = false) → ∀ r, row = some r → B ≤ r ∧ ∃ o : Obj, A.heap[r]? = some o ∧ o.isCells = false := fun h r e => by
      obtain ⟨h1, h2⟩ := h r e
      have := hb1.size
      exact ⟨by omega, h2⟩
    have hs1 : W1.heap.size = B + 2 := by rw [← hW1, World.size_alloc, World.size_alloc, hB]
    have mid : ∀ {A C : World} {row : Option Nat} {k : Nat} {o : Obj}, A.grownBy C row → (∀ r, row = some r → W1.heap.size ≤ r ∧ ∃ o : Obj, A.heap[r]? = some o ∧ o.isCells = false) → A.heap[k]? = some o → k < B + 2 → C.heap[k]? = some o := fun hg h hk ho =>
      (hg.block _ (heap_lt hk) (fun e => by have := (h _ e.symm).1; omega)).trans hk
    refine (hseq (B + 1) (fun pre W => I pre W ∧ W.heap[B + 1]? = some (.loop (rec .ready)) ∧ W.heap[B]? = some (.deferred (some []))) W1 (by rw [hB]; exact rfl) (by rw [hB]; exact hb1) (by omega)
      (fun s A C row hs hg' hr => ⟨hI s A C row hs.1 hg' (nw hr), mid hg' hr hs.2.1 (by omega), mid hg' hr hs.2.2 (by omega)⟩) ?_ ⟨hI1, hL1, hK1⟩).mono ?_
    · rintro pre x W ⟨hi, hl, hk⟩ hlen
      have hlt := heap_lt hl
      have hy := run_yield (P := P) (args := encs x) hl (by rw [hrec]; exact hps x)
      refine ⟨_, _, _, _, hy, roundIn_of_wpIn trivial ?_⟩
      have hfn : (rec .ready).fn = fn := by rw [hrec]
      have htm : (rec .ready).tmps = a.tmps := by rw [hrec]
      have hpa : (rec .ready).params = ps := by rw [hrec]
      have has : (rec .ready).assign = assign := by rw [hrec]
      have hbo : (rec .ready).body = body := by rw [hrec]
      rw [htm, hpa, has, hbo]
      refine hassign Fence.wide (B + 1) pre x W _ rfl rfl hi (by omega) ?_
      · intro a' Wa kxa hia hax
        have hla := kxa.same _ _ hl (by omega) (by omega) (Or.inl rfl)
        have hka := kxa.same _ _ hk (by omega) (by omega) (Or.inl rfl)
        obtain ⟨busy, hbusy⟩ : ∃ o : Loop, { rec .ready with state := .busy } = o := ⟨_, rfl⟩
        have hbr := run_beginRound (P := P) hla (by rw [hrec])
        rw [hbusy] at hbr
        refine ⟨_, hbr, ?_⟩
        have hlb : (Wa.putObj (B + 1) (.loop busy)).heap[B + 1]? = some (.loop busy) := World.putObj_heap_same (heap_lt hla)
        have hkb : (Wa.putObj (B + 1) (.loop busy)).heap[B]? = some (.deferred (some [])) := (World.putObj_heap_other (by omega)).trans hka
        have hsz := kxa.size
        refine wpIn_mono (hbody Fence.wide (B + 1) pre x a' _ rfl rfl (hI.putObj _ hia (by omega) hla rfl) (by simp; omega) ((hAx x a').putObj (s := ()) _ hax (by omega) hla rfl) hlen) ?_
        rintro e a3 Wc ⟨rfl, kxb, hic⟩
        have hlc := kxb.same _ _ hlb (by omega) (by omega) (Or.inl rfl)
        have hkc := kxb.same _ _ hkb (by omega) (by omega) (Or.inl rfl)
        have hend := run_endRound (P := P) none hlc
        have hst : ({ busy with state := if (none : Option Code).isNone = true then LoopState.ready else LoopState.done, pending := none } : Loop) = rec .ready := by
          rw [← hbusy, hrec]
          rfl
        rw [hst] at hend
        refine ⟨_, _, hend, ⟨rfl, ⟨hI.putObj _ hic (by omega) hlc rfl, World.putObj_heap_same (heap_lt hlc), (World.putObj_heap_other (by omega)).trans hkc⟩, ?_⟩⟩
        exact (kxa.at.trans (KX.putObj _ (by omega))).trans (kxb.at.trans (KX.putObj _ (by omega)))
    · rintro e W2 ⟨⟨v, rfl⟩, xs, hS, hi, hl, hk⟩
      have hend := run_endLoop (P := P) hl (by rw [hrec]; simp)
      have hp : (rec .ready).pending = none := by rw [hrec]
      rw [hp] at hend
      exact ⟨none, _, hend, hdone B xs _ (Nat.le_refl _) hS (hI.putObj _ hi (by omega) hl rfl) ((World.putObj_heap_other (by omega)).trans hk)⟩
end Go.Proofs.YtlljcdmblmkblaaGreat
namespace Go.Proofs.YtlljcdmblmkblaaGreat
open Go.RowKit Go.Shelf
attribute [local go_sem] Oper.semAt_some
set_option linter.unusedVariables false

/-- A shot: name, size, table. -/
abbrev Sh := ByteArray × Int × Option Addr × Nat × Nat × Tb
def shV (d : Sh) : List Value := [.string d.1, .int .i64 d.2.1, .slice d.2.2.1 d.2.2.2.1 d.2.2.2.2.1]
def shT (d : Sh) : Tb := d.2.2.2.2.2
theorem sh_rowed : Rowed Tryz.prog 37 77 3 48 shV where
  under := Tryz.underlying37
  info := by
    have h : (Tryz.prog.info? 77).map (fun i => (i.zero.map (fun z => z.cells.size), i.size, i.bytes)) = some (some 3, 3, 48) := by kernel_rfl
    obtain ⟨i, hi, he⟩ := Option.map_eq_some_iff.1 h
    simp only [Prod.mk.injEq] at he
    obtain ⟨z, hz, hzs⟩ := Option.map_eq_some_iff.1 he.1
    exact ⟨i, z, hi, hz, he.2.1, he.2.2, hzs⟩
  pos := by decide
  small := by decide
  len := fun _ => rfl
  one := fun d u hu => by
    simp only [shV, List.mem_cons, List.not_mem_nil, or_false] at hu
    rcases hu with rfl | rfl | rfl <;> rfl
/-- Shots that read. -/
def ShsR (w : World) (a : Option Addr) (len : Nat) (S : List Sh) : Prop := Reads shV w a len S ∧ ∀ d ∈ S, Tab w d.2.2.1 d.2.2.2.1 d.2.2.2.2.1 (shT d)
theorem ShsR.later {w w' : World} {a : Option Addr} {len : Nat} {S : List Sh} (h : ShsR w a len S) (hb : Below w.heap.size w w') : ShsR w' a len S := ⟨h.1.later hb, fun d hd => (h.2 d hd).later hb⟩
theorem ShsR.len {w : World} {a : Option Addr} {len : Nat} {S : List Sh} (h : ShsR w a len S) : S.length = len := h.1.1
theorem ShsR.at {w : World} {a : Option Addr} {len : Nat} {S : List Sh} (h : ShsR w a len S) (i : Nat) (hi : i < len) : ∃ b off nm sz al ll cl T, a = some ⟨b, off, none⟩ ∧ S[i]? = some (nm, sz, al, ll, cl, T) ∧
    w.cell? ⟨b, off + i * 3, none⟩ = some (.string nm) ∧ w.cell? ⟨b, off + i * 3 + 1, none⟩ = some (.int .i64 sz) ∧ w.cell? ⟨b, off + i * 3 + 2, none⟩ = some (.slice al ll cl) ∧ Tab w al ll cl T := by
  obtain ⟨b, off, rfl⟩ := h.1.lies (by omega)
  have hl := h.len
  obtain ⟨⟨nm, sz, al, ll, cl, T⟩, hx⟩ : ∃ x, S[i]? = some x := ⟨_, List.getElem?_eq_getElem (by omega)⟩
  refine ⟨b, off, nm, sz, al, ll, cl, T, rfl, hx, ?_, ?_, ?_, h.2 _ (List.mem_of_getElem? hx)⟩
  · have := h.1.cellAt sh_rowed i 0 _ _ hx rfl
    exact this
  · have := h.1.cellAt sh_rowed i 1 _ _ hx rfl
    rwa [← Nat.add_assoc] at this
  · have := h.1.cellAt sh_rowed i 2 _ _ hx rfl
    rwa [← Nat.add_assoc] at this

/-- A meta's cells. -/
def mtC (c s : Int) (bk : ByteArray) (a0 : Option Addr) (n0 c0 : Nat) (sa : Option Addr) (sn sc : Nat) (v5 v6 : Value) : Array Value :=
  #[.int .i64 c, .int .i64 s, .string bk, .slice a0 n0 c0, .slice sa sn sc, v5, v6]
/-- A table that comes with its shot. -/
abbrev Tx := Int × Option Addr × Nat × Nat × Tb
def shX (S : List Sh) (n : Nat) : List Tx := (List.range n).map fun (i : Nat) => ((i : Int), ((S.getD i default).2.2.1, (S.getD i default).2.2.2.1, (S.getD i default).2.2.2.2.1, shT (S.getD i default)))
def tabsX (a0 : Option Addr) (n0 c0 : Nat) (T : Tb) (S : List Sh) : List Tx := (-1, a0, n0, c0, T) :: shX S S.length
theorem shX_succ {S : List Sh} {i : Nat} {nm : ByteArray} {sz : Int} {al : Option Addr} {ll cl : Nat} {T : Tb} (h : S[i]? = some (nm, sz, al, ll, cl, T)) : shX S (i + 1) = shX S i ++ [((i : Int), al, ll, cl, T)] := by
  unfold shX
  rw [List.range_succ, List.map_append]
  simp [List.getD_eq_getElem?_getD, h, shT]
/-- What such a table is: it reads in w0, its lines are within bounds. -/
def TxOk (w0 : World) (x : Tx) : Prop := Tab w0 x.2.1 x.2.2.1 x.2.2.2.1 x.2.2.2.2 ∧ (∀ y ∈ tabLines x.1 x.2.2.2.2, LnOk y) ∧ x.2.2.1 ≤ 512 ∧ -1 ≤ x.1 ∧ x.1 < 1000
abbrev VTx (w0 : World) := { x : Tx // TxOk w0 x }
def vtxArg {w0 : World} (x : VTx w0) : Array Value := #[.int .i64 x.1.1, .agg #[.slice x.1.2.1 x.1.2.2.1 x.1.2.2.2.1]]
theorem vtx_of {w0 : World} : ∀ {l : List Tx}, (∀ x ∈ l, TxOk w0 x) → ∃ v : List (VTx w0), v.map (·.1) = l
  | [], _ => ⟨[], rfl⟩
  | x :: l, h => by
    obtain ⟨v, hv⟩ := vtx_of fun y hy => h y (List.mem_cons_of_mem _ hy)
    exact ⟨⟨x, h x (List.mem_cons_self ..)⟩ :: v, by simp [hv]⟩

theorem tables_any (c s : Int) (bk : ByteArray) (a0 : Option Addr) (n0 c0 : Nat) (sa : Option Addr) (sn sc : Nat) (a5 : Option Addr) (n5 c5 : Nat) (a6 : Option Addr) (n6 c6 : Nat) (w : World) :
    Calls Tryz.prog 116 #[.agg #[.int .i64 c, .int .i64 s, .string bk, .slice a0 n0 c0, .slice sa sn sc, .slice a5 n5 c5, .slice a6 n6 c6]] w fun e w' =>
      e = .returned (.func (.func 127) #[] #[.pointer (some ⟨w.heap.size, 0, none⟩)]) ∧ w' = w.alloc (.cells (mtC c s bk a0 n0 c0 sa sn sc (.slice a5 n5 c5) (.slice a6 n6 c6)) 41) := by
  go_enter Tryz.func116, Tryz.ntmps116
  go_wp2
  go_ret
  exact ⟨rfl, rfl⟩
theorem lines_any (c s : Int) (bk : ByteArray) (a0 : Option Addr) (n0 c0 : Nat) (sa : Option Addr) (sn sc : Nat) (a5 : Option Addr) (n5 c5 : Nat) (a6 : Option Addr) (n6 c6 : Nat) (w : World) :
    Calls Tryz.prog 94 #[.agg #[.int .i64 c, .int .i64 s, .string bk, .slice a0 n0 c0, .slice sa sn sc, .slice a5 n5 c5, .slice a6 n6 c6]] w fun e w' =>
      e = .returned (.func (.func 115) #[] #[.pointer (some ⟨w.heap.size, 0, none⟩)]) ∧ w' = w.alloc (.cells (mtC c s bk a0 n0 c0 sa sn sc (.slice a5 n5 c5) (.slice a6 n6 c6)) 41) := by
  go_enter Tryz.func94, Tryz.ntmps94
  go_wp2
  go_ret
  exact ⟨rfl, rfl⟩
/-- What a round keeps. -/
def Kp2 (n₀ M : Nat) (W W' : World) : Prop := Below n₀ W W' ∧ W'.heap[M]? = W.heap[M]?
theorem Kp2.trans {n₀ M : Nat} {A B C : World} (h : Kp2 n₀ M A B) (k : Kp2 n₀ M B C) : Kp2 n₀ M A C := ⟨h.1.trans k.1, k.2.trans h.2⟩
theorem room_none {F : Fence} (hd : F.depth = none) (k : Nat) : F.room k := fun d h => by rw [hd] at h; cases h
theorem RoundIn.any0 {F : Fence} (hd : F.depth = none) {m m' : Nat} {P : Program} {l : Nat} {f : FuncId} {tmps : Array Value} {assign body : Code} {w : World} {R : Ending → World → Prop}
    (h : RoundIn F m P l f tmps assign body w R) : RoundIn F m' P l f tmps assign body w R := ⟨h.1, fun c cs _ => h.2 c cs (room_none hd _)⟩

set_option maxRecDepth 100000 in
set_option maxHeartbeats 2000000 in
theorem tables1_in (F : Fence) (hFw : Hid (F = Fence.wide)) (n : Nat) (h1 : 1 ≤ n) (l M : Nat) (w0 : World) (c s : Int) (bk : ByteArray) (a0 : Option Addr) (n0 c0 : Nat) (sa : Option Addr) (sn sc : Nat) (v5 v6 : Value) (T : Tb) (S : List Sh)
    (hS : ShsR w0 sa sn S) (v : List (VTx w0)) (hv : v.map (·.1) = tabsX a0 n0 c0 T S) (J Jx : List (VTx w0) → World → Prop)
    (hY : ∀ pre x W, J pre W → pre.length < v.length → YieldAt F (n - 1) Tryz.prog l (vtxArg x) W fun e W' =>
      (e = .returned (.bool true) ∧ J (pre ++ [x]) W' ∧ Kp2 w0.heap.size M W W') ∨ (e = .returned (.bool false) ∧ Jx (pre ++ [x]) W'))
    (W : World) (hJ : AbidesFrom W.heap.size J) (hW : Below w0.heap.size w0 W) (hM : Blk W M 41 (mtC c s bk a0 n0 c0 sa sn sc v5 v6)) (h0 : J [] W) :
    CallsIn F n Tryz.prog 127 #[.func (.yield l) #[] #[], .pointer (some ⟨M, 0, none⟩)] W fun e W' => (∃ v, e = .returned v) ∧ ((∃ ys, ys = v ∧ J ys W') ∨ (∃ pre, pre <+: v ∧ Jx pre W')) := by
  have hro : F.round = none := by rw [hFw.out]; rfl
  have hf2 : F.fn 127 := by rw [hFw.out]; trivial
  have HS := Lib.hid hS
  have HL := hS.len
  have hmax := hS.1.2.1
  obtain ⟨x0, v1, rfl⟩ : ∃ x0 v1, v = x0 :: v1 := by
    cases v with
    | nil => cases hv
    | cons x l => exact ⟨x, l, rfl⟩
  have hv1 : v1.map (·.1) = shX S S.length := (List.cons.inj hv).2
  have hx0 : x0.1 = (-1, a0, n0, c0, T) := (List.cons.inj hv).1
  have HV := Lib.hid hv1
  have hvl : v1.length = sn := by
    have := congrArg List.length hv1
    rw [List.length_map] at this
    rw [this, ← HL]
    simp [shX]
  have HVL := Lib.hid hvl
  have hc3 := hM.cell 3
  have hc4 := hM.cell 4
  have hf3 := hM.free 3
  obtain ⟨fn, tmps, assign, body, hy, hR⟩ := hY [] x0 W h0 (by simp)
  unfold vtxArg at hy
  rw [hx0] at hy
  have HW := Lib.hid hW
  have HM := Lib.hid hM
  have HY := Lib.hid hY
  have HJ := Lib.hid hJ
  clear hS hv hv1 hx0 hvl hW hM hY hJ h0
  refine callsIn_of_wp Tryz.func127 rfl hf2 ?_ hro
  simp only [Tryz.ntmps127, List.size_toArray, List.length_cons, List.length_nil, Nat.reduceAdd, Nat.reduceSub, Array.replicate_succ, Array.replicate_zero, List.push_toArray, List.append_toArray, List.nil_append, List.cons_append]
  unfold mtC at hc3 hc4
  gi_wp2
  refine hR.mono ?_
  rintro e W3 (⟨rfl, hJ3, hk3⟩ | ⟨rfl, hJx3⟩)
  · have HJ3 := Lib.hid hJ3
    have HM3 : Hid (Blk W3 M 41 (mtC c s bk a0 n0 c0 sa sn sc v5 v6)) := hk3.2.trans HM.out
    have HW3 : Hid (Below w0.heap.size w0 W3) := HW.out.trans hk3.1
    have hc4 := HM3.out.cell 4
    have hf4 := HM3.out.free 4
    unfold mtC at hc4
    clear hJ3 hk3 hc3 hf3 hy hR
    gi_wp2
    gi_loopw [13] (fun i wr => ∃ k : Nat, k ≤ sn ∧ i = .int .i64 k ∧ Hid (J (x0 :: v1.take k) wr) ∧ Hid (Below w0.heap.size w0 wr))
      (fun i _ => sn - (intOf i).toNat)
    case atStart => exact ⟨0, Nat.zero_le _, rfl, HJ3.out, HW3.out⟩
    case round =>
      obtain ⟨k, hk, rfl, HJk, HWk⟩ := hrel
      by_cases hlt : k < sn
      · obtain ⟨b, off, nm, sz, al, ll, cl, T', rfl, hSk, x1, x2, x3, hT⟩ := (HS.out.later HWk.out).at k hlt
        have hvl := HVL.out
        obtain ⟨x, hx⟩ : ∃ x, v1[k]? = some x := ⟨v1[k]'(by omega), List.getElem?_eq_getElem (by omega)⟩
        have hxv : x.1 = ((k : Int), al, ll, cl, T') := by
          have h2 : (v1.map (·.1))[k]? = some x.1 := by rw [List.getElem?_map, hx]; rfl
          rw [HV.out] at h2
          have h3 : (shX S S.length)[k]? = some ((k : Int), al, ll, cl, T') := by
            unfold shX
            rw [List.getElem?_map, List.getElem?_range (by omega)]
            simp [List.getD_eq_getElem?_getD, hSk, shT]
          rw [h3] at h2
          exact (Option.some.inj h2).symm
        have htk : v1.take (k + 1) = v1.take k ++ [x] := by rw [List.take_add_one, hx]; rfl
        have hJa := HJ.out (x0 :: v1.take k) wr (wr.alloc (.cells #[.string nm, .int .i64 sz, .slice al ll cl] 77)) none HJk.out (World.grownBy_alloc _ _ none) (fun r e => by cases e)
        obtain ⟨fn, tmps, assign, body, hy, hR⟩ := HY.out (x0 :: v1.take k) x _ hJa (by simp; omega)
        unfold vtxArg at hy
        rw [hxv] at hy
        have HTK := Lib.hid htk
        have HWa := Lib.hid (HWk.out.alloc HWk.out.size (.cells #[.string nm, .int .i64 sz, .slice al ll cl] 77))
        have HX := Lib.hid hx
        clear hJa htk hxv hx hvl hT hSk
        gi_wp2
        refine hR.mono ?_
        rintro e W4 (⟨rfl, hJ4, hk4⟩ | ⟨rfl, hJx4⟩)
        · have HJ4 := Lib.hid hJ4
          have HK4 := Lib.hid hk4
          clear hJ4 hk4
          gi_wp2
          go_roundw
          case rel => exact ⟨k + 1, by omega, by go_num, by rw [HTK.out]; exact HJ4.out, HWa.out.trans HK4.out.1⟩
          case measure => simp [intOf]; omega
        · gi_wp2
          refine bodyPost_ret (results_none rfl _ _ _) rfl ?_
          exact ⟨⟨_, rfl⟩, .inr ⟨x0 :: (v1.take k ++ [x]), by rw [← HTK.out]; exact (List.cons_prefix_cons.2 ⟨rfl, List.take_prefix _ _⟩), hJx4⟩⟩
      · obtain rfl : k = sn := by omega
        gi_wp2
        go_end0
        exact ⟨⟨_, rfl⟩, .inl ⟨_, by rw [← HVL.out, List.take_length], HJk.out⟩⟩
  · gi_wp2
    refine bodyPost_ret (results_none rfl _ _ _) rfl ?_
    exact ⟨⟨_, rfl⟩, .inr ⟨[x0], ⟨v1, rfl⟩, hJx3⟩⟩
end Go.Proofs.YtlljcdmblmkblaaGreat
