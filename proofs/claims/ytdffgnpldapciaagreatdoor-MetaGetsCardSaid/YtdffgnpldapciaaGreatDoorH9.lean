/-
  Tables of the call's own: an outer row and leaves that share no memory, what stores and appends do to them (layer 8). Conditions: short rows.
-/
import Derived.Test.YtdffgnpldapciaaGreatDoorB9
namespace Go.Proofs.YtdffgnpldapciaaGreatDoor
open Go.RowKit
set_option linter.unusedVariables false

/-- The leaf's own block. -/
def blkD (d : LfD) : Option Nat := (Value.slice d.1 d.2.1 d.2.2.1).ownBlock
/-- A leaf of the call's own. -/
def LfO (w : World) (base : Nat) (d : LfD) : Prop := OwnG enV 91 5 w base (.slice d.1 d.2.1 d.2.2.1) d.2.1 d.2.2.2 ∧ ∀ x ∈ d.2.2.2, EnOk x
theorem LfO.reads {w : World} {base : Nat} {d : LfD} (h : LfO w base d) : LfR w d := by
  obtain ⟨h1, h2, h3⟩ := h.1.reads en_rowed
  exact ⟨h1, h3, h2, h.2⟩
theorem LfO.kept {w w' : World} {base : Nat} {d : LfD} (h : LfO w base d) {row : Option Nat} (hg : w.grownBy w' row) (hne : ∀ k, blkD d = some k → row ≠ some k) : LfO w' base d := ⟨h.1.kept' hg hne, h.2⟩
theorem LfO.later {w w' : World} {base : Nat} {d : LfD} (h : LfO w base d) (hb : Below w.heap.size w w') : LfO w' base d := h.kept (grown_of_below hb) (fun k _ e => by cases e)
theorem LfO.lt {w : World} {base : Nat} {d : LfD} (h : LfO w base d) {b : Nat} (hb : blkD d = some b) : base ≤ b ∧ b < w.heap.size := h.1.1.lt b hb
theorem LfO.none (w : World) (base : Nat) : LfO w base (Option.none, 0, 0, []) := ⟨OwnG.none _ _ _ _ _, by simp⟩
theorem OwnG.mono9 {α : Type} {cv : α → List Value} {e : TypeId} {sz : Nat} {w : World} {base base' : Nat} {v : Value} {n : Nat} {l : List α} (h : OwnG cv e sz w base v n l) (hb : base' ≤ base) : OwnG cv e sz w base' v n l := by
  obtain ⟨⟨h1, h2⟩, h3⟩ := h
  refine ⟨⟨h1, ?_⟩, h3⟩
  rcases h2 with h2 | ⟨g, cap, cur, e, hg, r⟩
  · exact Or.inl h2
  · exact Or.inr ⟨g, cap, cur, e, Nat.le_trans hb hg, r⟩
theorem LfO.mono {w : World} {base base' : Nat} {d : LfD} (h : LfO w base d) (hb : base' ≤ base) : LfO w base' d := ⟨h.1.mono9 hb, h.2⟩
theorem row_apart {α β : Type} {cv : α → List Value} {cv' : β → List Value} {e e' : TypeId} {sz sz' : Nat} {w : World} {base base' : Nat} {v v' : Value} {n n' : Nat} {l : List α} {l' : List β} (h : OwnG cv e sz w base v n l) (h' : OwnG cv' e' sz' w base' v' n' l') (hne : e ≠ e') (b : Nat) (hb : v.ownBlock = some b) : v'.ownBlock ≠ some b := by
  intro hb'
  rcases h.1.2 with ⟨rfl, _⟩ | ⟨g, cap, cur, rfl, _, hg, _⟩
  · simp [Value.ownBlock] at hb
  · rcases h'.1.2 with ⟨rfl, _⟩ | ⟨g', cap', cur', rfl, _, hg', _⟩
    · simp [Value.ownBlock] at hb'
    · simp only [Value.ownBlock, Option.some.injEq] at hb hb'
      subst hb
      subst hb'
      rw [hg] at hg'
      simp only [Option.some.injEq, Obj.cells.injEq] at hg'
      exact hne hg'.2.1
/-- A table of the call's own: its outer row says ds, its leaves are es. -/
structure TabQ (w : World) (base : Nat) (a : Option Addr) (len cap : Nat) (ds es : List LfD) : Prop where
  out : OwnG cvD 88 1 w base (.slice a len cap) len ds
  leaf : ∀ d ∈ es, LfO w base d
  apart : ∀ (i j : Nat) (d d' : LfD), es[i]? = some d → es[j]? = some d' → i ≠ j → ∀ b, blkD d = some b → blkD d' ≠ some b
section
variable {w w' : World} {base len cap : Nat} {a : Option Addr} {ds es : List LfD}
theorem TabQ.kept (h : TabQ w base a len cap ds es) {row : Option Nat} (hg : w.grownBy w' row) (ho : ∀ k, (Value.slice a len cap).ownBlock = some k → row ≠ some k) (hl : ∀ d ∈ es, ∀ k, blkD d = some k → row ≠ some k) : TabQ w' base a len cap ds es :=
  ⟨h.out.kept' hg ho, fun d hd => (h.leaf d hd).kept hg (hl d hd), h.apart⟩
theorem TabQ.later (h : TabQ w base a len cap ds es) (hb : Below w.heap.size w w') : TabQ w' base a len cap ds es := h.kept (grown_of_below hb) (fun _ _ e => by cases e) (fun _ _ _ _ e => by cases e)
theorem TabQ.drew (h : TabQ w base a len cap ds es) : TabQ w.drew base a len cap ds es := h.later (Below.refl _ _).drew
theorem TabQ.alloc (h : TabQ w base a len cap ds es) (o : Obj) : TabQ (w.alloc o) base a len cap ds es := h.later ((Below.refl _ _).alloc (Nat.le_refl _) _)
/-- A block below the table's turns. -/
theorem TabQ.low (h : TabQ w base a len cap ds es) {X : Nat} (hX : X < base) (hg : w.grownBy w' (some X)) : TabQ w' base a len cap ds es :=
  h.kept hg (fun k hk e => by cases e; have := (h.out.1.lt X hk).1; omega) (fun d hd k hk e => by cases e; have := ((h.leaf d hd).lt hk).1; omega)
theorem flat_cvD {ds es : List LfD} (he : ds.map cvD = es.map cvD) : ds.flatMap cvD = es.flatMap cvD := by rw [List.flatMap_def, List.flatMap_def, he]
theorem TabQ.same (h : TabQ w base a len cap ds es) (he : ds.map cvD = es.map cvD) : TabQ w base a len cap es es := by
  refine ⟨?_, h.leaf, h.apart⟩
  obtain ⟨h1, h2, h3⟩ := h.out
  refine ⟨?_, ?_, h3⟩
  · rw [← flat_cvD he]
    exact h1
  · have := congrArg List.length he
    rw [List.length_map, List.length_map] at this
    rw [← this]
    exact h2
theorem TabQ.reads (h : TabQ w base a len cap es es) : TabR w a len es := ⟨(h.out.reads lf_rowed).1, fun d hd => (h.leaf d hd).reads⟩
theorem TabQ.caps (h : TabQ w base a len cap ds es) : (a = none → cap = 0) ∧ len ≤ cap := (h.out.reads lf_rowed).2
theorem TabQ.size (h : TabQ w base a len cap ds es) : ds.length = len := h.out.2.1
theorem TabQ.first (w : World) (base : Nat) : TabQ w base none 0 0 [] [] := ⟨OwnG.none _ _ _ _ _, by simp, fun i j d d' hi => by simp at hi⟩
theorem TabQ.mono (h : TabQ w base a len cap ds es) {base' : Nat} (hb : base' ≤ base) : TabQ w base' a len cap ds es := ⟨h.out.mono9 hb, fun d hd => (h.leaf d hd).mono hb, h.apart⟩
/-- The cell of the outer row at a place. -/
theorem TabQ.at (h : TabQ w base a len cap ds es) (j : Nat) (hj : j < len) : ∃ g d, a = some ⟨g, 0, none⟩ ∧ base ≤ g ∧ g < w.heap.size ∧ ds[j]? = some d ∧ w.cell? ⟨g, j, none⟩ = some (.slice d.1 d.2.1 d.2.2.1) ∧ w.frozen? ⟨g, j, none⟩ = false := by
  obtain ⟨h1, h2, h3⟩ := h.out
  have hd : ds[j]? = some ds[j] := List.getElem?_eq_getElem (by omega)
  rcases h1.2 with ⟨e, e0⟩ | ⟨g, cap', cur, e, hb, hg, _⟩
  · omega
  · cases e
    refine ⟨g, ds[j], rfl, hb, lt_of_block hg, hd, ?_, h1.frozenAt j⟩
    rw [h1.cellAt j (by omega)]
    have := flat_at lf_rowed.len ds j 0 _ hd (by omega)
    rw [Nat.mul_one, Nat.add_zero] at this
    rw [this]
    rfl
theorem flat_set9 : ∀ (ds : List LfD) (j : Nat) (d : LfD), (ds.set j d).flatMap cvD = (ds.flatMap cvD).set j (.slice d.1 d.2.1 d.2.2.1)
  | [], _, _ => by simp
  | x :: r, 0, d => by simp [cvD]
  | x :: r, j + 1, d => by
    rw [List.set_cons_succ, List.flatMap_cons, flat_set9 r j d, List.flatMap_cons]
    simp [cvD]
/-- A slice goes into the outer row. -/
theorem TabQ.setOut (h : TabQ w base a len cap ds es) (g j : Nat) (ha : a = some ⟨g, 0, none⟩) (d : LfD) : TabQ (w.setCell ⟨g, j, none⟩ (.slice d.1 d.2.1 d.2.2.1)) base a len cap (ds.set j d) es ∧ w.grownBy (w.setCell ⟨g, j, none⟩ (.slice d.1 d.2.1 d.2.2.1)) (some g) := by
  subst ha
  obtain ⟨h1, h2⟩ := h.out.1.stored j (.slice d.1 d.2.1 d.2.2.1)
  refine ⟨⟨⟨?_, by rw [List.length_set]; exact h.out.2.1, h.out.2.2⟩, fun d' hd' => (h.leaf d' hd').kept h2 (fun k hk e => ?_), h.apart⟩, h2⟩
  · rw [flat_set9]
    exact h1
  · cases e
    exact row_apart h.out (h.leaf d' hd').1 (by decide) g rfl hk
/-- A leaf turns in its own block. -/
theorem TabQ.setEs (h : TabQ w base a len cap ds es) (j : Nat) (d d' : LfD) (hd : es[j]? = some d) (hg : w.grownBy w' (blkD d)) (hb : blkD d' = blkD d) (hl : LfO w' base d') : TabQ w' base a len cap ds (es.set j d') := by
  have hm := List.mem_of_getElem? hd
  refine ⟨h.out.kept' hg fun k hk e => row_apart h.out (h.leaf d hm).1 (by decide) k hk e, fun x hx => ?_, fun i i' x x' hi hi' hne b hb1 hb2 => ?_⟩
  · obtain ⟨i, hi⟩ := List.getElem?_of_mem hx
    rw [List.getElem?_set] at hi
    by_cases hj : j = i
    · rw [if_pos hj] at hi
      split at hi
      · cases hi
        exact hl
      · cases hi
    · rw [if_neg hj] at hi
      exact (h.leaf x (List.mem_of_getElem? hi)).kept hg fun k hk e => h.apart i j x d hi hd (fun e' => hj e'.symm) k hk e
  · rw [List.getElem?_set] at hi hi'
    have key : ∀ q y, (if j = q then if q < es.length then some d' else none else es[q]?) = some y → ∃ y', es[q]? = some y' ∧ blkD y = blkD y' := fun q y hy => by
      by_cases hj : j = q
      · rw [if_pos hj] at hy
        split at hy
        · cases hy
          exact ⟨d, by rw [← hj]; exact hd, hb⟩
        · cases hy
      · rw [if_neg hj] at hy
        exact ⟨y, hy, rfl⟩
    obtain ⟨y, hy1, hy2⟩ := key i x (by split at hi <;> simp_all)
    obtain ⟨y', hy1', hy2'⟩ := key i' x' (by split at hi' <;> simp_all)
    exact h.apart i i' y y' hy1 hy1' hne b (hy2 ▸ hb1) (hy2' ▸ hb2)
/-- A leaf of one's own takes a place. -/
theorem TabQ.putEs (h : TabQ w base a len cap ds es) (j : Nat) (d' : LfD) (hl : LfO w base d') (hnew : ∀ d ∈ es, ∀ b, blkD d = some b → blkD d' ≠ some b) : TabQ w base a len cap ds (es.set j d') := by
  refine ⟨h.out, fun x hx => ?_, fun i i' x x' hi hi' hne b hb1 hb2 => ?_⟩
  · rcases List.mem_or_eq_of_mem_set hx with hx | rfl
    · exact h.leaf x hx
    · exact hl
  · rw [List.getElem?_set] at hi hi'
    by_cases h1 : j = i
    · rw [if_pos h1] at hi
      rw [if_neg (by omega)] at hi'
      split at hi
      · cases hi
        exact hnew x' (List.mem_of_getElem? hi') b hb2 hb1
      · cases hi
    · rw [if_neg h1] at hi
      by_cases h2 : j = i'
      · rw [if_pos h2] at hi'
        split at hi'
        · cases hi'
          exact hnew x (List.mem_of_getElem? hi) b hb1 hb2
        · cases hi'
      · rw [if_neg h2] at hi'
        exact h.apart i i' x x' hi hi' hne b hb1 hb2
theorem TabQ.addEs (h : TabQ w base a len cap ds es) (d' : LfD) (hl : LfO w base d') (hnew : ∀ d ∈ es, ∀ b, blkD d = some b → blkD d' ≠ some b) : TabQ w base a len cap ds (es ++ [d']) := by
  refine ⟨h.out, fun x hx => ?_, fun i i' x x' hi hi' hne b hb1 hb2 => ?_⟩
  · rcases List.mem_append.1 hx with hx | hx
    · exact h.leaf x hx
    · rw [List.mem_singleton] at hx
      subst hx
      exact hl
  · rw [List.getElem?_append] at hi hi'
    by_cases h1 : i < es.length
    · rw [if_pos h1] at hi
      by_cases h2 : i' < es.length
      · rw [if_pos h2] at hi'
        exact h.apart i i' x x' hi hi' hne b hb1 hb2
      · rw [if_neg h2] at hi'
        obtain rfl : x' = d' := by
          have := List.mem_of_getElem? hi'
          simpa using this
        exact hnew x (List.mem_of_getElem? hi) b hb1 hb2
    · rw [if_neg h1] at hi
      have e1 : i = es.length := by
        rcases Nat.lt_or_ge es.length i with h' | h'
        · rw [List.getElem?_eq_none (by simp; omega)] at hi
          cases hi
        · omega
      obtain rfl : x = d' := by
        have := List.mem_of_getElem? hi
        simpa using this
      by_cases h2 : i' < es.length
      · rw [if_pos h2] at hi'
        exact hnew x' (List.mem_of_getElem? hi') b hb2 hb1
      · rw [if_neg h2] at hi'
        have e2 : i' = es.length := by
          rcases Nat.lt_or_ge es.length i' with h' | h'
          · rw [List.getElem?_eq_none (by simp; omega)] at hi'
            cases hi'
          · omega
        omega
theorem TabQ.lt (h : TabQ w base a len cap ds es) : ∀ d ∈ es, ∀ b, blkD d = some b → b < w.heap.size := fun d hd b hb => ((h.leaf d hd).lt hb).2
/-- The outer row grew by an append. -/
theorem TabQ.push (h : TabQ w base a len cap ds es) {a' : Option Addr} {c' len' : Nat} {ds' : List LfD} (hown : OwnG cvD 88 1 w' base (.slice a' len' c') len' ds') (hg : w.grownBy w' (Value.slice a len cap).ownBlock) : TabQ w' base a' len' c' ds' es :=
  ⟨hown, fun d hd => (h.leaf d hd).kept hg fun k hk e => row_apart h.out (h.leaf d hd).1 (by decide) k e hk, h.apart⟩
/-- The first k leaves. -/
theorem TabQ.take (h : TabQ w base a len cap es es) (k : Nat) (hk : k ≤ len) : TabQ w base a k cap (es.take k) (es.take k) := by
  obtain ⟨⟨h1, h2⟩, h3, h4⟩ := h.out
  refine ⟨⟨⟨?_, ?_⟩, by rw [List.length_take]; omega, by omega⟩, fun d hd => h.leaf d (List.mem_of_mem_take hd), fun i j d d' hi hj => ?_⟩
  · rw [flat_len lf_rowed.len, List.length_take]
    omega
  · rcases h2 with ⟨e, e0⟩ | ⟨g, cap', cur, e, hb, hg, hn, hm, hs, ht⟩
    · cases e
      exact Or.inl ⟨by rw [show k = 0 by omega], by omega⟩
    · cases e
      refine Or.inr ⟨g, cap, cur, rfl, hb, hg, by omega, hm, hs, ?_⟩
      have e1 : ∀ (l : List LfD) (k : Nat), (l.take k).flatMap cvD = (l.flatMap cvD).take k := fun l => by
        induction l with
        | nil => intro k; simp
        | cons x r ih =>
          intro k
          cases k with
          | zero => rfl
          | succ k =>
            rw [List.take_succ_cons, List.flatMap_cons, ih, List.flatMap_cons]
            simp [cvD]
      rw [e1, ← ht, List.take_take, Nat.mul_one, Nat.mul_one, Nat.min_eq_left (by omega)]
  · rw [List.getElem?_take] at hi hj
    split at hi
    · split at hj
      · exact h.apart i j d d' hi hj
      · cases hj
    · cases hi
end
/-- Cells in the middle of a row of one's own. -/
theorem own_mid {α : Type} {cv : α → List Value} {sz : Nat} (hl : ∀ x, (cv x).length = sz) {e : TypeId} {w : World} {base n b c : Nat} {M M' : List α} (h : OwnG cv e sz w base (.slice (some ⟨b, 0, Option.none⟩) n c) n M) (o : Nat) (mid : List Value) (hM : M'.length = n)
    (he : M'.flatMap cv = (M.flatMap cv).take o ++ mid ++ (M.flatMap cv).drop (o + mid.length)) (ho : o + mid.length ≤ n * sz) :
    ∃ cur, w.heap[b]? = some (.cells cur e (0, 0)) ∧ o + mid.length ≤ cur.size ∧
      OwnG cv e sz (w.setRow b (cur.toList.take o ++ mid ++ cur.toList.drop (o + mid.length)).toArray) base (.slice (some ⟨b, 0, Option.none⟩) n c) n M' ∧
      w.grownBy (w.setRow b (cur.toList.take o ++ mid ++ cur.toList.drop (o + mid.length)).toArray) (some b) := by
  obtain ⟨⟨h1, h2⟩, h3, h4⟩ := h
  rcases h2 with ⟨e', _⟩ | ⟨g, cap, cur, e', hb, hg, hn, hm, hs, ht⟩
  · cases e'
  · cases e'
    have hcl : cur.toList.length = c * sz := by rw [Array.length_toList, hs]
    have hns : n * sz ≤ c * sz := Nat.mul_le_mul_right _ hn
    refine ⟨cur, hg, by rw [hs]; omega, ⟨⟨by rw [flat_len hl, hM], Or.inr ⟨b, c, _, rfl, hb, setRow_heap w b cur _ _ _ hg, hn, hm, ?_, ?_⟩⟩, hM, h4⟩, ⟨rfl, rfl, rfl, by simp [World.setRow], fun k _ hk => setRow_other w b k _ (fun e => hk (by rw [e]))⟩⟩
    · rw [List.size_toArray, List.length_append, List.length_append, List.length_take, List.length_drop, hcl]
      omega
    · rw [he, ← ht]
      show (cur.toList.take o ++ mid ++ cur.toList.drop (o + mid.length)).take (n * sz) = _
      rw [List.take_take, Nat.min_eq_left (by omega), List.drop_take, List.take_append, List.length_append, List.length_take, hcl, Nat.min_eq_left (by omega), List.take_of_length_le (by rw [List.length_append, List.length_take]; omega)]
end Go.Proofs.YtdffgnpldapciaaGreatDoor
