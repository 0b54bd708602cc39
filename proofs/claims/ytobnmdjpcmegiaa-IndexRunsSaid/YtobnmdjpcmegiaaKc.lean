/-
  What a call leaves (Away); an index in memory: a block, a row of pairs (layer 11). Conditions: none.
-/
import Derived.Test.YtobnmdjpcmegiaaKa
namespace Go.Proofs.Ytobnmdjpcmegiaa
open Go.RowKit
set_option linter.unusedVariables false

theorem Own.lt {w : World} {base : Nat} {v : Value} {n : Nat} {xs : List Int} (h : Own w base v n xs) {k : Nat} (hk : v.ownBlock = some k) : k < w.heap.size := (h.1.lt k hk).2
theorem ownsRow_frame {w w' : World} {base : Nat} {e : TypeId} {sz : Nat} {v : Value} {n : Nat} {xs : List Value} (h : w.ownsRow base e sz v n xs) (hb : ∀ k, v.ownBlock = some k → w'.heap[k]? = w.heap[k]?) : w'.ownsRow base e sz v n xs := by
  refine ⟨h.1, ?_⟩
  rcases h.2 with h2 | ⟨g, cap, cur, rfl, h3, h4, h5⟩
  · exact Or.inl h2
  · exact Or.inr ⟨g, cap, cur, rfl, h3, (hb g rfl).trans h4, h5⟩
theorem Own.frame {w w' : World} {base : Nat} {v : Value} {n : Nat} {xs : List Int} (h : Own w base v n xs) (hb : ∀ k, v.ownBlock = some k → w'.heap[k]? = w.heap[k]?) : Own w' base v n xs := ⟨ownsRow_frame h.1 hb, h.2⟩
theorem OwnG.frame {α : Type} {cv : α → List Value} {e : TypeId} {sz : Nat} {w w' : World} {base n : Nat} {v : Value} {l : List α} (h : OwnG cv e sz w base v n l) (hb : ∀ k, v.ownBlock = some k → w'.heap[k]? = w.heap[k]?) : OwnG cv e sz w' base v n l := ⟨ownsRow_frame h.1 hb, h.2⟩
theorem OwnG.rebase {α : Type} {cv : α → List Value} {e : TypeId} {sz : Nat} {w : World} {base base' n : Nat} {v : Value} {l : List α} (h : OwnG cv e sz w base v n l) (hb : base' ≤ base) : OwnG cv e sz w base' v n l := by
  refine ⟨⟨h.1.1, ?_⟩, h.2⟩
  rcases h.1.2 with e | ⟨g, cap, cur, e, e1, e2⟩
  · exact Or.inl e
  · exact Or.inr ⟨g, cap, cur, e, by omega, e2⟩
theorem Own.rebase {w : World} {base base' : Nat} {v : Value} {n : Nat} {xs : List Int} (h : Own w base v n xs) (hb : base' ≤ base) : Own w base' v n xs := by
  refine ⟨⟨h.1.1, ?_⟩, h.2⟩
  rcases h.1.2 with e | ⟨g, cap, cur, e, e1, e2⟩
  · exact Or.inl e
  · exact Or.inr ⟨g, cap, cur, e, by omega, e2⟩
/-- What a call leaves: blocks that are not its own stay; its own are old ones of its own, or new. -/
structure Away (S : Nat → Prop) (w : World) (S' : Nat → Prop) (w' : World) : Prop where
  os : w'.os = w.os
  tape : w'.tape = w.tape
  output : w'.output = w.output
  size : w.heap.size ≤ w'.heap.size
  block : ∀ k, k < w.heap.size → ¬ S k → w'.heap[k]? = w.heap[k]?
  mine : ∀ k, S' k → S k ∨ w.heap.size ≤ k
theorem Away.refl (S : Nat → Prop) (w : World) : Away S w S w := ⟨rfl, rfl, rfl, Nat.le_refl _, fun _ _ _ => rfl, fun _ h => Or.inl h⟩
theorem Away.trans {S S1 S2 : Nat → Prop} {w w1 w2 : World} (h : Away S w S1 w1) (k : Away S1 w1 S2 w2) : Away S w S2 w2 :=
  ⟨k.os.trans h.os, k.tape.trans h.tape, k.output.trans h.output, Nat.le_trans h.size k.size, fun i hi hs => (k.block i (Nat.lt_of_lt_of_le hi h.size) (fun h1 => by
    rcases h.mine i h1 with h2 | h2
    · exact hs h2
    · omega)).trans (h.block i hi hs), fun i hi => by
    rcases k.mine i hi with h1 | h1
    · exact h.mine i h1
    · exact Or.inr (Nat.le_trans h.size h1)⟩
theorem Away.far {S S' : Nat → Prop} {w w' : World} (ha : Away S w S' w') {B : Nat} (hB : B < w.heap.size) (h : ¬ S B) : ¬ S' B := fun h' => by
  rcases ha.mine B h' with h1 | h1
  · exact h h1
  · omega
theorem Away.grown {S : Nat → Prop} {w0 w w' : World} {row : Option Nat} (ha : Away S w0 S w) (hg : w.grownBy w' row) (hr : ∀ k, row = some k → S k ∨ w0.heap.size ≤ k) : Away S w0 S w' :=
  ⟨hg.os.trans ha.os, hg.tape.trans ha.tape, hg.output.trans ha.output, Nat.le_trans ha.size hg.size, fun k hk hS => (hg.block k (Nat.lt_of_lt_of_le hk ha.size) (fun e => by
    rcases hr k e.symm with h | h
    · exact hS h
    · omega)).trans (ha.block k hk hS), fun _ h => Or.inl h⟩
theorem Away.later {S : Nat → Prop} {w0 w w' : World} (ha : Away S w0 S w) (hb : Below w.heap.size w w') : Away S w0 S w' := ha.grown (grown_of_below hb) (fun _ e => by cases e)
theorem Away.later' {S S' : Nat → Prop} {w0 w w' : World} (ha : Away S w0 S' w) (hS : ∀ k, S' k → k < w.heap.size) (hb : Below w.heap.size w w') : Away S w0 S' w' :=
  ⟨hb.os.trans ha.os, hb.tape.trans ha.tape, hb.output.trans ha.output, Nat.le_trans ha.size hb.size, fun k hk h => (hb.block k (Nat.lt_of_lt_of_le hk ha.size)).trans (ha.block k hk h), ha.mine⟩
theorem Away.set {S : Nat → Prop} {w0 w : World} (ha : Away S w0 S w) {B : Nat} (hB : S B) (i : Nat) (v : Value) : Away S w0 S (w.setCell ⟨B, i, none⟩ v) := ha.grown (grownBy_setCell4 w B i v) fun k e => by cases e; exact Or.inl hB
theorem Away.of_below {S : Nat → Prop} {w w' : World} (hb : Below w.heap.size w w') : Away S w S w' := (Away.refl S w).later hb
theorem Blk.away {S S' : Nat → Prop} {w w' : World} {B : Nat} {t : TypeId} {cs : Array Value} (h : Blk w B t cs) (hS : ¬ S B) (ha : Away S w S' w') : Blk w' B t cs := (ha.block B h.lt hS).trans h
theorem grown_past {w w1 w2 : World} {v : Value} (h1 : Below w.heap.size w w1) (h2 : w1.grownBy w2 v.ownBlock) : w.grownBy w2 v.ownBlock :=
  ⟨h2.os.trans h1.os, h2.tape.trans h1.tape, h2.output.trans h1.output, Nat.le_trans h1.size h2.size, fun k hk hne => (h2.block k (Nat.lt_of_lt_of_le hk h1.size) hne).trans (h1.block k hk)⟩
theorem undrew {w w' : World} {row : Option Nat} (h : w.drew.grownBy w' row) : w.grownBy w' row := ⟨h.os, h.tape, h.output, h.size, h.block⟩
theorem grown_then {w w1 w2 : World} {row : Option Nat} {g : Nat} (h1 : w.grownBy w1 row) (h2 : w1.grownBy w2 (some g)) (hg : row = some g ∨ w.heap.size ≤ g) : w.grownBy w2 row :=
  ⟨h2.os.trans h1.os, h2.tape.trans h1.tape, h2.output.trans h1.output, Nat.le_trans h1.size h2.size, fun k hk hne => (h2.block k (Nat.lt_of_lt_of_le hk h1.size) (fun e => by
    cases e
    rcases hg with e | e
    · exact hne e.symm
    · omega)).trans (h1.block k hk hne)⟩
/-- The index at block B tells L; its own blocks are those of S. -/
structure Ix (tb te : TypeId) (cf : Value → Int → Array Value) (w0 : World) (B : Nat) (L : List Pr) (S : Nat → Prop) (w : World) : Prop where
  at' : ∃ v fd, Blk w B tb (cf v fd) ∧ OwnG pvV te 6 w 0 v L.length L ∧ ∀ k, S k ↔ (k = B ∨ v.ownBlock = some k)
  ok : XOk L
  low : ∀ k, S k → w0.heap.size ≤ k
  below : Below w0.heap.size w0 w
def cfP (v : Value) (fd : Int) : Array Value := #[v, .int .u64 fd]
def cfR (v : Value) (_ : Int) : Array Value := #[v]
abbrev IxP := Ix 55 59 cfP
abbrev IxR := Ix 30 66 cfR
section
variable {tb te : TypeId} {cf : Value → Int → Array Value} {w0 w w' : World} {B : Nat} {L : List Pr} {S : Nat → Prop}
theorem Ix.lt (h : Ix tb te cf w0 B L S w) : ∀ k, S k → k < w.heap.size := fun k hk => by
  obtain ⟨v, fd, hb, ho, hs⟩ := h.at'
  rcases (hs k).1 hk with rfl | h1
  · exact hb.lt
  · exact (ho.1.lt k h1).2
theorem Ix.frame (h : Ix tb te cf w0 B L S w) (hb : ∀ k, S k → w'.heap[k]? = w.heap[k]?) (hbel : Below w0.heap.size w0 w') : Ix tb te cf w0 B L S w' := by
  obtain ⟨v, fd, h1, h2, h3⟩ := h.at'
  exact ⟨⟨v, fd, (hb B ((h3 B).2 (Or.inl rfl))).trans h1, h2.frame fun k hk => hb k ((h3 k).2 (Or.inr hk)), h3⟩, h.ok, h.low, hbel⟩
theorem Ix.later (h : Ix tb te cf w0 B L S w) (hb : Below w.heap.size w w') : Ix tb te cf w0 B L S w' :=
  h.frame (fun k hk => hb.block k (h.lt k hk)) (h.below.trans (hb.mono h.below.size))
theorem Ix.alloc (h : Ix tb te cf w0 B L S w) (o : Obj) : Ix tb te cf w0 B L S (w.alloc o) := h.later ((Below.refl _ _).alloc (Nat.le_refl _) o)
theorem Ix.drew (h : Ix tb te cf w0 B L S w) : Ix tb te cf w0 B L S w.drew := h.later (Below.refl _ _).drew
/-- What is away from T stays. -/
theorem Away.below {T T' : Nat → Prop} {w0 w w' : World} (ha : Away T w T' w') (hl : ∀ k, T k → w0.heap.size ≤ k) (hb : Below w0.heap.size w0 w) : Below w0.heap.size w0 w' :=
  hb.trans ⟨ha.os, ha.tape, ha.output, ha.size, fun k hk => ha.block k (Nat.lt_of_lt_of_le hk hb.size) fun hS => by have := hl k hS; omega⟩
theorem Ix.away {T T' : Nat → Prop} (h : Ix tb te cf w0 B L S w) (ha : Away T w T' w') (hT : ∀ k, S k → ¬ T k) (hl : ∀ k, T k → w0.heap.size ≤ k) : Ix tb te cf w0 B L S w' :=
  h.frame (fun k hk => ha.block k (h.lt k hk) (hT k hk)) (ha.below hl h.below)
/-- The index anew. -/
theorem Ix.next {L' : List Pr} {v v' : Value} {fd' : Int} (h : Ix tb te cf w0 B L S w) (ha : Away S w S w') (hS : ∀ k, S k ↔ (k = B ∨ v.ownBlock = some k)) (hb : Blk w' B tb (cf v' fd')) (ho : OwnG pvV te 6 w' 0 v' L'.length L') (hok : XOk L') (hv : ∀ k, v'.ownBlock = some k → S k ∨ w.heap.size ≤ k) :
    ∃ S', Ix tb te cf w0 B L' S' w' ∧ Away S w S' w' := by
  refine ⟨fun k => k = B ∨ v'.ownBlock = some k, ⟨⟨v', fd', hb, ho, fun _ => Iff.rfl⟩, hok, fun k hk => ?_, ha.below h.low h.below⟩, ha.os, ha.tape, ha.output, ha.size, ha.block, fun k hk => ?_⟩
  · rcases hk with rfl | hk
    · exact h.low _ ((hS _).2 (Or.inl rfl))
    · rcases hv k hk with h1 | h1
      · exact h.low k h1
      · exact Nat.le_trans h.below.size h1
  · rcases hk with rfl | hk
    · exact Or.inl ((hS _).2 (Or.inl rfl))
    · exact hv k hk
end
theorem step_append_g {α : Type} {P : Program} {t e : TypeId} {sz bytes : Nat} {cv : α → List Value} (R : Rowed P t e sz bytes cv) {ops : Array Oper} {o : Oper} {a : Act} {w : World} {K : Act → World → Prop} {Q : Exit → Act → World → Prop} {E : Prop} (hgd : o.guard = Option.none) (s x : Operand)
    (ho : o.op = .call { callee := .builtin .append, args := #[s, x], argTypes := #[t, t] }) (base : Nat) (v : Value) (n : Nat) (xs : List α) (hs : a.eval s = v) (hown : OwnG cv e sz w base v n xs)
    (ao : Option Addr) (m c : Nat) (l : List α) (hx : a.eval x = .slice ao m c) (hnil : ao = Option.none → c = 0) (hB : Reads cv w ao m l) (hn : n + m ≤ 10000000) (hbase : base ≤ w.heap.size)
    (h : ∀ a' c' w', OwnG cv e sz w' base (.slice a' (n + m) c') (n + m) (xs ++ l) → w.grownBy w' v.ownBlock → ((Value.slice a' (n + m) c').ownBlock = v.ownBlock ∨ (Value.slice a' (n + m) c').ownBlock = some w.heap.size) → K (a.put o.dst (.slice a' (n + m) c')) w') :
    if Region.wanted o (yielded ops a.tmps) = true then Oper.wp P o a w K Q else E := by
  have hw : Region.wanted o (yielded ops a.tmps) = true := by simp [Region.wanted, hgd]
  rw [if_pos hw]
  exact wp_append_lg R s x ho base v n xs hs hown ao m c l hx hnil hB hn hbase h
theorem blk_range {w : World} {B : Nat} {t : TypeId} {l : List Value} (h : Blk w B t l.toArray) : w.rangeAt B 0 l := fun i v hv => by
  rw [Nat.zero_add, h.cell]
  simpa using hv
theorem blk_range1 {w : World} {B : Nat} {t : TypeId} {u : Value} {l : List Value} (h : Blk w B t (u :: l).toArray) : w.rangeAt B 1 l := fun i v hv => by
  rw [h.cell]
  simpa [Nat.add_comm] using hv
theorem pr_range {w : World} {te : TypeId} {base b n c : Nat} {L : List Pr} (h : OwnG pvV te 6 w base (.slice (some ⟨b, 0, none⟩) n c) n L) (j : Nat) (r : Pr) (hj : L[j]? = some r) : w.rangeAt b (j * 6) (pvV r) := fun i v hv => by
  rcases h.1.2 with ⟨e, _⟩ | ⟨g, cap, cur, e, hb, hg, hn, hm, hs, ht⟩
  · cases e
  · cases e
    have hlt : j < n := by rw [← h.2.1]; exact (List.getElem?_eq_some_iff.1 hj).1
    have hi6 : i < 6 := by have := (List.getElem?_eq_some_iff.1 hv).1; rwa [pvV_len] at this
    have hv2 : (L.flatMap pvV)[j * 6 + i]? = some v := (flat_at pvV_len L j i r hj hi6).trans hv
    rw [cell_of_row w b (j * 6 + i) cur te (0, 0) hg]
    have : (cur.toList.take (n * 6))[j * 6 + i]? = some v := by rw [ht]; exact hv2
    rw [List.getElem?_take, if_pos (by omega)] at this
    simpa using this
end Go.Proofs.Ytobnmdjpcmegiaa
