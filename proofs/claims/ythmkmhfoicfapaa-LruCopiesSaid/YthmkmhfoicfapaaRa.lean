/-
  The reference's cache in memory (layer 10): a block, a row of items, a row of pairs, the items' bytes; what stays when a part of it turns. Conditions: none.
-/
import Derived.Test.YthmkmhfoicfapaaLb
import Derived.Test.YthmkmhfoicfapaaMj
namespace Go.Proofs.Ythmkmhfoicfapaa
open Go.RowKit
set_option linter.unusedVariables false

/-- An item, and where its bytes lie. -/
abbrev RI := RIt × Option Addr × Nat × Nat
def riS (x : RI) : Value := .slice x.2.1 x.2.2.1 x.2.2.2
def riV (x : RI) : List Value := [.int .i64 x.1.key, riS x, .bool x.1.dirty]
def rlV (p : Int × Int) : List Value := [.int .i64 p.1, .int .i64 p.2]
theorem ri_rowed : Rowed Try.prog 65 86 3 40 riV where
  under := Try.underlying65
  info := by
    have h : (Try.prog.info? 86).map (fun i => (i.zero.map (fun z => z.cells.size), i.size, i.bytes)) = some (some 3, 3, 40) := by kernel_rfl
    obtain ⟨i, hi, he⟩ := Option.map_eq_some_iff.1 h
    simp only [Prod.mk.injEq] at he
    obtain ⟨z, hz, hzs⟩ := Option.map_eq_some_iff.1 he.1
    exact ⟨i, z, hi, hz, he.2.1, he.2.2, hzs⟩
  pos := by decide
  small := by decide
  len := fun _ => rfl
  one := fun x u hu => by
    simp only [riV, riS, List.mem_cons, List.not_mem_nil, or_false] at hu
    rcases hu with rfl | rfl | rfl <;> rfl
theorem rl_rowed : Rowed Try.prog 66 91 2 16 rlV where
  under := Try.underlying66
  info := by
    have h : (Try.prog.info? 91).map (fun i => (i.zero.map (fun z => z.cells.size), i.size, i.bytes)) = some (some 2, 2, 16) := by kernel_rfl
    obtain ⟨i, hi, he⟩ := Option.map_eq_some_iff.1 h
    simp only [Prod.mk.injEq] at he
    obtain ⟨z, hz, hzs⟩ := Option.map_eq_some_iff.1 he.1
    exact ⟨i, z, hi, hz, he.2.1, he.2.2, hzs⟩
  pos := by decide
  small := by decide
  len := fun _ => rfl
  one := fun x u hu => by
    simp only [rlV, List.mem_cons, List.not_mem_nil, or_false] at hu
    rcases hu with rfl | rfl <;> rfl
theorem ri_size : (Try.prog.info? 86).map (·.size) = some 3 := by kernel_rfl
theorem rl_size : (Try.prog.info? 91).map (·.size) = some 2 := by kernel_rfl
/-- A cell of an element turned. -/
theorem flat_cell {α : Type} {cv : α → List Value} {sz : Nat} (hc : ∀ x, (cv x).length = sz) (j : Nat) (v : Value) : ∀ (l : List α) (i : Nat) (x x' : α), l[i]? = some x → j < sz → cv x' = (cv x).set j v → (l.set i x').flatMap cv = (l.flatMap cv).set (i * sz + j) v
  | [], i, _, _, h, _, _ => by simp at h
  | y :: r, 0, x, x', h, hj, hx => by
    simp at h
    subst h
    rw [List.set_cons_zero, List.flatMap_cons, List.flatMap_cons, Nat.zero_mul, Nat.zero_add, hx, List.set_append_left _ _ (by rw [hc]; exact hj)]
  | y :: r, i + 1, x, x', h, hj, hx => by
    rw [List.getElem?_cons_succ] at h
    rw [List.set_cons_succ, List.flatMap_cons, List.flatMap_cons, flat_cell hc j v r i x x' h hj hx, List.set_append_right _ _ (by rw [hc, Nat.succ_mul]; omega), hc]
    congr 2
    rw [Nat.succ_mul]
    omega
theorem OwnG.cellSet {α : Type} {cv : α → List Value} {e : TypeId} {sz : Nat} (hc : ∀ x, (cv x).length = sz) {w : World} {base b n c : Nat} {l : List α} (h : OwnG cv e sz w base (.slice (some ⟨b, 0, Option.none⟩) n c) n l) {i j : Nat} {x x' : α} {v : Value} (hi : l[i]? = some x) (hj : j < sz) (hx : cv x' = (cv x).set j v) :
    OwnG cv e sz (w.setCell ⟨b, i * sz + j, Option.none⟩ v) base (.slice (some ⟨b, 0, Option.none⟩) n c) n (l.set i x') := by
  refine ⟨?_, by rw [List.length_set]; exact h.2.1, h.2.2⟩
  rw [flat_cell hc j v l i x x' hi hj hx]
  exact (h.1.stored _ _).1
/-- The cache at block B tells D. -/
structure RcIn (w : World) (B : Nat) (D : RC) (vL vR : Value) (LM : List RI) : Prop where
  blk : Blk w B 68 #[.int .i64 D.room, vL, vR]
  row : OwnG riV 86 3 w 0 vL LM.length LM
  rel : OwnG rlV 91 2 w 0 vR D.rels.length D.rels
  its : LM.map (fun x => x.1) = D.items
  bys : ∀ x ∈ LM, Own w 0 (riS x) x.1.bs.length x.1.bs
  keys : (D.items.map RIt.key).Nodup
  few : D.items.length ≤ 1100 ∧ D.rels.length ≤ 100000
/-- Its blocks. -/
def rcS (B : Nat) (vL vR : Value) (LM : List RI) : Nat → Prop := fun k => k = B ∨ vL.ownBlock = some k ∨ vR.ownBlock = some k ∨ ∃ x ∈ LM, (riS x).ownBlock = some k
section
variable {w w' : World} {B : Nat} {D : RC} {vL vR : Value} {LM : List RI}
theorem RcIn.lt (h : RcIn w B D vL vR LM) : ∀ k, rcS B vL vR LM k → k < w.heap.size := fun k hk => by
  rcases hk with rfl | hk | hk | ⟨x, hx, hk⟩
  · exact h.blk.lt
  · exact (h.row.1.lt k hk).2
  · exact (h.rel.1.lt k hk).2
  · exact (h.bys x hx).lt hk
theorem RcIn.frame (h : RcIn w B D vL vR LM) (hb : ∀ k, rcS B vL vR LM k → w'.heap[k]? = w.heap[k]?) : RcIn w' B D vL vR LM :=
  ⟨(hb B (Or.inl rfl)).trans h.blk, h.row.frame fun k hk => hb k (Or.inr (Or.inl hk)), h.rel.frame fun k hk => hb k (Or.inr (Or.inr (Or.inl hk))), h.its, fun x hx => (h.bys x hx).frame fun k hk => hb k (Or.inr (Or.inr (Or.inr ⟨x, hx, hk⟩))), h.keys, h.few⟩
theorem RcIn.later (h : RcIn w B D vL vR LM) (hb : Below w.heap.size w w') : RcIn w' B D vL vR LM := h.frame fun k hk => hb.block k (h.lt k hk)
theorem RcIn.low {base : Nat} (h : RcIn w B D vL vR LM) (hS : ∀ k, rcS B vL vR LM k → k < base) (hb : Below base w w') : RcIn w' B D vL vR LM := h.frame fun k hk => hb.block k (hS k hk)
theorem RcIn.len (h : RcIn w B D vL vR LM) : LM.length = D.items.length := by rw [← h.its, List.length_map]
theorem RcIn.many (h : RcIn w B D vL vR LM) : LM.length ≤ 1100 := by rw [h.len]; exact h.few.1
theorem RcIn.c0 (h : RcIn w B D vL vR LM) : w.cell? ⟨B, 0, none⟩ = some (.int .i64 D.room) := by rw [h.blk.cell]; rfl
theorem RcIn.c1 (h : RcIn w B D vL vR LM) : w.cell? ⟨B, 1, none⟩ = some vL := by rw [h.blk.cell]; rfl
theorem RcIn.c2 (h : RcIn w B D vL vR LM) : w.cell? ⟨B, 2, none⟩ = some vR := by rw [h.blk.cell]; rfl
theorem RcIn.lB (h : RcIn w B D vL vR LM) : vL.ownBlock ≠ some B := fun e => Blk.not_row h.blk (by decide) h.row e.symm
theorem RcIn.rB (h : RcIn w B D vL vR LM) : vR.ownBlock ≠ some B := fun e => Blk.not_row h.blk (by decide) h.rel e.symm
theorem RcIn.bB (h : RcIn w B D vL vR LM) {x : RI} (hx : x ∈ LM) : (riS x).ownBlock ≠ some B := Blk.not_own h.blk (by decide) (h.bys x hx)
end
theorem row_apart {α β : Type} {cv : α → List Value} {cv' : β → List Value} {e e' : TypeId} {sz sz' : Nat} {w : World} {base base' : Nat} {v v' : Value} {n n' : Nat} {l : List α} {l' : List β} (h : OwnG cv e sz w base v n l) (h' : OwnG cv' e' sz' w base' v' n' l') (hne : e ≠ e') (b : Nat) (hb : v.ownBlock = some b) : v'.ownBlock ≠ some b := fun e2 => by
  rcases h.1.2 with ⟨rfl, _⟩ | ⟨g, cap, cur, rfl, _, hgb, _⟩
  · cases hb
  · obtain rfl : g = b := by simpa [Value.ownBlock] using hb
    exact Blk.not_row (show Blk w g e cur from hgb) hne h' e2.symm
/-- What a call on the cache leaves. -/
def Turn (B : Nat) (D' : RC) (S : Nat → Prop) (w w' : World) : Prop := ∃ vL vR LM, RcIn w' B D' vL vR LM ∧ Away S w (rcS B vL vR LM) w'
theorem Turn.trans {B : Nat} {D2 : RC} {S : Nat → Prop} {w w1 w2 : World} {vL vR : Value} {LM : List RI} (h : Away S w (rcS B vL vR LM) w1) (k : Turn B D2 (rcS B vL vR LM) w1 w2) : Turn B D2 S w w2 := by
  obtain ⟨a, b, c, h1, h2⟩ := k
  exact ⟨a, b, c, h1, h.trans h2⟩
/-- Another list of items is stored. -/
theorem RcIn.storeL {w w' : World} {B : Nat} {D : RC} {vL vR vL' : Value} {LM LM' : List RI} (h : RcIn w B D vL vR LM) (hb : Below w.heap.size w w') (ho : OwnG riV 86 3 w' w.heap.size vL' LM'.length LM') (hm : ∀ x ∈ LM', x ∈ LM) (hk : (LM'.map fun x => x.1.key).Nodup) (hl : LM'.length ≤ 1100) :
    RcIn (w'.setCell ⟨B, 1, none⟩ vL') B ⟨D.room, LM'.map (fun x => x.1), D.rels⟩ vL' vR LM' ∧ Away (rcS B vL vR LM) w (rcS B vL' vR LM') (w'.setCell ⟨B, 1, none⟩ vL') := by
  have hoth : ∀ k, k ≠ B → (w'.setCell ⟨B, 1, none⟩ vL').heap[k]? = w'.heap[k]? := fun k hk => Below.heap_setCell w' ⟨B, 1, none⟩ vL' k hk
  have h' := h.later hb
  have ha : Away (rcS B vL vR LM) w (rcS B vL vR LM) (w'.setCell ⟨B, 1, none⟩ vL') := (Away.of_below hb).set (Or.inl rfl) 1 vL'
  refine ⟨⟨h'.blk.set 1 vL', ?_, ?_, rfl, fun x hx => ?_, by rw [List.map_map]; exact hk, by show (LM'.map _).length ≤ 1100; rw [List.length_map]; exact hl, h.few.2⟩, ha.os, ha.tape, ha.output, ha.size, ha.block, fun k hk => ?_⟩
  · exact (ho.rebase (Nat.zero_le _)).frame fun k hk => hoth k fun e => by
      have := (ho.1.lt k hk).1
      have := h.blk.lt
      omega
  · exact h'.rel.frame fun k hk => hoth k fun e => h'.rB (e ▸ hk)
  · exact (h'.bys x (hm x hx)).frame fun k hk => hoth k fun e => h'.bB (hm x hx) (e ▸ hk)
  · rcases hk with rfl | hk | hk | ⟨x, hx, hk⟩
    · exact Or.inl (Or.inl rfl)
    · exact Or.inr (ho.1.lt k hk).1
    · exact Or.inl (Or.inr (Or.inr (Or.inl hk)))
    · exact Or.inl (Or.inr (Or.inr (Or.inr ⟨x, hm x hx, hk⟩)))
/-- Another list of pairs is stored. -/
theorem RcIn.storeR {w w' : World} {B : Nat} {D : RC} {vL vR vR' : Value} {LM : List RI} {R' : List (Int × Int)} (h : RcIn w B D vL vR LM) {row : Option Nat} (hg : w.grownBy w' row) (hr : ∀ k, row = some k → vR.ownBlock = some k) (ho : OwnG rlV 91 2 w' 0 vR' R'.length R') (hv : vR'.ownBlock = vR.ownBlock ∨ ∀ k, vR'.ownBlock = some k → w.heap.size ≤ k) (hl : R'.length ≤ 100000) :
    RcIn (w'.setCell ⟨B, 2, none⟩ vR') B ⟨D.room, D.items, R'⟩ vL vR' LM ∧ Away (rcS B vL vR LM) w (rcS B vL vR' LM) (w'.setCell ⟨B, 2, none⟩ vR') := by
  have hoth : ∀ k, k ≠ B → (w'.setCell ⟨B, 2, none⟩ vR').heap[k]? = w'.heap[k]? := fun k hk => Below.heap_setCell w' ⟨B, 2, none⟩ vR' k hk
  have hB' : Blk w' B 68 #[.int .i64 D.room, vL, vR] := h.blk.kept hg fun e => h.rB (hr B e.symm)
  have hL' : OwnG riV 86 3 w' 0 vL LM.length LM := h.row.kept' hg fun k hk e => row_apart h.row h.rel (by decide) k hk (hr k e)
  have hb' : ∀ x ∈ LM, Own w' 0 (riS x) x.1.bs.length x.1.bs := fun x hx => (h.bys x hx).frame fun k hk => hg.block k ((h.bys x hx).lt hk) fun e => OwnG.not_own h.rel (by decide) (h.bys x hx) hk (hr k e.symm)
  have ha : Away (rcS B vL vR LM) w (rcS B vL vR LM) (w'.setCell ⟨B, 2, none⟩ vR') := ((Away.refl (rcS B vL vR LM) w).grown hg fun k e => Or.inl (Or.inr (Or.inr (Or.inl (hr k e))))).set (Or.inl rfl) 2 vR'
  refine ⟨⟨hB'.set 2 vR', ?_, ?_, h.its, fun x hx => ?_, h.keys, h.few.1, hl⟩, ha.os, ha.tape, ha.output, ha.size, ha.block, fun k hk => ?_⟩
  · exact hL'.frame fun k hk => hoth k fun e => h.lB (e ▸ hk)
  · exact ho.frame fun k hk => hoth k fun e => by
      subst e
      exact Blk.not_row hB' (by decide) ho hk.symm
  · exact (hb' x hx).frame fun k hk => hoth k fun e => h.bB hx (e ▸ hk)
  · rcases hk with rfl | hk | hk | hk
    · exact Or.inl (Or.inl rfl)
    · exact Or.inl (Or.inr (Or.inl hk))
    · rcases hv with e | e
      · exact Or.inl (Or.inr (Or.inr (Or.inl (e ▸ hk))))
      · exact Or.inr (e k hk)
    · exact Or.inl (Or.inr (Or.inr (Or.inr hk)))
/-- A cell of an item is turned. -/
theorem RcIn.setI {w w' : World} {B b n c i j : Nat} {D : RC} {vR v : Value} {LM : List RI} {x x' : RI} (h : RcIn w B D (.slice (some ⟨b, 0, none⟩) n c) vR LM) (hb : Below w.heap.size w w') (hn : LM.length = n) (hi : LM[i]? = some x) (hj : j < 3) (hx : riV x' = (riV x).set j v) (hkey : x'.1.key = x.1.key)
    (ho : Own w' 0 (riS x') x'.1.bs.length x'.1.bs) (hv : riS x' = riS x ∨ ∀ k, (riS x').ownBlock = some k → w.heap.size ≤ k) :
    RcIn (w'.setCell ⟨b, i * 3 + j, none⟩ v) B ⟨D.room, D.items.set i x'.1, D.rels⟩ (.slice (some ⟨b, 0, none⟩) n c) vR (LM.set i x') ∧ Away (rcS B (.slice (some ⟨b, 0, none⟩) n c) vR LM) w (rcS B (.slice (some ⟨b, 0, none⟩) n c) vR (LM.set i x')) (w'.setCell ⟨b, i * 3 + j, none⟩ v) := by
  have h' := h.later hb
  have hoth : ∀ k, k ≠ b → (w'.setCell ⟨b, i * 3 + j, none⟩ v).heap[k]? = w'.heap[k]? := fun k hk => Below.heap_setCell w' ⟨b, i * 3 + j, none⟩ v k hk
  have hxm : x ∈ LM := List.mem_of_getElem? hi
  have hob : (Value.slice (some ⟨b, 0, none⟩) n c).ownBlock = some b := rfl
  have hlt : i < LM.length := (List.getElem?_eq_some_iff.1 hi).1
  have ha : Away (rcS B (.slice (some ⟨b, 0, none⟩) n c) vR LM) w (rcS B (.slice (some ⟨b, 0, none⟩) n c) vR LM) (w'.setCell ⟨b, i * 3 + j, none⟩ v) := (Away.of_below hb).set (Or.inr (Or.inl hob)) _ v
  have hrow : OwnG riV 86 3 w' 0 (.slice (some ⟨b, 0, none⟩) n c) n LM := by have := h'.row; rwa [hn] at this
  refine ⟨⟨(hoth B fun e => h.lB (by rw [e]; rfl)).trans h'.blk, ?_, ?_, ?_, fun y hy => ?_, ?_, ?_, h.few.2⟩, ha.os, ha.tape, ha.output, ha.size, ha.block, fun k hk => ?_⟩
  · rw [List.length_set, hn]
    exact hrow.cellSet ri_rowed.len hi hj hx
  · exact h'.rel.frame fun k hk => hoth k fun e => by
      subst e
      exact row_apart h'.rel h'.row (by decide) k hk rfl
  · rw [List.map_set, h.its]
  · have hoB : ∀ z : RI, Own w' 0 (riS z) z.1.bs.length z.1.bs → Own (w'.setCell ⟨b, i * 3 + j, none⟩ v) 0 (riS z) z.1.bs.length z.1.bs := fun z hz => hz.frame fun k hk => hoth k fun e => by
      subst e
      exact OwnG.not_own h'.row (by decide) hz hk rfl
    rcases List.mem_or_eq_of_mem_set hy with hy | rfl
    · exact hoB y (h'.bys y hy)
    · exact hoB _ ho
  · show ((D.items.set i x'.1).map RIt.key).Nodup
    have : (D.items.set i x'.1).map RIt.key = D.items.map RIt.key := by
      rw [List.map_set]
      refine List.ext_getElem? fun q => ?_
      rw [List.getElem?_set]
      by_cases hq : i = q
      · subst hq
        rw [if_pos rfl, List.length_map, ← h.len, if_pos hlt, List.getElem?_map, ← h.its, List.getElem?_map, hi]
        simp [hkey]
      · rw [if_neg hq]
    rw [this]
    exact h.keys
  · show (D.items.set i x'.1).length ≤ 1100
    rw [List.length_set]
    exact h.few.1
  · rcases hk with rfl | hk | hk | ⟨y, hy, hk⟩
    · exact Or.inl (Or.inl rfl)
    · exact Or.inl (Or.inr (Or.inl hk))
    · exact Or.inl (Or.inr (Or.inr (Or.inl hk)))
    · rcases List.mem_or_eq_of_mem_set hy with hy | rfl
      · exact Or.inl (Or.inr (Or.inr (Or.inr ⟨y, hy, hk⟩)))
      · rcases hv with e | e
        · exact Or.inl (Or.inr (Or.inr (Or.inr ⟨x, hxm, e ▸ hk⟩)))
        · exact Or.inr (e k hk)
end Go.Proofs.Ythmkmhfoicfapaa
