/-
  The reference's cache (layer 10): what Put turns. Conditions: the cache as it lies.
-/
import Derived.Test.YthmkmhfoicfapaaRk
import Derived.Test.YthmkmhfoicfapaaLr
import Derived.Deep.RegionHeld3
import Derived.Deep.QuietTactic
namespace Go.Proofs.Ythmkmhfoicfapaa
open Go.RowKit
set_option linter.unusedVariables false

/-- A new item behind all others. -/
theorem RcIn.push {w w' : World} {B m c' : Nat} {D : RC} {vL vR : Value} {LM : List RI} {a' : Option Addr} {k : Int} (h : RcIn w B D vL vR LM) (hg : w.grownBy w' vL.ownBlock) (hn : LM.length = m) (ho : OwnG riV 86 3 w' 0 (.slice a' (m + 1) c') (m + 1) (LM ++ [(⟨k, [], false⟩, none, 0, 0)]))
    (hv : (Value.slice a' (m + 1) c').ownBlock = vL.ownBlock ∨ ∀ j, (Value.slice a' (m + 1) c').ownBlock = some j → w.heap.size ≤ j) (hk : ∀ y ∈ LM, y.1.key ≠ k) (hl : m + 1 ≤ 1100) :
    RcIn (w'.setCell ⟨B, 1, none⟩ (.slice a' (m + 1) c')) B ⟨D.room, D.items ++ [⟨k, [], false⟩], D.rels⟩ (.slice a' (m + 1) c') vR (LM ++ [(⟨k, [], false⟩, none, 0, 0)]) ∧
      Away (rcS B vL vR LM) w (rcS B (.slice a' (m + 1) c') vR (LM ++ [(⟨k, [], false⟩, none, 0, 0)])) (w'.setCell ⟨B, 1, none⟩ (.slice a' (m + 1) c')) := by
  obtain ⟨vL', hvL'⟩ := named (Value.slice a' (m + 1) c')
  rw [hvL'.out] at ho hv ⊢
  have hoth : ∀ j, j ≠ B → (w'.setCell ⟨B, 1, none⟩ vL').heap[j]? = w'.heap[j]? := fun j hj => Below.heap_setCell w' ⟨B, 1, none⟩ vL' j hj
  have hB' : Blk w' B 68 #[.int .i64 D.room, vL, vR] := h.blk.kept hg fun e => h.lB e.symm
  have hR' : OwnG rlV 91 2 w' 0 vR D.rels.length D.rels := h.rel.kept' hg fun j hj => row_apart h.rel h.row (by decide) j hj
  have hb' : ∀ y ∈ LM, Own w' 0 (riS y) y.1.bs.length y.1.bs := fun y hy => (h.bys y hy).frame fun j hj => hg.block j ((h.bys y hy).lt hj) fun e => OwnG.not_own h.row (by decide) (h.bys y hy) hj e.symm
  have ha : Away (rcS B vL vR LM) w (rcS B vL vR LM) (w'.setCell ⟨B, 1, none⟩ vL') := ((Away.refl (rcS B vL vR LM) w).grown hg fun j e => Or.inl (Or.inr (Or.inl e))).set (Or.inl rfl) 1 vL'
  have hlen : (LM ++ [((⟨k, [], false⟩, none, 0, 0) : RI)]).length = m + 1 := by rw [List.length_append, hn]; rfl
  refine ⟨⟨hB'.set 1 vL', ?_, ?_, ?_, fun y hy => ?_, ?_, ?_, h.few.2⟩, ha.os, ha.tape, ha.output, ha.size, ha.block, fun j hj => ?_⟩
  · rw [hlen]
    exact ho.frame fun j hj => hoth j fun e => by
      subst e
      exact Blk.not_row hB' (by decide) ho hj.symm
  · exact hR'.frame fun j hj => hoth j fun e => h.rB (e ▸ hj)
  · rw [List.map_append, h.its]
    rfl
  · rcases List.mem_append.1 hy with hy | hy
    · exact (hb' y hy).frame fun j hj => hoth j fun e => h.bB hy (e ▸ hj)
    · rw [List.mem_singleton] at hy
      subst hy
      exact ⟨⟨by simp, Or.inl ⟨rfl, rfl⟩⟩, by simp, by simp⟩
  · show ((D.items ++ [(⟨k, [], false⟩ : RIt)]).map RIt.key).Nodup
    rw [List.map_append, List.nodup_append]
    refine ⟨h.keys, by simp, fun x hx y hy => ?_⟩
    simp only [List.map_cons, List.map_nil, List.mem_singleton] at hy
    rw [← h.its, List.map_map] at hx
    obtain ⟨z, hz, rfl⟩ := List.mem_map.1 hx
    rw [hy]
    exact hk z hz
  · show (D.items ++ [(⟨k, [], false⟩ : RIt)]).length ≤ 1100
    rw [List.length_append, ← h.len, hn]
    exact hl
  · rcases hj with rfl | hj | hj | ⟨y, hy, hj⟩
    · exact Or.inl (Or.inl rfl)
    · rcases hv with e | e
      · exact Or.inl (Or.inr (Or.inl (e ▸ hj)))
      · exact Or.inr (e j hj)
    · exact Or.inl (Or.inr (Or.inr (Or.inl hj)))
    · rcases List.mem_append.1 hy with hy | hy
      · exact Or.inl (Or.inr (Or.inr (Or.inr ⟨y, hy, hj⟩)))
      · rw [List.mem_singleton] at hy
        subst hy
        cases hj
section
variable {w w5 : World} {B b m c i : Nat} {D : RC} {vR : Value} {LM : List RI} {x : RI}
theorem RcIn.putB (h : RcIn w B D (.slice (some ⟨b, 0, none⟩) m c) vR LM) (hn : LM.length = m) (hi : LM[i]? = some x) (hb : Below w.heap.size w w5) {a5 : Option Addr} {nb c5 : Nat} {bs : List Int} (ho : Own w5 w.heap.size (.slice a5 nb c5) nb bs) :
    RcIn (w5.setCell ⟨b, i * 3 + 1, none⟩ (.slice a5 nb c5)) B ⟨D.room, D.items.set i ⟨x.1.key, bs, x.1.dirty⟩, D.rels⟩ (.slice (some ⟨b, 0, none⟩) m c) vR (LM.set i (⟨x.1.key, bs, x.1.dirty⟩, a5, nb, c5)) ∧
      Away (rcS B (.slice (some ⟨b, 0, none⟩) m c) vR LM) w (rcS B (.slice (some ⟨b, 0, none⟩) m c) vR (LM.set i (⟨x.1.key, bs, x.1.dirty⟩, a5, nb, c5))) (w5.setCell ⟨b, i * 3 + 1, none⟩ (.slice a5 nb c5)) :=
  h.setI (x' := (⟨x.1.key, bs, x.1.dirty⟩, a5, nb, c5)) hb hn hi (by decide) rfl rfl (by
    show Own w5 0 (.slice a5 nb c5) bs.length bs
    rw [ho.len]
    exact ho.rebase (Nat.zero_le _)) (Or.inr fun k hk => (ho.1.lt k hk).1)
theorem RcIn.putD (h : RcIn w B D (.slice (some ⟨b, 0, none⟩) m c) vR LM) (hn : LM.length = m) (hi : LM[i]? = some x) (hb : Below w.heap.size w w5) (d : Bool) :
    RcIn (w5.setCell ⟨b, i * 3 + 2, none⟩ (.bool d)) B ⟨D.room, D.items.set i ⟨x.1.key, x.1.bs, d⟩, D.rels⟩ (.slice (some ⟨b, 0, none⟩) m c) vR (LM.set i (⟨x.1.key, x.1.bs, d⟩, x.2)) ∧
      Away (rcS B (.slice (some ⟨b, 0, none⟩) m c) vR LM) w (rcS B (.slice (some ⟨b, 0, none⟩) m c) vR (LM.set i (⟨x.1.key, x.1.bs, d⟩, x.2))) (w5.setCell ⟨b, i * 3 + 2, none⟩ (.bool d)) :=
  h.setI (x' := (⟨x.1.key, x.1.bs, d⟩, x.2)) hb hn hi (by decide) rfl rfl ((h.bys x (List.mem_of_getElem? hi)).frame fun k hk => hb.block k ((h.bys x (List.mem_of_getElem? hi)).lt hk)) (Or.inl rfl)
end
/-- The key is there. -/
theorem put_there {w : World} {B : Nat} {D : RC} {vL vR : Value} {LM : List RI} (h : RcIn w B D vL vR LM) {i : Nat} {x : RI} (hi : LM[i]? = some x) (bs : List Int) (d : Bool) : useR (D.items.set i ⟨x.1.key, bs, x.1.dirty || d⟩) x.1.key = putR D.items x.1.key bs d := by
  have hx : D.items[i]? = some x.1 := by rw [← h.its, List.getElem?_map, hi]; rfl
  unfold putR
  rw [if_pos (List.any_eq_true.2 ⟨x.1, List.mem_of_getElem? hx, by simp⟩)]
  unfold setR
  congr 1
  refine List.ext_getElem? fun q => ?_
  rw [List.getElem?_set, List.getElem?_map]
  by_cases hq : i = q
  · subst hq
    rw [if_pos rfl, if_pos (List.getElem?_eq_some_iff.1 hx).1, hx]
    simp
  · rw [if_neg hq]
    cases hy : D.items[q]? with
    | none => rfl
    | some y =>
      have hLq : ∃ y', LM[q]? = some y' ∧ y'.1 = y := by
        rw [← h.its, List.getElem?_map, Option.map_eq_some_iff] at hy
        exact hy
      obtain ⟨y', hy', rfl⟩ := hLq
      have : y'.1.key ≠ x.1.key := fun e => hq (h.one hi hy' e)
      simp [this]
/-- It is not. -/
theorem put_new {D : RC} {k : Int} (h : ∀ y ∈ D.items, y.key ≠ k) (bs : List Int) (d : Bool) : useR ((D.items ++ [(⟨k, [], false⟩ : RIt)]).set D.items.length ⟨k, bs, false || d⟩) k = putR D.items k bs d := by
  unfold putR
  rw [if_neg (fun e => by obtain ⟨y, hy, hk⟩ := List.any_eq_true.1 e; exact h y hy (by simpa using hk))]
  congr 1
  rw [List.set_append_right _ _ (Nat.le_refl _), Nat.sub_self]
  simp
def evR (n : Nat) (D : RC) : List Int × RC :=
  match D.items with
  | [] => ([], D)
  | z :: _ => (if isDR D z.key then lineR D.rels n [] z.key else [], ⟨D.room, (cleanR (if isDR D z.key then (lineR D.rels n [] z.key).foldl cleanR D else D) z.key).items.tail, (cleanR (if isDR D z.key then (lineR D.rels n [] z.key).foldl cleanR D else D) z.key).rels⟩)
def rput (n : Nat) (D : RC) (k : Int) (bs : List Int) (d : Bool) : List Int × RC :=
  if D.room < (putR D.items k bs d).length then evR n ⟨D.room, putR D.items k bs d, D.rels⟩ else ([], ⟨D.room, putR D.items k bs d, D.rels⟩)
theorem evR_len {n : Nat} {D : RC} (h : 0 < D.items.length) : (evR n D).2.items.length + 1 = D.items.length := by
  unfold evR
  cases hd : D.items with
  | nil => rw [hd] at h; cases h
  | cons z r =>
    show (cleanR _ z.key).items.tail.length + 1 = _
    have : (cleanR (if isDR D z.key then (lineR D.rels n [] z.key).foldl cleanR D else D) z.key).items.length = D.items.length := by
      have e : ∀ E : RC, E.items.map RIt.key = D.items.map RIt.key → (cleanR E z.key).items.length = D.items.length := fun E hE => by
        have := congrArg List.length ((rclean_keys E z.key).trans hE)
        simpa using this
      apply e
      split
      · exact cleans_keys _ _
      · rfl
    rw [List.length_tail, this, hd]
    simp
theorem Turn.later {B : Nat} {D : RC} {S : Nat → Prop} {w w1 w2 : World} (h : Turn B D S w w1) (hb : Below w1.heap.size w1 w2) : Turn B D S w w2 := by
  obtain ⟨vL, vR, LM, q1, q2⟩ := h
  exact ⟨vL, vR, LM, q1.later hb, q2.later' q1.lt hb⟩
end Go.Proofs.Ythmkmhfoicfapaa
