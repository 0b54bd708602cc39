/-
  What the reference's copyMaps answers: bitmaps anew (layer 12). Conditions: the bitmaps read.
-/
import Derived.Test.YtipljkegmhclkaaSn
namespace Go.Proofs.Ytipljkegmhclkaa
open Go.RowKit
set_option linter.unusedVariables false

/-- 'append([]T{}, x...)': a copy of one's own. -/
theorem copy_own {α : Type} {P : Program} {t e : TypeId} {sz bytes : Nat} {cv : α → List Value} (R : Rowed P t e sz bytes cv) {ops : Array Oper} {rest : List Oper} {o : Oper} {a : Act} (W : World) {Q : Exit → Act → World → Prop} (hgd : o.guard = Option.none) (s x : Operand)
    (ho : o.op = .call { callee := .builtin .append, args := #[s, x], argTypes := #[t, t] }) (r : Nat) (hr : r = W.heap.size) (hs : a.eval s = .slice (some ⟨r, 0, Option.none⟩) 0 0)
    (ao : Option Addr) (m c : Nat) (l : List α) (hx : a.eval x = .slice ao m c) (hnil : ao = Option.none → c = 0) (hB : Reads cv W ao m l) (hn : m ≤ 10000000)
    (h : ∀ a' c' w', OwnG cv e sz w' W.heap.size (.slice a' m c') m l → Below W.heap.size W w' → wpList P ops Q rest (a.put o.dst (.slice a' m c')) w') : wpList P ops Q (o :: rest) a (W.alloc (.cells #[] e)) := by
  subst hr
  refine append_lg R hgd s x ho W.heap.size _ 0 [] hs (OwnG.made _ _ _ _ _ (Nat.le_refl _)) ao m c l hx hnil (hB.later ((Below.refl _ _).alloc (Nat.le_refl _) _)) (by omega) (by simp) ?_
  intro a' c' w' h1 h2 h3
  rw [Nat.zero_add, List.nil_append] at h1
  rw [Nat.zero_add]
  exact h a' c' w' h1 (((Below.refl _ _).alloc (Nat.le_refl _) _).trans (low_new h2 (fun k e => by cases e; exact Nat.le_refl _) (by simp)))
/-- Between two bitmaps of a list that is made anew. -/
structure Msb (w0 W : World) (a : Option Addr) (c j : Nat) (B : List BmM) (L : List Bm) : Prop where
  own : OwnG bmV 43 3 W w0.heap.size (.slice a j c) j L
  sps : ∀ d ∈ L, SpN W w0.heap.size d.2.2.1 d.2.2.2.1 d.2.2.2.2.1 (bmL d)
  is : L.map bmM = B.take j
  dat : Below w0.heap.size w0 W
end Go.Proofs.Ytipljkegmhclkaa
