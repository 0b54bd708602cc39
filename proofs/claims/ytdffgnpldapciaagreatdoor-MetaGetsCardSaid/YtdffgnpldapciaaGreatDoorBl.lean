/-
  Blocks of cells under a name, steps of the world that turn one row alone, an append that tells where its slice lies. Conditions: none.
-/
import Derived.Test.YtdffgnpldapciaaGreatDoorGen
import Derived.RangeFuncBound
import Derived.RangeFuncBox
import Derived.OwnWalkIn
import Derived.Deep.AppendLies
import Derived.Laws.AppendOwnNone
namespace Go.Proofs.YtdffgnpldapciaaGreatDoor
open Go.RowKit
set_option linter.unusedVariables false

theorem grown_of_below {w w' : World} (h : Below w.heap.size w w') : w.grownBy w' none := ⟨h.os, h.tape, h.output, h.size, fun k hk _ => h.block k hk⟩
theorem below_of_grown {w w' : World} (h : w.grownBy w' none) : Below w.heap.size w w' := ⟨h.os, h.tape, h.output, h.size, fun k hk => h.block k hk (by simp)⟩
/-- Block B is cells cs of type t. -/
def Blk (W : World) (B : Nat) (t : TypeId) (cs : Array Value) : Prop := W.heap[B]? = some (.cells cs t (0, 0))
theorem Blk.lt {W : World} {B : Nat} {t : TypeId} {cs : Array Value} (h : Blk W B t cs) : B < W.heap.size := (Array.getElem?_eq_some_iff.1 h).1
theorem Blk.cell {W : World} {B : Nat} {t : TypeId} {cs : Array Value} (h : Blk W B t cs) (i : Nat) : W.cell? ⟨B, i, none⟩ = cs[i]? := by simp [World.cell?, show W.heap[B]? = _ from h]
theorem Blk.free {W : World} {B : Nat} {t : TypeId} {cs : Array Value} (h : Blk W B t cs) (i : Nat) : W.frozen? ⟨B, i, none⟩ = false := by simp [World.frozen?, show W.heap[B]? = _ from h]
theorem Blk.new (W : World) (t : TypeId) (cs : Array Value) : Blk (W.alloc (.cells cs t)) W.heap.size t cs := World.alloc_heap_new W _
theorem Blk.kept {W W' : World} {row : Option Nat} {B : Nat} {t : TypeId} {cs : Array Value} (h : Blk W B t cs) (hg : W.grownBy W' row) (hne : some B ≠ row) : Blk W' B t cs := (hg.block B h.lt hne).trans h
theorem Blk.later {W W' : World} {B : Nat} {t : TypeId} {cs : Array Value} (h : Blk W B t cs) (hb : Below W.heap.size W W') : Blk W' B t cs := (hb.block B h.lt).trans h
theorem Blk.alloc {W : World} {B : Nat} {t : TypeId} {cs : Array Value} (h : Blk W B t cs) (o : Obj) : Blk (W.alloc o) B t cs := h.kept (World.grownBy_alloc W o none) (by simp)
theorem Blk.set {W : World} {B : Nat} {t : TypeId} {cs : Array Value} (i : Nat) (v : Value) (h : Blk W B t cs) : Blk (W.setCell ⟨B, i, none⟩ v) B t (cs.setIfInBounds i v) := by
  obtain ⟨hlt, hk⟩ := Array.getElem?_eq_some_iff.1 h
  show (W.heap.modify B _)[B]? = _
  rw [Array.getElem?_eq_getElem (by rw [Array.size_modify]; exact hlt), Array.getElem_modify_self, hk]
  rfl
theorem Blk.other {W : World} {B B' i : Nat} {t : TypeId} {cs : Array Value} (h : Blk W B t cs) (hne : B ≠ B') (u : Value) : Blk (W.setCell ⟨B', i, none⟩ u) B t cs :=
  (Below.heap_setCell W _ u B hne).trans h
theorem Blk.own {β : Type} (B : Nat) (t : TypeId) (f : β → Array Value) : Go.Own (fun s W => Blk W B t (f s)) := fun s X Y row hs hg hrow =>
  hs.kept hg (fun e' => by obtain ⟨o, ho, hc⟩ := hrow B e'.symm; rw [show X.heap[B]? = _ from hs] at ho; cases ho; cases hc)
theorem Blk.putObj {W : World} {B D : Nat} {t : TypeId} {cs : Array Value} {o o' : Obj} (h : Blk W B t cs) (hD : W.heap[D]? = some o) (ho : o.isCells = false) : Blk (W.putObj D o') B t cs :=
  (World.putObj_heap_other (fun e => by subst e; rw [show W.heap[B]? = _ from h] at hD; cases hD; cases ho)).trans h
/-- A row of the call's own is not a block of another type. -/
theorem Blk.not_row {α : Type} {cv : α → List Value} {W : World} {B : Nat} {t e : TypeId} {cs : Array Value} (h : Blk W B t cs) (hte : t ≠ e) {base size n : Nat} {v : Value} {l : List α} (hr : OwnG cv e size W base v n l) : some B ≠ v.ownBlock := by
  rcases hr.1.2 with ⟨rfl, _⟩ | ⟨g, cap, cur, rfl, _, hgb, _⟩
  · simp [Value.ownBlock]
  · intro e'
    obtain rfl : B = g := by simpa [Value.ownBlock] using e'
    have := (show W.heap[B]? = _ from h).symm.trans hgb
    simp at this
    exact hte this.2

theorem grown_alloc {W w1 : World} {row : Option Nat} {tmp : Obj} (hg : (W.alloc tmp).grownBy w1 row) : W.grownBy w1 row :=
  ⟨hg.os, hg.tape, hg.output, by have := hg.size; rw [World.size_alloc] at this; omega, fun k hk hne => (hg.block k (by rw [World.size_alloc]; omega) hne).trans (Below.heap_alloc _ _ _ hk)⟩
theorem grownBy_setCell4 (W : World) (b i : Nat) (v : Value) : W.grownBy (W.setCell ⟨b, i, none⟩ v) (some b) :=
  ⟨rfl, rfl, rfl, by rw [World.size_setCell]; exact Nat.le_refl _, fun k _ hk => Below.heap_setCell _ _ _ k (fun e => hk (by rw [e]))⟩
theorem OwnG.cells {α : Type} {cv : α → List Value} {e : TypeId} {sz : Nat} {w : World} {base n : Nat} {v : Value} {l : List α} (h : OwnG cv e sz w base v n l) : ∀ (j : Nat) (o : Obj), v.ownBlock = some j → w.heap[j]? = some o → o.isCells = true := by
  intro j o hj ho
  rcases h.1.2 with ⟨rfl, _⟩ | ⟨g, cap, cur, rfl, _, hgb, _⟩
  · simp [Value.ownBlock] at hj
  · have : g = j := by simpa [Value.ownBlock] using hj
    subst this
    rw [hgb] at ho
    cases ho
    rfl
theorem Blk.inj {W : World} {B : Nat} {t t' : TypeId} {cs cs' : Array Value} (h : Blk W B t cs) (h' : Blk W B t' cs') : cs = cs' := by
  have := (show W.heap[B]? = _ from h).symm.trans h'
  simp at this
  exact this.1
theorem OwnG.low {α : Type} {cv : α → List Value} {e : TypeId} {sz : Nat} {w : World} {base n : Nat} {v : Value} {l : List α} (h : OwnG cv e sz w base v n l) (B : Nat) (hB : B < base ∨ w.heap.size ≤ B) : v.ownBlock ≠ some B := fun e => by
  have := h.1.lt B e
  omega
theorem run_append_lg {α : Type} {P : Program} {t e : TypeId} {sz bytes : Nat} {cv : α → List Value} (R : Rowed P t e sz bytes cv) {w : World} (ty : TypeId) (base : Nat) (v : Value) (n : Nat) (xs : List α) (hown : OwnG cv e sz w base v n xs)
    (ao : Option Addr) (m c : Nat) (l : List α) (hnil : ao = Option.none → c = 0) (hB : Reads cv w ao m l) (hn : n + m ≤ 10000000) (hbase : base ≤ w.heap.size) :
    ∃ a' c' w', (Builtin.append_ #[t, t] ty #[v, .slice ao m c]).run P w = .ok (.slice a' (n + m) c') w' ∧ OwnG cv e sz w' base (.slice a' (n + m) c') (n + m) (xs ++ l) ∧ w.grownBy w' v.ownBlock ∧
      ((Value.slice a' (n + m) c').ownBlock = v.ownBlock ∨ (Value.slice a' (n + m) c').ownBlock = some w.heap.size) := by
  obtain ⟨i0, z, hi, hz0, hz1, hz2, hz3⟩ := R.info
  have hlen := flat_len R.len l
  have hsm := R.small
  have hbb : (n + m) * bytes ≤ 140737488355328 := by
    have : (n + m) * bytes ≤ 10000000 * 1000 := Nat.mul_le_mul hn hsm
    omega
  cases ao with
  | some ad =>
    have hcells : ∀ j u, (l.flatMap cv)[j]? = some u → w.cell? (ad.add j) = some u := by
      intro j u hu
      rcases hB.2.2 with h0 | ⟨b, off, ha, _, hc⟩
      · obtain rfl : l = [] := List.eq_nil_of_length_eq_zero (by rw [hB.1]; exact h0)
        simp at hu
      · cases ha
        rw [add_none]
        exact hc j u hu
    obtain ⟨v', w', hr, h1, h2, _, h4⟩ := run_append_own_at (P := P) w base t ty e i0 z sz bytes R.under hi hz0 hz1 hz2 hz3 R.pos v n (xs.flatMap cv) hown.1 ad m c (l.flatMap cv) (by rw [hlen, hB.1]) hcells
      (fun u hu => by obtain ⟨y, _, hy⟩ := List.mem_flatMap.1 hu; exact R.one y u hy) (by unfold maxLen; omega) hbb hbase
    rw [← List.flatMap_append] at h1
    have hO : OwnG cv e sz w' base v' (n + m) (xs ++ l) := ⟨h1, by rw [List.length_append, hown.2.1, hB.1], by omega⟩
    obtain ⟨a', c', rfl, _, _⟩ := hO.shape R
    exact ⟨a', c', w', hr, hO, h2, h4⟩
  | none =>
    obtain rfl := hnil rfl
    have hm : m = 0 := by
      rcases hB.2.2 with h0 | ⟨b, off, ha, _, _⟩
      · exact h0
      · cases ha
    subst hm
    obtain rfl : l = [] := List.eq_nil_of_length_eq_zero hB.1
    have hrun := run_append_owned_none (P := P) (w := w) base t ty e i0 sz R.under hi v n (xs.flatMap cv) hown.1
    obtain ⟨a', c', e', _, _⟩ := hown.shape R
    subst e'
    exact ⟨a', c', w, hrun, by rw [List.append_nil]; exact hown, World.grownBy.refl _ _, Or.inl rfl⟩
/-- At one operation, anywhere. -/
theorem wp_append_lg {α : Type} {P : Program} {t e : TypeId} {sz bytes : Nat} {cv : α → List Value} (R : Rowed P t e sz bytes cv) {o : Oper} {a : Act} {w : World} {K : Act → World → Prop} {Q : Exit → Act → World → Prop} (s x : Operand)
    (ho : o.op = .call { callee := .builtin .append, args := #[s, x], argTypes := #[t, t] }) (base : Nat) (v : Value) (n : Nat) (xs : List α) (hs : a.eval s = v) (hown : OwnG cv e sz w base v n xs)
    (ao : Option Addr) (m c : Nat) (l : List α) (hx : a.eval x = .slice ao m c) (hnil : ao = Option.none → c = 0) (hB : Reads cv w ao m l) (hn : n + m ≤ 10000000) (hbase : base ≤ w.heap.size)
    (h : ∀ a' c' w', OwnG cv e sz w' base (.slice a' (n + m) c') (n + m) (xs ++ l) → w.grownBy w' v.ownBlock → ((Value.slice a' (n + m) c').ownBlock = v.ownBlock ∨ (Value.slice a' (n + m) c').ownBlock = some w.heap.size) → K (a.put o.dst (.slice a' (n + m) c')) w') : o.wp P a w K Q := by
  obtain ⟨a', c', w', hr, h2, h3, h4⟩ := run_append_lg R o.type base v n xs hown ao m c l hnil hB hn hbase
  unfold Oper.wp execOp
  simp only [ho, resolve, invoke, builtin, Sem.run_bind, Sem.run_pure, Result.andThen_ok, List.map_toArray, List.map_cons, List.map_nil, hs, hx, hr]
  exact h a' c' w' h2 h3 h4
/-- Within a round. -/
theorem appendIn_lg {α : Type} {F : Fence} {k : Nat} {P : Program} {t e : TypeId} {sz bytes : Nat} {cv : α → List Value} (R : Rowed P t e sz bytes cv) {ops : Array Oper} {rest : List Oper} {o : Oper} {a : Act} {w : World} {Q : Exit → Act → World → Prop} (hgd : o.guard = Option.none) (s x : Operand)
    (ho : o.op = .call { callee := .builtin .append, args := #[s, x], argTypes := #[t, t] }) (base : Nat) (v : Value) (n : Nat) (xs : List α) (hs : a.eval s = v) (hown : OwnG cv e sz w base v n xs)
    (ao : Option Addr) (m c : Nat) (l : List α) (hx : a.eval x = .slice ao m c) (hnil : ao = Option.none → c = 0) (hB : Reads cv w ao m l) (hn : n + m ≤ 10000000) (hbase : base ≤ w.heap.size)
    (h : ∀ a' c' w', OwnG cv e sz w' base (.slice a' (n + m) c') (n + m) (xs ++ l) → w.grownBy w' v.ownBlock → ((Value.slice a' (n + m) c').ownBlock = v.ownBlock ∨ (Value.slice a' (n + m) c').ownBlock = some w.heap.size) → wpListIn F k P ops Q rest (a.put o.dst (.slice a' (n + m) c')) w') : wpListIn F k P ops Q (o :: rest) a w := by
  refine wpListIn_plain hgd fun K hK' => ?_
  obtain ⟨a', c', w', hr, h2, h3, h4⟩ := run_append_lg R o.type base v n xs hown ao m c l hnil hB hn hbase
  unfold Oper.wpIn
  refine ⟨?_, ?_⟩
  · simp [Oper.about, ho, resolve, Target.leads, Sem.run_pure]
  · rw [Oper.semAt_plain F _ _ (by rw [ho]; intro c hc'; cases hc')]
    simp [execOp, ho, resolve, invoke, builtin, hs, hx, hr, Result.andThen]
    exact hK' _ _ (h a' c' w' h2 h3 h4)

theorem OwnG.kept' {α : Type} {cv : α → List Value} {e : TypeId} {sz : Nat} {w w' : World} {base n : Nat} {v : Value} {l : List α} {row : Option Nat} (h : OwnG cv e sz w base v n l) (hg : w.grownBy w' row) (hne : ∀ k, v.ownBlock = some k → row ≠ some k) : OwnG cv e sz w' base v n l :=
  ⟨h.1.kept hg (by
    cases hv : v.ownBlock with
    | none => exact .inl rfl
    | some k => exact .inr (fun e' => hne k hv e'.symm)), h.2⟩
end Go.Proofs.YtdffgnpldapciaaGreatDoor
