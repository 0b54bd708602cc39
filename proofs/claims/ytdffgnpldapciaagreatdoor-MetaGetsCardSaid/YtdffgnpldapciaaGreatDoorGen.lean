/-
  Slices of any elements of a fixed number of cells: what reads as such a list, the call's own rows, what an append does to them. Conditions: short lists.
-/
import Derived.Test.YtdffgnpldapciaaGreatDoorBase
import Derived.Laws.OwnMore
namespace Go.Proofs.YtdffgnpldapciaaGreatDoor
open Go.RowKit

/-- What a slice type's elements are: their type, cells, bytes. -/
structure Rowed {α : Type} (P : Program) (t e : TypeId) (sz bytes : Nat) (cv : α → List Value) : Prop where
  under : P.underlying t = some (.slice e)
  info : ∃ i z, P.info? e = some i ∧ i.zero = some z ∧ i.size = sz ∧ i.bytes = bytes ∧ z.cells.size = sz
  pos : 0 < sz
  small : bytes ≤ 1000
  len : ∀ x, (cv x).length = sz
  one : ∀ x, ∀ u ∈ cv x, u.oneCell' = true
/-- The slice reads as the list l. -/
def Reads {α : Type} (cv : α → List Value) (w : World) (a : Option Addr) (len : Nat) (l : List α) : Prop :=
  l.length = len ∧ len ≤ 100000000 ∧ (len = 0 ∨ ∃ b off, a = some ⟨b, off, none⟩ ∧ b < w.heap.size ∧ ∀ j u, (l.flatMap cv)[j]? = some u → w.cell? ⟨b, off + j, none⟩ = some u)
theorem Reads.later {α : Type} {cv : α → List Value} {w w' : World} {a : Option Addr} {len : Nat} {l : List α} (h : Reads cv w a len l) (hb : Below w.heap.size w w') : Reads cv w' a len l := by
  obtain ⟨h1, h2, h3⟩ := h
  refine ⟨h1, h2, ?_⟩
  rcases h3 with h3 | ⟨b, off, ha, hlt, hc⟩
  · exact Or.inl h3
  · exact Or.inr ⟨b, off, ha, Nat.lt_of_lt_of_le hlt hb.size, fun j u hu => (hb.cell (p := ⟨b, off + j, none⟩) hlt).trans (hc j u hu)⟩
theorem Reads.drew {α : Type} {cv : α → List Value} {w : World} {a : Option Addr} {len : Nat} {l : List α} (h : Reads cv w a len l) : Reads cv w.drew a len l := h.later (Below.refl _ _).drew
theorem Reads.nil {α : Type} (cv : α → List Value) (w : World) (a : Option Addr) : Reads cv w a 0 [] := ⟨rfl, Nat.zero_le _, Or.inl rfl⟩
theorem Reads.lies {α : Type} {cv : α → List Value} {w : World} {a : Option Addr} {len : Nat} {l : List α} (h : Reads cv w a len l) (h0 : 0 < len) : ∃ b off, a = some ⟨b, off, none⟩ := by
  obtain ⟨_, _, h3⟩ := h
  obtain ⟨b, off, e, _⟩ := h3.resolve_left (by omega)
  exact ⟨b, off, e⟩
theorem flat_len {α : Type} {cv : α → List Value} {sz : Nat} (hc : ∀ x, (cv x).length = sz) : ∀ l : List α, (l.flatMap cv).length = l.length * sz
  | [] => by simp
  | x :: r => by rw [List.flatMap_cons, List.length_append, hc, flat_len hc r, List.length_cons, Nat.succ_mul]; omega
theorem flat_at {α : Type} {cv : α → List Value} {sz : Nat} (hc : ∀ x, (cv x).length = sz) : ∀ (l : List α) (i j : Nat) (x : α), l[i]? = some x → j < sz → (l.flatMap cv)[i * sz + j]? = (cv x)[j]?
  | [], i, _, _, h, _ => by simp at h
  | y :: r, 0, j, x, h, hj => by
    simp at h
    subst h
    rw [List.flatMap_cons, Nat.zero_mul, Nat.zero_add, List.getElem?_append_left (by rw [hc]; exact hj)]
  | y :: r, i + 1, j, x, h, hj => by
    rw [List.getElem?_cons_succ] at h
    rw [List.flatMap_cons, Nat.succ_mul, show i * sz + sz + j = sz + (i * sz + j) by omega, List.getElem?_append_right (by rw [hc]; omega), hc, Nat.add_sub_cancel_left]
    exact flat_at hc r i j x h hj
/-- A field's cell. -/
theorem Reads.cellAt {α : Type} {P : Program} {t e : TypeId} {sz bytes : Nat} {cv : α → List Value} (R : Rowed P t e sz bytes cv) {w : World} {b off len : Nat} {l : List α} (h : Reads cv w (some ⟨b, off, none⟩) len l) (i j : Nat) (x : α) (v : Value)
    (hi : l[i]? = some x) (hv : (cv x)[j]? = some v) : w.cell? ⟨b, off + (i * sz + j), none⟩ = some v := by
  obtain ⟨rfl, _, h3⟩ := h
  have hlt : i < l.length := by
    rcases Nat.lt_or_ge i l.length with h' | h'
    · exact h'
    · rw [List.getElem?_eq_none h'] at hi
      cases hi
  obtain ⟨b', off', e, _, hc⟩ := h3.resolve_left (by omega)
  cases e
  have hj : j < sz := by
    rcases Nat.lt_or_ge j sz with h' | h'
    · exact h'
    · rw [List.getElem?_eq_none (by rw [R.len]; exact h')] at hv
      cases hv
  exact hc _ _ ((flat_at R.len l i j x hi hj).trans hv)
/-- A row of the call's own. -/
def OwnG {α : Type} (cv : α → List Value) (e : TypeId) (sz : Nat) (w : World) (base : Nat) (v : Value) (n : Nat) (l : List α) : Prop := w.ownsRow base e sz v n (l.flatMap cv) ∧ l.length = n ∧ n ≤ 100000000
theorem OwnG.none {α : Type} (cv : α → List Value) (e : TypeId) (sz : Nat) (w : World) (base : Nat) : OwnG cv e sz w base (.slice Option.none 0 0) 0 [] :=
  ⟨⟨by simp, Or.inl ⟨rfl, rfl⟩⟩, rfl, Nat.zero_le _⟩
theorem OwnG.made {α : Type} (cv : α → List Value) (e : TypeId) (sz : Nat) (w : World) (base : Nat) (hb : base ≤ w.heap.size) : OwnG cv e sz (w.alloc (.cells #[] e)) base (.slice (some ⟨w.heap.size, 0, Option.none⟩) 0 0) 0 [] :=
  ⟨World.ownsRow_made w #[] 0 hb (Nat.zero_le _) (by simp), rfl, Nat.zero_le _⟩
theorem OwnG.shape {α : Type} {P : Program} {t e : TypeId} {sz bytes : Nat} {cv : α → List Value} (R : Rowed P t e sz bytes cv) {w : World} {base : Nat} {v : Value} {n : Nat} {l : List α} (h : OwnG cv e sz w base v n l) :
    ∃ a c, v = .slice a n c ∧ Reads cv w a n l ∧ (a = Option.none → c = 0) ∧ n ≤ c := by
  obtain ⟨⟨h1, h2⟩, h3, h4⟩ := h
  rcases h2 with ⟨rfl, rfl⟩ | ⟨g, cap, cur, rfl, hb, hg, hn, hm, hs, ht⟩
  · exact ⟨Option.none, 0, rfl, ⟨h3, h4, Or.inl rfl⟩, fun _ => rfl, Nat.le_refl _⟩
  · refine ⟨_, cap, rfl, ⟨h3, h4, Or.inr ⟨g, 0, rfl, lt_of_block hg, fun j u hu => ?_⟩⟩, (fun e => by cases e), hn⟩
    rw [cell_of_row w g (0 + j) cur e (0, 0) hg, Nat.zero_add]
    have hlen := flat_len R.len l
    have hj : j < n * sz := by
      rcases Nat.lt_or_ge j (n * sz) with h' | h'
      · exact h'
      · rw [List.getElem?_eq_none (by rw [hlen, h3]; exact h')] at hu
        cases hu
    have : (cur.toList.take (n * sz))[j]? = (l.flatMap cv)[j]? := by rw [ht]
    rw [List.getElem?_take, if_pos hj, hu] at this
    simpa using this
theorem OwnG.reads {α : Type} {P : Program} {t e : TypeId} {sz bytes : Nat} {cv : α → List Value} (R : Rowed P t e sz bytes cv) {w : World} {base n' c n : Nat} {a : Option Addr} {l : List α} (h : OwnG cv e sz w base (.slice a n' c) n l) :
    Reads cv w a n l ∧ (a = Option.none → c = 0) ∧ n ≤ c := by
  obtain ⟨a', c', e, h1, h2, h3⟩ := h.shape R
  cases e
  exact ⟨h1, h2, h3⟩
theorem OwnG.below {α : Type} {cv : α → List Value} {e : TypeId} {sz : Nat} {w w' : World} {base : Nat} {v : Value} {n : Nat} {l : List α} (h : OwnG cv e sz w base v n l) {a : World} {B : Nat} (hb : Below B a w) (hg : w.grownBy w' v.ownBlock) (hB : B ≤ w.heap.size) (hbase : B ≤ base) : Below B a w' :=
  hb.grown hg hB fun k hk => Nat.le_trans hbase (h.1.lt k hk).1
theorem OwnG.drew {α : Type} {cv : α → List Value} {e : TypeId} {sz : Nat} {w : World} {base n : Nat} {v : Value} {l : List α} (h : OwnG cv e sz w base v n l) : OwnG cv e sz w.drew base v n l := ⟨h.1.drew, h.2⟩
theorem OwnG.alloc {α : Type} {cv : α → List Value} {e : TypeId} {sz : Nat} {w : World} {base n : Nat} {v : Value} {l : List α} (h : OwnG cv e sz w base v n l) (x : Obj) : OwnG cv e sz (w.alloc x) base v n l := ⟨h.1.alloc x, h.2⟩
/-- 'append(own, x...)': only the row's own block may have turned. -/
theorem append_gg {α : Type} {P : Program} {t e : TypeId} {sz bytes : Nat} {cv : α → List Value} (R : Rowed P t e sz bytes cv) {ops : Array Oper} {rest : List Oper} {o : Oper} {a : Act} {w : World} {Q : Exit → Act → World → Prop} (hgd : o.guard = Option.none) (s x : Operand)
    (ho : o.op = .call { callee := .builtin .append, args := #[s, x], argTypes := #[t, t] }) (base : Nat) (v : Value) (n : Nat) (xs : List α) (hs : a.eval s = v) (hown : OwnG cv e sz w base v n xs)
    (ao : Option Addr) (m c : Nat) (l : List α) (hx : a.eval x = .slice ao m c) (hnil : ao = Option.none → c = 0) (hB : Reads cv w ao m l) (hn : n + m ≤ 10000000) (hbase : base ≤ w.heap.size)
    (h : ∀ a' c' w', OwnG cv e sz w' base (.slice a' (n + m) c') (n + m) (xs ++ l) → Below base w w' → w.grownBy w' v.ownBlock → wpList P ops Q rest (a.put o.dst (.slice a' (n + m) c')) w') : wpList P ops Q (o :: rest) a w := by
  obtain ⟨i0, z, hi, hz0, hz1, hz2, hz3⟩ := R.info
  have hlen := flat_len R.len l
  have hsm := R.small
  have hbb : (n + m) * bytes ≤ 140737488355328 := by
    have : (n + m) * bytes ≤ 10000000 * 1000 := Nat.mul_le_mul hn hsm
    omega
  cases ao with
  | some ad =>
    have hcells : ∀ j u, (l.flatMap cv)[j]? = some u → w.cell? (ad.add j) = some u := by
      intro j u hu
      rcases hB.2.2 with h0 | ⟨b, off, ha, _, hc⟩
      · obtain rfl : l = [] := List.eq_nil_of_length_eq_zero (by rw [hB.1]; exact h0)
        simp at hu
      · cases ha
        rw [add_none]
        exact hc j u hu
    refine wpList_append_own w hgd s x t ho base e i0 z sz bytes R.under hi hz0 hz1 hz2 hz3 R.pos v n (xs.flatMap cv) hs hown.1 ad m c (l.flatMap cv) hx (by rw [hlen, hB.1]) hcells
      (fun u hu => by obtain ⟨y, _, hy⟩ := List.mem_flatMap.1 hu; exact R.one y u hy) (by unfold maxLen; omega) hbb hbase ?_
    intro v' w' h1 h2 _
    rw [← List.flatMap_append] at h1
    have hO : OwnG cv e sz w' base v' (n + m) (xs ++ l) := ⟨h1, by rw [List.length_append, hown.2.1, hB.1], by omega⟩
    obtain ⟨a', c', rfl, _, _⟩ := hO.shape R
    exact h a' c' w' hO (hown.below (Below.refl _ _) h2 hbase (Nat.le_refl _)) h2
  | none =>
    obtain rfl := hnil rfl
    have hm : m = 0 := by
      rcases hB.2.2 with h0 | ⟨b, off, ha, _, _⟩
      · exact h0
      · cases ha
    subst hm
    obtain rfl : l = [] := List.eq_nil_of_length_eq_zero hB.1
    refine wpList_append_own_none hgd s x t ho base e i0 sz R.under hi v n (xs.flatMap cv) hs hown.1 hx ?_
    obtain ⟨a', c', e, _, _⟩ := hown.shape R
    subst e
    exact h a' c' w (by rw [List.append_nil]; exact hown) (Below.refl _ _) (World.grownBy.refl _ _)
/-- 'append(own, x...)'. -/
theorem append_g {α : Type} {P : Program} {t e : TypeId} {sz bytes : Nat} {cv : α → List Value} (R : Rowed P t e sz bytes cv) {ops : Array Oper} {rest : List Oper} {o : Oper} {a : Act} {w : World} {Q : Exit → Act → World → Prop} (hgd : o.guard = Option.none) (s x : Operand)
    (ho : o.op = .call { callee := .builtin .append, args := #[s, x], argTypes := #[t, t] }) (base : Nat) (v : Value) (n : Nat) (xs : List α) (hs : a.eval s = v) (hown : OwnG cv e sz w base v n xs)
    (ao : Option Addr) (m c : Nat) (l : List α) (hx : a.eval x = .slice ao m c) (hnil : ao = Option.none → c = 0) (hB : Reads cv w ao m l) (hn : n + m ≤ 10000000) (hbase : base ≤ w.heap.size)
    (h : ∀ a' c' w', OwnG cv e sz w' base (.slice a' (n + m) c') (n + m) (xs ++ l) → Below base w w' → wpList P ops Q rest (a.put o.dst (.slice a' (n + m) c')) w') : wpList P ops Q (o :: rest) a w :=
  append_gg R hgd s x ho base v n xs hs hown ao m c l hx hnil hB hn hbase fun a' c' w' h1 h2 _ => h a' c' w' h1 h2
/-- 'append([]T{}, x...)'. -/
theorem append_g_copy {α : Type} {P : Program} {t e : TypeId} {sz bytes : Nat} {cv : α → List Value} (R : Rowed P t e sz bytes cv) {ops : Array Oper} {rest : List Oper} {o : Oper} {a : Act} {w0 : World} {Q : Exit → Act → World → Prop} (hgd : o.guard = Option.none) (s x : Operand)
    (ho : o.op = .call { callee := .builtin .append, args := #[s, x], argTypes := #[t, t] }) (base : Nat) (hs : a.eval s = .slice (some ⟨w0.heap.size, 0, Option.none⟩) 0 0)
    (ao : Option Addr) (m c : Nat) (l : List α) (hx : a.eval x = .slice ao m c) (hnil : ao = Option.none → c = 0) (hB : Reads cv w0 ao m l) (hn : m ≤ 10000000) (hbase : base ≤ w0.heap.size)
    (h : ∀ a' c' w', OwnG cv e sz w' base (.slice a' m c') m l → Below base w0 w' → wpList P ops Q rest (a.put o.dst (.slice a' m c')) w') : wpList P ops Q (o :: rest) a (w0.alloc (.cells #[] e)) := by
  refine append_g R hgd s x ho base _ 0 [] hs (OwnG.made cv e sz w0 base hbase) ao m c l hx hnil (hB.later ((Below.refl _ _).alloc (Nat.le_refl _) _)) (by omega) (by rw [World.size_alloc]; omega) ?_
  intro a' c' w' h1 h2
  rw [Nat.zero_add, List.nil_append] at h1
  rw [Nat.zero_add]
  exact h a' c' w' h1 (((Below.refl _ _).alloc hbase _).trans h2)
theorem append_g_copyAt {α : Type} {P : Program} {t e : TypeId} {sz bytes : Nat} {cv : α → List Value} (R : Rowed P t e sz bytes cv) {ops : Array Oper} {rest : List Oper} {o : Oper} {a : Act} {w0 : World} {Q : Exit → Act → World → Prop} (N : Nat) (hN : w0.heap.size = N) (hgd : o.guard = Option.none) (s x : Operand)
    (ho : o.op = .call { callee := .builtin .append, args := #[s, x], argTypes := #[t, t] }) (base : Nat) (hs : a.eval s = .slice (some ⟨N, 0, Option.none⟩) 0 0)
    (ao : Option Addr) (m c : Nat) (l : List α) (hx : a.eval x = .slice ao m c) (hnil : ao = Option.none → c = 0) (hB : Reads cv w0 ao m l) (hn : m ≤ 10000000) (hbase : base ≤ w0.heap.size)
    (h : ∀ a' c' w', OwnG cv e sz w' base (.slice a' m c') m l → Below base w0 w' → wpList P ops Q rest (a.put o.dst (.slice a' m c')) w') : wpList P ops Q (o :: rest) a (w0.alloc (.cells #[] e)) := by
  subst hN
  exact append_g_copy R hgd s x ho base hs ao m c l hx hnil hB hn hbase h
/-- A literal of one element. -/
theorem one_reads {α : Type} {cv : α → List Value} (w : World) (x : α) (cs : Array Value) (T : TypeId) (h : cs.toList = cv x) : Reads cv (w.alloc (.cells cs T)) (some ⟨w.heap.size, 0, Option.none⟩) 1 [x] := by
  refine ⟨rfl, by omega, Or.inr ⟨w.heap.size, 0, rfl, by simp, fun j u hu => ?_⟩⟩
  have e : [x].flatMap cv = cv x := by simp
  rw [e, ← h] at hu
  rw [Nat.zero_add, World.cell?_alloc_new]
  simpa using hu
theorem one_reads2 {α : Type} {cv : α → List Value} (w : World) (X : Obj) (x : α) (cs : Array Value) (T : TypeId) (h : cs.toList = cv x) : Reads cv ((w.alloc X).alloc (.cells cs T)) (some ⟨w.heap.size + 1, 0, Option.none⟩) 1 [x] := by
  have := one_reads (cv := cv) (w.alloc X) x cs T h
  rwa [World.size_alloc] at this
/-- A block that is not the row's own stays. -/
theorem OwnG.far {α : Type} {cv : α → List Value} {e : TypeId} {sz : Nat} {w w0 w' : World} {base n c : Nat} {a : Option Addr} {l : List α} (h : OwnG cv e sz w0 base (.slice a n c) n l) (hg : w.grownBy w' (Value.slice a n c).ownBlock) {p : Addr} {v : Value}
    (hp : w.cell? p = some v) (hb : p.block < base ∨ w0.heap.size ≤ p.block) : w'.cell? p = some v :=
  hg.cell hp fun e => by
    have := h.1.lt p.block e.symm
    omega
end Go.Proofs.YtdffgnpldapciaaGreatDoor
