/-
  Leaves of one's own: an entry stored, entries cleared, a leaf made (layer 8). Conditions: none.
-/
import Derived.Test.YtbdidgfbonkneaaDoorH9
import Derived.Test.YtbdidgfbonkneaaDoorF9
import Derived.Laws.CopyRow
namespace Go.Proofs.YtbdidgfbonkneaaDoor
open Go.RowKit
set_option linter.unusedVariables false

theorem run_clear9 {P : Program} (w : World) (t e ty : TypeId) (z : Value) (k : Nat) (ht : P.underlying t = some (.slice e)) (hv : ∀ w, (zeroValue e).run P w = .ok z w) (hz : z.cells.size = k) (h1 : ∀ u ∈ z.cells, u.oneCell' = true) (g o m c : Nat) (cur : Array Value) (hm : 0 < m)
    (hg : w.heap[g]? = some (.cells cur e (0, 0))) (hfit : o + m * k ≤ cur.size) :
    (Builtin.zeroCells z.cells m).toList.length = m * k ∧ (Builtin.clear_ #[t] ty #[.slice (some ⟨g, o, none⟩) m c]).run P w = .ok (.tuple #[]) (w.setRow g (cur.toList.take o ++ (Builtin.zeroCells z.cells m).toList ++ cur.toList.drop (o + (Builtin.zeroCells z.cells m).toList.length)).toArray) := by
  have hl : (Builtin.zeroCells z.cells m).toList.length = m * k := by rw [Array.length_toList, size_zeroCells, hz]
  have hone : ∀ u ∈ (Builtin.zeroCells z.cells m).toList, u.oneCell' = true := fun u hu => by
    simp only [Builtin.zeroCells, Array.toList_map, List.mem_map, Array.mem_toList_iff, Array.mem_range] at hu
    obtain ⟨i, hi, rfl⟩ := hu
    have h0 : 0 < z.cells.size := by
      rcases Nat.eq_zero_or_pos z.cells.size with h | h
      · rw [h, Nat.mul_zero] at hi
        omega
      · exact h
    have hlt := Nat.mod_lt i h0
    rw [getElem!_pos z.cells _ hlt]
    exact h1 _ (Array.getElem_mem hlt)
  refine ⟨hl, ?_⟩
  have hst := run_storeCells_at P g o e (Builtin.zeroCells z.cells m).toList 0 cur w hg (by rw [hl]; simpa using hfit) hone
  simp only [Nat.add_zero] at hst
  obtain ⟨m, rfl⟩ : ∃ q, m = q + 1 := ⟨m - 1, by omega⟩
  simp [Builtin.clear_, run_underlying ht, hv, hst]
theorem run_storeAt_in9 {P : Program} (w : World) (t e : TypeId) (g o : Nat) (cur c' : Array Value) (hg : w.heap[g]? = some (.cells cur e (0, 0))) (hi : (P.info? t).map (·.size) = some c'.size) (hfit : o + c'.toList.length ≤ cur.size) (h1 : ∀ u ∈ c'.toList, u.oneCell' = true) :
    (Instr.storeAt t (.pointer (some ⟨g, o, none⟩)) (.agg c')).run P w = .ok () (w.setRow g (cur.toList.take o ++ c'.toList ++ cur.toList.drop (o + c'.toList.length)).toArray) := by
  have hst := run_storeCells_at P g o e c'.toList 0 cur w hg (by simpa using hfit) h1
  simp only [Nat.add_zero] at hst
  obtain ⟨i, hii, hs⟩ := Option.map_eq_some_iff.1 hi
  simp [Instr.storeAt, Instr.sureAddr, storeVar, sizeOf, typeInfo, hii, hs, Value.cells, Result.andThen, hst]
theorem wpList_store_in9 {P : Program} {ops : Array Oper} {rest : List Oper} {op : Oper} {a : Act} {w : World} {Q : Exit → Act → World → Prop} {t e : TypeId} (hgd : op.guard = none) (x y : Operand) (ho : op.op = .store t x y) (g o : Nat) (cur c' : Array Value)
    (hx : a.eval x = .pointer (some ⟨g, o, none⟩)) (hy : a.eval y = .agg c') (hg : w.heap[g]? = some (.cells cur e (0, 0))) (hi : (P.info? t).map (·.size) = some c'.size) (hfit : o + c'.toList.length ≤ cur.size) (h1 : ∀ u ∈ c'.toList, u.oneCell' = true)
    (h : wpList P ops Q rest (a.put op.dst undef) (w.setRow g (cur.toList.take o ++ c'.toList ++ cur.toList.drop (o + c'.toList.length)).toArray)) : wpList P ops Q (op :: rest) a w := by
  refine wpList_plain hgd fun K' hK => ?_
  unfold Oper.wp execOp
  simp only [ho, hx, hy, run_storeAt_in9 w t e g o cur c' hg hi hfit h1, Sem.run_bind, Result.andThen_ok]
  exact hK _ _ h
theorem flat_set_en : ∀ (xs : List En) (k : Nat) (x : En), k < xs.length → (xs.set k x).flatMap enV = (xs.flatMap enV).take (k * 5) ++ enV x ++ (xs.flatMap enV).drop (k * 5 + (enV x).length)
  | [], k, x, h => absurd h (by simp)
  | y :: r, 0, x, h => by
    rw [List.set_cons_zero, List.flatMap_cons, List.flatMap_cons, Nat.zero_mul, List.take_zero, List.nil_append, Nat.zero_add, enV_len, List.drop_append_of_le_length (by rw [enV_len]; exact Nat.le_refl _), List.drop_eq_nil_of_le (by rw [enV_len]; exact Nat.le_refl _), List.nil_append]
  | y :: r, k + 1, x, h => by
    rw [List.set_cons_succ, List.flatMap_cons, flat_set_en r k x (by simpa using h), List.flatMap_cons, show (k + 1) * 5 = (enV y).length + k * 5 by rw [enV_len]; omega, Nat.add_assoc, List.take_length_add_append, List.drop_length_add_append]
    simp only [List.append_assoc]
theorem LfO.form {w : World} {base : Nat} {d : LfD} (h : LfO w base d) (h0 : 0 < d.2.1) : ∃ b, d.1 = some ⟨b, 0, Option.none⟩ ∧ base ≤ b ∧ b < w.heap.size := by
  obtain ⟨al, ll, cl, xs⟩ := d
  obtain ⟨⟨⟨h1, h2⟩, _⟩, _⟩ := h
  rcases h2 with ⟨_, e⟩ | ⟨g, cap, cur, e, hb, hg, _⟩
  · dsimp only at h0 e
    omega
  · simp only [Value.slice.injEq] at e
    exact ⟨g, e.1, hb, lt_of_block hg⟩
/-- An entry stored into a leaf. -/
theorem LfO.store {w : World} {base : Nat} {d : LfD} (h : LfO w base d) {b : Nat} (hb : d.1 = some ⟨b, 0, Option.none⟩) (k : Nat) (hk : k < d.2.1) (x : En) (hx : EnOk x) :
    ∃ cur, w.heap[b]? = some (.cells cur 47 (0, 0)) ∧ k * 5 + (enV x).length ≤ cur.size ∧
      LfO (w.setRow b (cur.toList.take (k * 5) ++ enV x ++ cur.toList.drop (k * 5 + (enV x).length)).toArray) base (d.1, d.2.1, d.2.2.1, d.2.2.2.set k x) ∧
      w.grownBy (w.setRow b (cur.toList.take (k * 5) ++ enV x ++ cur.toList.drop (k * 5 + (enV x).length)).toArray) (some b) := by
  obtain ⟨al, ll, cl, xs⟩ := d
  obtain ⟨h1, h2⟩ := h
  dsimp only at hb hk h1 h2
  subst hb
  have hl : xs.length = ll := h1.2.1
  obtain ⟨cur, g1, g2, g3, g4⟩ := own_mid enV_len h1 (M' := xs.set k x) (k * 5) (enV x) (by simpa using hl) (flat_set_en xs k x (by omega)) (by rw [enV_len]; omega)
  refine ⟨cur, g1, g2, ⟨g3, fun y hy => ?_⟩, g4⟩
  rcases List.mem_or_eq_of_mem_set hy with hy | rfl
  · exact h2 y hy
  · exact hx
theorem zero_en (m : Nat) : (Builtin.zeroCells (Value.agg (enV enZ).toArray).cells m).toList = (List.replicate m enZ).flatMap enV := by
  induction m with
  | zero => simp [Builtin.zeroCells]
  | succ m ih =>
    rw [List.replicate_succ', List.flatMap_append, ← ih]
    refine List.ext_getElem? fun j => ?_
    have hz : (Value.agg (enV enZ).toArray).cells.size = 5 := rfl
    rw [List.getElem?_append]
    simp only [Builtin.zeroCells, Array.toList_map, Array.toList_range, List.getElem?_map, List.length_map, List.length_range, hz]
    by_cases h1 : j < m * 5
    · rw [if_pos h1]
      rw [List.getElem?_range h1, List.getElem?_range (by omega)]
    · rw [if_neg h1]
      by_cases h2 : j < (m + 1) * 5
      · rw [List.getElem?_range h2]
        obtain ⟨q, rfl⟩ : ∃ q, j = m * 5 + q := ⟨j - m * 5, by omega⟩
        have hq : q < 5 := by omega
        rw [Nat.add_sub_cancel_left]
        have hm : (m * 5 + q) % 5 = q := by omega
        simp only [Option.map_some, hm]
        match q, hq with
        | 0, _ => rfl
        | 1, _ => rfl
        | 2, _ => rfl
        | 3, _ => rfl
        | 4, _ => rfl
      · rw [List.getElem?_eq_none (by simp; omega), List.getElem?_eq_none (by simp [enV]; omega)]
        rfl
theorem made8 : (madeCells (enV enZ).toArray (8 * 5)).toList = (List.replicate 8 enZ).flatMap enV := by kernel_rfl
/-- A leaf made. -/
theorem make9 (w : World) (base : Nat) (hb : base ≤ w.heap.size) : ∃ w', (Instr.makeSlice 51 (.int .i64 8) (.int .i64 8)).run Tryd.prog w = .ok (.slice (some ⟨w.heap.size, 0, none⟩) 8 8) w' ∧ LfO w' base (some ⟨w.heap.size, 0, none⟩, 8, 8, List.replicate 8 enZ) ∧ w.grownBy w' none := by
  have h : (Tryd.prog.info? 47).map (fun i => (i.zero.map (fun z => z.cells.toList), i.size, i.bytes)) = some (some (enV enZ), 5, 40) := by kernel_rfl
  obtain ⟨i, hi, he⟩ := Option.map_eq_some_iff.1 h
  simp only [Prod.mk.injEq] at he
  obtain ⟨z, hz, hzs⟩ := Option.map_eq_some_iff.1 he.1
  obtain ⟨w', h1, h2, h3⟩ := run_makeSlice_full (P := Tryd.prog) w base 51 47 i z 5 Tryd.underlying51 hi hz he.2.1 .i64 .i64 8 (by decide) (by rw [he.2.2]; decide) (by decide) hb
  refine ⟨w', h1, ⟨⟨?_, by simp, by show 8 ≤ 100000000; omega⟩, fun x hx => ?_⟩, h3⟩
  · have e : (madeCells z.cells (8 * 5)).toList = (List.replicate 8 enZ).flatMap enV := by
      have : z.cells = (enV enZ).toArray := by
        rw [← hzs]
      rw [this]
      exact made8
    rw [← e]
    exact h2
  · obtain ⟨_, rfl⟩ := List.mem_replicate.1 hx
    unfold EnOk enZ I64
    dsimp only
    omega
end Go.Proofs.YtbdidgfbonkneaaDoor
