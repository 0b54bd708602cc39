/-
  The closures that name pairs, slices.Index, Contains and Clone of pairs, the atomic number (package index). Conditions: short rows.
-/
import Derived.Test.YtobnmdjpcmegiaaKb
import Derived.Test.YtobnmdjpcmegiaaKc
import Derived.Deep.QuietTactic
import Derived.BigQuiet
import Derived.Laws.LoneSync
import Derived.Lib.SliceRun
namespace Go.Proofs.Ytobnmdjpcmegiaa
open Go.RowKit
set_option linter.unusedVariables false

theorem new_range {w : World} {t : TypeId} {l : List Value} : (w.alloc (.cells l.toArray t)).rangeAt w.heap.size 0 l := blk_range (Blk.new w t l.toArray)
theorem new_range1 {w : World} {t : TypeId} {u : Value} {l : List Value} : (w.alloc (.cells (u :: l).toArray t)).rangeAt w.heap.size 1 l := blk_range1 (Blk.new w t (u :: l).toArray)
/-- 'p == first'. -/
theorem isFirst_any (w : World) (r x : Pr) (qb : Nat) (h : Blk w qb 59 (pvV x).toArray) :
    Calls Try.prog 24 #[.agg (pvV r).toArray, .pointer (some ⟨qb, 0, none⟩)] w fun e w' => e = .returned (.bool (decide (r = x))) ∧ Below w.heap.size w w' := by
  have HN := Lib.hid (new_range (w := w) (t := 59) (l := pvV r))
  have HQ := Lib.hid (blk_range (h.alloc (.cells (pvV r).toArray 59)))
  have hq := fun w => eql_pr r x w
  have hg := guard_pr
  have hsz : (pvV r).toArray.size = 6 := rfl
  have HSZ := Lib.hid hsz
  obtain ⟨D, hD⟩ := named (decide (r = x))
  rw [hD.out] at hq ⊢
  obtain ⟨l1, h1⟩ := named (pvV r)
  obtain ⟨l2, h2⟩ := named (pvV x)
  have HL1 : Hid ((Try.prog.info? 59).map (·.size) = some l1.length) := by rw [← h1.out]; exact pr_size
  have HL2 : Hid ((Try.prog.info? 59).map (·.size) = some l2.length) := by rw [← h2.out]; exact pr_size
  rw [h1.out] at HN HQ hq HSZ hsz ⊢
  rw [h2.out] at HQ hq
  clear h h1 h2
  go_enter Try.func24, Try.ntmps24
  go_wp2_with (first
    | (refine wpList_load_mid rfl 59 (.tmp 2) rfl w.heap.size 0 (by rfl) l1 _ HN.out Try.underlying59 rfl HL1.out ?_)
    | (refine wpList_load_mid rfl 59 (.tmp 1) rfl qb 0 (by rfl) l2 _ HQ.out Try.underlying59 rfl HL2.out ?_))
  go_ret
  exact ⟨rfl, (Below.refl _ _).alloc (Nat.le_refl _) _⟩
/-- 'p.entry == e'. -/
theorem isOf_any (w : World) (r : Pr) (x : En) (qb : Nat) (h : Blk w qb 35 (enV x).toArray) :
    Calls Try.prog 26 #[.agg (pvV r).toArray, .pointer (some ⟨qb, 0, none⟩)] w fun e w' => e = .returned (.bool (decide (r.2 = x))) ∧ Below w.heap.size w w' := by
  have HN := Lib.hid (new_range1 (w := w) (t := 59) (u := .int .u64 r.1) (l := enV r.2))
  have HQ := Lib.hid (blk_range (h.alloc (.cells (pvV r).toArray 59)))
  have hq := fun w => eql_en r.2 x w
  have hg := guard_en
  have hsz : (pvV r).toArray.size = 6 := rfl
  obtain ⟨D, hD⟩ := named (decide (r.2 = x))
  rw [hD.out] at hq ⊢
  obtain ⟨l1, h1⟩ := named (enV r.2)
  obtain ⟨l2, h2⟩ := named (enV x)
  have HL1 : Hid ((Try.prog.info? 35).map (·.size) = some l1.length) := by rw [← h1.out]; exact en_size
  have HL2 : Hid ((Try.prog.info? 35).map (·.size) = some l2.length) := by rw [← h2.out]; exact en_size
  obtain ⟨l3, h3⟩ := named (pvV r)
  have e3 : Value.int .u64 r.1 :: enV r.2 = l3 := h3.out
  rw [e3] at HN
  rw [h3.out] at HQ hsz ⊢
  rw [h1.out] at HN hq
  rw [h2.out] at HQ hq
  clear h h1 h2 h3 e3
  go_enter Try.func26, Try.ntmps26
  go_wp2_with (first
    | (refine wpList_load_mid rfl 35 (.tmp 4) rfl w.heap.size 1 (by rfl) l1 _ HN.out Try.underlying35 rfl HL1.out ?_)
    | (refine wpList_load_mid rfl 35 (.tmp 1) rfl qb 0 (by rfl) l2 _ HQ.out Try.underlying35 rfl HL2.out ?_))
  go_ret
  exact ⟨rfl, (Below.refl _ _).alloc (Nat.le_refl _) _⟩
/-- What is said of a function value that names pairs; H stays as long as its box does. -/
def TellsX (F : Nat) (qb : Nat) (q : Pr → Bool) (ty : TypeId) (cs : Array Value) : Prop :=
  ∀ (w : World) (r : Pr), Blk w qb ty cs → Calls Try.prog F #[.agg (pvV r).toArray, .pointer (some ⟨qb, 0, none⟩)] w fun e w' => e = .returned (.bool (q r)) ∧ Below w.heap.size w w'
def IdxQ (n : Nat) (L : List Pr) (q : Pr → Bool) (w : World) (e : Ending) (w' : World) : Prop :=
  ((e = .returned (.int .i64 (-1)) ∧ ∀ x ∈ L, q x = false) ∨ ∃ (i : Nat) (r : Pr), i < n ∧ ((i : Int) == -1) = false ∧ e = .returned (.int .i64 i) ∧ L[i]? = some r ∧ q r = true ∧ ∀ x ∈ L.take i, q x = false) ∧ Below w.heap.size w w'
/-- What the loop of DeleteFunc holds. -/
def DelSt (w : World) (b n c : Nat) (q : Pr → Bool) (L : List Pr) (i j : Nat) (wr : World) : Prop :=
  ∃ M : List Pr, OwnG pvV 59 6 wr 0 (.slice (some ⟨b, 0, Option.none⟩) n c) n M ∧ M.take i = (L.take j).filter (fun x => !q x) ∧ M.drop j = L.drop j ∧ w.grownBy wr (some b)
theorem DelSt.first {w : World} {b n c : Nat} {q : Pr → Bool} {L : List Pr} {i : Nat} {r : Pr} (hown : OwnG pvV 59 6 w 0 (.slice (some ⟨b, 0, Option.none⟩) n c) n L) (w1 : World) (hb : Below w.heap.size w w1) (hr : L[i]? = some r) (hN : q r = true) (hA : ∀ x ∈ L.take i, q x = false) :
    DelSt w b n c q L i (i + 1) w1 := by
  refine ⟨L, hown.kept' (grown_of_below hb) (fun k _ e => by cases e), ?_, rfl, ⟨hb.os, hb.tape, hb.output, hb.size, fun k hk _ => hb.block k hk⟩⟩
  rw [List.take_add_one, hr, List.filter_append, List.filter_eq_self.2 (fun x hx => by simp [hA x hx])]
  simp [hN]
theorem DelSt.row {w : World} {b n c : Nat} {q : Pr → Bool} {L : List Pr} {i j : Nat} {wr : World} (h : DelSt w b n c q L i j wr) (r : Pr) (hr : L[j]? = some r) : wr.rangeAt b (j * 6) (pvV r) := by
  obtain ⟨M, h1, _, h3, _⟩ := h
  have : M[j]? = some r := by
    have := congrArg (fun l : List Pr => l[0]?) h3
    simpa [hr] using this
  exact pr_range h1 j r this
theorem DelSt.later {w : World} {b n c : Nat} {q : Pr → Bool} {L : List Pr} {i j : Nat} {wr w' : World} (h : DelSt w b n c q L i j wr) (hb : Below wr.heap.size wr w') : DelSt w b n c q L i j w' := by
  obtain ⟨M, h1, h2, h3, h4⟩ := h
  refine ⟨M, h1.kept' (grown_of_below hb) (fun k _ e => by cases e), h2, h3, ⟨hb.os.trans h4.os, hb.tape.trans h4.tape, hb.output.trans h4.output, Nat.le_trans h4.size hb.size, fun k hk hne => (hb.block k (Nat.lt_of_lt_of_le hk h4.size)).trans (h4.block k hk hne)⟩⟩
theorem DelSt.skip {w : World} {b n c : Nat} {q : Pr → Bool} {L : List Pr} {i j : Nat} {wr : World} (h : DelSt w b n c q L i j wr) (r : Pr) (hr : L[j]? = some r) (hk : q r = true) : DelSt w b n c q L i (j + 1) wr := by
  obtain ⟨M, h1, h2, h3, h4⟩ := h
  refine ⟨M, h1, ?_, ?_, h4⟩
  · rw [h2, List.take_add_one, hr, List.filter_append]
    simp [hk]
  · rw [← List.drop_drop, h3, List.drop_drop]
theorem flat6 (M : List Pr) : (M.flatMap pvV).length = M.length * 6 := flat_len pvV_len M
theorem flat_set6 (M : List Pr) (i : Nat) (h : i < M.length) (r : Pr) : (M.set i r).flatMap pvV = (M.flatMap pvV).take (i * 6) ++ pvV r ++ (M.flatMap pvV).drop (i * 6 + 6) := by
  have e : M = M.take i ++ M[i] :: M.drop (i + 1) := by rw [← List.drop_eq_getElem_cons h, List.take_append_drop]
  have hl : ((M.take i).flatMap pvV).length = i * 6 := by rw [flat6, List.length_take, Nat.min_eq_left (by omega)]
  have e2 : M.flatMap pvV = (M.take i).flatMap pvV ++ (pvV M[i] ++ (M.drop (i + 1)).flatMap pvV) := by
    conv => lhs; rw [e]
    rw [List.flatMap_append, List.flatMap_cons]
  rw [List.set_eq_take_append_cons_drop, if_pos h, List.flatMap_append, List.flatMap_cons, e2, List.take_left' hl, List.append_assoc]
  congr 2
  rw [← List.append_assoc, List.drop_left' (by rw [List.length_append, hl, pvV_len])]
/-- A pair stored in the row of one's own. -/
theorem own_pr_set {w : World} {base n b c : Nat} {M : List Pr} (h : OwnG pvV 59 6 w base (.slice (some ⟨b, 0, Option.none⟩) n c) n M) (i : Nat) (hi : i < n) (r : Pr) :
    ∃ cur, w.heap[b]? = some (.cells cur 59 (0, 0)) ∧ i * 6 + (pvV r).length ≤ cur.size ∧
      OwnG pvV 59 6 (w.setRow b (cur.toList.take (i * 6) ++ pvV r ++ cur.toList.drop (i * 6 + (pvV r).length)).toArray) base (.slice (some ⟨b, 0, Option.none⟩) n c) n (M.set i r) := by
  obtain ⟨⟨h1, h2⟩, h3, h4⟩ := h
  rcases h2 with ⟨e, _⟩ | ⟨g, cap, cur, e, hb, hg, hn, hm, hs, ht⟩
  · cases e
  · cases e
    have hfl := flat6 M
    rw [h3] at hfl
    have hcl : cur.toList.length = c * 6 := by rw [Array.length_toList, hs]
    have hns : n * 6 ≤ c * 6 := Nat.mul_le_mul_right _ hn
    have hin : i * 6 + 6 ≤ n * 6 := by omega
    refine ⟨cur, hg, by rw [pvV_len, hs]; omega, ⟨⟨by rw [flat6, List.length_set, h3], Or.inr ⟨b, c, _, rfl, hb, setRow_heap w b cur _ _ _ hg, hn, hm, ?_, ?_⟩⟩, by rw [List.length_set]; exact h3, h4⟩⟩
    · rw [List.size_toArray, List.length_append, List.length_append, List.length_take, List.length_drop, pvV_len, hcl]
      omega
    · rw [flat_set6 M i (by omega) r, ← ht, pvV_len]
      show (cur.toList.take (i * 6) ++ pvV r ++ cur.toList.drop (i * 6 + 6)).take (n * 6) = _
      rw [List.take_take, Nat.min_eq_left (by omega), List.drop_take, List.take_append, List.length_append, List.length_take, pvV_len, hcl, Nat.min_eq_left (by omega), List.take_of_length_le (by rw [List.length_append, List.length_take, pvV_len]; omega)]
theorem DelSt.put {w : World} {b n c : Nat} {q : Pr → Bool} {L : List Pr} {i j : Nat} {wr : World} (h : DelSt w b n c q L i j wr) (hij : i < j) (hj : j < n) (r : Pr) (hr : L[j]? = some r) (hk : q r = false) :
    ∃ cur : Array Value, wr.heap[b]? = some (.cells cur 59 (0, 0)) ∧ i * 6 + (pvV r).length ≤ cur.size ∧ DelSt w b n c q L (i + 1) (j + 1) (wr.setRow b (cur.toList.take (i * 6) ++ pvV r ++ cur.toList.drop (i * 6 + (pvV r).length)).toArray) := by
  obtain ⟨M, h1, h2, h3, h4⟩ := h
  obtain ⟨cur, k1, k2, k3⟩ := own_pr_set h1 i (by omega) r
  refine ⟨cur, k1, k2, M.set i r, k3, ?_, ?_, h4.os, h4.tape, h4.output, by have := h4.size; simpa [World.setRow] using this, fun k hk hne => (setRow_other wr b k _ (fun e => hne (by rw [e]))).trans (h4.block k hk hne)⟩
  · have hMl : M.length = n := h1.2.1
    have hi : i < M.length := by omega
    rw [List.take_add_one, List.take_set_of_le (Nat.le_refl _), h2, List.take_add_one, hr, List.filter_append, List.getElem?_set_self hi]
    simp [hk]
  · rw [List.drop_set_of_lt (by omega), ← List.drop_drop, h3, List.drop_drop]
theorem range_later {W W' : World} {g o : Nat} {cs : List Value} (hb : Below W.heap.size W W') (h : W.rangeAt g o cs) (hg : g < W.heap.size) : W'.rangeAt g o cs := fun i v hv => (hb.cell (p := ⟨g, o + i, none⟩) hg).trans (h i v hv)
theorem slice_back6 {b j c p : Nat} (h1 : p < j) (h2 : j ≤ c) (w' : World) : (Instr.slice 47 (.slice (some ⟨b, 0, none⟩) j c) (some (.int .i64 p)) none none).run Try.prog w' = .ok (.slice (some ⟨b, p * 6, none⟩) (j - p) (c - p)) w' := by
  obtain ⟨i0, hi0, hi1⟩ := Option.map_eq_some_iff.1 pr_size
  have b1 : p ≤ j := by omega
  have b2 : ¬ c = p := by omega
  simp [Instr.slice, Instr.sliceBounds, Instr.sliceBound, asIntOf, run_underlying Try.underlying47, sizeOf, typeInfo, hi0, hi1, b1, b2, Addr.add, go_sem]
  exact fun h => h.symm
theorem slice_front6 {b j c p : Nat} (h1 : p ≤ c) (w' : World) : (Instr.slice 47 (.slice (some ⟨b, 0, none⟩) j c) none (some (.int .i64 p)) none).run Try.prog w' = .ok (.slice (some ⟨b, 0, none⟩) p c) w' := by
  obtain ⟨i0, hi0, _⟩ := Option.map_eq_some_iff.1 pr_size
  simp [Instr.slice, Instr.sliceBounds, Instr.sliceBound, asIntOf, run_underlying Try.underlying47, sizeOf, typeInfo, hi0, h1, Addr.add, go_sem]
theorem run_clear_row {P : Program} (w : World) (t e ty : TypeId) (z : Value) (k : Nat) (ht : P.underlying t = some (.slice e)) (hv : ∀ w, (zeroValue e).run P w = .ok z w) (hz : z.cells.size = k) (h1 : ∀ u ∈ z.cells, u.oneCell' = true) (g o m c : Nat) (cur : Array Value) (hm : 0 < m)
    (hg : w.heap[g]? = some (.cells cur e (0, 0))) (hfit : o + m * k ≤ cur.size) :
    ∃ zs : List Value, zs.length = m * k ∧ (Builtin.clear_ #[t] ty #[.slice (some ⟨g, o, none⟩) m c]).run P w = .ok (.tuple #[]) (w.setRow g (cur.toList.take o ++ zs ++ cur.toList.drop (o + zs.length)).toArray) := by
  have hl : (Builtin.zeroCells z.cells m).toList.length = m * k := by rw [Array.length_toList, size_zeroCells, hz]
  have hone : ∀ u ∈ (Builtin.zeroCells z.cells m).toList, u.oneCell' = true := fun u hu => by
    simp only [Builtin.zeroCells, Array.toList_map, List.mem_map, Array.mem_toList_iff, Array.mem_range] at hu
    obtain ⟨i, hi, rfl⟩ := hu
    have h0 : 0 < z.cells.size := by
      rcases Nat.eq_zero_or_pos z.cells.size with h | h
      · rw [h, Nat.mul_zero] at hi
        omega
      · exact h
    have hlt := Nat.mod_lt i h0
    rw [getElem!_pos z.cells _ hlt]
    exact h1 _ (Array.getElem_mem hlt)
  refine ⟨(Builtin.zeroCells z.cells m).toList, hl, ?_⟩
  have hst := run_storeCells_at P g o e (Builtin.zeroCells z.cells m).toList 0 cur w hg (by rw [hl]; simpa using hfit) hone
  simp only [Nat.add_zero] at hst
  obtain ⟨m, rfl⟩ : ∃ q, m = q + 1 := ⟨m - 1, by omega⟩
  simp [Builtin.clear_, run_underlying ht, hv, hst]
/-- A record into the middle of a row. -/
theorem run_storeAt_mid {P : Program} (w : World) (t e : TypeId) (g o : Nat) (cur c' : Array Value) (hg : w.heap[g]? = some (.cells cur e (0, 0))) (hi : (P.info? t).map (·.size) = some c'.size) (hfit : o + c'.toList.length ≤ cur.size) (h1 : ∀ u ∈ c'.toList, u.oneCell' = true) :
    (Instr.storeAt t (.pointer (some ⟨g, o, none⟩)) (.agg c')).run P w = .ok () (w.setRow g (cur.toList.take o ++ c'.toList ++ cur.toList.drop (o + c'.toList.length)).toArray) := by
  have hst := run_storeCells_at P g o e c'.toList 0 cur w hg (by simpa using hfit) h1
  simp only [Nat.add_zero] at hst
  obtain ⟨i, hii, hs⟩ := Option.map_eq_some_iff.1 hi
  simp [Instr.storeAt, Instr.sureAddr, storeVar, sizeOf, typeInfo, hii, hs, Value.cells, Result.andThen, hst]
theorem wpList_store_mid {P : Program} {ops : Array Oper} {rest : List Oper} {op : Oper} {a : Act} {w : World} {Q : Exit → Act → World → Prop} {t e : TypeId} (hgd : op.guard = none) (x y : Operand) (ho : op.op = .store t x y) (g o : Nat) (cur c' : Array Value)
    (hx : a.eval x = .pointer (some ⟨g, o, none⟩)) (hy : a.eval y = .agg c') (hg : w.heap[g]? = some (.cells cur e (0, 0))) (hi : (P.info? t).map (·.size) = some c'.size) (hfit : o + c'.toList.length ≤ cur.size) (h1 : ∀ u ∈ c'.toList, u.oneCell' = true)
    (h : wpList P ops Q rest (a.put op.dst undef) (w.setRow g (cur.toList.take o ++ c'.toList ++ cur.toList.drop (o + c'.toList.length)).toArray)) : wpList P ops Q (op :: rest) a w := by
  refine wpList_plain hgd fun K' hK => ?_
  unfold Oper.wp execOp
  simp only [ho, hx, hy, run_storeAt_mid w t e g o cur c' hg hi hfit h1, Sem.run_bind, Result.andThen_ok]
  exact hK _ _ h
/-- A record into the block that was made last. -/
theorem wpList_store_new {P : Program} {ops : Array Oper} {rest : List Oper} {op : Oper} {a : Act} {w : World} {Q : Exit → Act → World → Prop} {t : TypeId} {c : Array Value} (hgd : op.guard = none) (x y : Operand) (ho : op.op = .store t x y) (c' : Array Value)
    (hx : a.eval x = .pointer (some ⟨w.heap.size, 0, none⟩)) (hy : a.eval y = .agg c') (hi : (P.info? t).map (·.size) = some c'.size) (hc : c.size = c'.size) (h1 : c'.all (·.oneCell') = true)
    (h : wpList P ops Q rest (a.put op.dst undef) (w.alloc (.cells c' t))) : wpList P ops Q (op :: rest) a (w.alloc (.cells c t)) := by
  refine wpList_plain hgd fun K' hK => ?_
  unfold Oper.wp execOp
  simp only [ho, hx, hy, run_storeAt_new w t c c' hi hc h1, Sem.run_bind, Result.andThen_ok]
  exact hK _ _ h
end Go.Proofs.Ytobnmdjpcmegiaa
