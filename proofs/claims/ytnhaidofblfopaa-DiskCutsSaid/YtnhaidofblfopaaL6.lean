/-
  Cut: what is struck out of the records (package disk). Conditions: the records as they lie.
-/
import Derived.Test.YtnhaidofblfopaaJ5
namespace Go.Proofs.Ytnhaidofblfopaa
open Go.RowKit
set_option linter.unusedVariables false

theorem cut1_any {w : World} (r : Nat × Nat × Sec) (b : Nat) (k : Int) (hq : w.cell? ⟨b, 0, none⟩ = some (.int .i64 k)) (hb : b < w.heap.size) :
    Calls Try.prog 59 #[.agg (recV r).toArray, .pointer (some ⟨b, 0, none⟩)] w fun e w' => e = .returned (.bool (decide (k ≤ (r.2.1 : Int)))) ∧ Below w.heap.size w w' := by
  obtain ⟨CS, hCS⟩ := named (recV r).toArray
  have hc1 : CS[1]? = some (.int .i64 r.2.1) := by rw [← hCS.out]; rfl
  have hBl := Blk.new w 77 CS
  have hcb : (w.alloc (.cells CS 77)).cell? ⟨w.heap.size, 1, none⟩ = some (.int .i64 r.2.1) := by rw [hBl.cell]; exact hc1
  have hcq : (w.alloc (.cells CS 77)).cell? ⟨b, 0, none⟩ = some (.int .i64 k) := (World.cell?_of_block (Below.heap_alloc w _ b hb)).trans hq
  rw [hCS.out]
  clear hBl hc1 hCS
  go_enter Try.func59, Try.ntmps59
  go_wp2
  go_ret
  exact ⟨rfl, (Below.refl _ _).alloc (Nat.le_refl _) _⟩
abbrev RC := Nat × Nat × Sec
theorem rec_cell {w w' : World} {n b c : Nat} {L : List RC} (h : OwnG recV 77 18 w 0 (.slice (some ⟨b, 0, none⟩) n c) n L) (hb : Below w.heap.size w w') (j : Nat) (r : RC) (hr : L[j]? = some r) : w'.rangeAt b (j * 18) (recV r) := fun i v hv => (hb.cell (p := ⟨b, j * 18 + i, none⟩) (h.1.lt b rfl).2).trans (ownG_range h j r hr i v hv)
/-- What slices.IndexFunc hands back. -/
def IdxR (L : List RC) (k : Int) (e : Ending) : Prop := (e = .returned (.int .i64 (-1)) ∧ ∀ r ∈ L, (r.2.1 : Int) < k) ∨ ∃ (i : Nat) (r : RC), e = .returned (.int .i64 i) ∧ L[i]? = some r ∧ k ≤ (r.2.1 : Int) ∧ ∀ x ∈ L.take i, (x.2.1 : Int) < k
set_option maxHeartbeats 400000 in
set_option maxRecDepth 100000 in
theorem indexf_any {w : World} {n b c qb : Nat} {L : List RC} (hown : OwnG recV 77 18 w 0 (.slice (some ⟨b, 0, none⟩) n c) n L) (hn : n ≤ 3000000) (k : Int) (hq : w.cell? ⟨qb, 0, none⟩ = some (.int .i64 k)) (hqb : qb < w.heap.size) :
    Calls Try.prog 68 #[.slice (some ⟨b, 0, none⟩) n c, .func (.func 59) #[] #[.pointer (some ⟨qb, 0, none⟩)]] w fun e w' =>
      IdxR L k e ∧ Below w.heap.size w w' := by
  have hL : L.length = n := hown.2.1
  have HO := Lib.hid hown
  have HQ := Lib.hid hq
  clear hown hq
  go_enter Try.func68, Try.ntmps68
  go_wp2_with fail
  go_loopw [5, 8] (fun _ i wr => ∃ j : Nat, j ≤ n ∧ i = .int .i64 j ∧ Hid (Below w.heap.size w wr) ∧ Hid (∀ x ∈ L.take j, (x.2.1 : Int) < k)) (fun _ i _ => n - (intOf i).toNat)
  case atStart => exact ⟨0, Nat.zero_le _, rfl, Below.refl _ _, fun x hx => by simp at hx⟩
  case round =>
    obtain ⟨j, hj, rfl, HB, HA⟩ := hrel
    by_cases hlt : j < n
    · obtain ⟨r, hr⟩ : ∃ r, L[j]? = some r := ⟨_, List.getElem?_eq_getElem (by omega)⟩
      obtain ⟨CS, hCS⟩ := named (recV r).toArray
      have hCSL : CS.size = 18 := by rw [← hCS.out]; simp [recV_len]
      have hE : CS.toList = recV r := by rw [← hCS.out]
      have HR1 : Hid (wr.rangeAt b (j * 18) CS.toList) := Lib.hid (by rw [hE]; exact rec_cell HO.out HB.out j r hr)
      have HSZ : Hid ((Try.prog.info? 77).map (·.size) = some CS.toList.length) := by rw [Hid, Array.length_toList, hCSL]; exact rec_size
      have hcall := cut1_any (w := wr) r qb k ((HB.out.cell (p := ⟨qb, 0, none⟩) hqb).trans HQ.out) (Nat.lt_of_lt_of_le hqb HB.out.size)
      rw [hCS.out] at hcall
      have HRR := Lib.hid hr
      clear hr hE
      by_cases hp : k ≤ (r.2.1 : Int)
      · have HP := Lib.hid hp
        rw [decide_eq_true hp] at hcall
        have HCL := Lib.hid hcall
        clear hp hcall
        go_wp2_with (first
          | (refine wpList_load_mid rfl 77 (.tmp 14) rfl b (j * 18) (by rfl) CS.toList _ HR1.out Try.underlying77 rfl HSZ.out ?_)
          | (go_at_call 59; refine HCL.out.mono ?_; rintro e w' ⟨rfl, hb'⟩; have HB' := Lib.hid hb'; clear hb'))
        go_ret
        exact ⟨Or.inr ⟨j, r, rfl, HRR.out, HP.out, HA.out⟩, HB.out.trans (HB'.out.mono HB.out.size)⟩
      · have HP := Lib.hid hp
        rw [decide_eq_false hp] at hcall
        have HCL := Lib.hid hcall
        clear hp hcall
        go_wp2_with (first
          | (refine wpList_load_mid rfl 77 (.tmp 14) rfl b (j * 18) (by rfl) CS.toList _ HR1.out Try.underlying77 rfl HSZ.out ?_)
          | (go_at_call 59; refine HCL.out.mono ?_; rintro e w' ⟨rfl, hb'⟩; have HB' := Lib.hid hb'; clear hb'))
        go_roundw
        case rel =>
          refine ⟨j + 1, by omega, by go_num, HB.out.trans (HB'.out.mono HB.out.size), fun x hx => ?_⟩
          rw [List.take_add_one, HRR.out] at hx
          rcases List.mem_append.1 hx with hx | hx
          · exact HA.out x hx
          · simp at hx
            rw [hx]
            have := HP.out
            omega
        case measure => simp [intOf]; omega
    · obtain rfl : j = n := by omega
      have e : L.take j = L := List.take_of_length_le (by omega)
      rw [e] at HA
      go_wp2_with fail
      go_ret
      exact ⟨Or.inl ⟨rfl, HA.out⟩, HB.out⟩
theorem flat18 (M : List RC) : (M.flatMap recV).length = M.length * 18 := flat_len recV_len M
theorem flat_set18 (M : List RC) (i : Nat) (h : i < M.length) (r : RC) : (M.set i r).flatMap recV = (M.flatMap recV).take (i * 18) ++ recV r ++ (M.flatMap recV).drop (i * 18 + 18) := by
  have e : M = M.take i ++ M[i] :: M.drop (i + 1) := by rw [← List.drop_eq_getElem_cons h, List.take_append_drop]
  have hl : ((M.take i).flatMap recV).length = i * 18 := by rw [flat18, List.length_take, Nat.min_eq_left (by omega)]
  have e2 : M.flatMap recV = (M.take i).flatMap recV ++ (recV M[i] ++ (M.drop (i + 1)).flatMap recV) := by
    conv => lhs; rw [e]
    rw [List.flatMap_append, List.flatMap_cons]
  rw [List.set_eq_take_append_cons_drop, if_pos h, List.flatMap_append, List.flatMap_cons, e2, List.take_left' hl, List.append_assoc]
  congr 2
  rw [← List.append_assoc, List.drop_left' (by rw [List.length_append, hl, recV_len])]
/-- A record stored in the row of one's own. -/
theorem own_rec_set {w : World} {base n b c : Nat} {M : List RC} (h : OwnG recV 77 18 w base (.slice (some ⟨b, 0, Option.none⟩) n c) n M) (i : Nat) (hi : i < n) (r : RC) :
    ∃ cur, w.heap[b]? = some (.cells cur 77 (0, 0)) ∧ i * 18 + (recV r).length ≤ cur.size ∧
      OwnG recV 77 18 (w.setRow b (cur.toList.take (i * 18) ++ recV r ++ cur.toList.drop (i * 18 + (recV r).length)).toArray) base (.slice (some ⟨b, 0, Option.none⟩) n c) n (M.set i r) := by
  obtain ⟨⟨h1, h2⟩, h3, h4⟩ := h
  rcases h2 with ⟨e, _⟩ | ⟨g, cap, cur, e, hb, hg, hn, hm, hs, ht⟩
  · cases e
  · cases e
    have hfl := flat18 M
    rw [h3] at hfl
    have hcl : cur.toList.length = c * 18 := by rw [Array.length_toList, hs]
    have hns : n * 18 ≤ c * 18 := Nat.mul_le_mul_right _ hn
    have hin : i * 18 + 18 ≤ n * 18 := by omega
    refine ⟨cur, hg, by rw [recV_len, hs]; omega, ⟨⟨by rw [flat18, List.length_set, h3], Or.inr ⟨b, c, _, rfl, hb, setRow_heap w b cur _ _ _ hg, hn, hm, ?_, ?_⟩⟩, by rw [List.length_set]; exact h3, h4⟩⟩
    · rw [List.size_toArray, List.length_append, List.length_append, List.length_take, List.length_drop, recV_len, hcl]
      omega
    · rw [flat_set18 M i (by omega) r, ← ht, recV_len]
      show (cur.toList.take (i * 18) ++ recV r ++ cur.toList.drop (i * 18 + 18)).take (n * 18) = _
      rw [List.take_take, Nat.min_eq_left (by omega), List.drop_take, List.take_append, List.length_append, List.length_take, recV_len, hcl, Nat.min_eq_left (by omega), List.take_of_length_le (by rw [List.length_append, List.length_take, recV_len]; omega)]
theorem run_clear_row {P : Program} (w : World) (t e ty : TypeId) (z : Value) (k : Nat) (ht : P.underlying t = some (.slice e)) (hv : ∀ w, (zeroValue e).run P w = .ok z w) (hz : z.cells.size = k) (h1 : ∀ u ∈ z.cells, u.oneCell' = true) (g o m c : Nat) (cur : Array Value) (hm : 0 < m)
    (hg : w.heap[g]? = some (.cells cur e (0, 0))) (hfit : o + m * k ≤ cur.size) :
    ∃ zs : List Value, zs.length = m * k ∧ (Builtin.clear_ #[t] ty #[.slice (some ⟨g, o, none⟩) m c]).run P w = .ok (.tuple #[]) (w.setRow g (cur.toList.take o ++ zs ++ cur.toList.drop (o + zs.length)).toArray) := by
  have hl : (Builtin.zeroCells z.cells m).toList.length = m * k := by rw [Array.length_toList, size_zeroCells, hz]
  have hone : ∀ u ∈ (Builtin.zeroCells z.cells m).toList, u.oneCell' = true := fun u hu => by
    simp only [Builtin.zeroCells, Array.toList_map, List.mem_map, Array.mem_toList_iff, Array.mem_range] at hu
    obtain ⟨i, hi, rfl⟩ := hu
    have h0 : 0 < z.cells.size := by
      rcases Nat.eq_zero_or_pos z.cells.size with h | h
      · rw [h, Nat.mul_zero] at hi
        omega
      · exact h
    have hlt := Nat.mod_lt i h0
    rw [getElem!_pos z.cells _ hlt]
    exact h1 _ (Array.getElem_mem hlt)
  refine ⟨(Builtin.zeroCells z.cells m).toList, hl, ?_⟩
  have hst := run_storeCells_at P g o e (Builtin.zeroCells z.cells m).toList 0 cur w hg (by rw [hl]; simpa using hfit) hone
  simp only [Nat.add_zero] at hst
  obtain ⟨m, rfl⟩ : ∃ q, m = q + 1 := ⟨m - 1, by omega⟩
  simp [Builtin.clear_, run_underlying ht, hv, hst]
/-- A record into the middle of a row. -/
theorem run_storeAt_mid {P : Program} (w : World) (t e : TypeId) (g o : Nat) (cur c' : Array Value) (hg : w.heap[g]? = some (.cells cur e (0, 0))) (hi : (P.info? t).map (·.size) = some c'.size) (hfit : o + c'.toList.length ≤ cur.size) (h1 : ∀ u ∈ c'.toList, u.oneCell' = true) :
    (Instr.storeAt t (.pointer (some ⟨g, o, none⟩)) (.agg c')).run P w = .ok () (w.setRow g (cur.toList.take o ++ c'.toList ++ cur.toList.drop (o + c'.toList.length)).toArray) := by
  have hst := run_storeCells_at P g o e c'.toList 0 cur w hg (by simpa using hfit) h1
  simp only [Nat.add_zero] at hst
  obtain ⟨i, hii, hs⟩ := Option.map_eq_some_iff.1 hi
  simp [Instr.storeAt, Instr.sureAddr, storeVar, sizeOf, typeInfo, hii, hs, Value.cells, Result.andThen, hst]
theorem wpList_store_mid {P : Program} {ops : Array Oper} {rest : List Oper} {op : Oper} {a : Act} {w : World} {Q : Exit → Act → World → Prop} {t e : TypeId} (hgd : op.guard = none) (x y : Operand) (ho : op.op = .store t x y) (g o : Nat) (cur c' : Array Value)
    (hx : a.eval x = .pointer (some ⟨g, o, none⟩)) (hy : a.eval y = .agg c') (hg : w.heap[g]? = some (.cells cur e (0, 0))) (hi : (P.info? t).map (·.size) = some c'.size) (hfit : o + c'.toList.length ≤ cur.size) (h1 : ∀ u ∈ c'.toList, u.oneCell' = true)
    (h : wpList P ops Q rest (a.put op.dst undef) (w.setRow g (cur.toList.take o ++ c'.toList ++ cur.toList.drop (o + c'.toList.length)).toArray)) : wpList P ops Q (op :: rest) a w := by
  refine wpList_plain hgd fun K' hK => ?_
  unfold Oper.wp execOp
  simp only [ho, hx, hy, run_storeAt_mid w t e g o cur c' hg hi hfit h1, Sem.run_bind, Result.andThen_ok]
  exact hK _ _ h
end Go.Proofs.Ytnhaidofblfopaa
