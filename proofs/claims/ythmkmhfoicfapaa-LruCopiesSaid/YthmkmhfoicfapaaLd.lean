/-
  slices.Insert, slices.Delete of one pointer in the row of the items (package lru). Conditions: a short row of the cache's own.
-/
import Derived.Test.YthmkmhfoicfapaaLb
import Derived.Lib.Overlaps
import Derived.Lib.AppendZerosOnto
import Derived.Laws.Externs
import Derived.Lib.SliceRun
import Derived.Shelf.RegionOpenPlain
import Derived.Deep.RegionLaw
import Derived.Deep.MidRow
import Derived.BigQuiet
namespace Go.Proofs.Ythmkmhfoicfapaa
open Go.RowKit
set_option linter.unusedVariables false

theorem step_copy_eq {P : Program} {ops : Array Oper} {o : Oper} {a : Act} {w : World} {K : Act → World → Prop} {Q : Exit → Act → World → Prop} {E : Prop} (hgd : o.guard = none) (d s : Operand) (t t' : TypeId)
    (ho : o.op = .call { callee := .builtin .copy, args := #[d, s], argTypes := #[t, t'] }) (v u : Value) (hd : a.eval d = v) (hs : a.eval s = u) {v' : Value} {w' : World}
    (hr : (Builtin.copy_ #[t, t'] o.type #[v, u]).run P w = .ok v' w') (h : K (a.put o.dst v') w') : if Region.wanted o (yielded ops a.tmps) = true then Oper.wp P o a w K Q else E := by
  have hw : Region.wanted o (yielded ops a.tmps) = true := by simp [Region.wanted, hgd]
  rw [if_pos hw]
  unfold Oper.wp execOp
  simp only [ho, resolve, invoke, builtin, Sem.run_bind, Sem.run_pure, Result.andThen_ok, List.map_toArray, List.map_cons, List.map_nil, hd, hs, hr]
  exact h
theorem wpList_copy_eq {P : Program} {ops : Array Oper} {rest : List Oper} {o : Oper} {a : Act} {w : World} {Q : Exit → Act → World → Prop} (hgd : o.guard = none) (d s : Operand) (t t' : TypeId)
    (ho : o.op = .call { callee := .builtin .copy, args := #[d, s], argTypes := #[t, t'] }) (v u : Value) (hd : a.eval d = v) (hs : a.eval s = u) {v' : Value} {w' : World}
    (hr : (Builtin.copy_ #[t, t'] o.type #[v, u]).run P w = .ok v' w') (h : wpList P ops Q rest (a.put o.dst v') w') : wpList P ops Q (o :: rest) a w := by
  refine wpList_plain hgd fun K hK => ?_
  unfold Oper.wp execOp
  simp only [ho, resolve, invoke, builtin, Sem.run_bind, Sem.run_pure, Result.andThen_ok, List.map_toArray, List.map_cons, List.map_nil, hd, hs, hr]
  exact hK _ _ h
theorem wpList_append_eq {P : Program} {ops : Array Oper} {rest : List Oper} {o : Oper} {a : Act} {w : World} {Q : Exit → Act → World → Prop} (hgd : o.guard = none) (d s : Operand) (t t' : TypeId)
    (ho : o.op = .call { callee := .builtin .append, args := #[d, s], argTypes := #[t, t'] }) (v u : Value) (hd : a.eval d = v) (hs : a.eval s = u) {v' : Value} {w' : World}
    (hr : (Builtin.append_ #[t, t'] o.type #[v, u]).run P w = .ok v' w') (h : wpList P ops Q rest (a.put o.dst v') w') : wpList P ops Q (o :: rest) a w := by
  refine wpList_plain hgd fun K hK => ?_
  unfold Oper.wp execOp
  simp only [ho, resolve, invoke, builtin, Sem.run_bind, Sem.run_pure, Result.andThen_ok, List.map_toArray, List.map_cons, List.map_nil, hd, hs, hr]
  exact hK _ _ h
theorem pvl_len (L : List IR) : (L.flatMap ptrV).length = L.length := by rw [flat_len (cv := ptrV) (sz := 1) (fun _ => rfl), Nat.mul_one]
theorem pvl_map (L : List IR) : L.flatMap ptrV = L.map fun f => Value.pointer (some ⟨f.G, 0, none⟩) := by
  induction L with
  | nil => rfl
  | cons f r ih => rw [List.flatMap_cons, ih]; rfl
theorem pvl_one {L : List IR} : ∀ u ∈ L.flatMap ptrV, u.oneCell' = true := fun u hu => by
  rw [pvl_map] at hu
  obtain ⟨_, _, rfl⟩ := List.mem_map.1 hu
  rfl
/-- In place: what stood from i on moves by one. -/
theorem ins_room (cur P : List Value) (n i : Nat) (p : Value) (h : cur.take n = P) (hl : n + 1 ≤ cur.length) (hi : i < n) (c1 : List Value) (hc : c1 = cur.take (i + 1) ++ P.drop i ++ cur.drop (i + 1 + (P.drop i).length)) :
    (c1.take i ++ [p] ++ c1.drop (i + [p].length)).take (n + 1) = P.take i ++ p :: P.drop i ∧ (c1.take i ++ [p] ++ c1.drop (i + [p].length)).length = cur.length := by
  have hP : P.length = n := by rw [← h, List.length_take]; omega
  have h1 : (cur.take (i + 1)).length = i + 1 := by rw [List.length_take]; omega
  have hd : (P.drop i).length = n - i := by rw [List.length_drop, hP]
  have e1 : c1.take i = P.take i := by
    rw [hc, ← h, List.append_assoc, List.take_append_of_le_length (by omega), List.take_take, List.take_take]
    congr 1
    omega
  have e2 : c1.drop (i + 1) = P.drop i ++ cur.drop (i + 1 + (n - i)) := by
    rw [hc, List.append_assoc, List.drop_left' h1, hd]
  have hti : (P.take i).length = i := by rw [List.length_take]; omega
  rw [List.length_singleton, e1, e2]
  refine ⟨?_, ?_⟩
  · rw [List.append_assoc, List.singleton_append, ← List.cons_append, ← List.append_assoc]
    rw [List.take_append_of_le_length (by simp; omega), List.take_of_length_le (by simp; omega)]
  · simp
    omega
/-- In a row anew. -/
theorem ins_grow (P z : List Value) (n i : Nat) (p : Value) (hP : P.length = n) (hi : i < n) (hz : n + 1 - i ≤ z.length) (c0 c1 : List Value) (h0 : c0 = P.take i ++ z) (h1 : c1 = c0.take i ++ [p] ++ c0.drop (i + [p].length)) :
    (c1.take (i + 1) ++ P.drop i ++ c1.drop (i + 1 + (P.drop i).length)).take (n + 1) = P.take i ++ p :: P.drop i ∧ (c1.take (i + 1) ++ P.drop i ++ c1.drop (i + 1 + (P.drop i).length)).length = c0.length := by
  have hti : (P.take i).length = i := by rw [List.length_take]; omega
  have hd : (P.drop i).length = n - i := by rw [List.length_drop, hP]
  have e0 : c0.take i = P.take i := by rw [h0, List.take_append_of_le_length (by omega), List.take_take]; congr 1; omega
  have e1 : c1.take (i + 1) = P.take i ++ [p] := by
    rw [h1, e0]
    exact List.take_left' (by simp; omega)
  have hc0 : c0.length = i + z.length := by rw [h0, List.length_append, hti]
  have hc1 : c1.length = c0.length := by rw [h1, e0]; simp; omega
  rw [e1]
  refine ⟨?_, ?_⟩
  · rw [List.append_assoc (P.take i), List.singleton_append]
    exact List.take_left' (by simp; omega)
  · simp
    omega
theorem ptr_info : ∃ i0, Try.prog.info? 74 = some i0 ∧ i0.zero = some (.pointer none) ∧ i0.size = 1 ∧ i0.bytes = 8 := by
  have h : (Try.prog.info? 74).map (fun i => (i.zero, i.size, i.bytes)) = some (some (.pointer none), 1, 8) := by kernel_rfl
  obtain ⟨i, hi, he⟩ := Option.map_eq_some_iff.1 h
  simp only [Prod.mk.injEq] at he
  exact ⟨i, hi, he.1, he.2.1, he.2.2⟩
set_option maxHeartbeats 400000 in
set_option maxRecDepth 100000 in
/-- slices.Insert. -/
theorem insert_any {w : World} {v : Value} {n : Nat} {L : List IR} (hown : OwnG ptrV 74 1 w 0 v n L) (hn : n ≤ 2000) (i : Nat) (hi : i ≤ n) (x : IR) (q : Nat) (hq : Blk w q 74 #[.pointer (some ⟨x.G, 0, none⟩)]) (hqv : v.ownBlock ≠ some q) :
    Calls Try.prog 34 #[v, .int .i64 i, .slice (some ⟨q, 0, none⟩) 1 1] w fun e w' => ∃ a' c', e = .returned (.slice a' (n + 1) c') ∧ OwnG ptrV 74 1 w' 0 (.slice a' (n + 1) c') (n + 1) (L.take i ++ x :: L.drop i) ∧ w.grownBy w' v.ownBlock ∧
      ((Value.slice a' (n + 1) c').ownBlock = v.ownBlock ∨ ∃ k, w.heap.size ≤ k ∧ (Value.slice a' (n + 1) c').ownBlock = some k) := by
  obtain ⟨i0, hi0, hz0, hz1, hz2⟩ := ptr_info
  have hL : L.length = n := hown.2.1
  have hrx : Reads ptrV w (some ⟨q, 0, none⟩) 1 [x] := ⟨rfl, by omega, Or.inr ⟨q, 0, rfl, hq.lt, fun j u hu => by
    rw [Nat.zero_add, hq.cell]
    have : [x].flatMap ptrV = [.pointer (some ⟨x.G, 0, none⟩)] := rfl
    rw [this] at hu
    simpa using hu⟩⟩
  by_cases hin : i = n
  · subst hin
    obtain ⟨a, c, rfl, _, hnil, hcap⟩ := hown.shape ptr_rowed
    have HO := Lib.hid hown
    have HX := Lib.hid hrx
    have hcap' : (i : Int) ≤ (c : Int) := by omega
    have hT : L.take i ++ x :: L.drop i = L ++ [x] := by rw [List.take_of_length_le (by omega), List.drop_of_length_le (by omega)]
    rw [hT]
    clear hown hrx hq hi0
    by_cases hci : c = i
    · subst hci
      go_enter Try.func34, Try.ntmps34
      go_wp2_with (at_builtin; refine wpList_plain rfl fun K hK => wp_append_lg ptr_rowed (.tmp 23) (.tmp 24) rfl 0 (.slice a c c) c L rfl HO.out (some ⟨q, 0, none⟩) 1 1 [x] rfl (fun e => by cases e) HX.out (by omega) (Nat.zero_le _) fun a' c' w' g1 g2 g3 => hK _ _ ?_)
      go_wp2
      go_ret
      refine ⟨_, _, rfl, g1, g2, ?_⟩
      rcases g3 with g3 | g3
      · exact Or.inl g3
      · exact Or.inr ⟨_, Nat.le_refl _, g3⟩
    · go_enter Try.func34, Try.ntmps34
      go_wp2_with (at_builtin; refine wpList_plain rfl fun K hK => wp_append_lg ptr_rowed (.tmp 23) (.tmp 24) rfl 0 (.slice a i c) i L rfl HO.out (some ⟨q, 0, none⟩) 1 1 [x] rfl (fun e => by cases e) HX.out (by omega) (Nat.zero_le _) fun a' c' w' g1 g2 g3 => hK _ _ ?_)
      go_wp2
      go_ret
      refine ⟨_, _, rfl, g1, g2, ?_⟩
      rcases g3 with g3 | g3
      · exact Or.inl g3
      · exact Or.inr ⟨_, Nat.le_refl _, g3⟩
  · have hlt : i < n := by omega
    rcases hown.1.2 with ⟨e, e'⟩ | ⟨g, cap, cur, rfl, hbg, hg, hnc, hcm, hcs, htake⟩
    · omega
    rw [Nat.mul_one] at hcs htake
    have hgq : q ≠ g := fun e => hqv (by rw [e]; rfl)
    have hz1' : ¬ ((i : Int) = (n : Int)) := by omega
    have hcs' : cur.toList.length = cap := by rw [Array.length_toList, hcs]
    have hPl := pvl_len L
    have hdl : ((L.flatMap ptrV).drop i).length = n - i := by rw [List.length_drop, hPl, hL]
    have hsz : (Try.prog.info? 74).map (·.size) = some 1 := by rw [hi0]; simp [hz1]
    have hFL : (L.take i ++ x :: L.drop i).flatMap ptrV = (L.flatMap ptrV).take i ++ .pointer (some ⟨x.G, 0, none⟩) :: (L.flatMap ptrV).drop i := by
      rw [pvl_map, pvl_map, List.map_append, List.map_cons, List.map_take, List.map_drop]
    have hln : (L.take i ++ x :: L.drop i).length = n + 1 := by simp; omega
    by_cases hroom : n + 1 ≤ cap
    · -- in place
      have hov : ∀ lb cb, (callFunc 57 #[.slice (some ⟨q, 0, none⟩) 1 1, .slice (some ⟨g, i + 1, none⟩) lb cb]).run Try.prog w = .ok (.value (.bool false)) w := fun lb cb => by
        rw [run_callFunc_extern Try.func57 (by kernel_rfl) (by kernel_rfl) (by kernel_rfl) (e := Extern.SlicesOverlaps.overlaps #[56, 56] #[4]) (by kernel_rfl),
          Lib.run_overlaps_apart w 56 4 74 Try.underlying56 1 Try.sizeOf74 ⟨q, 0, none⟩ ⟨g, i + 1, none⟩ 1 1 lb cb hgq 74 74 1 cap (by simp [World.shape?, show w.heap[q]? = _ from hq]) (by simp [World.shape?, hg, hcs]) (by omega) (hq.free 0) (hq.free 1)]
        rfl
      have b1 : ¬ cap = i := by omega
      have b2 : ¬ cap = i + 1 := by omega
      have b3 : (i : Int) ≤ (n : Int) := by omega
      have b4 : (n : Int) + 1 ≤ (cap : Int) := by omega
      have b5 : ((i : Int) + 1).toNat = i + 1 := by omega
      have b6 : (i : Int) + 1 ≤ (n : Int) + 1 := by omega
      have b7 : (0 : Int) ≤ (i : Int) + 1 := by omega
      have b8 : IntKind.i64.wrap ((i : Int) + 1) = (i : Int) + 1 := by rw [IntKind.wrap_i64]; omega
      have b9 : (i : Int) ≤ (n : Int) + 1 := by omega
      have b10 : ((n : Int) + 1).toNat = n + 1 := by omega
      have hcp1 : ∀ ty dc sc, (Builtin.copy_ #[56, 56] ty #[.slice (some ⟨g, i + 1, none⟩) (n - i) dc, .slice (some ⟨g, i, none⟩) (n + 1 - i) sc]).run Try.prog w.drew = .ok (goInt ((L.flatMap ptrV).drop i).length) (w.drew.setRow g (cur.toList.take (i + 1) ++ (L.flatMap ptrV).drop i ++ cur.toList.drop (i + 1 + ((L.flatMap ptrV).drop i).length)).toArray) := fun ty dc sc =>
        run_copy_row (P := Try.prog) w.drew _ _ ty 74 g (i + 1) (n - i) dc ⟨g, i, none⟩ (n + 1 - i) sc cur 74 _ Try.underlying56 hsz hg (by rw [hdl]; simp only [Nat.min_def]; split <;> omega)
          (fun j u hj => by
            have hj' : j < n - i := by
              rcases Nat.lt_or_ge j (n - i) with h' | h'
              · exact h'
              · rw [List.getElem?_eq_none (by rw [hdl]; exact h')] at hj
                cases hj
            rw [add_none, cell_of_row w.drew g (i + j) cur _ (0, 0) hg, ← Array.getElem?_toList]
            rw [← htake, List.getElem?_drop, List.getElem?_take, if_pos (by omega)] at hj
            exact hj) (by rw [hdl, hcs]; omega) (fun u hu => pvl_one u (List.mem_of_mem_drop hu))
      obtain ⟨W1, hW1⟩ := named (w.drew.setRow g (cur.toList.take (i + 1) ++ (L.flatMap ptrV).drop i ++ cur.toList.drop (i + 1 + ((L.flatMap ptrV).drop i).length)).toArray)
      obtain ⟨C1, hC1⟩ := named (cur.toList.take (i + 1) ++ (L.flatMap ptrV).drop i ++ cur.toList.drop (i + 1 + ((L.flatMap ptrV).drop i).length))
      have hg1 : W1.heap[g]? = some (.cells C1.toArray 74 (0, 0)) := by rw [← hW1.out, ← hC1.out]; exact setRow_heap w.drew g cur _ 74 _ hg
      have hq1 : W1.cell? ⟨q, 0, none⟩ = some (.pointer (some ⟨x.G, 0, none⟩)) := by
        rw [← hW1.out]
        refine (World.cell?_of_block (setRow_other w.drew g q _ hgq)).trans ?_
        show w.cell? ⟨q, 0, none⟩ = _
        rw [hq.cell]
        rfl
      have hg01 : w.drew.grownBy W1 (some g) := by rw [← hW1.out]; exact ⟨rfl, rfl, rfl, by simp, fun j _ hj => setRow_other w.drew g j _ (fun e => hj (by simp [e]))⟩
      obtain ⟨hins1, hins2⟩ := ins_room cur.toList (L.flatMap ptrV) n i (.pointer (some ⟨x.G, 0, none⟩)) htake (by rw [hcs']; exact hroom) hlt C1 hC1.out.symm
      have hC1l : C1.length = cap := by rw [← hC1.out]; simp [hcs', hdl]; omega
      have hcp2 : ∀ ty dc, (Builtin.copy_ #[56, 56] ty #[.slice (some ⟨g, i, none⟩) (n + 1 - i) dc, .slice (some ⟨q, 0, none⟩) 1 1]).run Try.prog W1 = .ok (goInt 1) (W1.setRow g (C1.take i ++ [Value.pointer (some ⟨x.G, 0, none⟩)] ++ C1.drop (i + [Value.pointer (some ⟨x.G, 0, none⟩)].length)).toArray) := fun ty dc => by
        have := run_copy_row (P := Try.prog) W1 56 56 ty 74 g i (n + 1 - i) dc ⟨q, 0, none⟩ 1 1 C1.toArray 74 [Value.pointer (some ⟨x.G, 0, none⟩)] Try.underlying56 hsz hg1 (by simp only [Nat.min_def, List.length_singleton]; split <;> omega)
          (fun j u hj => by
            cases j with
            | zero =>
              rw [add_none, hq1]
              simpa using hj
            | succ j => simp at hj) (by simp [hC1l]; omega) (fun u hu => by rw [List.mem_singleton.1 hu]; rfl)
        simpa using this
      have HCP1 := Lib.hid hcp1
      obtain ⟨C2, hC2⟩ := named (C1.take i ++ [Value.pointer (some ⟨x.G, 0, none⟩)] ++ C1.drop (i + [Value.pointer (some ⟨x.G, 0, none⟩)].length))
      rw [hC2.out] at hins1 hins2
      have HCP2 : Hid (∀ ty dc, (Builtin.copy_ #[56, 56] ty #[.slice (some ⟨g, i, none⟩) (n + 1 - i) dc, .slice (some ⟨q, 0, none⟩) 1 1]).run Try.prog W1 = .ok (goInt 1) (W1.setRow g C2.toArray)) := by rw [← hC2.out]; exact Lib.hid hcp2
      have HINS1 := Lib.hid hins1
      have HINS2 := Lib.hid hins2
      have HG1 := Lib.hid hg1
      have HG01 := Lib.hid hg01
      rw [hW1.out] at HCP1
      clear hcp1 hcp2 hins1 hins2 hg1 hg01 hq1 hcs' hdl hPl htake hg hown hrx hi0
      go_enter Try.func34, Try.ntmps34
      go_wp2_with (simp only [hov])
      go_region_law (refine step_copy_eq rfl (.tmp 73) (.tmp 76) 56 56 rfl (.slice (some ⟨g, i + 1, none⟩) (n - i) (cap - (i + 1))) (.slice (some ⟨g, i, none⟩) (n + 1 - i) (cap - i)) (by simp [Act.eval, Act.put]) (by simp [Act.eval, Act.put]) (HCP1.out _ _ _) ?_)
      go_wp2_with (refine wpList_copy_eq rfl (.tmp 80) (.tmp 81) 56 56 rfl (.slice (some ⟨g, i, none⟩) (n + 1 - i) (cap - i)) (.slice (some ⟨q, 0, none⟩) 1 1) rfl rfl (HCP2.out _ _) ?_)
      go_ret
      have hi1 := HINS1.out
      have hi2 := HINS2.out
      refine ⟨some ⟨g, 0, none⟩, cap, rfl, ⟨⟨by rw [pvl_len, hln, Nat.mul_one], Or.inr ⟨g, cap, C2.toArray, rfl, Nat.zero_le _, setRow_heap W1 g _ _ 74 _ HG1.out, hroom, hcm, ?_, ?_⟩⟩, hln, by omega⟩, ?_, Or.inl rfl⟩
      · rw [List.size_toArray, hi2, Array.length_toList, hcs, Nat.mul_one]
      · rw [Nat.mul_one, hFL]
        exact hi1
      · exact ⟨HG01.out.os, HG01.out.tape, HG01.out.output, by have := HG01.out.size; simpa [World.setRow] using this, fun k hk hne => (setRow_other W1 g k _ (fun e => hne (by simp [Value.ownBlock, e]))).trans (HG01.out.block k hk hne)⟩
    · have hgz : cap = n := by omega
      have hold : (Builtin.firstCells i0.size i (.slice (some ⟨g, 0, none⟩) i cap)).run Try.prog w.drew = .ok ((L.flatMap ptrV).take i).toArray w.drew := by
        rw [hz1]
        exact run_firstCells_some w.drew 1 i ⟨g, 0, none⟩ i cap _ (by rw [List.length_take, hPl, hL]; omega) (fun j u hj => by
          rw [add_none, cell_of_row w.drew g (0 + j) cur _ (0, 0) hg, Nat.zero_add, ← Array.getElem?_toList]
          rw [← htake, List.take_take, List.getElem?_take] at hj
          split at hj
          · exact hj
          · cases hj)
      have hap := fun ty => Go.Lib.run_append_grow_zeros w 56 3 ty 74 i0 (.pointer none) .i64 .i64 Try.underlying56 Try.underlying3 hi0 hz0 (some ⟨g, 0, none⟩) i cap _ hold (n + 1 - i) (by omega) (by omega) (by omega) (by omega) (by rw [hz2]; omega) (by rw [hz2]; exact growslice_fits (by omega) (by omega))
      have hge := grownCap_ge w (i + (n + 1 - i)) cap 74
      have hcm2 : grownCap w (i + (n + 1 - i)) cap 74 ≤ maxLen := grownCap_le_maxLen w _ cap _ (by unfold maxLen; omega)
      have hik : i + (n + 1 - i) = n + 1 := by omega
      rw [hik] at hap hge hcm2
      obtain ⟨c2, hc2⟩ := named (grownCap w (n + 1) cap 74)
      rw [hc2.out] at hap hge hcm2
      obtain ⟨Z, hZ⟩ := named ((Builtin.zeroCells (Value.pointer none).cells (n + 1 - i)).toList ++ (Builtin.zeroCells (Value.pointer none).cells (c2 - (n + 1))).toList)
      have hZl : Z.length = n + 1 - i + (c2 - (n + 1)) := by rw [← hZ.out]; simp [size_zeroCells, show (Value.pointer none).cells.size = 1 from rfl]
      obtain ⟨C0, hC0⟩ := named ((L.flatMap ptrV).take i ++ Z)
      have hap2 : ∀ ty, (Builtin.append_ #[56, 3] ty #[.slice (some ⟨g, 0, none⟩) i cap, .int .i64 ((n + 1 - i : Nat) : Int)]).run Try.prog w = .ok (.slice (some ⟨w.heap.size, 0, none⟩) (n + 1) c2) (w.drew.alloc (.cells C0.toArray 74)) := fun ty => by
        rw [hap ty]
        congr 3
        rw [← hC0.out, ← hZ.out]
        apply Array.ext'
        simp
      obtain ⟨g2, hg2n⟩ := named w.heap.size
      obtain ⟨W0, hW0⟩ := named (w.drew.alloc (.cells C0.toArray 74))
      have hgW0 : W0.heap[g2]? = some (.cells C0.toArray 74 (0, 0)) := by rw [← hW0.out, ← hg2n.out]; exact heap_alloc_new w.drew _
      have hqg2 : q ≠ g2 := fun e => by have := hq.lt; have := hg2n.out; omega
      have hgg2 : g ≠ g2 := fun e => by have := lt_of_block hg; have := hg2n.out; omega
      have hBW0 : Below w.heap.size w W0 := by rw [← hW0.out]; exact (Below.refl _ w).drew.alloc (Nat.le_refl _) _
      have hC0l : C0.length = c2 := by rw [← hC0.out, List.length_append, hZl, List.length_take, hPl, hL]; omega
      obtain ⟨C1, hC1⟩ := named (C0.take i ++ [Value.pointer (some ⟨x.G, 0, none⟩)] ++ C0.drop (i + [Value.pointer (some ⟨x.G, 0, none⟩)].length))
      have hC1l : C1.length = c2 := by rw [← hC1.out]; simp; omega
      have hcpa : ∀ ty dc, (Builtin.copy_ #[56, 56] ty #[.slice (some ⟨g2, i, none⟩) (n + 1 - i) dc, .slice (some ⟨q, 0, none⟩) 1 1]).run Try.prog W0 = .ok (goInt 1) (W0.setRow g2 C1.toArray) := fun ty dc => by
        have := run_copy_row (P := Try.prog) W0 56 56 ty 74 g2 i (n + 1 - i) dc ⟨q, 0, none⟩ 1 1 C0.toArray 74 [Value.pointer (some ⟨x.G, 0, none⟩)] Try.underlying56 hsz hgW0 (by simp only [Nat.min_def, List.length_singleton]; split <;> omega)
          (fun j u hj => by
            cases j with
            | zero =>
              rw [add_none, (hq.later hBW0).cell]
              simpa using hj
            | succ j => simp at hj) (by simp [hC0l]; omega) (fun u hu => by rw [List.mem_singleton.1 hu]; rfl)
        rw [← hC1.out]
        simpa using this
      obtain ⟨W1, hW1⟩ := named (W0.setRow g2 C1.toArray)
      have hgW1 : W1.heap[g2]? = some (.cells C1.toArray 74 (0, 0)) := by rw [← hW1.out]; exact setRow_heap W0 g2 _ _ 74 _ hgW0
      have hgW1' : W1.heap[g]? = some (.cells cur 74 (0, 0)) := by
        rw [← hW1.out, setRow_other W0 g2 g _ hgg2, hBW0.block g (lt_of_block hg)]
        exact hg
      have hcpb : ∀ ty dc sc, (Builtin.copy_ #[56, 56] ty #[.slice (some ⟨g2, i + 1, none⟩) (n - i) dc, .slice (some ⟨g, i, none⟩) (n - i) sc]).run Try.prog W1.drew = .ok (goInt ((L.flatMap ptrV).drop i).length) (W1.drew.setRow g2 (C1.take (i + 1) ++ (L.flatMap ptrV).drop i ++ C1.drop (i + 1 + ((L.flatMap ptrV).drop i).length)).toArray) := fun ty dc sc => by
        have := run_copy_row (P := Try.prog) W1.drew 56 56 ty 74 g2 (i + 1) (n - i) dc ⟨g, i, none⟩ (n - i) sc C1.toArray 74 ((L.flatMap ptrV).drop i) Try.underlying56 hsz hgW1 (by rw [hdl]; simp only [Nat.min_def]; split <;> omega)
          (fun j u hj => by
            have hj' : j < n - i := by
              rcases Nat.lt_or_ge j (n - i) with h' | h'
              · exact h'
              · rw [List.getElem?_eq_none (by rw [hdl]; exact h')] at hj
                cases hj
            rw [add_none, cell_of_row W1.drew g (i + j) cur _ (0, 0) hgW1', ← Array.getElem?_toList]
            rw [← htake, List.getElem?_drop, List.getElem?_take, if_pos (by omega)] at hj
            exact hj) (by rw [hdl, List.size_toArray, hC1l]; omega) (fun u hu => pvl_one u (List.mem_of_mem_drop hu))
        simpa using this
      obtain ⟨hins1, hins2⟩ := ins_grow (L.flatMap ptrV) Z n i (.pointer (some ⟨x.G, 0, none⟩)) (by rw [hPl, hL]) hlt (by omega) C0 C1 hC0.out.symm hC1.out.symm
      obtain ⟨C2, hC2⟩ := named (C1.take (i + 1) ++ (L.flatMap ptrV).drop i ++ C1.drop (i + 1 + ((L.flatMap ptrV).drop i).length))
      rw [hC2.out] at hins1 hins2 hcpb
      rw [hW0.out, hg2n.out] at hap2
      rw [hW1.out] at hcpa
      have b1 : ¬ cap = i := by omega
      have b2 : ¬ c2 = i := by omega
      have b2' : ¬ c2 = i + 1 := by omega
      have b3 : (i : Int) ≤ (n : Int) := by omega
      have b4 : (cap : Int) < (n : Int) + 1 := by omega
      have b5 : ((i : Int) + 1).toNat = i + 1 := by omega
      have b6 : (i : Int) + 1 ≤ (n : Int) + 1 := by omega
      have b7 : (0 : Int) ≤ (i : Int) + 1 := by omega
      have b8 : IntKind.i64.wrap ((i : Int) + 1) = (i : Int) + 1 := by rw [IntKind.wrap_i64]; omega
      have b9 : (i : Int) ≤ (n : Int) + 1 := by omega
      have b10 : (n : Int) + 1 - (i : Int) = ((n + 1 - i : Nat) : Int) := by omega
      have b11 : (i : Int) ≤ (cap : Int) := by omega
      have HAP := Lib.hid hap2
      have HCPA := Lib.hid hcpa
      have HCPB := Lib.hid hcpb
      have HINS1 := Lib.hid hins1
      have HINS2 := Lib.hid hins2
      have HGW1 := Lib.hid hgW1
      have HBW0 := Lib.hid hBW0
      have HW1 : Hid (W1.grownBy (W1.drew.setRow g2 C2.toArray) (some g2)) := Lib.hid ⟨rfl, rfl, rfl, by simp [World.setRow], fun k _ hne => setRow_other W1.drew g2 k _ (fun e => hne (by rw [e]))⟩
      have HW01 : Hid (W0.grownBy W1 (some g2)) := by rw [← hW1.out]; exact Lib.hid ⟨rfl, rfl, rfl, by simp [World.setRow], fun k _ hne => setRow_other W0 g2 k _ (fun e => hne (by rw [e]))⟩
      have HG2 : Hid (w.heap.size = g2) := hg2n
      have HCL : Hid (C0.length = c2) := hC0l
      clear hap hap2 hcpa hcpb hins1 hins2 hgW1 hgW1' hgW0 hBW0 hcs' hdl hPl htake hg hown hrx hi0 hold hC0l hC1l hZl hcs hgz
      go_enter Try.func34, Try.ntmps34
      go_wp2_with (first
        | (refine wpList_append_eq rfl (.tmp 34) (.tmp 39) 56 3 rfl (.slice (some ⟨g, 0, none⟩) i cap) (.int .i64 ((n + 1 - i : Nat) : Int)) rfl (by first | rfl | simp [Act.eval]) (HAP.out _) ?_)
        | (refine wpList_copy_eq rfl (.tmp 43) (.tmp 44) 56 56 rfl (.slice (some ⟨g2, i, none⟩) (n + 1 - i) (c2 - i)) (.slice (some ⟨q, 0, none⟩) 1 1) rfl rfl (HCPA.out _ _) ?_))
      go_region_law (refine step_copy_eq rfl (.tmp 50) (.tmp 53) 56 56 rfl (.slice (some ⟨g2, i + 1, none⟩) (n - i) (c2 - (i + 1))) (.slice (some ⟨g, i, none⟩) (n - i) (cap - i)) (by simp [Act.eval, Act.put]) (by simp [Act.eval, Act.put]) (HCPB.out _ _ _) ?_)
      go_wp2
      go_ret
      have hi1 := HINS1.out
      have hi2 := HINS2.out
      refine ⟨some ⟨g2, 0, none⟩, c2, rfl, ⟨⟨by rw [pvl_len, hln, Nat.mul_one], Or.inr ⟨g2, c2, C2.toArray, rfl, Nat.zero_le _, setRow_heap W1.drew g2 _ _ 74 _ HGW1.out, hge, hcm2, ?_, ?_⟩⟩, hln, by omega⟩, ?_, Or.inr ⟨g2, by rw [HG2.out]; exact Nat.le_refl _, rfl⟩⟩
      · rw [List.size_toArray, hi2, Nat.mul_one]
        exact HCL.out
      · rw [Nat.mul_one, hFL]
        exact hi1
      · have hge2 : w.heap.size ≤ g2 := by rw [HG2.out]; exact Nat.le_refl _
        exact grown_then (grown_then ⟨HBW0.out.os, HBW0.out.tape, HBW0.out.output, HBW0.out.size, fun k hk _ => HBW0.out.block k hk⟩ HW01.out (Or.inr hge2)) HW1.out (Or.inr hge2)

theorem step_append_eq {P : Program} {ops : Array Oper} {o : Oper} {a : Act} {w : World} {K : Act → World → Prop} {Q : Exit → Act → World → Prop} {E : Prop} (hgd : o.guard = none) (d s : Operand) (t t' : TypeId)
    (ho : o.op = .call { callee := .builtin .append, args := #[d, s], argTypes := #[t, t'] }) (v u : Value) (hd : a.eval d = v) (hs : a.eval s = u) {v' : Value} {w' : World}
    (hr : (Builtin.append_ #[t, t'] o.type #[v, u]).run P w = .ok v' w') (h : K (a.put o.dst v') w') : if Region.wanted o (yielded ops a.tmps) = true then Oper.wp P o a w K Q else E := by
  have hw : Region.wanted o (yielded ops a.tmps) = true := by simp [Region.wanted, hgd]
  rw [if_pos hw]
  unfold Oper.wp execOp
  simp only [ho, resolve, invoke, builtin, Sem.run_bind, Sem.run_pure, Result.andThen_ok, List.map_toArray, List.map_cons, List.map_nil, hd, hs, hr]
  exact h
theorem del_row (cur P : List Value) (n i : Nat) (h : cur.take n = P) (hl : n ≤ cur.length) (hi : i < n) (C1 : List Value) (hc : C1 = cur.take i ++ P.drop (i + 1) ++ cur.drop (i + (P.drop (i + 1)).length)) :
    C1.take (n - 1) = P.take i ++ P.drop (i + 1) ∧ C1.length = cur.length := by
  have hP : P.length = n := by rw [← h, List.length_take]; omega
  have hd : (P.drop (i + 1)).length = n - (i + 1) := by rw [List.length_drop, hP]
  have e1 : cur.take i = P.take i := by rw [← h, List.take_take]; congr 1; omega
  have hti : (P.take i).length = i := by rw [List.length_take]; omega
  rw [hc, e1]
  refine ⟨List.take_left' (by simp; omega), ?_⟩
  simp
  omega
set_option maxHeartbeats 400000 in
set_option maxRecDepth 100000 in
/-- slices.Delete. -/
theorem delete_any {w : World} {v : Value} {n : Nat} {L : List IR} (hown : OwnG ptrV 74 1 w 0 v n L) (hn : n ≤ 2000) (i : Nat) (hi : i < n) :
    Calls Try.prog 68 #[v, .int .i64 i, .int .i64 ((i : Int) + 1)] w fun e w' => ∃ a' c', e = .returned (.slice a' (n - 1) c') ∧ OwnG ptrV 74 1 w' 0 (.slice a' (n - 1) c') (n - 1) (L.take i ++ L.drop (i + 1)) ∧ w.grownBy w' v.ownBlock ∧
      (Value.slice a' (n - 1) c').ownBlock = v.ownBlock := by
  obtain ⟨i0, hi0, hz0, hz1, hz2⟩ := ptr_info
  have hL : L.length = n := hown.2.1
  rcases hown.1.2 with ⟨e, e'⟩ | ⟨g, cap, cur, rfl, hbg, hg, hnc, hcm, hcs, htake⟩
  · omega
  rw [Nat.mul_one] at hcs htake
  have hcs' : cur.toList.length = cap := by rw [Array.length_toList, hcs]
  have hPl := pvl_len L
  have hdl : ((L.flatMap ptrV).drop (i + 1)).length = n - 1 - i := by rw [List.length_drop, hPl, hL]; omega
  have hFL : (L.take i ++ L.drop (i + 1)).flatMap ptrV = (L.flatMap ptrV).take i ++ (L.flatMap ptrV).drop (i + 1) := by
    rw [pvl_map, pvl_map, List.map_append, List.map_take, List.map_drop]
  have hln : (L.take i ++ L.drop (i + 1)).length = n - 1 := by simp; omega
  obtain ⟨A, hA, hsrc⟩ : ∃ A : Addr, (if cap = i + 1 then some (⟨g, 0, none⟩ : Addr) else some ⟨g, i + 1, none⟩) = some A ∧ ∀ t u, ((L.flatMap ptrV).drop (i + 1))[t]? = some u → w.drew.cell? (A.add t) = some u := by
    by_cases h : cap = i + 1
    · refine ⟨⟨g, 0, none⟩, by simp [h], fun t u hu => ?_⟩
      have h0 : ((L.flatMap ptrV).drop (i + 1)).length = 0 := by rw [hdl]; omega
      rw [List.length_eq_zero_iff.1 h0] at hu
      simp at hu
    · refine ⟨⟨g, i + 1, none⟩, by simp [h], fun t u hu => ?_⟩
      have ht : t < n - 1 - i := by
        have := (List.getElem?_eq_some_iff.1 hu).1
        rwa [hdl] at this
      rw [Addr.add_lit, cell_of_row w.drew g (i + 1 + t) cur _ (0, 0) hg, ← Array.getElem?_toList]
      rw [← htake, List.getElem?_drop, List.getElem?_take, if_pos (by omega)] at hu
      exact hu
  have hap : ∀ ty c, (Builtin.append_ #[56, 56] ty #[.slice (some ⟨g, 0, none⟩) i cap, .slice (some A) (n - 1 - i) c]).run Try.prog w.drew = .ok (.slice (some ⟨g, 0, none⟩) (i + (n - 1 - i)) cap) (w.drew.setRow g (cur.toList.take (i * i0.size) ++ (L.flatMap ptrV).drop (i + 1) ++ cur.toList.drop (i * i0.size + ((L.flatMap ptrV).drop (i + 1)).length)).toArray) := fun ty c =>
    run_append_room (P := Try.prog) w.drew _ ty _ i0 Try.underlying56 hi0 g i cap cur hg A (n - 1 - i) c _ (by rw [hz1, hdl, Nat.mul_one]) hsrc (fun u hu => pvl_one u (List.mem_of_mem_drop hu)) (by omega) (by rw [hz1, hdl]; omega)
  rw [hz1, Nat.mul_one] at hap
  obtain ⟨C1, hC1⟩ := named (cur.toList.take i ++ (L.flatMap ptrV).drop (i + 1) ++ cur.toList.drop (i + ((L.flatMap ptrV).drop (i + 1)).length))
  rw [hC1.out] at hap
  obtain ⟨hd1, hd2⟩ := del_row cur.toList (L.flatMap ptrV) n i htake (by rw [hcs']; exact hnc) hi C1 hC1.out.symm
  obtain ⟨W1, hW1⟩ := named (w.drew.setRow g C1.toArray)
  rw [hW1.out] at hap
  have hg1 : W1.heap[g]? = some (.cells C1.toArray 74 (0, 0)) := by rw [← hW1.out]; exact setRow_heap w.drew g cur _ 74 _ hg
  have hgr : w.grownBy W1 (some g) := by rw [← hW1.out]; exact ⟨rfl, rfl, rfl, by simp, fun j _ hj => setRow_other w.drew g j _ (fun e => hj (by simp [e]))⟩
  have hC1l : C1.length = cap := hd2.trans hcs'
  have hB1 : Blk W1 g 74 C1.toArray := hg1
  have hcl : ∀ ty c, (Builtin.clear_ #[56] ty #[.slice (some ⟨g, n - 1, none⟩) 1 c]).run Try.prog W1 = .ok (.tuple #[]) (W1.setCells g (n - 1) (List.replicate 1 (.pointer none))) := fun ty c =>
    Lib.run_clear_slice W1 _ _ ty (.pointer none) Try.underlying56 Try.zeroValue74 rfl rfl g (n - 1) 1 c (by omega) (fun t ht => by
      rw [hB1.cell, List.getElem?_toArray, List.getElem?_eq_getElem (by omega)]
      rfl) (fun t ht => hB1.free _)
  have HAP := Lib.hid hap
  have HCL := Lib.hid hcl
  have HB1 := Lib.hid hB1
  have HGR := Lib.hid hgr
  have HD1 := Lib.hid hd1
  have HTK := Lib.hid htake
  clear hap hcl hB1 hgr hd1 hd2 hg1 hsrc hcs' hdl hPl htake hg hown hi0
  have b1 : n - (i + 1) = n - 1 - i := by omega
  have b2 : i ≤ cap := by omega
  have b3 : i + 1 ≤ cap := by omega
  have b5 : ((i : Int) + 1).toNat = i + 1 := by omega
  have b6 : (i : Int) + 1 ≤ (n : Int) := by omega
  have b7 : (0 : Int) ≤ (i : Int) + 1 := by omega
  have b8 : i + (n - 1 - i) = n - 1 := by omega
  have b9 : n - (n - 1) = 1 := by omega
  go_enter Try.func68, Try.ntmps68
  go_wp2_with fail
  go_region_law (refine step_append_eq rfl (.tmp 22) (.tmp 25) 56 56 rfl (.slice (some ⟨g, 0, none⟩) i cap) (.slice (some A) (n - 1 - i) (cap - (i + 1))) (by simp [Act.eval, Act.put]) (by simp [Act.eval, Act.put]) (HAP.out _ _) ?_)
  go_wp2_with (simp only [HCL.out])
  go_ret
  have e : W1.setCells g (n - 1) [.pointer none] = W1.setCell ⟨g, n - 1, none⟩ (.pointer none) := by simp [World.setCells]
  rw [e]
  have hgt : w.grownBy (W1.setCell ⟨g, n - 1, none⟩ (.pointer none)) (some g) := HGR.out.trans (grownBy_setCell4 W1 g (n - 1) _)
  refine ⟨some ⟨g, 0, none⟩, cap, rfl, ⟨⟨by rw [pvl_len, hln, Nat.mul_one], Or.inr ⟨g, cap, C1.toArray.setIfInBounds (n - 1) (.pointer none), rfl, hbg, HB1.out.set (n - 1) (.pointer none), by omega, hcm, by simp [hC1l], ?_⟩⟩, hln, by omega⟩, hgt, rfl⟩
  rw [Nat.mul_one, Array.toList_setIfInBounds, List.take_set_of_le (Nat.le_refl _), hFL]
  exact HD1.out
end Go.Proofs.Ythmkmhfoicfapaa
