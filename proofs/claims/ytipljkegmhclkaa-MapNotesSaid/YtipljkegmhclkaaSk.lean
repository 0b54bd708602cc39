/-
  slices.Delete of one shot out of a row of one's own (layer 12). Conditions: a short row.
-/
import Derived.Test.YtipljkegmhclkaaSj
import Derived.Shelf.RegionOpenPlain
import Derived.Deep.RegionLaw
namespace Go.Proofs.Ytipljkegmhclkaa
open Go.RowKit
set_option linter.unusedVariables false

theorem step_append_eq {P : Program} {ops : Array Oper} {o : Oper} {a : Act} {w : World} {K : Act → World → Prop} {Q : Exit → Act → World → Prop} {E : Prop} (hgd : o.guard = none) (d s : Operand) (t t' : TypeId)
    (ho : o.op = .call { callee := .builtin .append, args := #[d, s], argTypes := #[t, t'] }) (v u : Value) (hd : a.eval d = v) (hs : a.eval s = u) {v' : Value} {w' : World}
    (hr : (Builtin.append_ #[t, t'] o.type #[v, u]).run P w = .ok v' w') (h : K (a.put o.dst v') w') : if Region.wanted o (yielded ops a.tmps) = true then Oper.wp P o a w K Q else E := by
  have hw : Region.wanted o (yielded ops a.tmps) = true := by simp [Region.wanted, hgd]
  rw [if_pos hw]
  unfold Oper.wp execOp
  simp only [ho, resolve, invoke, builtin, Sem.run_bind, Sem.run_pure, Result.andThen_ok, List.map_toArray, List.map_cons, List.map_nil, hd, hs, hr]
  exact h
theorem run_clear_row {P : Program} (w : World) (t e ty : TypeId) (z : Value) (k : Nat) (ht : P.underlying t = some (.slice e)) (hv : ∀ w, (zeroValue e).run P w = .ok z w) (hz : z.cells.size = k) (h1 : ∀ u ∈ z.cells, u.oneCell' = true) (g o m c : Nat) (cur : Array Value) (hm : 0 < m)
    (hg : w.heap[g]? = some (.cells cur e (0, 0))) (hfit : o + m * k ≤ cur.size) :
    ∃ zs : List Value, zs.length = m * k ∧ (Builtin.clear_ #[t] ty #[.slice (some ⟨g, o, none⟩) m c]).run P w = .ok (.tuple #[]) (w.setRow g (cur.toList.take o ++ zs ++ cur.toList.drop (o + zs.length)).toArray) := by
  have hl : (Builtin.zeroCells z.cells m).toList.length = m * k := by rw [Array.length_toList, size_zeroCells, hz]
  have hone : ∀ u ∈ (Builtin.zeroCells z.cells m).toList, u.oneCell' = true := fun u hu => by
    simp only [Builtin.zeroCells, Array.toList_map, List.mem_map, Array.mem_toList_iff, Array.mem_range] at hu
    obtain ⟨i, hi, rfl⟩ := hu
    have h0 : 0 < z.cells.size := by
      rcases Nat.eq_zero_or_pos z.cells.size with h | h
      · rw [h, Nat.mul_zero] at hi
        omega
      · exact h
    have hlt := Nat.mod_lt i h0
    rw [getElem!_pos z.cells _ hlt]
    exact h1 _ (Array.getElem_mem hlt)
  refine ⟨(Builtin.zeroCells z.cells m).toList, hl, ?_⟩
  have hst := run_storeCells_at P g o e (Builtin.zeroCells z.cells m).toList 0 cur w hg (by rw [hl]; simpa using hfit) hone
  simp only [Nat.add_zero] at hst
  obtain ⟨m, rfl⟩ : ∃ q, m = q + 1 := ⟨m - 1, by omega⟩
  simp [Builtin.clear_, run_underlying ht, hv, hst]
theorem flat_takeK {α : Type} {cv : α → List Value} {sz : Nat} (hc : ∀ x, (cv x).length = sz) : ∀ (l : List α) (i : Nat), (l.take i).flatMap cv = (l.flatMap cv).take (i * sz)
  | [], i => by simp
  | x :: r, 0 => by simp
  | x :: r, i + 1 => by
    rw [List.take_succ_cons, List.flatMap_cons, List.flatMap_cons, flat_takeK hc r i, List.take_append, List.take_of_length_le (l := cv x) (by rw [hc, Nat.succ_mul]; omega), hc, Nat.succ_mul, Nat.add_sub_cancel]
theorem flat_dropK {α : Type} {cv : α → List Value} {sz : Nat} (hc : ∀ x, (cv x).length = sz) : ∀ (l : List α) (i : Nat), (l.drop i).flatMap cv = (l.flatMap cv).drop (i * sz)
  | [], i => by simp
  | x :: r, 0 => by simp
  | x :: r, i + 1 => by
    rw [List.drop_succ_cons, List.flatMap_cons, flat_dropK hc r i, List.drop_append, List.drop_of_length_le (l := cv x) (by rw [hc, Nat.succ_mul]; omega), List.nil_append, hc, Nat.succ_mul, Nat.add_sub_cancel]
theorem del_row3 (cur P : List Value) (n i k : Nat) (h : cur.take (n * k) = P) (hl : n * k ≤ cur.length) (hi : i < n) (C1 : List Value) (hc : C1 = cur.take (i * k) ++ P.drop ((i + 1) * k) ++ cur.drop (i * k + (P.drop ((i + 1) * k)).length)) :
    C1.take ((n - 1) * k) = P.take (i * k) ++ P.drop ((i + 1) * k) ∧ C1.length = cur.length := by
  have hP : P.length = n * k := by rw [← h, List.length_take]; omega
  have h1 : (i + 1) * k ≤ n * k := Nat.mul_le_mul_right k hi
  have h2 : (n - 1) * k + k = n * k := by rw [← Nat.succ_mul]; congr 1; omega
  have h3 : (i + 1) * k = i * k + k := Nat.succ_mul i k
  have hd : (P.drop ((i + 1) * k)).length = n * k - (i + 1) * k := by rw [List.length_drop, hP]
  have e1 : cur.take (i * k) = P.take (i * k) := by rw [← h, List.take_take]; congr 1; omega
  rw [hc, e1]
  refine ⟨List.take_left' (by rw [List.length_append, List.length_take, hd, hP]; omega), ?_⟩
  rw [List.length_append, List.length_append, List.length_take, hd, List.length_drop, hP]
  omega
theorem slice_back3 {b j c p : Nat} (h1 : p ≤ j) (h2 : j ≤ c) (hpc : p < c) (w' : World) : (Instr.slice 25 (.slice (some ⟨b, 0, none⟩) j c) (some (.int .i64 p)) none none).run Try.prog w' = .ok (.slice (some ⟨b, p * 3, none⟩) (j - p) (c - p)) w' := by
  obtain ⟨i0, hi0, hi1⟩ := Option.map_eq_some_iff.1 shot_size
  have b2 : ¬ c = p := by omega
  simp [Instr.slice, Instr.sliceBounds, Instr.sliceBound, asIntOf, run_underlying Try.underlying25, sizeOf, typeInfo, hi0, hi1, h1, b2, Addr.add, go_sem]
  exact fun h => h.symm
theorem slice_front3 {b j c p : Nat} (h1 : p ≤ c) (w' : World) : (Instr.slice 25 (.slice (some ⟨b, 0, none⟩) j c) none (some (.int .i64 p)) none).run Try.prog w' = .ok (.slice (some ⟨b, 0, none⟩) p c) w' := by
  obtain ⟨i0, hi0, _⟩ := Option.map_eq_some_iff.1 shot_size
  simp [Instr.slice, Instr.sliceBounds, Instr.sliceBound, asIntOf, run_underlying Try.underlying25, sizeOf, typeInfo, hi0, h1, Addr.add, go_sem]
set_option maxHeartbeats 800000 in
set_option maxRecDepth 100000 in
/-- slices.Delete. -/
theorem deleteSh {w : World} {base n c : Nat} {a : Option Addr} {L : List Sh} (hown : OwnG shV 62 3 w base (.slice a n c) n L) (hn : n ≤ 1000) (i : Nat) (hi : i < n) :
    Calls Try.prog 35 #[.slice a n c, .int .i64 i, .int .i64 ((i : Int) + 1)] w fun e w' => ∃ a' c', e = .returned (.slice a' (n - 1) c') ∧ OwnG shV 62 3 w' base (.slice a' (n - 1) c') (n - 1) (L.take i ++ L.drop (i + 1)) ∧ w.grownBy w' (Value.slice a n c).ownBlock := by
  obtain ⟨i0, hi0, hz1⟩ := Option.map_eq_some_iff.1 shot_size
  have hL : L.length = n := hown.2.1
  rcases hown.1.2 with ⟨e, e'⟩ | ⟨g, cap, cur, e, hbg, hg, hnc, hcm, hcs, htake⟩
  · omega
  cases e
  have hcs' : cur.toList.length = c * 3 := by rw [Array.length_toList, hcs]
  have hPl : (L.flatMap shV).length = n * 3 := by rw [flat_len sh_rowed.len, hL]
  have hdl : ((L.flatMap shV).drop ((i + 1) * 3)).length = (n - 1 - i) * 3 := by rw [List.length_drop, hPl, ← Nat.sub_mul]; congr 1; omega
  have hFL : (L.take i ++ L.drop (i + 1)).flatMap shV = (L.flatMap shV).take (i * 3) ++ (L.flatMap shV).drop ((i + 1) * 3) := by
    rw [List.flatMap_append, flat_takeK sh_rowed.len, flat_dropK sh_rowed.len]
  have hln : (L.take i ++ L.drop (i + 1)).length = n - 1 := by simp; omega
  obtain ⟨A, hA, hsrc⟩ : ∃ A : Addr, (if c = i + 1 then some (⟨g, 0, none⟩ : Addr) else some ⟨g, (i + 1) * 3, none⟩) = some A ∧ ∀ t u, ((L.flatMap shV).drop ((i + 1) * 3))[t]? = some u → w.drew.cell? (A.add t) = some u := by
    by_cases h : c = i + 1
    · refine ⟨⟨g, 0, none⟩, by simp [h], fun t u hu => ?_⟩
      have h0 : ((L.flatMap shV).drop ((i + 1) * 3)).length = 0 := by rw [hdl]; omega
      rw [List.length_eq_zero_iff.1 h0] at hu
      simp at hu
    · refine ⟨⟨g, (i + 1) * 3, none⟩, by simp [h], fun t u hu => ?_⟩
      have ht : t < (n - 1 - i) * 3 := by
        have := (List.getElem?_eq_some_iff.1 hu).1
        rwa [hdl] at this
      rw [Addr.add_lit, cell_of_row w.drew g ((i + 1) * 3 + t) cur _ (0, 0) hg, ← Array.getElem?_toList]
      rw [← htake, List.getElem?_drop, List.getElem?_take, if_pos (by omega)] at hu
      exact hu
  have hap : ∀ ty c', (Builtin.append_ #[25, 25] ty #[.slice (some ⟨g, 0, none⟩) i c, .slice (some A) (n - 1 - i) c']).run Try.prog w.drew = .ok (.slice (some ⟨g, 0, none⟩) (i + (n - 1 - i)) c) (w.drew.setRow g (cur.toList.take (i * i0.size) ++ (L.flatMap shV).drop ((i + 1) * 3) ++ cur.toList.drop (i * i0.size + ((L.flatMap shV).drop ((i + 1) * 3)).length)).toArray) := fun ty c' =>
    run_append_room (P := Try.prog) w.drew _ ty _ i0 Try.underlying25 hi0 g i c cur hg A (n - 1 - i) c' _ (by rw [hz1, hdl]) hsrc (fun u hu => by
      obtain ⟨y, _, hy⟩ := List.mem_flatMap.1 (List.mem_of_mem_drop hu)
      exact sh_rowed.one y u hy) (by omega) (by rw [hz1, hdl, hcs]; show i * 3 + (n - 1 - i) * 3 ≤ c * 3; omega)
  rw [hz1] at hap
  obtain ⟨C1, hC1⟩ := named (cur.toList.take (i * 3) ++ (L.flatMap shV).drop ((i + 1) * 3) ++ cur.toList.drop (i * 3 + ((L.flatMap shV).drop ((i + 1) * 3)).length))
  have hap2 : ∀ ty c', (Builtin.append_ #[25, 25] ty #[.slice (some ⟨g, 0, none⟩) i c, .slice (some A) (n - 1 - i) c']).run Try.prog w.drew = .ok (.slice (some ⟨g, 0, none⟩) (i + (n - 1 - i)) c) (w.drew.setRow g C1.toArray) := fun ty c' => by
    rw [← hC1.out]
    exact hap ty c'
  clear hap
  obtain ⟨hd1, hd2⟩ := del_row3 cur.toList (L.flatMap shV) n i 3 htake (by rw [hcs']; exact Nat.mul_le_mul_right 3 hnc) hi C1 hC1.out.symm
  obtain ⟨W1, hW1⟩ := named (w.drew.setRow g C1.toArray)
  rw [hW1.out] at hap2
  have hg1 : W1.heap[g]? = some (.cells C1.toArray 62 (0, 0)) := by rw [← hW1.out]; exact setRow_heap w.drew g cur _ 62 _ hg
  have hgr : w.grownBy W1 (some g) := by rw [← hW1.out]; exact ⟨rfl, rfl, rfl, by simp, fun j _ hj => setRow_other w.drew g j _ (fun e => hj (by simp [e]))⟩
  have hC1l : C1.length = c * 3 := hd2.trans hcs'
  obtain ⟨zs, hzs, hcl⟩ := run_clear_row (P := Try.prog) W1 25 62 0 (.agg #[.string ⟨#[]⟩, .int .i64 0, .slice none 0 0]) 3 Try.underlying25 (fun w => by kernel_rfl) rfl (fun u hu => by simp [Value.cells] at hu; rcases hu with rfl | rfl | rfl <;> rfl) g ((n - 1) * 3) 1 (c - (n - 1)) C1.toArray (by omega) hg1 (by simp only [List.size_toArray, hC1l]; omega)
  have hcl2 : (Builtin.clear_ #[25] 0 #[.slice (some ⟨g, (n - 1) * 3, none⟩) 1 (c - (n - 1))]).run Try.prog W1 = .ok (.tuple #[]) (W1.setRow g (C1.take ((n - 1) * 3) ++ zs ++ C1.drop ((n - 1) * 3 + zs.length)).toArray) := by simpa using hcl
  have HAP := Lib.hid hap2
  have HCL := Lib.hid hcl2
  have HGR := Lib.hid hgr
  have HD1 := Lib.hid hd1
  have HZS := Lib.hid hzs
  have HC1L := Lib.hid hC1l
  have HFL := Lib.hid hFL
  have HHG := Lib.hid hg1
  clear hap2 hcl hcl2 hgr hd1 hd2 hg1 hsrc hcs' hdl hPl htake hg hown hi0 hzs hC1l hFL hC1
  have b1 : n - (i + 1) = n - 1 - i := by omega
  have b2 : i ≤ c := by omega
  have b3 : i + 1 ≤ c := by omega
  have b5 : ((i : Int) + 1).toNat = i + 1 := by omega
  have b6 : (i : Int) + 1 ≤ (n : Int) := by omega
  have b7 : (0 : Int) ≤ (i : Int) + 1 := by omega
  have b8 : i + (n - 1 - i) = n - 1 := by omega
  have b9 : n - (n - 1) = 1 := by omega
  go_enter Try.func35, Try.ntmps35
  go_wp2_with fail
  go_region_law (refine step_append_eq rfl (.tmp 22) (.tmp 25) 25 25 rfl (.slice (some ⟨g, 0, none⟩) i c) (.slice (some A) (n - 1 - i) (c - (i + 1))) (by simp [Act.eval, Act.put]) (by simp [Act.eval, Act.put]) (HAP.out _ _) ?_)
  have c1 : n - 1 ≤ c := by omega
  go_wp2_with (simp only [HCL.out])
  go_ret
  have hc1l := HC1L.out
  have hzl := HZS.out
  have hnn : (n - 1) * 3 + 3 ≤ c * 3 := by omega
  have hNl : (C1.take ((n - 1) * 3) ++ (zs ++ C1.drop ((n - 1) * 3 + zs.length))).length = c * 3 := by
    rw [List.length_append, List.length_append, List.length_take, List.length_drop, hc1l, hzl]
    omega
  have hNt : (C1.take ((n - 1) * 3) ++ (zs ++ C1.drop ((n - 1) * 3 + zs.length))).take ((n - 1) * 3) = (L.take i ++ L.drop (i + 1)).flatMap shV := by
    rw [HFL.out, ← HD1.out]
    exact List.take_left' (by rw [List.length_take, hc1l]; omega)
  obtain ⟨NR, hNR⟩ := named (C1.take ((n - 1) * 3) ++ (zs ++ C1.drop ((n - 1) * 3 + zs.length)))
  rw [hNR.out] at hNl hNt ⊢
  have hgt : w.grownBy (W1.setRow g NR.toArray) (some g) := HGR.out.trans ⟨rfl, rfl, rfl, by simp [World.setRow], fun j _ hj => setRow_other W1 g j _ (fun e => hj (by rw [e]))⟩
  exact ⟨some ⟨g, 0, none⟩, c, rfl, ⟨⟨by rw [flat_len sh_rowed.len, hln], Or.inr ⟨g, c, NR.toArray, rfl, hbg, setRow_heap W1 g C1.toArray _ _ _ HHG.out, c1, hcm, by simp [hNl], hNt⟩⟩, hln, by omega⟩, hgt⟩
end Go.Proofs.Ytipljkegmhclkaa
