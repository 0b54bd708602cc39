/-
  slices.Delete of one pointer out of the row of the files, and Remove (package disk). Conditions: a short row of the disk's own.
-/
import Derived.Test.YtnhaidofblfopaaE6
import Derived.Lib.SliceRun
import Derived.Shelf.RegionOpenPlain
import Derived.Deep.RegionLaw
namespace Go.Proofs.Ytnhaidofblfopaa
open Go.RowKit
set_option linter.unusedVariables false

theorem step_append_eq {P : Program} {ops : Array Oper} {o : Oper} {a : Act} {w : World} {K : Act → World → Prop} {Q : Exit → Act → World → Prop} {E : Prop} (hgd : o.guard = none) (d s : Operand) (t t' : TypeId)
    (ho : o.op = .call { callee := .builtin .append, args := #[d, s], argTypes := #[t, t'] }) (v u : Value) (hd : a.eval d = v) (hs : a.eval s = u) {v' : Value} {w' : World}
    (hr : (Builtin.append_ #[t, t'] o.type #[v, u]).run P w = .ok v' w') (h : K (a.put o.dst v') w') : if Region.wanted o (yielded ops a.tmps) = true then Oper.wp P o a w K Q else E := by
  have hw : Region.wanted o (yielded ops a.tmps) = true := by simp [Region.wanted, hgd]
  rw [if_pos hw]
  unfold Oper.wp execOp
  simp only [ho, resolve, invoke, builtin, Sem.run_bind, Sem.run_pure, Result.andThen_ok, List.map_toArray, List.map_cons, List.map_nil, hd, hs, hr]
  exact h
theorem del_row (cur P : List Value) (n i : Nat) (h : cur.take n = P) (hl : n ≤ cur.length) (hi : i < n) (C1 : List Value) (hc : C1 = cur.take i ++ P.drop (i + 1) ++ cur.drop (i + (P.drop (i + 1)).length)) :
    C1.take (n - 1) = P.take i ++ P.drop (i + 1) ∧ C1.length = cur.length := by
  have hP : P.length = n := by rw [← h, List.length_take]; omega
  have hd : (P.drop (i + 1)).length = n - (i + 1) := by rw [List.length_drop, hP]
  have e1 : cur.take i = P.take i := by rw [← h, List.take_take]; congr 1; omega
  have hti : (P.take i).length = i := by rw [List.length_take]; omega
  rw [hc, e1]
  refine ⟨List.take_left' (by simp; omega), ?_⟩
  simp
  omega
theorem rem_end {w w4 : World} {B room cnt fails k : Nat} {vF : Value} {a' : Option Addr} {c' : Nat} {L : List FR} {dead : Bool} (h : DiskIn w B room vF L cnt fails dead) (hk : k < L.length)
    (hrow : OwnG ptrV 61 1 w4 0 (.slice a' (L.length - 1) c') (L.length - 1) (L.take k ++ L.drop (k + 1))) (hg : w.grownBy w4 vF.ownBlock) (hv : (Value.slice a' (L.length - 1) c').ownBlock = vF.ownBlock) :
    DiskIn (w4.setCell ⟨B, 1, none⟩ (.slice a' (L.length - 1) c')) B room (.slice a' (L.length - 1) c') (L.take k ++ L.drop (k + 1)) cnt fails dead ∧ Away (ownS B vF L) w (ownS B (.slice a' (L.length - 1) c') (L.take k ++ L.drop (k + 1))) (w4.setCell ⟨B, 1, none⟩ (.slice a' (L.length - 1) c')) := by
  have hlen : (L.take k ++ L.drop (k + 1)).length = L.length - 1 := by
    rw [List.length_append, List.length_take, List.length_drop]
    omega
  have hmem : ∀ g, g ∈ L.take k ++ L.drop (k + 1) → g ∈ L := fun g hg => by
    rcases List.mem_append.1 hg with hg | hg
    · exact List.mem_of_mem_take hg
    · exact List.mem_of_mem_drop hg
  have hap : (L.take k ++ L.drop (k + 1)).Pairwise fun f g => ∀ k, f.S k → ¬ g.S k := by
    refine h.apart.sublist ?_
    have : (L.take k ++ L.drop (k + 1)).Sublist (L.take k ++ L.drop k) := List.Sublist.append (List.Sublist.refl _) (List.drop_sublist_drop_left L (by omega))
    rwa [List.take_append_drop] at this
  have hblk : ∀ j, j < w.heap.size → vF.ownBlock ≠ some j → j ≠ B → (w4.setCell ⟨B, 1, none⟩ (.slice a' (L.length - 1) c')).heap[j]? = w.heap[j]? := fun j h1 h2 h3 => by
    rw [Below.heap_setCell w4 ⟨B, 1, none⟩ _ j h3]
    exact hg.block j h1 (fun e => h2 e.symm)
  have hB4 : Blk w4 B 59 #[.int .i64 room, vF, .int .u64 cnt, .int .u64 fails, .bool dead] := h.blk.kept hg (fun e => h.rowB e.symm)
  have ha : Away (ownS B vF L) w (ownS B vF L) (w4.setCell ⟨B, 1, none⟩ (.slice a' (L.length - 1) c')) := Away.set (S := ownS B vF L) (Away.grown (Away.refl (ownS B vF L) w) hg (fun j hj => Or.inl (Or.inr (Or.inl hj)))) (ownS_B B vF L) 1 _
  refine disk_rows h (fun g hg' => Or.inl (hmem g hg')) hap (fun g hg' j hj => hblk j ((h.file g hg').lt j hj) (fun e => (h.out g hg').2 j e hj) (fun e => (h.out g hg').1 (e ▸ hj))) ha (hB4.set 1 _) ?_ (fun j hj => Or.inl (hv ▸ hj))
  rw [hlen]
  exact hrow.frame fun j hj => Below.heap_setCell w4 ⟨B, 1, none⟩ _ j (fun e => h.rowB (by rw [← hv, hj]; exact congrArg some e))
set_option maxHeartbeats 400000 in
set_option maxRecDepth 100000 in
/-- slices.Delete. -/
theorem delete_any {w : World} {v : Value} {n : Nat} {L : List FR} (hown : OwnG ptrV 61 1 w 0 v n L) (hn : n ≤ 40) (i : Nat) (hi : i < n) :
    Calls Try.prog 40 #[v, .int .i64 i, .int .i64 ((i : Int) + 1)] w fun e w' => ∃ a' c', e = .returned (.slice a' (n - 1) c') ∧ OwnG ptrV 61 1 w' 0 (.slice a' (n - 1) c') (n - 1) (L.take i ++ L.drop (i + 1)) ∧ w.grownBy w' v.ownBlock ∧
      (Value.slice a' (n - 1) c').ownBlock = v.ownBlock := by
  obtain ⟨i0, hi0, hz0, hz1, hz2⟩ := ptr_info
  have hL : L.length = n := hown.2.1
  rcases hown.1.2 with ⟨e, e'⟩ | ⟨g, cap, cur, rfl, hbg, hg, hnc, hcm, hcs, htake⟩
  · omega
  rw [Nat.mul_one] at hcs htake
  have hcs' : cur.toList.length = cap := by rw [Array.length_toList, hcs]
  have hPl := pvl_len L
  have hdl : ((L.flatMap ptrV).drop (i + 1)).length = n - 1 - i := by rw [List.length_drop, hPl, hL]; omega
  have hFL : (L.take i ++ L.drop (i + 1)).flatMap ptrV = (L.flatMap ptrV).take i ++ (L.flatMap ptrV).drop (i + 1) := by
    rw [pvl_map, pvl_map, List.map_append, List.map_take, List.map_drop]
  have hln : (L.take i ++ L.drop (i + 1)).length = n - 1 := by simp; omega
  obtain ⟨A, hA, hsrc⟩ : ∃ A : Addr, (if cap = i + 1 then some (⟨g, 0, none⟩ : Addr) else some ⟨g, i + 1, none⟩) = some A ∧ ∀ t u, ((L.flatMap ptrV).drop (i + 1))[t]? = some u → w.drew.cell? (A.add t) = some u := by
    by_cases h : cap = i + 1
    · refine ⟨⟨g, 0, none⟩, by simp [h], fun t u hu => ?_⟩
      have h0 : ((L.flatMap ptrV).drop (i + 1)).length = 0 := by rw [hdl]; omega
      rw [List.length_eq_zero_iff.1 h0] at hu
      simp at hu
    · refine ⟨⟨g, i + 1, none⟩, by simp [h], fun t u hu => ?_⟩
      have ht : t < n - 1 - i := by
        have := (List.getElem?_eq_some_iff.1 hu).1
        rwa [hdl] at this
      rw [Addr.add_lit, cell_of_row w.drew g (i + 1 + t) cur _ (0, 0) hg, ← Array.getElem?_toList]
      rw [← htake, List.getElem?_drop, List.getElem?_take, if_pos (by omega)] at hu
      exact hu
  have hap : ∀ ty c, (Builtin.append_ #[51, 51] ty #[.slice (some ⟨g, 0, none⟩) i cap, .slice (some A) (n - 1 - i) c]).run Try.prog w.drew = .ok (.slice (some ⟨g, 0, none⟩) (i + (n - 1 - i)) cap) (w.drew.setRow g (cur.toList.take (i * i0.size) ++ (L.flatMap ptrV).drop (i + 1) ++ cur.toList.drop (i * i0.size + ((L.flatMap ptrV).drop (i + 1)).length)).toArray) := fun ty c =>
    run_append_room (P := Try.prog) w.drew _ ty _ i0 Try.underlying51 hi0 g i cap cur hg A (n - 1 - i) c _ (by rw [hz1, hdl, Nat.mul_one]) hsrc (fun u hu => pvl_one u (List.mem_of_mem_drop hu)) (by omega) (by rw [hz1, hdl]; omega)
  rw [hz1, Nat.mul_one] at hap
  obtain ⟨C1, hC1⟩ := named (cur.toList.take i ++ (L.flatMap ptrV).drop (i + 1) ++ cur.toList.drop (i + ((L.flatMap ptrV).drop (i + 1)).length))
  rw [hC1.out] at hap
  obtain ⟨hd1, hd2⟩ := del_row cur.toList (L.flatMap ptrV) n i htake (by rw [hcs']; exact hnc) hi C1 hC1.out.symm
  obtain ⟨W1, hW1⟩ := named (w.drew.setRow g C1.toArray)
  rw [hW1.out] at hap
  have hg1 : W1.heap[g]? = some (.cells C1.toArray 61 (0, 0)) := by rw [← hW1.out]; exact setRow_heap w.drew g cur _ 61 _ hg
  have hgr : w.grownBy W1 (some g) := by rw [← hW1.out]; exact ⟨rfl, rfl, rfl, by simp, fun j _ hj => setRow_other w.drew g j _ (fun e => hj (by simp [e]))⟩
  have hC1l : C1.length = cap := hd2.trans hcs'
  have hB1 : Blk W1 g 61 C1.toArray := hg1
  have hcl : ∀ ty c, (Builtin.clear_ #[51] ty #[.slice (some ⟨g, n - 1, none⟩) 1 c]).run Try.prog W1 = .ok (.tuple #[]) (W1.setCells g (n - 1) (List.replicate 1 (.pointer none))) := fun ty c =>
    Lib.run_clear_slice W1 _ _ ty (.pointer none) Try.underlying51 Try.zeroValue61 rfl rfl g (n - 1) 1 c (by omega) (fun t ht => by
      rw [hB1.cell, List.getElem?_toArray, List.getElem?_eq_getElem (by omega)]
      rfl) (fun t ht => hB1.free _)
  have HAP := Lib.hid hap
  have HCL := Lib.hid hcl
  have HB1 := Lib.hid hB1
  have HGR := Lib.hid hgr
  have HD1 := Lib.hid hd1
  have HTK := Lib.hid htake
  clear hap hcl hB1 hgr hd1 hd2 hg1 hsrc hcs' hdl hPl htake hg hown hi0
  have b1 : n - (i + 1) = n - 1 - i := by omega
  have b2 : i ≤ cap := by omega
  have b3 : i + 1 ≤ cap := by omega
  have b5 : ((i : Int) + 1).toNat = i + 1 := by omega
  have b6 : (i : Int) + 1 ≤ (n : Int) := by omega
  have b7 : (0 : Int) ≤ (i : Int) + 1 := by omega
  have b8 : i + (n - 1 - i) = n - 1 := by omega
  have b9 : n - (n - 1) = 1 := by omega
  go_enter Try.func40, Try.ntmps40
  go_wp2_with fail
  go_region_law (refine step_append_eq rfl (.tmp 22) (.tmp 25) 51 51 rfl (.slice (some ⟨g, 0, none⟩) i cap) (.slice (some A) (n - 1 - i) (cap - (i + 1))) (by simp [Act.eval, Act.put]) (by simp [Act.eval, Act.put]) (HAP.out _ _) ?_)
  go_wp2_with (simp only [HCL.out])
  go_ret
  have e : W1.setCells g (n - 1) [.pointer none] = W1.setCell ⟨g, n - 1, none⟩ (.pointer none) := by simp [World.setCells]
  rw [e]
  have hgt : w.grownBy (W1.setCell ⟨g, n - 1, none⟩ (.pointer none)) (some g) := HGR.out.trans (grownBy_setCell4 W1 g (n - 1) _)
  refine ⟨some ⟨g, 0, none⟩, cap, rfl, ⟨⟨by rw [pvl_len, hln, Nat.mul_one], Or.inr ⟨g, cap, C1.toArray.setIfInBounds (n - 1) (.pointer none), rfl, hbg, HB1.out.set (n - 1) (.pointer none), by omega, hcm, by simp [hC1l], ?_⟩⟩, hln, by omega⟩, hgt, rfl⟩
  rw [Nat.mul_one, Array.toList_setIfInBounds, List.take_set_of_le (Nat.le_refl _), hFL]
  exact HD1.out
theorem diskRemove_any {w0 w : World} {p : Addr} {D D' : Dsk} {S : Nat → Prop} (h : Has w0 p D w S) (s : Nm) (E : Int) (he : D.remove s = (E, D')) :
    Calls Try.prog 21 #[.pointer (some p), .string s] w (Gives w0 p D' (.int .i64 E) S w) := by
  obtain ⟨B, room, vF, L, cnt, fails, dead, rfl, rfl, hd, hr⟩ := h.open'
  unfold Dsk.remove at he
  have HD := Lib.hid hd
  have HR := Lib.hid hr
  have HH := Lib.hid h
  cases dead with
  | true =>
    rw [if_pos (show D.dead = true from HR.out.deadEq)] at he
    cases he
    clear hd hr h
    go_enter Try.func21, Try.ntmps21
    go_wp2_with (go_at_call 26; refine (ready_any HD.out).mono ?_; rintro e w' ⟨rfl, rfl⟩)
    go_ret
    exact HH.out.close' HD.out HR.out (Away.refl _ _) _
  | false =>
    rw [if_neg (by rw [HR.out.deadEq]; simp)] at he
    have hml := hr.many
    have c1 := hd.c1
    have f1 := hd.blk.free 1
    by_cases hfd : ∃ f ∈ L, f.name = s
    · obtain ⟨f, hf, hfn⟩ := hfd
      have hg : fget D.files s ≠ none := fun e => HR.out.none.1 e f hf hfn
      rw [if_neg hg] at he
      cases he
      obtain ⟨L1, L2, hL⟩ := mid_of hf
      obtain ⟨k0, hk0⟩ := named L1.length
      have hk1 : L[k0]? = some f := by rw [← hk0.out, hL]; simp
      have HK := Lib.hid hk1
      have HL := Lib.hid hL
      have hkl : k0 < L.length := (List.getElem?_eq_some_iff.1 hk1).1
      have HFN := Lib.hid hfn
      clear hd hr h hL hk1 hg hf hfn
      go_enter Try.func21, Try.ntmps21
      go_wp2_with (first
        | (go_at_call 26; refine (ready_any HD.out).mono ?_; rintro e w1 ⟨rfl, rfl⟩)
        | (go_at_call 28; refine (place_any HD.out HR.out.rise hml s).mono ?_; rintro e w2 ⟨⟨k, found, rfl, hP⟩, rfl⟩
           obtain rfl : k = k0 := (by
            rcases Nat.lt_trichotomy k0 k with h' | h' | h'
            · exact absurd (hP.ahead k0 f HK.out h') (by rw [HFN.out]; exact nm_irrefl _)
            · exact h'.symm
            · obtain ⟨g, hg⟩ : ∃ g, L[k]? = some g := ⟨_, List.getElem?_eq_getElem (by omega)⟩
              exact absurd (HFN.out ▸ rise_at HR.out.rise hg HK.out h') (hP.behind k g hg (Nat.le_refl _)))
           obtain rfl : found = true := hP.found.2 ⟨f, HK.out, HFN.out⟩
           clear hP
           have b8 : IntKind.i64.wrap ((k : Int) + 1) = (k : Int) + 1 := by rw [IntKind.wrap_i64]; omega)
        | (go_at_call 40
           refine (delete_any HD.out.row (by omega) k hkl).mono ?_
           rintro e w3 ⟨a', c', rfl, hown4, hg4, hv4⟩
           have HQ := Lib.hid (rem_end HD.out hkl hown4 hg4 hv4)
           have hB3 : Blk w3 B 59 #[.int .i64 room, vF, .int .u64 cnt, .int .u64 fails, .bool false] := HD.out.blk.kept hg4 (fun e => HD.out.rowB e.symm)
           have c13 : w3.cell? ⟨B, 1, none⟩ = some vF := (by rw [hB3.cell]; rfl)
           have f13 := hB3.free 1
           clear hB3 hown4 hg4 hv4))
      go_ret
      obtain rfl := HFN.out
      obtain rfl := HL.out
      obtain rfl := hk0.out
      have e1 : (L1 ++ f :: L2).take L1.length ++ (L1 ++ f :: L2).drop (L1.length + 1) = L1 ++ L2 := by simp
      have hq := HQ.out
      rw [e1] at hq
      exact HH.out.close' hq.1 HR.out.remove hq.2 _
    · have hno : ∀ f ∈ L, f.name ≠ s := fun f hf e => hfd ⟨f, hf, e⟩
      have hg : fget D.files s = none := HR.out.none.2 hno
      have HNO := Lib.hid hno
      rw [if_pos hg] at he
      cases he
      clear hd hr h hg hno hfd
      go_enter Try.func21, Try.ntmps21
      go_wp2_with (first
        | (go_at_call 26; refine (ready_any HD.out).mono ?_; rintro e w1 ⟨rfl, rfl⟩)
        | (go_at_call 28; refine (place_any HD.out HR.out.rise hml s).mono ?_; rintro e w2 ⟨⟨k, found, rfl, hP⟩, rfl⟩
           obtain rfl : found = false := (by
            cases found
            · rfl
            · obtain ⟨f, h1, h2⟩ := hP.found.1 rfl
              exact absurd h2 (HNO.out f (List.mem_of_getElem? h1)))
           clear hP))
      go_ret
      exact HH.out.close' HD.out HR.out (Away.refl _ _) _
end Go.Proofs.Ytnhaidofblfopaa
