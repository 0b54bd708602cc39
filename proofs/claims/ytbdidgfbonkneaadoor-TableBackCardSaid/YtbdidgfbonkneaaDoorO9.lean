/-
  What the project's own copyOf and withoutBlanks answer (package table). Conditions: the table reads, no more than 6000 leaves.
-/
import Derived.Test.YtbdidgfbonkneaaDoorN9
import Derived.Deep.RegionHeld3
namespace Go.Proofs.YtbdidgfbonkneaaDoor
open Go.RowKit
set_option linter.unusedVariables false

/-- A boxed table and a boxed result; all else below the base as it was. -/
def BoxB (X base : Nat) (s r : Value) (w0 W : World) : Prop := Blk W X 24 #[s] ∧ Blk W (X + 1) 24 #[r] ∧ Below base w0 W ∧ base ≤ X
section
variable {X base : Nat} {s r : Value} {w0 W W' : World}
theorem BoxB.first (w : World) (base : Nat) (hb : base ≤ w.heap.size) (s r : Value) : BoxB w.heap.size base s r w ((w.alloc (.cells #[s] 24)).alloc (.cells #[r] 24)) := ⟨(Blk.new w _ _).alloc _, blk_next9 _ _ _ _ _, ((Below.refl _ _).alloc hb _).alloc (by simp; omega) _, hb⟩
theorem BoxB.later (h : BoxB X base s r w0 W) (hb : Below W.heap.size W W') : BoxB X base s r w0 W' := ⟨h.1.later hb, h.2.1.later hb, h.2.2.1.trans (hb.mono (by have := h.1.lt; have := h.2.2.2; omega)), h.2.2.2⟩
theorem BoxB.alloc (h : BoxB X base s r w0 W) (o : Obj) : BoxB X base s r w0 (W.alloc o) := h.later ((Below.refl _ _).alloc (Nat.le_refl _) _)
theorem BoxB.row (h : BoxB X base s r w0 W) {g : Nat} (hg : base ≤ g) (h1 : g ≠ X) (h2 : g ≠ X + 1) (hr : W.grownBy W' (some g)) : BoxB X base s r w0 W' :=
  ⟨h.1.kept hr (fun e => by simp at e; omega), h.2.1.kept hr (fun e => by simp at e; omega), h.2.2.1.grown hr (by have := h.1.lt; have := h.2.2.2; omega) (fun k hk => by cases hk; exact hg), h.2.2.2⟩
theorem BoxB.res (h : BoxB X base s r w0 W) (v : Value) : BoxB X base s v w0 (W.setCell ⟨X + 1, 0, none⟩ v) :=
  ⟨h.1.other (by omega) _, h.2.1.set 0 v, h.2.2.1.setCell (by show base ≤ X + 1; have := h.2.2.2; omega) _, h.2.2.2⟩
theorem BoxB.below (h : BoxB X base s r w0 W) : Below base w0 W := h.2.2.1
end
def Caps (a : Option Addr) (len cap : Nat) : Prop := (a = none → cap = 0) ∧ len ≤ cap
theorem tb_take_succ {ds : List LfD} {j : Nat} {d : LfD} (h : ds[j]? = some d) : (tbOf ds).take (j + 1) = (tbOf ds).take j ++ [d.2.2.2] := by
  unfold tbOf
  rw [List.take_add_one, List.getElem?_map, h]
  rfl
theorem mid_set {α : Type} (es ds : List α) (j : Nat) (d' : α) (he : es.length = j) (hj : j < ds.length) : (es ++ ds.drop j).set j d' = (es ++ [d']) ++ ds.drop (j + 1) := by
  rw [List.set_append_right _ _ (by omega), he, Nat.sub_self, List.drop_eq_getElem_cons hj, List.set_cons_zero, List.append_assoc]
  rfl
theorem cell_kept9 {w w' : World} {g j : Nat} {v : Value} (hb : Below w.heap.size w w') (hg : g < w.heap.size) (hc : w.cell? ⟨g, j, none⟩ = some v) (hf : w.frozen? ⟨g, j, none⟩ = false) : w'.cell? ⟨g, j, none⟩ = some v ∧ w'.frozen? ⟨g, j, none⟩ = false := by
  refine ⟨(hb.cell (p := ⟨g, j, none⟩) hg).trans hc, ?_⟩
  rw [← hf]
  exact hb.frozen (p := ⟨g, j, none⟩) hg
set_option maxRecDepth 100000 in
set_option maxHeartbeats 3200000 in
theorem copy9 (w : World) (a : Option Addr) (len cap : Nat) (ds : List LfD) (h : TabR w a len ds) (hc : Caps a len cap) (hlen : len ≤ 6000) (hll : ∀ d ∈ ds, d.2.1 ≤ 1000000) :
    Calls Tryd.prog 32 #[.agg #[.slice a len cap]] w fun e w' => ∃ (a' : Option Addr) (c' : Nat) (es : List LfD), e = .returned (.agg #[.slice a' len c']) ∧ tbOf es = tbOf ds ∧ TabQ w' w.heap.size a' len c' es es ∧ Below w.heap.size w w' := by
  have HB0 := Lib.hid (BoxB.first w _ (Nat.le_refl _) (.slice a len cap) (.slice none 0 0))
  have HT := Lib.hid h
  have HLL := Lib.hid hll
  have hdl := h.len
  obtain ⟨X, hX⟩ := named w.heap.size
  have hXX := hX.out
  rw [hX.out] at HB0 ⊢
  have HCL : Hid (∀ W, Below X w W → _) := fun W hb => cloneL9 W a len cap ds (h.1.later (hX.out.symm ▸ hb)) hc.2 hc.1 (by omega)
  clear h hll hc
  go_enter Tryd.func32, Tryd.ntmps32
  go_wp2_with (go_at_call 48; refine (HCL.out _ HB0.out.below).mono ?_; rintro e w1 ⟨a1, c1, rfl, g1, g2⟩; have HB1 := Lib.hid (HB0.out.later g2); have HO := Lib.hid g1; have HG := Lib.hid g2; clear g1 g2 HCL)
  go_loopw [11] (fun i wr => ∃ (j : Nat) (es : List LfD), j ≤ len ∧ i = .int .i64 j ∧ es.length = j ∧ Hid (tbOf es = (tbOf ds).take j) ∧ Hid (BoxB X X (.slice a len cap) (.slice none 0 0) w wr) ∧ Hid (TabQ wr (X + 2) a1 len c1 (es ++ ds.drop j) es)) (fun i _ => len - (intOf i).toNat)
  case atStart =>
    refine ⟨0, [], Nat.zero_le _, rfl, rfl, rfl, HB1.out, ?_, by simp, fun i j d d' hi => by simp at hi⟩
    have := HO.out
    rw [World.size_alloc, World.size_alloc, hX.out] at this
    exact this
  case round =>
    obtain ⟨j, es, hj, rfl, hes, HE, HB, HQ⟩ := hrel
    by_cases hlt : j < len
    · obtain ⟨g, d, rfl, hg1, hg2, hd, hcell, hfz⟩ := HQ.out.at j hlt
      have hd2 : ds[j]? = some d := by
        rw [List.getElem?_append_right (by omega), hes, Nat.sub_self, List.getElem?_drop, Nat.add_zero] at hd
        exact hd
      have hL : LfR wr d := (HT.out.later (hX.out.symm ▸ HB.out.below)).2 d (List.mem_of_getElem? hd2)
      have HC := Lib.hid (cloneE9 wr d hL (HLL.out d (List.mem_of_getElem? hd2)))
      have HD2 := Lib.hid hd2
      obtain ⟨al, ll, cl, xs⟩ := d
      clear hd hd2 hL
      go_wp2_with (go_at_call 49; refine HC.out.mono ?_; rintro e w2 ⟨d', rfl, g1, g2, g3⟩; have hb2 := HB.out.later g3; have hq2 := HQ.out.later g3; have h5 := (hq2.addEs d' (g2.mono (by have := hb2.2.1.lt; have := HB.out.2.1.lt; omega)) (fun x hx b hb hb' => by have := HQ.out.lt x hx b hb; have := (g2.lt hb').1; omega)).setOut g j rfl d'; rw [mid_set es ds j d' hes (by rw [hdl]; exact hlt)] at h5; have HB2 := Lib.hid (hb2.row (by omega) (by omega) (by omega) h5.2); have HQ2 := Lib.hid h5.1; have HE2 : Hid (tbOf (es ++ [d']) = (tbOf ds).take (j + 1)) := Lib.hid (by rw [tb_take_succ HD2.out, ← HE.out, ← g1]; unfold tbOf; rw [List.map_append]; rfl); obtain ⟨x1, x2⟩ := cell_kept9 g3 hg2 hcell hfz; clear hb2 hq2 h5 g1 g2 g3 HC)
      go_roundw
      case rel => exact ⟨j + 1, es ++ [d'], by omega, by go_num, by rw [List.length_append, hes]; rfl, HE2, HB2, HQ2⟩
      case measure => simp [intOf]; omega
    · have hjl : j = len := by omega
      subst hjl
      have hq : TabQ (wr.setCell ⟨X + 1, 0, none⟩ (.slice a1 j c1)) (X + 2) a1 j c1 es es := by
        have := HQ.out.low (X := X + 1) (by omega) (grownBy_setCell4 wr (X + 1) 0 (.slice a1 j c1))
        rwa [List.drop_eq_nil_of_le (Nat.le_of_eq hdl), List.append_nil] at this
      have HQ2 := Lib.hid hq
      have HB2 := Lib.hid (HB.out.res (.slice a1 j c1))
      have r1 := one_cell9 HB.out.2.1
      have r2 := HB.out.2.1.free 0
      have HE2 : Hid (tbOf es = tbOf ds) := Lib.hid (by
        rw [HE.out, List.take_of_length_le]
        unfold tbOf
        rw [List.length_map]
        exact Nat.le_of_eq hdl)
      clear hq
      go_wp2
      refine bodyPost_ret (v := .agg #[.slice a1 j c1]) (results_cell_row rfl _ _ (X + 1) 24 #[.slice a1 j c1] (0, 0) _ rfl HB2.out.2.1 Tryd.underlying24 rfl tbl_size) rfl ⟨a1, c1, es, rfl, HE2.out, HQ2.out.mono (by omega), HB2.out.below⟩
/-- A leaf, or none where it is blank. -/
def nbD (d : LfD) : LfD := if liveL d.2.2.2 then d else (none, 0, 0, [])
theorem nbD_is (d : LfD) : (nbD d).2.2.2 = nbL d.2.2.2 := by
  unfold nbD nbL
  split <;> rfl
theorem slice_front9 {a : Option Addr} {len cap p : Nat} (h1 : p ≤ cap) (w' : World) : (Instr.slice 22 (.slice a len cap) none (some (.int .i64 p)) none).run Tryd.prog w' = .ok (.slice a p cap) w' := by
  have hinf : (Tryd.prog.info? 51).map (fun i => i.size) = some 1 := by kernel_rfl
  obtain ⟨i0, hi0, _⟩ := Option.map_eq_some_iff.1 hinf
  cases a <;> simp [Instr.slice, Instr.sliceBounds, Instr.sliceBound, asIntOf, run_underlying Tryd.underlying22, sizeOf, typeInfo, hi0, h1, Addr.add, go_sem]
theorem nb_step (es : List LfD) (j : Nat) (d : LfD) (h : es[j]? = some d) : ((es.take j).map nbD ++ es.drop j).set j (nbD d) = (es.take (j + 1)).map nbD ++ es.drop (j + 1) := by
  have hj : j < es.length := (List.getElem?_eq_some_iff.1 h).1
  rw [mid_set _ _ _ _ (by rw [List.length_map, List.length_take]; omega) hj, List.take_add_one, h]
  simp
theorem nb_at (es : List LfD) (j : Nat) (d : LfD) (h : es[j]? = some d) : ((es.take j).map nbD ++ es.drop j)[j]? = some d := by
  have hj : j < es.length := (List.getElem?_eq_some_iff.1 h).1
  rw [List.getElem?_append_right (by rw [List.length_map, List.length_take]; omega), List.length_map, List.length_take, Nat.min_eq_left (by omega), Nat.sub_self, List.getElem?_drop, Nat.add_zero, h]
/-- How many leaves stay. -/
def endN (T : Tb) (j : Nat) : Nat := (trimN (T.map nbL) j).length
theorem endN_succ {T : Tb} {j : Nat} (hj : j < T.length) : endN T (j + 1) = if liveL (tbAt T j) then j + 1 else endN T j := by
  unfold endN
  show (if tbAt (T.map nbL) j = [] then trimN (T.map nbL) j else (T.map nbL).take (j + 1)).length = _
  rw [tbAt_map _ _ nbL_nil]
  by_cases hl : liveL (tbAt T j)
  · have hne : nbL (tbAt T j) ≠ [] := by
      unfold nbL
      rw [if_pos hl]
      rintro e
      rw [e] at hl
      obtain ⟨x, hx, _⟩ := hl
      cases hx
    rw [if_neg hne, if_pos hl, List.length_take, List.length_map]
    omega
  · have he : nbL (tbAt T j) = [] := by unfold nbL; rw [if_neg hl]
    rw [if_pos he, if_neg hl]
theorem endN_le (T : Tb) (j : Nat) (hj : j ≤ T.length) : endN T j ≤ j := (trimN_len _ _ (by rw [List.length_map]; exact hj)).1
theorem trim_take (T : Tb) : ∀ n, n ≤ T.length → trimN T n = T.take (trimN T n).length
  | 0, _ => rfl
  | n + 1, h => by
    show (if tbAt T n = [] then trimN T n else T.take (n + 1)) = T.take (if tbAt T n = [] then trimN T n else T.take (n + 1)).length
    by_cases e : tbAt T n = []
    · rw [if_pos e]
      exact trim_take T n (by omega)
    · rw [if_neg e, List.length_take, Nat.min_eq_left h]
theorem wb_is (es : List LfD) : tbOf ((es.map nbD).take (endN (tbOf es) es.length)) = wbT (tbOf es) := by
  unfold wbT
  have hl : (tbOf es).length = es.length := by unfold tbOf; rw [List.length_map]
  rw [trim_take _ _ (by rw [List.length_map]; exact Nat.le_refl _), hl]
  unfold endN tbOf
  rw [List.map_take, List.map_map, List.map_map]
  congr 1
  exact List.map_congr_left fun d _ => nbD_is d
set_option maxRecDepth 100000 in
set_option maxHeartbeats 3200000 in
theorem blanks9 (w : World) (base : Nat) (a : Option Addr) (len cap : Nat) (es : List LfD) (h : TabQ w base a len cap es es) (hbase : base ≤ w.heap.size) (hlen : len ≤ 6000) :
    Calls Tryd.prog 35 #[.agg #[.slice a len cap]] w fun e w' => ∃ (len' : Nat) (es' : List LfD), e = .returned (.agg #[.slice a len' cap]) ∧ tbOf es' = wbT (tbOf es) ∧ TabQ w' base a len' cap es' es' ∧ Below base w w' := by
  have HB0 := Lib.hid (BoxB.first w base hbase (.slice a len cap) (.slice none 0 0))
  have hel := h.size
  have htl : (tbOf es).length = len := by unfold tbOf; rw [List.length_map]; exact hel
  have hcap := h.caps.2
  have HQ0 : Hid (TabQ ((w.alloc (.cells #[.slice a len cap] 24)).alloc (.cells #[.slice none 0 0] 24)) base a len cap es es) := (h.alloc _).alloc _
  have HG0 : Hid (Below base w ((w.alloc (.cells #[.slice a len cap] 24)).alloc (.cells #[.slice none 0 0] 24))) := ((Below.refl _ _).alloc hbase _).alloc (by simp; omega) _
  have HLT : Hid (∀ d ∈ es, ∀ b, blkD d = some b → b < w.heap.size) := h.lt
  have HLO : Hid (∀ g, a = some ⟨g, 0, none⟩ → g < w.heap.size) := fun g e => (h.out.1.lt g (by subst e; rfl)).2
  have HFR : Hid (∀ p : Nat, p ≤ cap → ∀ w' : World, (Instr.slice 22 (.slice a len cap) none (some (.int .i64 p)) none).run Tryd.prog w' = .ok (.slice a p cap) w') := fun p hp w' => slice_front9 hp w'
  obtain ⟨X, hX⟩ := named w.heap.size
  have hXX := hX.out
  rw [hX.out] at HB0 HLT HLO
  clear h
  go_enter Tryd.func35, Tryd.ntmps35
  go_wp2
  go_loopw [3, 9] (fun v i wr => ∃ (j : Nat), j ≤ len ∧ v = .int .i64 (endN (tbOf es) j : Nat) ∧ i = .int .i64 j ∧ Hid (BoxB X base (.slice a len cap) (.slice none 0 0) w wr) ∧ Hid (TabQ wr base a len cap ((es.take j).map nbD ++ es.drop j) ((es.take j).map nbD ++ es.drop j))) (fun _ i _ => len - (intOf i).toNat)
  case atStart => exact ⟨0, Nat.zero_le _, rfl, rfl, HB0.out, HQ0.out⟩
  case round =>
    obtain ⟨j, hj, rfl, rfl, HB, HQ⟩ := hrel
    have b1 := one_cell9 HB.out.1
    by_cases hlt : j < len
    · obtain ⟨g, d, rfl, hg1, hg2, hd, hcell, hfz⟩ := HQ.out.at j hlt
      obtain ⟨d0, hd0⟩ : ∃ d0, es[j]? = some d0 := ⟨_, List.getElem?_eq_getElem (by omega)⟩
      obtain rfl : d0 = d := Option.some.inj ((nb_at es j d0 hd0).symm.trans hd)
      have hL : LfR wr d0 := HQ.out.reads.2 d0 (List.mem_of_getElem? hd)
      have hx : tbAt (tbOf es) j = d0.2.2.2 := by
        unfold tbAt tbOf
        rw [List.getD_eq_getElem?_getD, List.getElem?_map, hd0]
        rfl
      have he := endN_succ (T := tbOf es) (j := j) (by omega)
      rw [hx] at he
      have hstep := nb_step es j d0 hd0
      have hgX := HLO.out g rfl
      by_cases hl : liveL d0.2.2.2
      · rw [if_pos hl] at he
        have HN : Hid (TabQ wr base (some ⟨g, 0, none⟩) len cap ((es.take (j + 1)).map nbD ++ es.drop (j + 1)) ((es.take (j + 1)).map nbD ++ es.drop (j + 1))) := by
          rw [← hstep]
          have e : nbD d0 = d0 := by unfold nbD; rw [if_pos hl]
          rw [e]
          have : ((es.take j).map nbD ++ es.drop j).set j d0 = (es.take j).map nbD ++ es.drop j := by
            refine List.ext_getElem? fun i => ?_
            rw [List.getElem?_set]
            by_cases hi : j = i
            · subst hi
              rw [if_pos rfl, hd]
              have := (List.getElem?_eq_some_iff.1 hd).1
              rw [if_pos this]
            · rw [if_neg hi]
          rw [this]
          exact HQ.out
        have HK := Lib.hid (fun w h => blankC (a := d0.1) (len := d0.2.1) (cap := d0.2.2.1) (decide_eq_false (Classical.not_not.2 hl)) w h hL.2.2.2)
        have HLR := Lib.hid hL.1
        obtain ⟨E, hE⟩ := named (endN (tbOf es) (j + 1))
        rw [hE.out] at he
        obtain ⟨al, ll, cl, xs⟩ := d0
        clear hL hstep hd hd0 hl hx
        go_wp2_with (go_at_call 37; (with_reducible refine (HK.out _ HLR.out).mono ?_); rintro e w2 ⟨rfl, g⟩; have HB2 := Lib.hid (HB.out.later g); have HQ2 := Lib.hid (HN.out.later g); clear g)
        go_roundw
        case rel => exact ⟨j + 1, by omega, by rw [hE.out, he]; go_num, by go_num, HB2.out, HQ2.out⟩
        case measure => simp [intOf]; omega
      · rw [if_neg hl] at he
        have e : nbD d0 = (none, 0, 0, []) := by unfold nbD; rw [if_neg hl]
        rw [e] at hstep
        have HN : Hid (∀ w2, Below wr.heap.size wr w2 → TabQ (w2.setCell ⟨g, j, none⟩ (.slice none 0 0)) base (some ⟨g, 0, none⟩) len cap ((es.take (j + 1)).map nbD ++ es.drop (j + 1)) ((es.take (j + 1)).map nbD ++ es.drop (j + 1)) ∧ w2.grownBy (w2.setCell ⟨g, j, none⟩ (.slice none 0 0)) (some g)) := fun w2 hb => by
          rw [← hstep]
          exact ((HQ.out.later hb).putEs j (none, 0, 0, []) (LfO.none _ _) (fun _ _ _ _ e => by cases e)).setOut g j rfl (none, 0, 0, [])
        have HK := Lib.hid (fun w h => blankC (a := d0.1) (len := d0.2.1) (cap := d0.2.2.1) (decide_eq_true hl) w h hL.2.2.2)
        have HLR := Lib.hid hL.1
        obtain ⟨E, hE⟩ := named (endN (tbOf es) (j + 1))
        rw [hE.out] at he
        obtain ⟨al, ll, cl, xs⟩ := d0
        clear hL hstep hd hd0 hl hx e
        go_wp2_with (go_at_call 37; (with_reducible refine (HK.out _ HLR.out).mono ?_); rintro e w2 ⟨rfl, g⟩; obtain ⟨x1, x2⟩ := cell_kept9 g hg2 hcell hfz; have b2 := one_cell9 (HB.out.later g).1; have h5 := HN.out w2 g; have HB2 := Lib.hid ((HB.out.later g).row (by omega) (by omega) (by omega) h5.2); have HQ2 := Lib.hid h5.1; clear g h5)
        go_roundw
        case rel => exact ⟨j + 1, by omega, by rw [hE.out, he], by go_num, HB2.out, HQ2.out⟩
        case measure => simp [intOf]; omega
    · have hjl : j = len := by omega
      subst hjl
      have hel' := endN_le (tbOf es) j (by omega)
      have hq : TabQ wr base a (endN (tbOf es) j) cap ((es.map nbD).take (endN (tbOf es) j)) ((es.map nbD).take (endN (tbOf es) j)) := by
        have := HQ.out
        rw [List.take_of_length_le (Nat.le_of_eq hel), List.drop_eq_nil_of_le (Nat.le_of_eq hel), List.append_nil] at this
        exact this.take _ hel'
      have hw := wb_is es
      rw [hel] at hw
      obtain ⟨E, hE⟩ := named (endN (tbOf es) j)
      rw [hE.out] at hq hw hel' ⊢
      obtain ⟨es', hes'⟩ := named ((es.map nbD).take E)
      rw [hes'.out] at hq hw
      have hsl := HFR.out E (by omega)
      have HW := Lib.hid hw
      have HQ2 := Lib.hid (hq.kept (w' := wr.setCell ⟨X + 1, 0, none⟩ (.slice a E cap)) (grownBy_setCell4 wr (X + 1) 0 _) (fun k hk e => by
        cases e
        have := hk
        cases a with
        | none => simp [Value.ownBlock] at this
        | some x =>
          have h1 := HQ.out.out.1.2
          rcases h1 with ⟨e, _⟩ | ⟨g, _, _, e, _⟩
          · cases e
          · cases e
            have := HLO.out g rfl
            simp [Value.ownBlock] at hk
            omega) (fun d hd k hk e => by
        cases e
        rw [← hes'.out] at hd
        have hd := List.mem_of_mem_take hd
        obtain ⟨d1, h1, rfl⟩ := List.mem_map.1 hd
        unfold nbD at hk
        split at hk
        · have := HLT.out d1 h1 _ hk
          omega
        · cases hk))
      have HB2 := Lib.hid (HB.out.res (.slice a E cap))
      have r1 := one_cell9 HB.out.2.1
      have r2 := HB.out.2.1.free 0
      clear hq hw hE hes' hel'
      go_wp2
      refine bodyPost_ret (v := .agg #[.slice a E cap]) (results_cell_row rfl _ _ (X + 1) 24 #[.slice a E cap] (0, 0) _ rfl HB2.out.2.1 Tryd.underlying24 rfl tbl_size) rfl ⟨E, es', rfl, HW.out, HQ2.out, HB2.out.below⟩
end Go.Proofs.YtbdidgfbonkneaaDoor
