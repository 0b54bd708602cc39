/-
  The reference's cache (layer 10): Copy. Conditions: the cache as it lies.
-/
import Derived.Test.YthmkmhfoicfapaaRq
import Derived.Test.YthmkmhfoicfapaaLx
namespace Go.Proofs.Ythmkmhfoicfapaa
open Go.RowKit Go.Maps
set_option linter.unusedVariables false

theorem RcIn.pushC {w w' : World} {B m c' : Nat} {D : RC} {vL vR : Value} {LM : List RI} {a' : Option Addr} {x : RI} (h : RcIn w B D vL vR LM) (hg : w.grownBy w' vL.ownBlock) (hn : LM.length = m) (ho : OwnG riV 86 3 w' 0 (.slice a' (m + 1) c') (m + 1) (LM ++ [x]))
    (hx : Own w 0 (riS x) x.1.bs.length x.1.bs) (hk : ∀ y ∈ LM, y.1.key ≠ x.1.key) (hl : m + 1 ≤ 1100) :
    RcIn (w'.setCell ⟨B, 1, none⟩ (.slice a' (m + 1) c')) B ⟨D.room, D.items ++ [x.1], D.rels⟩ (.slice a' (m + 1) c') vR (LM ++ [x]) := by
  obtain ⟨vL', hvL'⟩ := named (Value.slice a' (m + 1) c')
  rw [hvL'.out] at ho ⊢
  have hoth : ∀ j, j ≠ B → (w'.setCell ⟨B, 1, none⟩ vL').heap[j]? = w'.heap[j]? := fun j hj => Below.heap_setCell w' ⟨B, 1, none⟩ vL' j hj
  have hB' : Blk w' B 68 #[.int .i64 D.room, vL, vR] := h.blk.kept hg fun e => h.lB e.symm
  have hR' : OwnG rlV 91 2 w' 0 vR D.rels.length D.rels := h.rel.kept' hg fun j hj => row_apart h.rel h.row (by decide) j hj
  have hb' : ∀ y : RI, Own w 0 (riS y) y.1.bs.length y.1.bs → Own w' 0 (riS y) y.1.bs.length y.1.bs := fun y hy => hy.frame fun j hj => hg.block j (hy.lt hj) fun e => OwnG.not_own h.row (by decide) hy hj e.symm
  have hbB : ∀ y : RI, Own w 0 (riS y) y.1.bs.length y.1.bs → (riS y).ownBlock ≠ some B := fun y hy => Blk.not_own h.blk (by decide) hy
  have hlen : (LM ++ [x]).length = m + 1 := by rw [List.length_append, hn]; rfl
  have hall : ∀ y ∈ LM ++ [x], Own w 0 (riS y) y.1.bs.length y.1.bs := fun y hy => by
    rcases List.mem_append.1 hy with hy | hy
    · exact h.bys y hy
    · rw [List.mem_singleton] at hy
      rw [hy]
      exact hx
  refine ⟨hB'.set 1 vL', ?_, ?_, ?_, fun y hy => ?_, ?_, ?_, h.few.2⟩
  · rw [hlen]
    exact ho.frame fun j hj => hoth j fun e => by
      subst e
      exact Blk.not_row hB' (by decide) ho hj.symm
  · exact hR'.frame fun j hj => hoth j fun e => h.rB (e ▸ hj)
  · rw [List.map_append, h.its]
    rfl
  · exact (hb' y (hall y hy)).frame fun j hj => hoth j fun e => hbB y (hall y hy) (e ▸ hj)
  · show ((D.items ++ [x.1]).map RIt.key).Nodup
    rw [List.map_append, List.nodup_append]
    refine ⟨h.keys, by simp, fun z hz y hy => ?_⟩
    simp only [List.map_cons, List.map_nil, List.mem_singleton] at hy
    rw [← h.its, List.map_map] at hz
    obtain ⟨q, hq, rfl⟩ := List.mem_map.1 hz
    rw [hy]
    exact hk q hq
  · show (D.items ++ [x.1]).length ≤ 1100
    rw [List.length_append, ← h.len, hn]
    exact hl
/-- A copy under way. -/
structure Cpy (w : World) (N B2 : Nat) (D2 : RC) (vL vR : Value) (LM : List RI) (wr : World) : Prop where
  c : RcIn wr B2 D2 vL vR LM
  low : ∀ k, rcS B2 vL vR LM k → N ≤ k
  below : Below N w wr
theorem Cpy.later {w w1 w2 : World} {N B2 : Nat} {D2 : RC} {vL vR : Value} {LM : List RI} (h : Cpy w N B2 D2 vL vR LM w1) (hN : N ≤ w1.heap.size) (hb : Below w1.heap.size w1 w2) : Cpy w N B2 D2 vL vR LM w2 := ⟨h.c.later hb, h.low, h.below.trans (hb.mono hN)⟩
theorem Cpy.push {w W7 w8 : World} {N B2 m2 c2 c8 : Nat} {D2 D3 : RC} {vR : Value} {LM2 : List RI} {a2 a8 : Option Addr} {x' : RI} (h : Cpy w N B2 D2 (.slice a2 m2 c2) vR LM2 W7) (hN : N ≤ W7.heap.size) (hg : W7.grownBy w8 (Value.slice a2 m2 c2).ownBlock)
    (hv : (Value.slice a8 (m2 + 1) c8).ownBlock = (Value.slice a2 m2 c2).ownBlock ∨ ∃ K, (Value.slice a8 (m2 + 1) c8).ownBlock = some K ∧ N ≤ K) (hx : ∀ k, (riS x').ownBlock = some k → N ≤ k) (hc : RcIn (w8.setCell ⟨B2, 1, none⟩ (.slice a8 (m2 + 1) c8)) B2 D3 (.slice a8 (m2 + 1) c8) vR (LM2 ++ [x'])) :
    Cpy w N B2 D3 (.slice a8 (m2 + 1) c8) vR (LM2 ++ [x']) (w8.setCell ⟨B2, 1, none⟩ (.slice a8 (m2 + 1) c8)) := by
  refine ⟨hc, fun k hk => ?_, (h.below.grown hg hN fun k e => h.low k (Or.inr (Or.inl e))).setCell (h.low B2 (Or.inl rfl)) _⟩
  rcases hk with rfl | hk | hk | ⟨y, hy, hk⟩
  · exact h.low _ (Or.inl rfl)
  · rcases hv with e | ⟨K, e, hK⟩
    · exact h.low k (Or.inr (Or.inl (e ▸ hk)))
    · rw [e] at hk
      cases hk
      exact hK
  · exact h.low k (Or.inr (Or.inr (Or.inl hk)))
  · rcases List.mem_append.1 hy with hy | hy
    · exact h.low k (Or.inr (Or.inr (Or.inr ⟨y, hy, hk⟩)))
    · rw [List.mem_singleton] at hy
      subst hy
      exact hx k hk
def CopyRQ (w : World) (D : RC) (e : Ending) (w' : World) : Prop := ∃ (B2 : Nat) (vL vR : Value) (LM : List RI), e = .returned (.pointer (some ⟨B2, 0, none⟩)) ∧ Cpy w w.heap.size B2 D vL vR LM w'
set_option maxHeartbeats 3200000 in
set_option maxRecDepth 100000 in
/-- Copy. -/
theorem rCopy_any {w : World} {B : Nat} {D : RC} {vL vR : Value} {LM : List RI} (h : RcIn w B D vL vR LM) (hbl : ∀ x ∈ LM, x.1.bs.length ≤ 1000) (hmany : LM.length ≤ 1099) :
    Calls Try.prog 24 #[.pointer (some ⟨B, 0, none⟩)] w (CopyRQ w D) := by
  have hrow := h.row
  obtain ⟨aL, cL, rfl, _, _, _⟩ := h.row.shape ri_rowed
  obtain ⟨aR, cR, rfl, hrdR, hnilR, _⟩ := h.rel.shape rl_rowed
  have hfew := h.few.2
  obtain ⟨nR, hnR⟩ := named D.rels.length
  have HNR := Lib.hid hnR.out
  obtain ⟨n, hn⟩ := named LM.length
  have HN := Lib.hid hn.out
  rw [hn.out] at h hrow hmany
  rw [hnR.out] at h hrdR hfew
  have HH := Lib.hid h
  have HRD := Lib.hid hrdR
  have HBL := Lib.hid hbl
  obtain ⟨N, hNW⟩ := named w.heap.size
  have hNN := hNW.out
  have HSZ := Lib.hid hNW.out
  have hMA : ∀ o, N ≤ (w.drew.alloc o).heap.size := fun o => by rw [World.size_alloc, ← hNN]; exact Nat.le_succ _
  have hq1 := h.later (Below.refl _ w).drew
  have s0 := And.intro hq1.c0 hq1.c2
  have s1 : ∀ o, (w.drew.alloc o).cell? ⟨B, 0, none⟩ = some (.int .i64 D.room) ∧ (w.drew.alloc o).cell? ⟨B, 2, none⟩ = some (.slice aR nR cR) := fun o => ⟨((hq1.blk.alloc o).cell 0).trans rfl, ((hq1.blk.alloc o).cell 2).trans rfl⟩
  unfold CopyRQ
  rw [hNN]
  clear h hbl hrdR hq1 hrow
  go_enter Try.func24, Try.ntmps24
  go_wp2_with fail
  refine wp_region_held_drew (S := fun w' => w'.cell? ⟨B, 0, none⟩ = some (.int .i64 D.room) ∧ w'.cell? ⟨B, 2, none⟩ = some (.slice aR nR cR)) (by kernel_rfl) (by first | exact s0 | exact s1 _ | exact s2 | exact s3) (fun hHeld => ?_)
  refine wpAnyH_take (i := 0) (oi := _) (v := ?vz1) rfl (by kernel_rfl) (by kernel_rfl) (by kernel_rfl) (fun _ _ _ h => h) (Or.inl ⟨by rfl, ?hyz1⟩) (by assumption) ?restz1
  case hyz1 => (intro wz hSw; (try dsimp only at hSw); go_simp; try with_reducible rfl)
  (try simp only [List.getElem_toArray, List.getElem_cons_zero, Act.put, List.setIfInBounds_toArray, List.set_cons_zero, List.set_cons_succ])
  refine wpAnyH_take (i := 1) (oi := _) (v := ?vz2) rfl (by kernel_rfl) (by kernel_rfl) (by kernel_rfl) (fun _ _ _ h => h) (Or.inl ⟨by rfl, ?hyz2⟩) (by assumption) ?restz2
  case hyz2 => (intro wz hSw; (try dsimp only at hSw); go_simp; try with_reducible rfl)
  (try simp only [List.getElem_toArray, List.getElem_cons_zero, List.getElem_cons_succ, Act.put, List.setIfInBounds_toArray, List.set_cons_zero, List.set_cons_succ])
  refine wpAnyH_take (i := 2) (oi := _) (v := ?vz3) rfl (by kernel_rfl) (by kernel_rfl) (by kernel_rfl) (fun _ _ _ h => h) (Or.inl ⟨by rfl, ?hyz3⟩) (by assumption) ?restz3
  case hyz3 => (intro wz hSw; (try dsimp only at hSw); go_simp; try with_reducible rfl)
  (try simp only [List.getElem_toArray, List.getElem_cons_zero, List.getElem_cons_succ, Act.put, List.setIfInBounds_toArray, List.set_cons_zero, List.set_cons_succ])
  refine wpAnyH_take (i := 3) (oi := _) (v := ?vz4) rfl (by kernel_rfl) (by kernel_rfl) (by kernel_rfl) (fun _ _ _ h => h) (Or.inl ⟨by rfl, ?hyz4⟩) (by assumption) ?restz4
  case hyz4 => (intro wz hSw; (try dsimp only at hSw); go_simp; try with_reducible rfl)
  (try simp only [List.getElem_toArray, List.getElem_cons_zero, List.getElem_cons_succ, Act.put, List.setIfInBounds_toArray, List.set_cons_zero, List.set_cons_succ])
  refine wpAnyH_take (i := 5) (oi := _) (v := ?vz5) rfl (by kernel_rfl) (by kernel_rfl) (by kernel_rfl) (fun _ _ _ h => h) (Or.inl ⟨by rfl, ?hyz5⟩) (by assumption) ?restz5
  case hyz5 => (intro wz hSw; (try dsimp only at hSw); go_simp; try with_reducible rfl)
  (try simp only [List.getElem_toArray, List.getElem_cons_zero, List.getElem_cons_succ, Act.put, List.setIfInBounds_toArray, List.set_cons_zero, List.set_cons_succ])
  refine wpAnyH_take (i := 6) (oi := _) (v := ?vz6) rfl (by kernel_rfl) (by kernel_rfl) (by kernel_rfl) (fun _ _ _ h => h) (Or.inl ⟨by rfl, ?hyz6⟩) (by assumption) ?restz6
  case hyz6 => (intro wz hSw; (try dsimp only at hSw); go_simp; try with_reducible rfl)
  (try simp only [List.getElem_toArray, List.getElem_cons_zero, List.getElem_cons_succ, Act.put, List.setIfInBounds_toArray, List.set_cons_zero, List.set_cons_succ])
  refine wpAnyH_take (i := 7) (oi := _) (v := ?vz7) rfl (by kernel_rfl) (by kernel_rfl) (by kernel_rfl) (fun _ _ _ h => h) (Or.inl ⟨by rfl, ?hyz7⟩) (by assumption) ?restz7
  case hyz7 => (intro wz hSw; (try dsimp only at hSw); go_simp; try with_reducible rfl)
  (try simp only [List.getElem_toArray, List.getElem_cons_zero, List.getElem_cons_succ, Act.put, List.setIfInBounds_toArray, List.set_cons_zero, List.set_cons_succ])
  refine wpAnyH_take (i := 8) (oi := _) (v := ?vz8) rfl (by kernel_rfl) (by kernel_rfl) (by kernel_rfl) (fun _ _ _ h => h) (Or.inl ⟨by rfl, ?hyz8⟩) (by assumption) ?restz8
  case hyz8 => (intro wz hSw; (try dsimp only at hSw); go_simp; try with_reducible rfl)
  (try simp only [List.getElem_toArray, List.getElem_cons_zero, List.getElem_cons_succ, Act.put, List.setIfInBounds_toArray, List.set_cons_zero, List.set_cons_succ])
  refine wpAnyH_ready (rs := [4]) (by kernel_rfl) (by simp) ?_
  refine AllReadyH.cons (o := _) rfl (fun K hK => ?_) AllReadyH.nil
  rw [if_pos (by rfl)]
  go_simp
  refine hK.out _ _ (by first | exact s0 | exact s1 _ | exact s2 | exact s3) (fun hHeld => ?_)
  clear hK K
  (try simp only [List.getElem_toArray, List.getElem_cons_zero, List.getElem_cons_succ, Act.put, List.setIfInBounds_toArray, List.set_cons_zero, List.set_cons_succ])
  refine wpAnyH_ready (rs := [9]) (by kernel_rfl) (by simp) ?_
  refine AllReadyH.cons (o := _) rfl (fun K hK => ?_) AllReadyH.nil
  rw [if_pos (by rfl)]
  refine wp_append_lg rl_rowed (.tmp 10) (.tmp 14) rfl N (.slice (some ⟨N, 0, none⟩) 0 0) 0 [] (by rw [← hNN]; rfl) (by rw [← hNN]; exact OwnG.made _ _ _ w.drew w.drew.heap.size (Nat.le_refl _)) aR nR cR D.rels rfl hnilR (HRD.out.later (((Below.refl _ w).drew).alloc (Nat.le_refl _) _)) (by omega) (hMA _) ?_
  intro a3 c3 w3 r1 r2 r3
  rw [Nat.zero_add, List.nil_append] at r1
  rw [Nat.zero_add]
  have HO3 := Lib.hid r1
  have HB3 : Hid (Below w.heap.size w w3) := Lib.hid ((((Below.refl w.heap.size w).drew).alloc (Nat.le_refl _) _).grown r2 (by rw [World.size_alloc]; exact Nat.le_succ _) fun j e => by have : N = j := (by simpa [Value.ownBlock] using e); omega)
  have hq3 := HH.out.later HB3.out
  have s2 := And.intro hq3.c0 hq3.c2
  have hq4 := HH.out.later (HB3.out.alloc HB3.out.size (.cells #[.int .i64 D.room, .slice none 0 0, .slice a3 nR c3] 68))
  have s3 := And.intro hq4.c0 hq4.c2
  clear r1 r2 r3 hq3 hq4
  (try dsimp only)
  refine hK.out _ _ (by first | exact s0 | exact s1 _ | exact s2 | exact s3) (fun hHeld => ?_)
  clear hK K
  (try simp only [List.getElem_toArray, List.getElem_cons_zero, List.getElem_cons_succ, Act.put, List.setIfInBounds_toArray, List.set_cons_zero, List.set_cons_succ])
  refine wpAnyH_take (i := 10) (oi := _) (v := ?vz9) rfl (by kernel_rfl) (by kernel_rfl) (by kernel_rfl) (fun _ _ _ h => h) (Or.inl ⟨by rfl, ?hyz9⟩) (by assumption) ?restz9
  case hyz9 => (intro wz hSw; (try dsimp only at hSw); go_simp; try with_reducible rfl)
  (try simp only [List.getElem_toArray, List.getElem_cons_zero, List.getElem_cons_succ, Act.put, List.setIfInBounds_toArray, List.set_cons_zero, List.set_cons_succ])
  refine wpAnyH_ready (rs := [11]) (by kernel_rfl) (by simp) ?_
  refine AllReadyH.cons (o := _) rfl (fun K hK => ?_) AllReadyH.nil
  rw [if_pos (by rfl)]
  go_simp
  refine hK.out _ _ (by first | exact s0 | exact s1 _ | exact s2 | exact s3) (fun hHeld => ?_)
  clear hK K
  (try simp only [List.getElem_toArray, List.getElem_cons_zero, List.getElem_cons_succ, Act.put, List.setIfInBounds_toArray, List.set_cons_zero, List.set_cons_succ])
  refine wpAnyH_take (i := 12) (oi := _) (v := ?vz10) rfl (by kernel_rfl) (by kernel_rfl) (by kernel_rfl) (fun _ _ _ h => h) (Or.inl ⟨by rfl, ?hyz10⟩) (by assumption) ?restz10
  case hyz10 => (intro wz hSw; (try dsimp only at hSw); go_simp; try with_reducible rfl)
  (try simp only [List.getElem_toArray, List.getElem_cons_zero, List.getElem_cons_succ, Act.put, List.setIfInBounds_toArray, List.set_cons_zero, List.set_cons_succ])
  refine wpAnyH_done (by kernel_rfl) ?_ _
  obtain ⟨B2, hB2⟩ := named w3.heap.size
  have hBB := hB2.out
  obtain ⟨W4, hW4⟩ := named (w3.alloc (.cells #[.int .i64 D.room, .slice none 0 0, .slice a3 nR c3] 68))
  have HC0 : Hid (Cpy w N B2 ⟨D.room, [], D.rels⟩ (.slice none 0 0) (.slice a3 nR c3) [] W4) := by
    rw [Hid, ← hW4.out, ← hBB]
    refine ⟨⟨Blk.new w3 _ _, OwnG.none _ _ _ _ _, ?_, rfl, fun x hx => (by cases hx), List.nodup_nil, Nat.zero_le _, by show D.rels.length ≤ 100000; rw [HNR.out]; exact hfew⟩, fun k hk => ?_, ?_⟩
    · show OwnG _ _ _ _ _ _ D.rels.length D.rels
      rw [HNR.out]
      exact (HO3.out.rebase (Nat.zero_le _)).alloc _
    · rcases hk with rfl | hk | hk | ⟨x, hx, _⟩
      · rw [← hNN]
        exact HB3.out.size
      · cases hk
      · exact (HO3.out.1.lt k hk).1
      · cases hx
    · rw [← hNN]
      exact HB3.out.alloc HB3.out.size _
  rw [hW4.out]
  try rw [hBB]
  clear s0 s1 s2 s3 hMA
  go_wp2_with fail
  go_loopw [4] (fun s4 wr => ∃ (j m2 : Nat) (a2 : Option Addr) (c2 : Nat) (LM2 : List RI), j ≤ n ∧ s4 = .int .i64 j ∧ Hid (LM2.length = m2) ∧ Hid (Cpy w N B2 ⟨D.room, D.items.take j, D.rels⟩ (.slice a2 m2 c2) (.slice a3 nR c3) LM2 wr)) (fun s4 _ => n - (intOf s4).toNat)
  case atStart => exact ⟨0, 0, none, 0, [], Nat.zero_le _, rfl, rfl, HC0.out⟩
  case round =>
    obtain ⟨j, m2, a2, c2, LM2, hj, rfl, HM2, HC⟩ := hrel
    clear HC0
    have hsrc : RcIn wr B D (.slice aL n cL) (.slice aR nR cR) LM := HH.out.later (by rw [hNN]; exact HC.out.below)
    have c1 := hsrc.c1
    by_cases hlt : j < n
    · obtain ⟨x, hx⟩ : ∃ x, LM[j]? = some x := ⟨_, List.getElem?_eq_getElem (by have := HN.out; omega)⟩
      have hrow := hsrc.row
      rw [HN.out] at hrow
      obtain ⟨bL, rfl⟩ := hrow.at0 (by omega)
      obtain ⟨e0, e1, e2⟩ := ri_cells hrow j x hx
      have hxm := List.mem_of_getElem? hx
      have hbx := hsrc.bys x hxm
      have hbl1 := HBL.out x hxm
      have hxI : D.items[j]? = some x.1 := by rw [← hsrc.its, List.getElem?_map, hx]; rfl
      have HTK : Hid (D.items.take (j + 1) = D.items.take j ++ [x.1]) := by rw [Hid, List.take_add_one, hxI]; rfl
      have hm2 : m2 = j := by
        have h1 := HC.out.c.len
        have h2 := (List.getElem?_eq_some_iff.1 hxI).1
        rw [HM2.out] at h1
        dsimp only at h1
        rw [List.length_take] at h1
        omega
      have HNK : Hid (∀ y ∈ LM2, y.1.key ≠ x.1.key) := fun y hy e => by
        have h1 : y.1 ∈ D.items.take j := by
          have := HC.out.c.its
          dsimp only at this
          rw [← this]
          exact List.mem_map.2 ⟨y, hy, rfl⟩
        obtain ⟨q, hq⟩ := List.mem_iff_getElem?.1 h1
        have hql : q < j := by
          have := (List.getElem?_eq_some_iff.1 hq).1
          rw [List.length_take] at this
          omega
        rw [List.getElem?_take, if_pos hql] at hq
        have hq2 : ∃ z, LM[q]? = some z ∧ z.1 = y.1 := by
          rw [← hsrc.its, List.getElem?_map, Option.map_eq_some_iff] at hq
          exact hq
        obtain ⟨z, hz, hzy⟩ := hq2
        have := hsrc.one hx hz (by rw [hzy]; exact e)
        omega
      obtain ⟨it, ax, nx, cx⟩ := x
      dsimp only [riS] at e0 e1 e2 hbx hbl1 HTK HNK
      obtain ⟨hby, hnilx⟩ := hbx.bytes
      have hnx : it.bs.length = nx := by
        obtain ⟨_, _, e, _, _⟩ := hbx.shape
        cases e
        rfl
      obtain ⟨X, hX⟩ := named wr.heap.size
      have hXX := hX.out
      obtain ⟨W5, hW5⟩ := named (wr.alloc (.cells #[.int .i64 it.key, .slice ax nx cx, .bool it.dirty] 86))
      have hW := hW5.out
      have HNX : Hid (N ≤ X) := by rw [Hid, ← hNN, ← hXX]; rw [hNN]; exact HSZ.out ▸ HC.out.below.size
      have HBX5 : Hid (Blk W5 X 86 #[.int .i64 it.key, .slice ax nx cx, .bool it.dirty]) := by rw [← hW, ← hXX]; exact Blk.new wr _ _
      have HB5 : Hid (Below wr.heap.size wr W5) := by rw [← hW]; exact (Below.refl _ _).alloc (Nat.le_refl _) _
      have HS5 : Hid (W5.heap.size = X + 1) := by rw [← hW, ← hXX]; exact World.size_alloc _ _
      obtain ⟨M6, hM6⟩ := named W5.heap.size
      have hMM6 := hM6.out
      have HMX : Hid (M6 = X + 1) := by rw [← hMM6]; exact HS5.out
      have y1 : ∀ o, (W5.alloc o).cell? ⟨X, 1, none⟩ = some (.slice ax nx cx) := fun o => ((HBX5.out.alloc o).cell 1).trans rfl
      have hMA6 : ∀ o, M6 ≤ (W5.alloc o).heap.size := fun o => by rw [World.size_alloc, ← hMM6]; exact Nat.le_succ _
      have HBY := Lib.hid (hby.later HB5.out)
      rw [hnx] at HBY
      have HNIT := Lib.hid hnx
      have HC0 := Lib.hid (HC.out.c.row)
      have HNB : Hid (some X ≠ (Value.slice a2 m2 c2).ownBlock) := fun e => by
        have := (HC.out.c.row.1.lt X e.symm).2
        omega
      have HXB : Hid (X ≠ B2) := fun e => by
        have := HC.out.c.blk.lt
        omega
      have hnx2 : nx ≤ 1000 := by omega
      have hm2le : m2 ≤ 1099 := by omega
      clear hx hsrc hrow hbx hby hxm hxI hnx hbl1 hm2
      go_wp2_with (at_builtin; refine append_bytes rfl (.tmp 34) (.tmp 36) rfl M6 (.slice (some ⟨M6, 0, none⟩) 0 0) 0 [] (by rw [← hMM6]; rfl) (by rw [← hMM6]; exact Own.made W5 W5.heap.size (Nat.le_refl _)) ax nx cx it.bs rfl hnilx (HBY.out.later ((Below.refl _ W5).alloc (Nat.le_refl _) _)) (by omega) (hMA6 _) ?_; intro a6 c6 w6 r1 r2; rw [Nat.zero_add, List.nil_append] at r1; rw [Nat.zero_add]; have HO6 := Lib.hid r1; have HB6 : Hid (Below W5.heap.size W5 w6) := Lib.hid (((Below.refl W5.heap.size W5).alloc (Nat.le_refl _) _).grown r2 (by rw [World.size_alloc]; exact Nat.le_succ _) fun j e => by have : M6 = j := (by simpa [Value.ownBlock] using e); omega); have hbx6 := HBX5.out.later HB6.out; have k61 : w6.cell? ⟨X, 1, none⟩ = some (.slice ax nx cx) := (hbx6.cell 1).trans rfl; have f61 := hbx6.free 1; clear r1 r2 hbx6)
      obtain ⟨W7, hW7⟩ := named (w6.setCell ⟨X, 1, none⟩ (.slice a6 nx c6))
      have HB7 : Hid (Below wr.heap.size wr W7) := by
        rw [← hW7.out]
        exact (HB5.out.trans (HB6.out.mono HB5.out.size)).setCell (by show wr.heap.size ≤ X; omega) _
      have HBX7 : Hid (Blk W7 X 86 #[.int .i64 it.key, .slice a6 nx c6, .bool it.dirty]) := by
        rw [← hW7.out]
        exact (HBX5.out.later HB6.out).set 1 (.slice a6 nx c6)
      have hox : Own W7 0 (.slice a6 nx c6) nx it.bs := by
        rw [← hW7.out]
        exact (HO6.out.rebase (Nat.zero_le _)).frame fun k hk => Below.heap_setCell w6 ⟨X, 1, none⟩ _ k fun e => by
          have h1 := (HO6.out.1.lt k hk).1
          have h2 := HMX.out
          have h3 : k = X := e
          omega
      have hwr : N ≤ wr.heap.size := by rw [hXX]; exact HNX.out
      have HC7 := Lib.hid (HC.out.later hwr HB7.out)
      have HNW : Hid (N ≤ W7.heap.size) := Nat.le_trans hwr HB7.out.size
      have HNA : Hid (∀ o, N ≤ (W7.drew.alloc o).heap.size) := fun o => by rw [World.size_alloc]; exact Nat.le_succ_of_le HNW.out
      obtain ⟨x', hx'⟩ := named ((it, a6, nx, c6) : RI)
      have HX7 : Hid (Own W7 0 (riS x') x'.1.bs.length x'.1.bs) := by
        rw [← hx'.out]
        show Own W7 0 (.slice a6 nx c6) it.bs.length it.bs
        rw [HNIT.out]
        exact hox
      have HXN : Hid (∀ k, (riS x').ownBlock = some k → N ≤ k) := fun k hk => by
        rw [← hx'.out] at hk
        have h1 := (HO6.out.1.lt k hk).1
        have h2 := HMX.out
        have h3 := HNX.out
        omega
      have HXV : Hid (#[.int .i64 it.key, .slice a6 nx c6, .bool it.dirty].toList = riV x') := by rw [← hx'.out]; rfl
      replace HNK : Hid (∀ y ∈ LM2, y.1.key ≠ x'.1.key) := by rw [← hx'.out]; exact HNK.out
      replace HTK : Hid (D.items.take (j + 1) = D.items.take j ++ [x'.1]) := by rw [← hx'.out]; exact HTK.out
      have HLN : Hid ((LM2 ++ [x']).length = m2 + 1) := by rw [Hid, List.length_append, HM2.out]; rfl
      have HROW7 : Hid (OwnG riV 86 3 W7 0 (.slice a2 m2 c2) m2 LM2) := by
        have := HC7.out.c.row
        rw [HM2.out] at this
        exact this
      rw [hW7.out]
      have d0 : W7.drew.cell? ⟨X, 0, none⟩ = some (.int .i64 it.key) ∧ W7.drew.cell? ⟨X, 1, none⟩ = some (.slice a6 nx c6) ∧ W7.drew.cell? ⟨X, 2, none⟩ = some (.bool it.dirty) := ⟨(HBX7.out.cell 0).trans rfl, (HBX7.out.cell 1).trans rfl, (HBX7.out.cell 2).trans rfl⟩
      have d1 : ∀ o, (W7.drew.alloc o).cell? ⟨X, 0, none⟩ = some (.int .i64 it.key) ∧ (W7.drew.alloc o).cell? ⟨X, 1, none⟩ = some (.slice a6 nx c6) ∧ (W7.drew.alloc o).cell? ⟨X, 2, none⟩ = some (.bool it.dirty) := fun o => by
        have hb := (HBX7.out.later (Below.refl _ W7).drew).alloc o
        exact ⟨(hb.cell 0).trans rfl, (hb.cell 1).trans rfl, (hb.cell 2).trans rfl⟩
      have hcd := HC7.out.c.later (Below.refl _ W7).drew
      have l0 : W7.drew.cell? ⟨B2, 1, none⟩ = some (.slice a2 m2 c2) := hcd.c1
      have l1 : ∀ o, (W7.drew.alloc o).cell? ⟨B2, 1, none⟩ = some (.slice a2 m2 c2) := fun o => ((hcd.blk.alloc o).cell 1).trans rfl
      have l2 : ∀ o, (W7.alloc o).cell? ⟨B2, 1, none⟩ = some (.slice a2 m2 c2) := fun o => ((HC7.out.c.blk.alloc o).cell 1).trans rfl
      clear hcd hox hwr k61 f61 y1 hMA6 hW7 hx' HO6
      go_wp2_with fail
      refine wp_region_held_drew (S := fun w' => w'.cell? ⟨X, 0, none⟩ = some (.int .i64 it.key) ∧ w'.cell? ⟨X, 1, none⟩ = some (.slice a6 nx c6) ∧ w'.cell? ⟨X, 2, none⟩ = some (.bool it.dirty)) (by kernel_rfl) (by first | exact d0 | exact d1 _ | exact d2 | exact d3) (fun hHeld => ?_)
      refine wpAnyH_take (i := 0) (oi := _) (v := ?vz11) rfl (by kernel_rfl) (by kernel_rfl) (by kernel_rfl) (fun _ _ _ h => h) (Or.inl ⟨by rfl, ?hyz11⟩) (by assumption) ?restz11
      case hyz11 => (intro wz hSw; (try dsimp only at hSw); go_simp; try with_reducible rfl)
      (try simp only [List.getElem_toArray, List.getElem_cons_zero, Act.put, List.setIfInBounds_toArray, List.set_cons_zero, List.set_cons_succ])
      refine wpAnyH_take (i := 1) (oi := _) (v := ?vz12) rfl (by kernel_rfl) (by kernel_rfl) (by kernel_rfl) (fun _ _ _ h => h) (Or.inl ⟨by rfl, ?hyz12⟩) (by assumption) ?restz12
      case hyz12 => (intro wz hSw; (try dsimp only at hSw); go_simp; try with_reducible rfl)
      (try simp only [List.getElem_toArray, List.getElem_cons_zero, List.getElem_cons_succ, Act.put, List.setIfInBounds_toArray, List.set_cons_zero, List.set_cons_succ])
      refine wpAnyH_take (i := 2) (oi := _) (v := ?vz13) rfl (by kernel_rfl) (by kernel_rfl) (by kernel_rfl) (fun _ _ _ h => h) (Or.inl ⟨by rfl, ?hyz13⟩) (by assumption) ?restz13
      case hyz13 => (intro wz hSw; (try dsimp only at hSw); go_simp; try with_reducible rfl)
      (try simp only [List.getElem_toArray, List.getElem_cons_zero, List.getElem_cons_succ, Act.put, List.setIfInBounds_toArray, List.set_cons_zero, List.set_cons_succ])
      refine wpAnyH_take (i := 3) (oi := _) (v := ?vz14) rfl (by kernel_rfl) (by kernel_rfl) (by kernel_rfl) (fun _ _ _ h => h) (Or.inl ⟨by rfl, ?hyz14⟩) (by assumption) ?restz14
      case hyz14 => (intro wz hSw; (try dsimp only at hSw); go_simp; try with_reducible rfl)
      (try simp only [List.getElem_toArray, List.getElem_cons_zero, List.getElem_cons_succ, Act.put, List.setIfInBounds_toArray, List.set_cons_zero, List.set_cons_succ])
      refine wpAnyH_take (i := 5) (oi := _) (v := ?vz15) rfl (by kernel_rfl) (by kernel_rfl) (by kernel_rfl) (fun _ _ _ h => h) (Or.inl ⟨by rfl, ?hyz15⟩) (by assumption) ?restz15
      case hyz15 => (intro wz hSw; (try dsimp only at hSw); go_simp; try with_reducible rfl)
      (try simp only [List.getElem_toArray, List.getElem_cons_zero, List.getElem_cons_succ, Act.put, List.setIfInBounds_toArray, List.set_cons_zero, List.set_cons_succ])
      refine wpAnyH_ready (rs := [4, 6]) (by kernel_rfl) (by simp) ?_
      refine AllReadyH.cons (o := _) rfl (fun K hK => ?_) (AllReadyH.cons (o := _) rfl (fun K hK => ?_) AllReadyH.nil)
      · rw [if_pos (by rfl)]
        go_simp
        refine hK.out _ _ (by first | exact d0 | exact d1 _ | exact d2 | exact d3) (fun hHeld => ?_)
        clear hK K
        (try simp only [List.getElem_toArray, List.getElem_cons_zero, List.getElem_cons_succ, Act.put, List.setIfInBounds_toArray, List.set_cons_zero, List.set_cons_succ])
        refine wpAnyH_ready (rs := [6]) (by kernel_rfl) (by simp) ?_
        refine AllReadyH.cons (o := _) rfl (fun K hK => ?_) AllReadyH.nil
        rw [if_pos (by rfl)]
        go_simp
        refine hK.out _ _ (by first | exact d0 | exact d1 _ | exact d2 | exact d3) (fun hHeld => ?_)
        clear hK K
        (try simp only [List.getElem_toArray, List.getElem_cons_zero, List.getElem_cons_succ, Act.put, List.setIfInBounds_toArray, List.set_cons_zero, List.set_cons_succ])
        refine wpAnyH_ready (rs := [7]) (by kernel_rfl) (by simp) ?_
        refine AllReadyH.cons (o := _) rfl (fun K hK => ?_) AllReadyH.nil
        rw [if_pos (by rfl)]
        refine wp_append_lg ri_rowed (.tmp 43) (.tmp 45) rfl 0 (.slice a2 m2 c2) m2 LM2 rfl (HROW7.out.drew.alloc _) (some ⟨W7.heap.size, 0, none⟩) 1 1 [x'] rfl (fun e => by cases e) (one_reads W7.drew x' #[.int .i64 it.key, .slice a6 nx c6, .bool it.dirty] 86 HXV.out) (by omega) (Nat.zero_le _) ?_
        intro a8 c8 w8 r1 r2 r3
        have HPC := Lib.hid (RcIn.pushC ((HC7.out.c.later (Below.refl _ W7).drew).later ((Below.refl _ W7.drew).alloc (Nat.le_refl _) (.cells #[.int .i64 it.key, .slice a6 nx c6, .bool it.dirty] 86))) r2 HM2.out r1 (HX7.out.drew.alloc _) HNK.out (by omega))
        have HG8 : Hid (W7.grownBy w8 (Value.slice a2 m2 c2).ownBlock) := Lib.hid (undrew (grown_alloc r2))
        have HV8 := Lib.hid r3
        have hb8 := HC7.out.c.blk.kept HG8.out (fun e => HC7.out.c.lB e.symm)
        have hx8 := HBX7.out.kept HG8.out HNB.out
        have d2 : w8.cell? ⟨X, 0, none⟩ = some (.int .i64 it.key) ∧ w8.cell? ⟨X, 1, none⟩ = some (.slice a6 nx c6) ∧ w8.cell? ⟨X, 2, none⟩ = some (.bool it.dirty) := ⟨(hx8.cell 0).trans rfl, (hx8.cell 1).trans rfl, (hx8.cell 2).trans rfl⟩
        have f8 := hb8.free 1
        have k8 : w8.cell? ⟨B2, 1, none⟩ = some (.slice a2 m2 c2) := (hb8.cell 1).trans rfl
        have hx9 := Blk.other (i := 1) hx8 HXB.out (.slice a8 (m2 + 1) c8)
        have d3 : (w8.setCell ⟨B2, 1, none⟩ (.slice a8 (m2 + 1) c8)).cell? ⟨X, 0, none⟩ = some (.int .i64 it.key) ∧ (w8.setCell ⟨B2, 1, none⟩ (.slice a8 (m2 + 1) c8)).cell? ⟨X, 1, none⟩ = some (.slice a6 nx c6) ∧ (w8.setCell ⟨B2, 1, none⟩ (.slice a8 (m2 + 1) c8)).cell? ⟨X, 2, none⟩ = some (.bool it.dirty) := ⟨(hx9.cell 0).trans rfl, (hx9.cell 1).trans rfl, (hx9.cell 2).trans rfl⟩
        clear r1 r2 r3 hb8 hx8 hx9
        (try dsimp only)
        refine hK.out _ _ (by first | exact d0 | exact d1 _ | exact d2 | exact d3) (fun hHeld => ?_)
        clear hK K
        (try simp only [List.getElem_toArray, List.getElem_cons_zero, List.getElem_cons_succ, Act.put, List.setIfInBounds_toArray, List.set_cons_zero, List.set_cons_succ])
        refine wpAnyH_take (i := 8) (oi := _) (v := ?vz16) rfl (by kernel_rfl) (by kernel_rfl) (by kernel_rfl) (fun _ _ _ h => h) (Or.inl ⟨by rfl, ?hyz16⟩) (by assumption) ?restz16
        case hyz16 => (intro wz hSw; (try dsimp only at hSw); go_simp; try with_reducible rfl)
        (try simp only [List.getElem_toArray, List.getElem_cons_zero, List.getElem_cons_succ, Act.put, List.setIfInBounds_toArray, List.set_cons_zero, List.set_cons_succ])
        refine wpAnyH_take (i := 9) (oi := _) (v := ?vz17) rfl (by kernel_rfl) (by kernel_rfl) (by kernel_rfl) (fun _ _ _ h => h) (Or.inl ⟨by rfl, ?hyz17⟩) (by assumption) ?restz17
        case hyz17 => (intro wz hSw; (try dsimp only at hSw); go_simp; try with_reducible rfl)
        (try simp only [List.getElem_toArray, List.getElem_cons_zero, List.getElem_cons_succ, Act.put, List.setIfInBounds_toArray, List.set_cons_zero, List.set_cons_succ])
        refine wpAnyH_ready (rs := [10]) (by kernel_rfl) (by simp) ?_
        refine AllReadyH.cons (o := _) rfl (fun K hK => ?_) AllReadyH.nil
        rw [if_pos (by rfl)]
        go_simp
        refine hK.out _ _ (by first | exact d0 | exact d1 _ | exact d2 | exact d3) (fun hHeld => ?_)
        clear hK K
        (try simp only [List.getElem_toArray, List.getElem_cons_zero, List.getElem_cons_succ, Act.put, List.setIfInBounds_toArray, List.set_cons_zero, List.set_cons_succ])
        refine wpAnyH_done (by kernel_rfl) ?_ _
        clear d0 d1 d2 d3 k8 f8
        go_wp2
        go_roundw
        case rel => exact ⟨j + 1, m2 + 1, a8, c8, LM2 ++ [x'], by omega, by go_num, HLN.out, by rw [HTK.out]; exact Cpy.push HC7.out HNW.out HG8.out (HV8.out.imp id fun e => ⟨_, e, HNA.out _⟩) HXN.out HPC.out⟩
        case measure => first | (simp [intOf]; done) | (simp [intOf]; omega)
      · rw [if_pos (by rfl)]
        go_simp
        refine hK.out _ _ (by first | exact d0 | exact d1 _ | exact d2 | exact d3) (fun hHeld => ?_)
        clear hK K
        (try simp only [List.getElem_toArray, List.getElem_cons_zero, List.getElem_cons_succ, Act.put, List.setIfInBounds_toArray, List.set_cons_zero, List.set_cons_succ])
        refine wpAnyH_ready (rs := [4]) (by kernel_rfl) (by simp) ?_
        refine AllReadyH.cons (o := _) rfl (fun K hK => ?_) AllReadyH.nil
        rw [if_pos (by rfl)]
        go_simp
        refine hK.out _ _ (by first | exact d0 | exact d1 _ | exact d2 | exact d3) (fun hHeld => ?_)
        clear hK K
        (try simp only [List.getElem_toArray, List.getElem_cons_zero, List.getElem_cons_succ, Act.put, List.setIfInBounds_toArray, List.set_cons_zero, List.set_cons_succ])
        refine wpAnyH_ready (rs := [7]) (by kernel_rfl) (by simp) ?_
        refine AllReadyH.cons (o := _) rfl (fun K hK => ?_) AllReadyH.nil
        rw [if_pos (by rfl)]
        refine wp_append_lg ri_rowed (.tmp 43) (.tmp 45) rfl 0 (.slice a2 m2 c2) m2 LM2 rfl (HROW7.out.drew.alloc _) (some ⟨W7.heap.size, 0, none⟩) 1 1 [x'] rfl (fun e => by cases e) (one_reads W7.drew x' #[.int .i64 it.key, .slice a6 nx c6, .bool it.dirty] 86 HXV.out) (by omega) (Nat.zero_le _) ?_
        intro a8 c8 w8 r1 r2 r3
        have HPC := Lib.hid (RcIn.pushC ((HC7.out.c.later (Below.refl _ W7).drew).later ((Below.refl _ W7.drew).alloc (Nat.le_refl _) (.cells #[.int .i64 it.key, .slice a6 nx c6, .bool it.dirty] 86))) r2 HM2.out r1 (HX7.out.drew.alloc _) HNK.out (by omega))
        have HG8 : Hid (W7.grownBy w8 (Value.slice a2 m2 c2).ownBlock) := Lib.hid (undrew (grown_alloc r2))
        have HV8 := Lib.hid r3
        have hb8 := HC7.out.c.blk.kept HG8.out (fun e => HC7.out.c.lB e.symm)
        have hx8 := HBX7.out.kept HG8.out HNB.out
        have d2 : w8.cell? ⟨X, 0, none⟩ = some (.int .i64 it.key) ∧ w8.cell? ⟨X, 1, none⟩ = some (.slice a6 nx c6) ∧ w8.cell? ⟨X, 2, none⟩ = some (.bool it.dirty) := ⟨(hx8.cell 0).trans rfl, (hx8.cell 1).trans rfl, (hx8.cell 2).trans rfl⟩
        have f8 := hb8.free 1
        have k8 : w8.cell? ⟨B2, 1, none⟩ = some (.slice a2 m2 c2) := (hb8.cell 1).trans rfl
        have hx9 := Blk.other (i := 1) hx8 HXB.out (.slice a8 (m2 + 1) c8)
        have d3 : (w8.setCell ⟨B2, 1, none⟩ (.slice a8 (m2 + 1) c8)).cell? ⟨X, 0, none⟩ = some (.int .i64 it.key) ∧ (w8.setCell ⟨B2, 1, none⟩ (.slice a8 (m2 + 1) c8)).cell? ⟨X, 1, none⟩ = some (.slice a6 nx c6) ∧ (w8.setCell ⟨B2, 1, none⟩ (.slice a8 (m2 + 1) c8)).cell? ⟨X, 2, none⟩ = some (.bool it.dirty) := ⟨(hx9.cell 0).trans rfl, (hx9.cell 1).trans rfl, (hx9.cell 2).trans rfl⟩
        clear r1 r2 r3 hb8 hx8 hx9
        (try dsimp only)
        refine hK.out _ _ (by first | exact d0 | exact d1 _ | exact d2 | exact d3) (fun hHeld => ?_)
        clear hK K
        (try simp only [List.getElem_toArray, List.getElem_cons_zero, List.getElem_cons_succ, Act.put, List.setIfInBounds_toArray, List.set_cons_zero, List.set_cons_succ])
        refine wpAnyH_take (i := 8) (oi := _) (v := ?vz18) rfl (by kernel_rfl) (by kernel_rfl) (by kernel_rfl) (fun _ _ _ h => h) (Or.inl ⟨by rfl, ?hyz18⟩) (by assumption) ?restz18
        case hyz18 => (intro wz hSw; (try dsimp only at hSw); go_simp; try with_reducible rfl)
        (try simp only [List.getElem_toArray, List.getElem_cons_zero, List.getElem_cons_succ, Act.put, List.setIfInBounds_toArray, List.set_cons_zero, List.set_cons_succ])
        refine wpAnyH_take (i := 9) (oi := _) (v := ?vz19) rfl (by kernel_rfl) (by kernel_rfl) (by kernel_rfl) (fun _ _ _ h => h) (Or.inl ⟨by rfl, ?hyz19⟩) (by assumption) ?restz19
        case hyz19 => (intro wz hSw; (try dsimp only at hSw); go_simp; try with_reducible rfl)
        (try simp only [List.getElem_toArray, List.getElem_cons_zero, List.getElem_cons_succ, Act.put, List.setIfInBounds_toArray, List.set_cons_zero, List.set_cons_succ])
        refine wpAnyH_ready (rs := [10]) (by kernel_rfl) (by simp) ?_
        refine AllReadyH.cons (o := _) rfl (fun K hK => ?_) AllReadyH.nil
        rw [if_pos (by rfl)]
        go_simp
        refine hK.out _ _ (by first | exact d0 | exact d1 _ | exact d2 | exact d3) (fun hHeld => ?_)
        clear hK K
        (try simp only [List.getElem_toArray, List.getElem_cons_zero, List.getElem_cons_succ, Act.put, List.setIfInBounds_toArray, List.set_cons_zero, List.set_cons_succ])
        refine wpAnyH_done (by kernel_rfl) ?_ _
        clear d0 d1 d2 d3 k8 f8
        go_wp2
        go_roundw
        case rel => exact ⟨j + 1, m2 + 1, a8, c8, LM2 ++ [x'], by omega, by go_num, HLN.out, by rw [HTK.out]; exact Cpy.push HC7.out HNW.out HG8.out (HV8.out.imp id fun e => ⟨_, e, HNA.out _⟩) HXN.out HPC.out⟩
        case measure => first | (simp [intOf]; done) | (simp [intOf]; omega)
    · obtain rfl : j = n := by omega
      go_wp2
      go_ret
      have hall : D.items.take j = D.items := List.take_of_length_le (by rw [← HH.out.len, HN.out]; exact Nat.le_refl _)
      have hc := HC.out
      rw [hall] at hc
      exact ⟨B2, _, _, _, rfl, hc⟩
end Go.Proofs.Ythmkmhfoicfapaa
