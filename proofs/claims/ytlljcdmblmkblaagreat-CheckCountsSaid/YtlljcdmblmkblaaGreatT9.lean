/-
  What the reference's Set answers (layer 8). Conditions: the table reads, no more than 6000 leaves; the place is an int, the entry's fields are numbers of their types.
-/
import Derived.Test.YtlljcdmblmkblaaGreatS9
namespace Go.Proofs.YtlljcdmblmkblaaGreat
open Go.RowKit
set_option linter.unusedVariables false

theorem fitsC {a : Option Addr} {len cap : Nat} {ds : List LfD} {k s n z m : Int} (ho : EnOk (k, s, n, z, m)) {R : Bool} (hR : decide (fitsT (tbOf ds) (k, s, n, z, m)) = R) (w : World) (h : TabR w a len ds) : Calls Tryz.prog 54 #[.agg #[.slice a len cap], .agg #[.int .i64 k, .int .i64 s, .int .i64 n, .int .i64 z, .int .u32 m]] w fun e w' => e = .returned (.bool R) ∧ Below w.heap.size w w' :=
  refFits9 w a len cap ds k s n z m ho h R hR
/-- An entry goes into a leaf of one's own; the outer row stays. -/
theorem TabQ.storeIn {w : World} {base len cap : Nat} {a : Option Addr} {ds es : List LfD} (h : TabQ w base a len cap ds es) (j : Nat) (d : LfD) (hd : es[j]? = some d) {b : Nat} (hb : d.1 = some ⟨b, 0, none⟩) (k : Nat) (hk : k < d.2.1) (x : En) (hx : EnOk x) :
    ∃ cur, w.heap[b]? = some (.cells cur 24 (0, 0)) ∧ k * 5 + (enV x).length ≤ cur.size ∧
      TabQ (w.setRow b (cur.toList.take (k * 5) ++ enV x ++ cur.toList.drop (k * 5 + (enV x).length)).toArray) base a len cap ds (es.set j (d.1, d.2.1, d.2.2.1, d.2.2.2.set k x)) ∧
      w.grownBy (w.setRow b (cur.toList.take (k * 5) ++ enV x ++ cur.toList.drop (k * 5 + (enV x).length)).toArray) (some b) ∧ base ≤ b := by
  have hl := h.leaf d (List.mem_of_getElem? hd)
  obtain ⟨cur, k1, k2, k3, k4⟩ := hl.store hb k hk x hx
  have hbk : blkD d = some b := by unfold blkD; rw [hb]; rfl
  exact ⟨cur, k1, k2, h.setEs j d (d.1, d.2.1, d.2.2.1, d.2.2.2.set k x) hd (by rw [hbk]; exact k4) rfl k3, k4, (hl.lt hbk).1⟩
theorem setT_out {T : Tb} {e : En} {i : Int} (h : ¬ ((0 ≤ i ∧ i < 4096) ∧ fitsT T e)) : setT T i e = T := by unfold setT; rw [if_neg h]
theorem setT_none {T : Tb} {e : En} {I : Nat} (h1 : e.1 = 0) (h2 : T.length ≤ I / 8) : setT T I e = T := by
  unfold setT
  split
  · unfold setN
    rw [Int.toNat_natCast, if_pos ⟨h1, h2⟩]
  · rfl
set_option maxRecDepth 100000 in
set_option maxHeartbeats 3200000 in
theorem refSet9 (w : World) (a : Option Addr) (len cap : Nat) (T : Tb) (i k s n z m0 : Int) (h : Tab w a len cap T) (hi : I64 i) (ho : EnOk (k, s, n, z, m0)) :
    Calls Tryz.prog 25 #[.agg #[.slice a len cap], .int .i64 i, .agg #[.int .i64 k, .int .i64 s, .int .i64 n, .int .i64 z, .int .u32 m0]] w fun e w' => ∃ (a' : Option Addr) (l' c' : Nat), e = .returned (.agg #[.slice a' l' c']) ∧ TabN w' w.heap.size a' l' c' (setT T i (k, s, n, z, m0)) ∧ Below w.heap.size w w' := by
  have hls := h.lens
  obtain ⟨ds, hT, hc, rfl, hlen, hll⟩ := h
  have HLS := Lib.hid hls
  have HTR := Lib.hid hT
  have HCP : Hid (∀ W, Below w.heap.size w W → _) := fun W hb => refCopy9 W a len cap ds (hT.later hb) hlen hll
  have hg0 : Below w.heap.size w (((w.alloc (.cells #[.slice a len cap] 36)).alloc (.cells #[.int .i64 k, .int .i64 s, .int .i64 n, .int .i64 z, .int .u32 m0] 24)).alloc (.cells #[.slice none 0 0] 36)) := (((Below.refl _ _).alloc (Nat.le_refl _) _).alloc (by simp) _).alloc (by simp; omega) _
  have HG0 := Lib.hid hg0
  have HFB : Hid (∀ w1 a1 c1, Below (((w.alloc (.cells #[.slice a len cap] 36)).alloc (.cells #[.int .i64 k, .int .i64 s, .int .i64 n, .int .i64 z, .int .u32 m0] 24)).alloc (.cells #[.slice none 0 0] 36)).heap.size (((w.alloc (.cells #[.slice a len cap] 36)).alloc (.cells #[.int .i64 k, .int .i64 s, .int .i64 n, .int .i64 z, .int .u32 m0] 24)).alloc (.cells #[.slice none 0 0] 36)) w1 → BoxS w.heap.size w1.heap.size (.slice a len cap) (.slice none 0 0) (.slice a1 len c1) #[.int .i64 k, .int .i64 s, .int .i64 n, .int .i64 z, .int .u32 m0] w (w1.alloc (.cells #[.slice a1 len c1] 36))) := fun w1 a1 c1 hb => BoxS.first hb
  have hsz : (((w.alloc (.cells #[.slice a len cap] 36)).alloc (.cells #[.int .i64 k, .int .i64 s, .int .i64 n, .int .i64 z, .int .u32 m0] 24)).alloc (.cells #[.slice none 0 0] 36)).heap.size = w.heap.size + 3 := by rw [World.size_alloc, World.size_alloc, World.size_alloc]
  have HSZ := Lib.hid hsz
  obtain ⟨X, hX⟩ := named w.heap.size
  have hXX := hX.out
  rw [hX.out] at HG0 HCP HFB HSZ ⊢
  clear hg0 hsz hls hc hll
  by_cases hw : 0 ≤ i ∧ i < 4096
  · by_cases hf : fitsT (tbOf ds) (k, s, n, z, m0)
    · have HM := Lib.hid (fun w h => fitsC (a := a) (len := len) (cap := cap) ho (decide_eq_true hf) w h)
      have HO := Lib.hid ho
      clear hT ho
      obtain ⟨I, rfl⟩ : ∃ I : Nat, i = I := ⟨i.toNat, by omega⟩
      obtain ⟨J, hJ⟩ := named (I / 8)
      obtain ⟨R, hR⟩ := named (I % 8)
      have hq : (I : Int) / 8 = (J : Int) := by rw [← hJ.out]; omega
      have hr : (I : Int) % 8 = (R : Int) := by rw [← hR.out]; omega
      have hJ512 : J < 512 := by rw [← hJ.out]; omega
      have hR8 : R < 8 := by rw [← hR.out]; omega
      have htm : (I : Int).tmod 8 = (R : Int) := by rw [Int.tmod_eq_emod_of_nonneg (by omega)]; exact hr
      have htd : (I : Int).tdiv 8 = (J : Int) := by rw [Int.tdiv_eq_ediv_of_nonneg (by omega)]; exact hq
      have hRi : 0 ≤ (R : Int) ∧ (R : Int) < 8 := by omega
      by_cases hk0 : k = 0 ∧ len ≤ J
      · obtain ⟨rfl, hk1⟩ := hk0
        have he : setT (tbOf ds) I (0, s, n, z, m0) = tbOf ds := setT_none rfl (by rw [HLS.out.1, hJ.out]; exact hk1)
        rw [he]
        clear he hf
        go_enter Tryz.func25, Tryz.ntmps25
        go_wp2_with (first
          | (go_at_call 36; refine (HCP.out _ HG0.out).mono ?_; rintro e w1 ⟨a1, c1, es, rfl, g1, g2, g3⟩; have hb1 := HFB.out w1 a1 c1 g3; rw [HSZ.out] at g2; have HQ1 := Lib.hid (g2.alloc (.cells #[.slice a1 len c1] 36)); have HE1 := Lib.hid g1; have HB1 := Lib.hid hb1; have HT1 := Lib.hid (HTR.out.later (hX.out.symm ▸ hb1.2.2.2.2.1)); obtain ⟨b1, ⟨y0, y1, y2, y3, y4⟩, _, _, _, _⟩ := hb1.cells; clear g1 g2 g3 hb1)
          | (go_at_call 54; (with_reducible refine (HM.out _ HT1.out).mono ?_); rintro e w3 ⟨rfl, g⟩; have HB3 := Lib.hid ((HB1.out.later g).res (.slice a1 len c1)); have HQ3 := Lib.hid ((HQ1.out.later g).low (X := X + 2) (by omega) (grownBy_setCell4 w3 (X + 2) 0 (.slice a1 len c1))); obtain ⟨d1, ⟨z0, z1, z2, z3, z4⟩, d2, d3, d4, d5⟩ := (HB1.out.later g).cells; clear g))
        refine bodyPost_ret (v := .agg #[.slice a1 len c1]) (results_cell_row rfl _ _ (X + 2) 36 #[.slice a1 len c1] (0, 0) _ rfl HB3.out.2.2.1 Tryz.underlying36 rfl tbl_size) rfl ⟨a1, len, c1, rfl, HQ3.out.tabN HE1.out HLS.out.2.1 HLS.out.2.2.1 (by omega), HB3.out.2.2.2.2.1⟩
      · by_cases hkz : k = 0
        · subst hkz
          have hk2 : ¬ len ≤ J := fun h => hk0 ⟨rfl, h⟩
          clear hk0
          go_enter Tryz.func25, Tryz.ntmps25
          go_wp2_with (first
            | (go_at_call 36; refine (HCP.out _ HG0.out).mono ?_; rintro e w1 ⟨a1, c1, es, rfl, g1, g2, g3⟩; have hb1 := HFB.out w1 a1 c1 g3; rw [HSZ.out] at g2; have HQ1 := Lib.hid (g2.alloc (.cells #[.slice a1 len c1] 36)); have HE1 := Lib.hid g1; have HB1 := Lib.hid hb1; have HT1 := Lib.hid (HTR.out.later (hX.out.symm ▸ hb1.2.2.2.2.1)); obtain ⟨b1, ⟨y0, y1, y2, y3, y4⟩, _, _, _, _⟩ := hb1.cells; clear g1 g2 g3 hb1)
            | (go_at_call 54; (with_reducible refine (HM.out _ HT1.out).mono ?_); rintro e w3 ⟨rfl, g⟩; have HB3 := Lib.hid (HB1.out.later g); have HQ3 := Lib.hid (HQ1.out.later g); obtain ⟨d1, ⟨z0, z1, z2, z3, z4⟩, d2, d3, d4, d5⟩ := (HB1.out.later g).cells; clear g))
          obtain ⟨Y, hY⟩ := named w1.heap.size
          have hYY := hY.out
          rw [hY.out] at HB3 ⊢
          go_loopw [] (fun wr => ∃ (m : Nat) (a' : Option Addr) (c' : Nat) (es' : List LfD), (len + m ≤ len ∨ len + m ≤ J + 1) ∧ Hid (tbOf es' = tbOf ds ++ List.replicate m []) ∧ Hid (BoxS X Y (.slice a len cap) (.slice none 0 0) (.slice a' (len + m) c') #[.int .i64 0, .int .i64 s, .int .i64 n, .int .i64 z, .int .u32 m0] w wr) ∧ Hid (TabQ wr (X + 3) a' (len + m) c' es' es')) (fun wr => J + 1 - lenOf9 wr Y)
          case atStart => exact ⟨0, a1, c1, es, Or.inl (Nat.le_refl _), (show tbOf es = tbOf ds ++ List.replicate 0 [] by rw [HE1.out]; simp), HB3.out, HQ3.out⟩
          case round =>
            obtain ⟨m, a', c', es', hm, HE, HB, HQ⟩ := hrel
            obtain ⟨x1, ⟨v0, v1, v2, v3, v4⟩, x2, x3, x4, x5⟩ := HB.out.cells
            obtain ⟨M, hM⟩ := named (len + m)
            rw [hM.out] at HB HQ x4 hm
            have hsz : X + 3 ≤ wr.heap.size := by
              have h1 := HB.out.2.2.2.1.lt
              have h2 := HB.out.2.2.2.2.2
              omega
            have hl1 := lenOf9_is x4
            by_cases hlt : M ≤ J
            · have HQA := Lib.hid (HQ.out.alloc (.cells #[.slice none 0 0] 68))
              have HBA := Lib.hid (HB.out.later ((Below.refl _ _).alloc (Nat.le_refl _) (.cells #[.slice none 0 0] 68)))
              have HRD := Lib.hid (one_reads (cv := cvD) wr (none, 0, 0, []) #[.slice none 0 0] 68 rfl)
              go_wp2_with (at_builtin; refine append_gg lf_rowed rfl _ _ rfl (X + 3) _ M es' rfl HQA.out.out (some ⟨wr.heap.size, 0, none⟩) 1 1 [(none, 0, 0, [])] rfl (fun e => by cases e) HRD.out (by omega) (by rw [World.size_alloc]; omega) ?_; intro a2 c2 w2 hO hB2 hg; have hb2 := HBA.out.app HQA.out.out (by omega) hg; have hq2 := HQA.out.nilMore hO hg; have HB3 := Lib.hid (hb2.out (.slice a2 (M + 1) c2)); have HQ3 := Lib.hid (hq2.box hb2.2.2.2.1 (grownBy_setCell4 w2 Y 0 (.slice a2 (M + 1) c2))); obtain ⟨_, _, _, _, t4, t5⟩ := hb2.cells; clear hb2 hq2 hO hB2 hg)
              go_roundw
              case rel =>
                refine ⟨m + 1, a2, c2, es' ++ [(none, 0, 0, [])], Or.inr (by have := hM.out; omega), ?_, ?_, ?_⟩
                · show tbOf (es' ++ [(none, 0, 0, [])]) = _
                  rw [List.replicate_succ', ← List.append_assoc, ← HE.out]
                  unfold tbOf
                  rw [List.map_append]
                  rfl
                · rw [← Nat.add_assoc, hM.out]
                  exact HB3.out
                · rw [← Nat.add_assoc, hM.out]
                  exact HQ3.out
              case measure =>
                have hl2 := lenOf9_is HB3.out.cells.2.2.2.2.1
                rw [hl1, hl2]
                omega
            · have HM1 : Hid (M = max len (J + 1)) := by show M = _; have := hM.out; omega
              have hE : tbOf es' = padT (tbOf ds) J := by
                rw [HE.out]
                unfold padT
                have h1 := HLS.out.1
                have h2 := hM.out
                rw [h1, show m = J + 1 - len by have := HM1.out; omega]
              have HE3 := Lib.hid hE
              have HMl : Hid ((padT (tbOf ds) J).length = M) := by
                show _ = _
                rw [pad_len, HLS.out.1]
                exact HM1.out.symm
              obtain ⟨g, d, rfl, hg1, hg2, hd, hcell, hfz⟩ := HQ.out.at J (by omega)
              have hJM : J < M := by omega
              have hLO := HQ.out.leaf d (List.mem_of_getElem? hd)
              have hLl := hLO.reads.len
              have htb : tbAt (tbOf ds) J = d.2.2.2 := by
                rw [← tbAt_pad, ← hE]
                unfold tbAt tbOf
                rw [List.getD_eq_getElem?_getD, List.getElem?_map, hd]
                rfl
              obtain ⟨al, ll, cl, xs⟩ := d
              dsimp only at hcell hLl htb
              have hcx : wr.drew.cell? ⟨g, J, none⟩ = some (.slice al ll cl) := hcell
              have hf8 : (full (tbAt (tbOf ds) J)).length = 8 := by
                obtain ⟨c0, h1, _⟩ := hf
                exact (full_ok h1.2.1 (h1.ok J)).1
              by_cases h0 : ll = 0
              · subst h0
                obtain ⟨w4, hmk, hf1, hf2⟩ := make9 wr (X + 3) hsz
                have hb4 := HB.out.later (below_of_grown hf2)
                have hq4 := (HQ.out.later (below_of_grown hf2)).putEs J _ hf1 (fun x hx b hb hb' => by
                  have h1 := HQ.out.lt x hx b hb
                  simp only [blkD, Value.ownBlock, Option.some.injEq] at hb'
                  omega)
                have hd4 : (es'.set J (some ⟨wr.heap.size, 0, none⟩, 8, 8, List.replicate 8 enZ))[J]? = some (some ⟨wr.heap.size, 0, none⟩, 8, 8, List.replicate 8 enZ) := by
                  rw [List.getElem?_set, if_pos rfl, if_pos (by have := HQ.out.size; omega)]
                have hxs : xs = [] := List.eq_nil_of_length_eq_zero hLl
                have hfull : full (tbAt (tbOf ds) J) = List.replicate 8 enZ := by
                  rw [htb, hxs]
                  rfl
                have hq6x := hq4.storeIn J _ hd4 rfl R hR8 (0, s, n, z, m0) HO.out
                obtain ⟨cur, k1, k2, k3, k4, k5⟩ := hq6x
                have hb6 := hb4.row k5 (fun e => by
                  have h9 := hb4.2.2.2.1
                  rw [← e] at h9
                  have := Eq.trans (Eq.symm h9) k1
                  simp at this) k4
                obtain ⟨t1, ⟨q0, q1, q2, q3, q4⟩, t2, t3, t4, t5⟩ := hb4.cells
                obtain ⟨XS, hXS⟩ := named ((List.replicate 8 enZ).set R (0, s, n, z, m0))
                rw [hXS.out] at k3
                have hXl : XS.length = 8 := by rw [← hXS.out, List.length_set, ← hfull]; exact hf8
                obtain ⟨w6, hw6⟩ := named (World.setRow _ wr.heap.size (cur.toList.take (R * 5) ++ enV (0, s, n, z, m0) ++ cur.toList.drop (R * 5 + (enV (0, s, n, z, m0)).length)).toArray)
                rw [hw6.out] at k3 hb6
                have hd6 : ((es'.set J (some ⟨wr.heap.size, 0, none⟩, 8, 8, List.replicate 8 enZ)).set J (some ⟨wr.heap.size, 0, none⟩, 8, 8, XS))[J]? = some (some ⟨wr.heap.size, 0, none⟩, 8, 8, XS) := by
                  rw [List.getElem?_set, if_pos rfl, if_pos (List.getElem?_eq_some_iff.1 hd4).1]
                have HL6 := Lib.hid (k3.leaf _ (List.mem_of_getElem? hd6)).reads
                have HQ6 : Hid (∀ q3 : LfD, (q3 = (some ⟨wr.heap.size, 0, none⟩, 8, 8, XS) ∨ q3 = (none, 0, 0, [])) → TabQ (w6.setCell ⟨g, J, none⟩ (.slice q3.1 q3.2.1 q3.2.2.1)) (X + 3) (some ⟨g, 0, none⟩) M c' (es'.set J q3) (es'.set J q3) ∧ w6.grownBy (w6.setCell ⟨g, J, none⟩ (.slice q3.1 q3.2.1 q3.2.2.1)) (some g)) := fun q3 h => by
                  rcases h with rfl | rfl
                  · have := k3.setOut g J rfl (some ⟨wr.heap.size, 0, none⟩, 8, 8, XS)
                    rwa [List.set_set] at this
                  · have := (k3.putEs J (none, 0, 0, []) (LfO.none _ _) (fun _ _ _ _ e => by cases e)).setOut g J rfl (none, 0, 0, [])
                    rwa [List.set_set, List.set_set] at this
                have HB6 := Lib.hid hb6
                have hs6 : someL XS ↔ ∃ k, k < 8 ∧ (lfAt XS k).1 ≠ 0 := Iff.rfl
                have HSL := Lib.hid hs6
                have HP : Hid (∀ q3 : LfD, q3.2.2.2 = setL (tbAt (tbOf ds) J) R (0, s, n, z, m0) → setT (tbOf ds) I (0, s, n, z, m0) = trimN (tbOf (es'.set J q3)) M ∧ (tbOf (es'.set J q3)).length = M) := fun q3 hq3 => by
                  have hp : tbOf (es'.set J q3) = putT (tbOf ds) I (0, s, n, z, m0) := by
                    rw [tb_set, hq3, HE3.out]
                    unfold putT
                    rw [hJ.out, hR.out]
                  have hpl : (putT (tbOf ds) I (0, s, n, z, m0)).length = M := by
                    rw [putT_len, hJ.out, HLS.out.1]
                    exact HM1.out.symm
                  rw [hp]
                  refine ⟨?_, hpl⟩
                  unfold setT
                  rw [if_pos ⟨by omega, hf⟩, Int.toNat_natCast]
                  unfold setN
                  rw [if_neg (fun h => hk2 (by have h1 := h.2; rw [hJ.out, HLS.out.1] at h1; exact h1)), hpl]
                have HXS := Lib.hid hXS.out
                have HFU := Lib.hid hfull
                obtain ⟨cg, fg⟩ : w6.cell? ⟨g, J, none⟩ = some (.slice al 0 cl) ∧ w6.frozen? ⟨g, J, none⟩ = false := by
                  obtain ⟨g', d', e1, _, _, e2, e3, e4⟩ := k3.at J hJM
                  cases e1
                  obtain rfl := Option.some.inj (hd.symm.trans e2)
                  exact ⟨e3, e4⟩
                obtain ⟨_, _, _, _, cY, fY⟩ := hb6.cells
                clear hb6 k3 hq4 hb4 hd6 hs6 hLO hd
                go_wp2_with (refine wpList_store_in9 rfl (.tmp 63) (.tmp 62) rfl wr.heap.size (R * 5) cur (enV (0, s, n, z, m0)).toArray (by rfl) (by rfl) k1 entry_size k2 (enV_one _) ?_; rw [hw6.out])
                go_loop [9, 10] (fun v i => ∃ (q : Nat) (B : Bool), q ≤ 8 ∧ v = .bool B ∧ i = .int .i64 q ∧ Hid (B = true ↔ ∃ k, k < q ∧ (lfAt XS k).1 ≠ 0)) (fun _ i => 8 - (intOf i).toNat)
                case atStart => exact ⟨0, false, by omega, rfl, rfl, ⟨fun e => (by cases e), fun ⟨k, hk, _⟩ => by omega⟩⟩
                case round =>
                  obtain ⟨q, B, hq8, rfl, rfl, HBB⟩ := hrel
                  by_cases hql : q < 8
                  · obtain ⟨b', off', e1, _, x1, _⟩ := HL6.out.at q hql
                    dsimp only at e1 x1
                    cases e1
                    rw [Nat.zero_add] at x1
                    cases B with
                    | true =>
                      have HB2 : Hid (true = true ↔ ∃ k, k < q + 1 ∧ (lfAt XS k).1 ≠ 0) := ⟨fun _ => by
                        obtain ⟨k, h1, h2⟩ := HBB.out.1 rfl
                        exact ⟨k, by omega, h2⟩, fun _ => rfl⟩
                      go_wp2
                      go_round
                      case rel => exact ⟨q + 1, true, by omega, rfl, by go_num, HB2⟩
                      case measure => simp [intOf]; omega
                    | false =>
                      by_cases hv : (lfAt XS q).1 = 0
                      · have HB2 : Hid (false = true ↔ ∃ k, k < q + 1 ∧ (lfAt XS k).1 ≠ 0) := ⟨fun e => (by cases e), fun ⟨k, h1, h2⟩ => by
                          by_cases e : k = q
                          · rw [e] at h2
                            exact absurd hv h2
                          · exact HBB.out.2 ⟨k, by omega, h2⟩⟩
                        rw [hv] at x1
                        go_wp2
                        go_round
                        case rel => exact ⟨q + 1, false, by omega, rfl, by go_num, HB2⟩
                        case measure => simp [intOf]; omega
                      · have HB2 : Hid (true = true ↔ ∃ k, k < q + 1 ∧ (lfAt XS k).1 ≠ 0) := ⟨fun _ => ⟨q, by omega, hv⟩, fun _ => rfl⟩
                        obtain ⟨v1, hv1⟩ := named (lfAt XS q).1
                        rw [hv1.out] at x1 hv
                        have hvb : (v1 != 0) = true := by simp [hv]
                        go_wp2
                        go_round
                        case rel => exact ⟨q + 1, true, by omega, rfl, by go_num, HB2⟩
                        case measure => simp [intOf]; omega
                  · have hq9 : q = 8 := by omega
                    subst hq9
                    cases B with
                    | true =>
                      have hsl : ((some ⟨wr.heap.size, 0, none⟩, 8, 8, XS) : LfD).2.2.2 = setL (tbAt (tbOf ds) J) R (0, s, n, z, m0) := by
                        show XS = _
                        unfold setL
                        rw [HFU.out, HXS.out, if_pos (HSL.out.2 (HBB.out.1 rfl))]
                      obtain ⟨hq7, hg7⟩ := HQ6.out (some ⟨wr.heap.size, 0, none⟩, 8, 8, XS) (Or.inl rfl)
                      have HP7 := Lib.hid (HP.out _ hsl)
                      have hgY : g ≠ Y := fun e => HB.out.2.2.2.1.not_row (by decide) HQ.out.out (by rw [← e]; rfl)
                      have hb7 := HB6.out.row (by omega) hgY hg7
                      obtain ⟨es3, hes3⟩ := named (es'.set J _)
                      rw [hes3.out] at hq7 HP7
                      dsimp only at hq7 hb7
                      have HQ7 := Lib.hid hq7
                      have HB7 := Lib.hid hb7
                      obtain ⟨_, _, _, _, cY7, fY7⟩ := hb7.cells
                      have hel3 : es3.length = M := by
                        have := HP7.out.2
                        rwa [tbOf_len] at this
                      clear hq7 hb7 hg7 hsl
                      go_wp2
                      go_loopw [] (fun wr => ∃ (M' : Nat), M' ≤ M ∧ Hid (trimN (tbOf es3) M = trimN (tbOf es3) M') ∧ Hid (BoxS X Y (.slice a len cap) (.slice none 0 0) (.slice (some ⟨g, 0, none⟩) M' c') #[.int .i64 0, .int .i64 s, .int .i64 n, .int .i64 z, .int .u32 m0] w wr) ∧ Hid (TabQ wr (X + 3) (some ⟨g, 0, none⟩) M' c' (es3.take M') (es3.take M'))) (fun wr => lenOf9 wr Y)
                      case atStart => exact ⟨M, Nat.le_refl _, rfl, HB7.out, by rw [List.take_of_length_le (by omega)]; exact HQ7.out⟩
                      case round =>
                        obtain ⟨M', hM', HTM, HBr, HQr⟩ := hrel
                        obtain ⟨p1, _, p2, p3, p4, p5⟩ := HBr.out.cells
                        have hl1 := lenOf9_is p4
                        have HFIN : Hid (trimN (tbOf es3) M' = tbOf (es3.take M') → TabN (World.setCell wr ⟨X + 2, 0, none⟩ (.slice (some ⟨g, 0, none⟩) M' c')) X (some ⟨g, 0, none⟩) M' c' (setT (tbOf ds) I (0, s, n, z, m0)) ∧ Below X w (World.setCell wr ⟨X + 2, 0, none⟩ (.slice (some ⟨g, 0, none⟩) M' c')) ∧ Blk (World.setCell wr ⟨X + 2, 0, none⟩ (.slice (some ⟨g, 0, none⟩) M' c')) (X + 2) 36 #[.slice (some ⟨g, 0, none⟩) M' c']) := fun ht => by
                          have hb8 := HBr.out.res (.slice (some ⟨g, 0, none⟩) M' c')
                          have hq8 := HQr.out.low (X := X + 2) (by omega) (grownBy_setCell4 wr (X + 2) 0 (.slice (some ⟨g, 0, none⟩) M' c'))
                          obtain ⟨c9, hc9⟩ := set_in9 hf (i := (I : Int)) (by omega)
                          obtain ⟨n1, n2⟩ := right_lens hc9
                          refine ⟨hq8.tabN (by rw [HP7.out.1, HTM.out, ht]) (by have := pad_len (tbOf ds) J; have := HMl.out; have := HLS.out.1; omega) (fun lf hlf => by have := n2 lf hlf; omega) (by omega), hb8.2.2.2.2.1, hb8.2.2.1⟩
                        by_cases hz : M' = 0
                        · subst hz
                          have HF := Lib.hid (HFIN.out (by simp [trimN, tbOf]))
                          clear HFIN
                          go_wp2
                          refine bodyPost_ret (v := .agg #[.slice (some ⟨g, 0, none⟩) 0 c']) (results_cell_row rfl _ _ (X + 2) 36 #[.slice (some ⟨g, 0, none⟩) 0 c'] (0, 0) _ rfl HF.out.2.2 Tryz.underlying36 rfl tbl_size) rfl ⟨_, 0, c', rfl, HF.out.1, HF.out.2.1⟩
                        · obtain ⟨P', rfl⟩ : ∃ P', M' = P' + 1 := ⟨M' - 1, by omega⟩
                          obtain ⟨g', d, e1, _, _, hdP, hcP, _⟩ := HQr.out.at P' (by omega)
                          cases e1
                          have hdE : es3[P']? = some d := by
                            rw [List.getElem?_take, if_pos (by omega)] at hdP
                            exact hdP
                          have htP : tbAt (tbOf es3) P' = d.2.2.2 := by
                            unfold tbAt tbOf
                            rw [List.getD_eq_getElem?_getD, List.getElem?_map, hdE]
                            rfl
                          have hdl := (HQr.out.leaf d (List.mem_of_getElem? hdP)).reads.len
                          obtain ⟨pl, plen, pc, pxs⟩ := d
                          dsimp only at hcP htP hdl
                          have e1 : wrap64 (((P' + 1 : Nat) : Int) - 1) = (P' : Int) := by unfold wrap64; omega
                          have e2 : wrap64 ((P' : Int) + 1 - 1) = (P' : Int) := by unfold wrap64; omega
                          have hP1 : P' < P' + 1 := by omega
                          by_cases hpl : plen = 0
                          · subst hpl
                            have HTN : Hid (trimN (tbOf es3) M = trimN (tbOf es3) P') := by
                              show _ = _
                              rw [HTM.out]
                              show (if tbAt (tbOf es3) P' = [] then trimN (tbOf es3) P' else _) = _
                              rw [if_pos (htP.trans (List.eq_nil_of_length_eq_zero hdl))]
                            have hfr : ∀ w' : World, (Instr.slice 34 (.slice (some ⟨g, 0, none⟩) (P' + 1) c') none (some (.int .i64 P')) none).run Tryz.prog w' = .ok (.slice (some ⟨g, 0, none⟩) P' c') w' := fun w' => slice_front9 (by have := HQr.out.caps.2; omega) w'
                            have hb8 := HBr.out.out (.slice (some ⟨g, 0, none⟩) P' c')
                            have hq8 := (HQr.out.take P' (by omega)).box HBr.out.2.2.2.1 (grownBy_setCell4 wr Y 0 (.slice (some ⟨g, 0, none⟩) P' c'))
                            rw [List.take_take, Nat.min_eq_left (by omega)] at hq8
                            have HB8 := Lib.hid hb8
                            have HQ8 := Lib.hid hq8
                            clear hb8 hq8 HFIN hdE htP hdP
                            go_wp2
                            go_roundw
                            case rel => exact ⟨P', by omega, HTN, HB8.out, HQ8.out⟩
                            case measure =>
                              have hl2 := lenOf9_is HB8.out.cells.2.2.2.2.1
                              rw [hl1, hl2]
                              omega
                          · have hpb : ((plen : Int) == 0) = false := by simp [hpl]
                            have HF := Lib.hid (HFIN.out (by
                              show (if tbAt (tbOf es3) P' = [] then trimN (tbOf es3) P' else (tbOf es3).take (P' + 1)) = _
                              rw [if_neg (fun e => hpl (by rw [htP] at e; rw [← hdl, e]; rfl))]
                              unfold tbOf
                              rw [List.map_take]))
                            clear HFIN hdE htP hdP
                            go_wp2
                            refine bodyPost_ret (v := .agg #[.slice (some ⟨g, 0, none⟩) (P' + 1) c']) (results_cell_row rfl _ _ (X + 2) 36 #[.slice (some ⟨g, 0, none⟩) (P' + 1) c'] (0, 0) _ rfl HF.out.2.2 Tryz.underlying36 rfl tbl_size) rfl ⟨_, P' + 1, c', rfl, HF.out.1, HF.out.2.1⟩
                    | false =>
                      have hsl : ((none, 0, 0, []) : LfD).2.2.2 = setL (tbAt (tbOf ds) J) R (0, s, n, z, m0) := by
                        show [] = _
                        unfold setL
                        rw [HFU.out, HXS.out, if_neg (fun h => by cases HBB.out.2 (HSL.out.1 h))]
                      obtain ⟨hq7, hg7⟩ := HQ6.out (none, 0, 0, []) (Or.inr rfl)
                      have HP7 := Lib.hid (HP.out _ hsl)
                      have hgY : g ≠ Y := fun e => HB.out.2.2.2.1.not_row (by decide) HQ.out.out (by rw [← e]; rfl)
                      have hb7 := HB6.out.row (by omega) hgY hg7
                      obtain ⟨es3, hes3⟩ := named (es'.set J _)
                      rw [hes3.out] at hq7 HP7
                      dsimp only at hq7 hb7
                      have HQ7 := Lib.hid hq7
                      have HB7 := Lib.hid hb7
                      obtain ⟨_, _, _, _, cY7, fY7⟩ := hb7.cells
                      have hel3 : es3.length = M := by
                        have := HP7.out.2
                        rwa [tbOf_len] at this
                      clear hq7 hb7 hg7 hsl
                      go_wp2
                      go_loopw [] (fun wr => ∃ (M' : Nat), M' ≤ M ∧ Hid (trimN (tbOf es3) M = trimN (tbOf es3) M') ∧ Hid (BoxS X Y (.slice a len cap) (.slice none 0 0) (.slice (some ⟨g, 0, none⟩) M' c') #[.int .i64 0, .int .i64 s, .int .i64 n, .int .i64 z, .int .u32 m0] w wr) ∧ Hid (TabQ wr (X + 3) (some ⟨g, 0, none⟩) M' c' (es3.take M') (es3.take M'))) (fun wr => lenOf9 wr Y)
                      case atStart => exact ⟨M, Nat.le_refl _, rfl, HB7.out, by rw [List.take_of_length_le (by omega)]; exact HQ7.out⟩
                      case round =>
                        obtain ⟨M', hM', HTM, HBr, HQr⟩ := hrel
                        obtain ⟨p1, _, p2, p3, p4, p5⟩ := HBr.out.cells
                        have hl1 := lenOf9_is p4
                        have HFIN : Hid (trimN (tbOf es3) M' = tbOf (es3.take M') → TabN (World.setCell wr ⟨X + 2, 0, none⟩ (.slice (some ⟨g, 0, none⟩) M' c')) X (some ⟨g, 0, none⟩) M' c' (setT (tbOf ds) I (0, s, n, z, m0)) ∧ Below X w (World.setCell wr ⟨X + 2, 0, none⟩ (.slice (some ⟨g, 0, none⟩) M' c')) ∧ Blk (World.setCell wr ⟨X + 2, 0, none⟩ (.slice (some ⟨g, 0, none⟩) M' c')) (X + 2) 36 #[.slice (some ⟨g, 0, none⟩) M' c']) := fun ht => by
                          have hb8 := HBr.out.res (.slice (some ⟨g, 0, none⟩) M' c')
                          have hq8 := HQr.out.low (X := X + 2) (by omega) (grownBy_setCell4 wr (X + 2) 0 (.slice (some ⟨g, 0, none⟩) M' c'))
                          obtain ⟨c9, hc9⟩ := set_in9 hf (i := (I : Int)) (by omega)
                          obtain ⟨n1, n2⟩ := right_lens hc9
                          refine ⟨hq8.tabN (by rw [HP7.out.1, HTM.out, ht]) (by have := pad_len (tbOf ds) J; have := HMl.out; have := HLS.out.1; omega) (fun lf hlf => by have := n2 lf hlf; omega) (by omega), hb8.2.2.2.2.1, hb8.2.2.1⟩
                        by_cases hz : M' = 0
                        · subst hz
                          have HF := Lib.hid (HFIN.out (by simp [trimN, tbOf]))
                          clear HFIN
                          go_wp2
                          refine bodyPost_ret (v := .agg #[.slice (some ⟨g, 0, none⟩) 0 c']) (results_cell_row rfl _ _ (X + 2) 36 #[.slice (some ⟨g, 0, none⟩) 0 c'] (0, 0) _ rfl HF.out.2.2 Tryz.underlying36 rfl tbl_size) rfl ⟨_, 0, c', rfl, HF.out.1, HF.out.2.1⟩
                        · obtain ⟨P', rfl⟩ : ∃ P', M' = P' + 1 := ⟨M' - 1, by omega⟩
                          obtain ⟨g', d, e1, _, _, hdP, hcP, _⟩ := HQr.out.at P' (by omega)
                          cases e1
                          have hdE : es3[P']? = some d := by
                            rw [List.getElem?_take, if_pos (by omega)] at hdP
                            exact hdP
                          have htP : tbAt (tbOf es3) P' = d.2.2.2 := by
                            unfold tbAt tbOf
                            rw [List.getD_eq_getElem?_getD, List.getElem?_map, hdE]
                            rfl
                          have hdl := (HQr.out.leaf d (List.mem_of_getElem? hdP)).reads.len
                          obtain ⟨pl, plen, pc, pxs⟩ := d
                          dsimp only at hcP htP hdl
                          have e1 : wrap64 (((P' + 1 : Nat) : Int) - 1) = (P' : Int) := by unfold wrap64; omega
                          have e2 : wrap64 ((P' : Int) + 1 - 1) = (P' : Int) := by unfold wrap64; omega
                          have hP1 : P' < P' + 1 := by omega
                          by_cases hpl : plen = 0
                          · subst hpl
                            have HTN : Hid (trimN (tbOf es3) M = trimN (tbOf es3) P') := by
                              show _ = _
                              rw [HTM.out]
                              show (if tbAt (tbOf es3) P' = [] then trimN (tbOf es3) P' else _) = _
                              rw [if_pos (htP.trans (List.eq_nil_of_length_eq_zero hdl))]
                            have hfr : ∀ w' : World, (Instr.slice 34 (.slice (some ⟨g, 0, none⟩) (P' + 1) c') none (some (.int .i64 P')) none).run Tryz.prog w' = .ok (.slice (some ⟨g, 0, none⟩) P' c') w' := fun w' => slice_front9 (by have := HQr.out.caps.2; omega) w'
                            have hb8 := HBr.out.out (.slice (some ⟨g, 0, none⟩) P' c')
                            have hq8 := (HQr.out.take P' (by omega)).box HBr.out.2.2.2.1 (grownBy_setCell4 wr Y 0 (.slice (some ⟨g, 0, none⟩) P' c'))
                            rw [List.take_take, Nat.min_eq_left (by omega)] at hq8
                            have HB8 := Lib.hid hb8
                            have HQ8 := Lib.hid hq8
                            clear hb8 hq8 HFIN hdE htP hdP
                            go_wp2
                            go_roundw
                            case rel => exact ⟨P', by omega, HTN, HB8.out, HQ8.out⟩
                            case measure =>
                              have hl2 := lenOf9_is HB8.out.cells.2.2.2.2.1
                              rw [hl1, hl2]
                              omega
                          · have hpb : ((plen : Int) == 0) = false := by simp [hpl]
                            have HF := Lib.hid (HFIN.out (by
                              show (if tbAt (tbOf es3) P' = [] then trimN (tbOf es3) P' else (tbOf es3).take (P' + 1)) = _
                              rw [if_neg (fun e => hpl (by rw [htP] at e; rw [← hdl, e]; rfl))]
                              unfold tbOf
                              rw [List.map_take]))
                            clear HFIN hdE htP hdP
                            go_wp2
                            refine bodyPost_ret (v := .agg #[.slice (some ⟨g, 0, none⟩) (P' + 1) c']) (results_cell_row rfl _ _ (X + 2) 36 #[.slice (some ⟨g, 0, none⟩) (P' + 1) c'] (0, 0) _ rfl HF.out.2.2 Tryz.underlying36 rfl tbl_size) rfl ⟨_, P' + 1, c', rfl, HF.out.1, HF.out.2.1⟩
              · have hfull : full (tbAt (tbOf ds) J) = xs := by
                  rw [htb]
                  unfold full
                  rw [if_neg (fun e => h0 (by rw [← hLl, e]; rfl))]
                have h8 : ll = 8 := by
                  rw [hfull] at hf8
                  omega
                subst h8
                obtain ⟨LB, hLB, hLB1, hLB2⟩ := hLO.form (by show 0 < 8; omega)
                dsimp only at hLB
                subst hLB
                have hb4 := HB.out
                have hq4 := HQ.out
                have hd4 := hd
                have hq6x := hq4.storeIn J _ hd4 rfl R hR8 (0, s, n, z, m0) HO.out
                obtain ⟨cur, k1, k2, k3, k4, k5⟩ := hq6x
                have hb6 := hb4.row k5 (fun e => by
                  have h9 := hb4.2.2.2.1
                  rw [← e] at h9
                  have := Eq.trans (Eq.symm h9) k1
                  simp at this) k4
                obtain ⟨t1, ⟨q0, q1, q2, q3, q4⟩, t2, t3, t4, t5⟩ := hb4.cells
                obtain ⟨XS, hXS⟩ := named (xs.set R (0, s, n, z, m0))
                rw [hXS.out] at k3
                have hXl : XS.length = 8 := by rw [← hXS.out, List.length_set, ← hfull]; exact hf8
                obtain ⟨w6, hw6⟩ := named (World.setRow _ LB (cur.toList.take (R * 5) ++ enV (0, s, n, z, m0) ++ cur.toList.drop (R * 5 + (enV (0, s, n, z, m0)).length)).toArray)
                rw [hw6.out] at k3 hb6
                have hd6 : (es'.set J (some ⟨LB, 0, none⟩, 8, cl, XS))[J]? = some (some ⟨LB, 0, none⟩, 8, cl, XS) := by
                  rw [List.getElem?_set, if_pos rfl, if_pos (List.getElem?_eq_some_iff.1 hd4).1]
                have HL6 := Lib.hid (k3.leaf _ (List.mem_of_getElem? hd6)).reads
                have HQ6 : Hid (∀ q3 : LfD, (q3 = (some ⟨LB, 0, none⟩, 8, cl, XS) ∨ q3 = (none, 0, 0, [])) → TabQ (w6.setCell ⟨g, J, none⟩ (.slice q3.1 q3.2.1 q3.2.2.1)) (X + 3) (some ⟨g, 0, none⟩) M c' (es'.set J q3) (es'.set J q3) ∧ w6.grownBy (w6.setCell ⟨g, J, none⟩ (.slice q3.1 q3.2.1 q3.2.2.1)) (some g)) := fun q3 h => by
                  rcases h with rfl | rfl
                  · have := k3.setOut g J rfl (some ⟨LB, 0, none⟩, 8, cl, XS)
                    exact this
                  · have := (k3.putEs J (none, 0, 0, []) (LfO.none _ _) (fun _ _ _ _ e => by cases e)).setOut g J rfl (none, 0, 0, [])
                    rwa [List.set_set] at this
                have HB6 := Lib.hid hb6
                have hs6 : someL XS ↔ ∃ k, k < 8 ∧ (lfAt XS k).1 ≠ 0 := Iff.rfl
                have HSL := Lib.hid hs6
                have HP : Hid (∀ q3 : LfD, q3.2.2.2 = setL (tbAt (tbOf ds) J) R (0, s, n, z, m0) → setT (tbOf ds) I (0, s, n, z, m0) = trimN (tbOf (es'.set J q3)) M ∧ (tbOf (es'.set J q3)).length = M) := fun q3 hq3 => by
                  have hp : tbOf (es'.set J q3) = putT (tbOf ds) I (0, s, n, z, m0) := by
                    rw [tb_set, hq3, HE3.out]
                    unfold putT
                    rw [hJ.out, hR.out]
                  have hpl : (putT (tbOf ds) I (0, s, n, z, m0)).length = M := by
                    rw [putT_len, hJ.out, HLS.out.1]
                    exact HM1.out.symm
                  rw [hp]
                  refine ⟨?_, hpl⟩
                  unfold setT
                  rw [if_pos ⟨by omega, hf⟩, Int.toNat_natCast]
                  unfold setN
                  rw [if_neg (fun h => hk2 (by have h1 := h.2; rw [hJ.out, HLS.out.1] at h1; exact h1)), hpl]
                have HXS := Lib.hid hXS.out
                have HFU := Lib.hid hfull
                obtain ⟨cg, fg⟩ : w6.cell? ⟨g, J, none⟩ = some (.slice (some ⟨LB, 0, none⟩) 8 cl) ∧ w6.frozen? ⟨g, J, none⟩ = false := by
                  obtain ⟨g', d', e1, _, _, e2, e3, e4⟩ := k3.at J hJM
                  cases e1
                  obtain rfl := Option.some.inj (hd.symm.trans e2)
                  exact ⟨e3, e4⟩
                obtain ⟨_, _, _, _, cY, fY⟩ := hb6.cells
                clear hb6 k3 hq4 hb4 hd6 hs6 hLO hd
                go_wp2_with (refine wpList_store_in9 rfl (.tmp 63) (.tmp 62) rfl LB (R * 5) cur (enV (0, s, n, z, m0)).toArray (by rfl) (by rfl) k1 entry_size k2 (enV_one _) ?_; rw [hw6.out])
                go_loop [9, 10] (fun v i => ∃ (q : Nat) (B : Bool), q ≤ 8 ∧ v = .bool B ∧ i = .int .i64 q ∧ Hid (B = true ↔ ∃ k, k < q ∧ (lfAt XS k).1 ≠ 0)) (fun _ i => 8 - (intOf i).toNat)
                case atStart => exact ⟨0, false, by omega, rfl, rfl, ⟨fun e => (by cases e), fun ⟨k, hk, _⟩ => by omega⟩⟩
                case round =>
                  obtain ⟨q, B, hq8, rfl, rfl, HBB⟩ := hrel
                  by_cases hql : q < 8
                  · obtain ⟨b', off', e1, _, x1, _⟩ := HL6.out.at q hql
                    dsimp only at e1 x1
                    cases e1
                    rw [Nat.zero_add] at x1
                    cases B with
                    | true =>
                      have HB2 : Hid (true = true ↔ ∃ k, k < q + 1 ∧ (lfAt XS k).1 ≠ 0) := ⟨fun _ => by
                        obtain ⟨k, h1, h2⟩ := HBB.out.1 rfl
                        exact ⟨k, by omega, h2⟩, fun _ => rfl⟩
                      go_wp2
                      go_round
                      case rel => exact ⟨q + 1, true, by omega, rfl, by go_num, HB2⟩
                      case measure => simp [intOf]; omega
                    | false =>
                      by_cases hv : (lfAt XS q).1 = 0
                      · have HB2 : Hid (false = true ↔ ∃ k, k < q + 1 ∧ (lfAt XS k).1 ≠ 0) := ⟨fun e => (by cases e), fun ⟨k, h1, h2⟩ => by
                          by_cases e : k = q
                          · rw [e] at h2
                            exact absurd hv h2
                          · exact HBB.out.2 ⟨k, by omega, h2⟩⟩
                        rw [hv] at x1
                        go_wp2
                        go_round
                        case rel => exact ⟨q + 1, false, by omega, rfl, by go_num, HB2⟩
                        case measure => simp [intOf]; omega
                      · have HB2 : Hid (true = true ↔ ∃ k, k < q + 1 ∧ (lfAt XS k).1 ≠ 0) := ⟨fun _ => ⟨q, by omega, hv⟩, fun _ => rfl⟩
                        obtain ⟨v1, hv1⟩ := named (lfAt XS q).1
                        rw [hv1.out] at x1 hv
                        have hvb : (v1 != 0) = true := by simp [hv]
                        go_wp2
                        go_round
                        case rel => exact ⟨q + 1, true, by omega, rfl, by go_num, HB2⟩
                        case measure => simp [intOf]; omega
                  · have hq9 : q = 8 := by omega
                    subst hq9
                    cases B with
                    | true =>
                      have hsl : ((some ⟨LB, 0, none⟩, 8, cl, XS) : LfD).2.2.2 = setL (tbAt (tbOf ds) J) R (0, s, n, z, m0) := by
                        show XS = _
                        unfold setL
                        rw [HFU.out, HXS.out, if_pos (HSL.out.2 (HBB.out.1 rfl))]
                      obtain ⟨hq7, hg7⟩ := HQ6.out (some ⟨LB, 0, none⟩, 8, cl, XS) (Or.inl rfl)
                      have HP7 := Lib.hid (HP.out _ hsl)
                      have hgY : g ≠ Y := fun e => HB.out.2.2.2.1.not_row (by decide) HQ.out.out (by rw [← e]; rfl)
                      have hb7 := HB6.out.row (by omega) hgY hg7
                      obtain ⟨es3, hes3⟩ := named (es'.set J _)
                      rw [hes3.out] at hq7 HP7
                      dsimp only at hq7 hb7
                      have HQ7 := Lib.hid hq7
                      have HB7 := Lib.hid hb7
                      obtain ⟨_, _, _, _, cY7, fY7⟩ := hb7.cells
                      have hel3 : es3.length = M := by
                        have := HP7.out.2
                        rwa [tbOf_len] at this
                      clear hq7 hb7 hg7 hsl
                      go_wp2
                      go_loopw [] (fun wr => ∃ (M' : Nat), M' ≤ M ∧ Hid (trimN (tbOf es3) M = trimN (tbOf es3) M') ∧ Hid (BoxS X Y (.slice a len cap) (.slice none 0 0) (.slice (some ⟨g, 0, none⟩) M' c') #[.int .i64 0, .int .i64 s, .int .i64 n, .int .i64 z, .int .u32 m0] w wr) ∧ Hid (TabQ wr (X + 3) (some ⟨g, 0, none⟩) M' c' (es3.take M') (es3.take M'))) (fun wr => lenOf9 wr Y)
                      case atStart => exact ⟨M, Nat.le_refl _, rfl, HB7.out, by rw [List.take_of_length_le (by omega)]; exact HQ7.out⟩
                      case round =>
                        obtain ⟨M', hM', HTM, HBr, HQr⟩ := hrel
                        obtain ⟨p1, _, p2, p3, p4, p5⟩ := HBr.out.cells
                        have hl1 := lenOf9_is p4
                        have HFIN : Hid (trimN (tbOf es3) M' = tbOf (es3.take M') → TabN (World.setCell wr ⟨X + 2, 0, none⟩ (.slice (some ⟨g, 0, none⟩) M' c')) X (some ⟨g, 0, none⟩) M' c' (setT (tbOf ds) I (0, s, n, z, m0)) ∧ Below X w (World.setCell wr ⟨X + 2, 0, none⟩ (.slice (some ⟨g, 0, none⟩) M' c')) ∧ Blk (World.setCell wr ⟨X + 2, 0, none⟩ (.slice (some ⟨g, 0, none⟩) M' c')) (X + 2) 36 #[.slice (some ⟨g, 0, none⟩) M' c']) := fun ht => by
                          have hb8 := HBr.out.res (.slice (some ⟨g, 0, none⟩) M' c')
                          have hq8 := HQr.out.low (X := X + 2) (by omega) (grownBy_setCell4 wr (X + 2) 0 (.slice (some ⟨g, 0, none⟩) M' c'))
                          obtain ⟨c9, hc9⟩ := set_in9 hf (i := (I : Int)) (by omega)
                          obtain ⟨n1, n2⟩ := right_lens hc9
                          refine ⟨hq8.tabN (by rw [HP7.out.1, HTM.out, ht]) (by have := pad_len (tbOf ds) J; have := HMl.out; have := HLS.out.1; omega) (fun lf hlf => by have := n2 lf hlf; omega) (by omega), hb8.2.2.2.2.1, hb8.2.2.1⟩
                        by_cases hz : M' = 0
                        · subst hz
                          have HF := Lib.hid (HFIN.out (by simp [trimN, tbOf]))
                          clear HFIN
                          go_wp2
                          refine bodyPost_ret (v := .agg #[.slice (some ⟨g, 0, none⟩) 0 c']) (results_cell_row rfl _ _ (X + 2) 36 #[.slice (some ⟨g, 0, none⟩) 0 c'] (0, 0) _ rfl HF.out.2.2 Tryz.underlying36 rfl tbl_size) rfl ⟨_, 0, c', rfl, HF.out.1, HF.out.2.1⟩
                        · obtain ⟨P', rfl⟩ : ∃ P', M' = P' + 1 := ⟨M' - 1, by omega⟩
                          obtain ⟨g', d, e1, _, _, hdP, hcP, _⟩ := HQr.out.at P' (by omega)
                          cases e1
                          have hdE : es3[P']? = some d := by
                            rw [List.getElem?_take, if_pos (by omega)] at hdP
                            exact hdP
                          have htP : tbAt (tbOf es3) P' = d.2.2.2 := by
                            unfold tbAt tbOf
                            rw [List.getD_eq_getElem?_getD, List.getElem?_map, hdE]
                            rfl
                          have hdl := (HQr.out.leaf d (List.mem_of_getElem? hdP)).reads.len
                          obtain ⟨pl, plen, pc, pxs⟩ := d
                          dsimp only at hcP htP hdl
                          have e1 : wrap64 (((P' + 1 : Nat) : Int) - 1) = (P' : Int) := by unfold wrap64; omega
                          have e2 : wrap64 ((P' : Int) + 1 - 1) = (P' : Int) := by unfold wrap64; omega
                          have hP1 : P' < P' + 1 := by omega
                          by_cases hpl : plen = 0
                          · subst hpl
                            have HTN : Hid (trimN (tbOf es3) M = trimN (tbOf es3) P') := by
                              show _ = _
                              rw [HTM.out]
                              show (if tbAt (tbOf es3) P' = [] then trimN (tbOf es3) P' else _) = _
                              rw [if_pos (htP.trans (List.eq_nil_of_length_eq_zero hdl))]
                            have hfr : ∀ w' : World, (Instr.slice 34 (.slice (some ⟨g, 0, none⟩) (P' + 1) c') none (some (.int .i64 P')) none).run Tryz.prog w' = .ok (.slice (some ⟨g, 0, none⟩) P' c') w' := fun w' => slice_front9 (by have := HQr.out.caps.2; omega) w'
                            have hb8 := HBr.out.out (.slice (some ⟨g, 0, none⟩) P' c')
                            have hq8 := (HQr.out.take P' (by omega)).box HBr.out.2.2.2.1 (grownBy_setCell4 wr Y 0 (.slice (some ⟨g, 0, none⟩) P' c'))
                            rw [List.take_take, Nat.min_eq_left (by omega)] at hq8
                            have HB8 := Lib.hid hb8
                            have HQ8 := Lib.hid hq8
                            clear hb8 hq8 HFIN hdE htP hdP
                            go_wp2
                            go_roundw
                            case rel => exact ⟨P', by omega, HTN, HB8.out, HQ8.out⟩
                            case measure =>
                              have hl2 := lenOf9_is HB8.out.cells.2.2.2.2.1
                              rw [hl1, hl2]
                              omega
                          · have hpb : ((plen : Int) == 0) = false := by simp [hpl]
                            have HF := Lib.hid (HFIN.out (by
                              show (if tbAt (tbOf es3) P' = [] then trimN (tbOf es3) P' else (tbOf es3).take (P' + 1)) = _
                              rw [if_neg (fun e => hpl (by rw [htP] at e; rw [← hdl, e]; rfl))]
                              unfold tbOf
                              rw [List.map_take]))
                            clear HFIN hdE htP hdP
                            go_wp2
                            refine bodyPost_ret (v := .agg #[.slice (some ⟨g, 0, none⟩) (P' + 1) c']) (results_cell_row rfl _ _ (X + 2) 36 #[.slice (some ⟨g, 0, none⟩) (P' + 1) c'] (0, 0) _ rfl HF.out.2.2 Tryz.underlying36 rfl tbl_size) rfl ⟨_, P' + 1, c', rfl, HF.out.1, HF.out.2.1⟩
                    | false =>
                      have hsl : ((none, 0, 0, []) : LfD).2.2.2 = setL (tbAt (tbOf ds) J) R (0, s, n, z, m0) := by
                        show [] = _
                        unfold setL
                        rw [HFU.out, HXS.out, if_neg (fun h => by cases HBB.out.2 (HSL.out.1 h))]
                      obtain ⟨hq7, hg7⟩ := HQ6.out (none, 0, 0, []) (Or.inr rfl)
                      have HP7 := Lib.hid (HP.out _ hsl)
                      have hgY : g ≠ Y := fun e => HB.out.2.2.2.1.not_row (by decide) HQ.out.out (by rw [← e]; rfl)
                      have hb7 := HB6.out.row (by omega) hgY hg7
                      obtain ⟨es3, hes3⟩ := named (es'.set J _)
                      rw [hes3.out] at hq7 HP7
                      dsimp only at hq7 hb7
                      have HQ7 := Lib.hid hq7
                      have HB7 := Lib.hid hb7
                      obtain ⟨_, _, _, _, cY7, fY7⟩ := hb7.cells
                      have hel3 : es3.length = M := by
                        have := HP7.out.2
                        rwa [tbOf_len] at this
                      clear hq7 hb7 hg7 hsl
                      go_wp2
                      go_loopw [] (fun wr => ∃ (M' : Nat), M' ≤ M ∧ Hid (trimN (tbOf es3) M = trimN (tbOf es3) M') ∧ Hid (BoxS X Y (.slice a len cap) (.slice none 0 0) (.slice (some ⟨g, 0, none⟩) M' c') #[.int .i64 0, .int .i64 s, .int .i64 n, .int .i64 z, .int .u32 m0] w wr) ∧ Hid (TabQ wr (X + 3) (some ⟨g, 0, none⟩) M' c' (es3.take M') (es3.take M'))) (fun wr => lenOf9 wr Y)
                      case atStart => exact ⟨M, Nat.le_refl _, rfl, HB7.out, by rw [List.take_of_length_le (by omega)]; exact HQ7.out⟩
                      case round =>
                        obtain ⟨M', hM', HTM, HBr, HQr⟩ := hrel
                        obtain ⟨p1, _, p2, p3, p4, p5⟩ := HBr.out.cells
                        have hl1 := lenOf9_is p4
                        have HFIN : Hid (trimN (tbOf es3) M' = tbOf (es3.take M') → TabN (World.setCell wr ⟨X + 2, 0, none⟩ (.slice (some ⟨g, 0, none⟩) M' c')) X (some ⟨g, 0, none⟩) M' c' (setT (tbOf ds) I (0, s, n, z, m0)) ∧ Below X w (World.setCell wr ⟨X + 2, 0, none⟩ (.slice (some ⟨g, 0, none⟩) M' c')) ∧ Blk (World.setCell wr ⟨X + 2, 0, none⟩ (.slice (some ⟨g, 0, none⟩) M' c')) (X + 2) 36 #[.slice (some ⟨g, 0, none⟩) M' c']) := fun ht => by
                          have hb8 := HBr.out.res (.slice (some ⟨g, 0, none⟩) M' c')
                          have hq8 := HQr.out.low (X := X + 2) (by omega) (grownBy_setCell4 wr (X + 2) 0 (.slice (some ⟨g, 0, none⟩) M' c'))
                          obtain ⟨c9, hc9⟩ := set_in9 hf (i := (I : Int)) (by omega)
                          obtain ⟨n1, n2⟩ := right_lens hc9
                          refine ⟨hq8.tabN (by rw [HP7.out.1, HTM.out, ht]) (by have := pad_len (tbOf ds) J; have := HMl.out; have := HLS.out.1; omega) (fun lf hlf => by have := n2 lf hlf; omega) (by omega), hb8.2.2.2.2.1, hb8.2.2.1⟩
                        by_cases hz : M' = 0
                        · subst hz
                          have HF := Lib.hid (HFIN.out (by simp [trimN, tbOf]))
                          clear HFIN
                          go_wp2
                          refine bodyPost_ret (v := .agg #[.slice (some ⟨g, 0, none⟩) 0 c']) (results_cell_row rfl _ _ (X + 2) 36 #[.slice (some ⟨g, 0, none⟩) 0 c'] (0, 0) _ rfl HF.out.2.2 Tryz.underlying36 rfl tbl_size) rfl ⟨_, 0, c', rfl, HF.out.1, HF.out.2.1⟩
                        · obtain ⟨P', rfl⟩ : ∃ P', M' = P' + 1 := ⟨M' - 1, by omega⟩
                          obtain ⟨g', d, e1, _, _, hdP, hcP, _⟩ := HQr.out.at P' (by omega)
                          cases e1
                          have hdE : es3[P']? = some d := by
                            rw [List.getElem?_take, if_pos (by omega)] at hdP
                            exact hdP
                          have htP : tbAt (tbOf es3) P' = d.2.2.2 := by
                            unfold tbAt tbOf
                            rw [List.getD_eq_getElem?_getD, List.getElem?_map, hdE]
                            rfl
                          have hdl := (HQr.out.leaf d (List.mem_of_getElem? hdP)).reads.len
                          obtain ⟨pl, plen, pc, pxs⟩ := d
                          dsimp only at hcP htP hdl
                          have e1 : wrap64 (((P' + 1 : Nat) : Int) - 1) = (P' : Int) := by unfold wrap64; omega
                          have e2 : wrap64 ((P' : Int) + 1 - 1) = (P' : Int) := by unfold wrap64; omega
                          have hP1 : P' < P' + 1 := by omega
                          by_cases hpl : plen = 0
                          · subst hpl
                            have HTN : Hid (trimN (tbOf es3) M = trimN (tbOf es3) P') := by
                              show _ = _
                              rw [HTM.out]
                              show (if tbAt (tbOf es3) P' = [] then trimN (tbOf es3) P' else _) = _
                              rw [if_pos (htP.trans (List.eq_nil_of_length_eq_zero hdl))]
                            have hfr : ∀ w' : World, (Instr.slice 34 (.slice (some ⟨g, 0, none⟩) (P' + 1) c') none (some (.int .i64 P')) none).run Tryz.prog w' = .ok (.slice (some ⟨g, 0, none⟩) P' c') w' := fun w' => slice_front9 (by have := HQr.out.caps.2; omega) w'
                            have hb8 := HBr.out.out (.slice (some ⟨g, 0, none⟩) P' c')
                            have hq8 := (HQr.out.take P' (by omega)).box HBr.out.2.2.2.1 (grownBy_setCell4 wr Y 0 (.slice (some ⟨g, 0, none⟩) P' c'))
                            rw [List.take_take, Nat.min_eq_left (by omega)] at hq8
                            have HB8 := Lib.hid hb8
                            have HQ8 := Lib.hid hq8
                            clear hb8 hq8 HFIN hdE htP hdP
                            go_wp2
                            go_roundw
                            case rel => exact ⟨P', by omega, HTN, HB8.out, HQ8.out⟩
                            case measure =>
                              have hl2 := lenOf9_is HB8.out.cells.2.2.2.2.1
                              rw [hl1, hl2]
                              omega
                          · have hpb : ((plen : Int) == 0) = false := by simp [hpl]
                            have HF := Lib.hid (HFIN.out (by
                              show (if tbAt (tbOf es3) P' = [] then trimN (tbOf es3) P' else (tbOf es3).take (P' + 1)) = _
                              rw [if_neg (fun e => hpl (by rw [htP] at e; rw [← hdl, e]; rfl))]
                              unfold tbOf
                              rw [List.map_take]))
                            clear HFIN hdE htP hdP
                            go_wp2
                            refine bodyPost_ret (v := .agg #[.slice (some ⟨g, 0, none⟩) (P' + 1) c']) (results_cell_row rfl _ _ (X + 2) 36 #[.slice (some ⟨g, 0, none⟩) (P' + 1) c'] (0, 0) _ rfl HF.out.2.2 Tryz.underlying36 rfl tbl_size) rfl ⟨_, P' + 1, c', rfl, HF.out.1, HF.out.2.1⟩
        · clear hk0
          go_enter Tryz.func25, Tryz.ntmps25
          go_wp2_with (first
            | (go_at_call 36; refine (HCP.out _ HG0.out).mono ?_; rintro e w1 ⟨a1, c1, es, rfl, g1, g2, g3⟩; have hb1 := HFB.out w1 a1 c1 g3; rw [HSZ.out] at g2; have HQ1 := Lib.hid (g2.alloc (.cells #[.slice a1 len c1] 36)); have HE1 := Lib.hid g1; have HB1 := Lib.hid hb1; have HT1 := Lib.hid (HTR.out.later (hX.out.symm ▸ hb1.2.2.2.2.1)); obtain ⟨b1, ⟨y0, y1, y2, y3, y4⟩, _, _, _, _⟩ := hb1.cells; clear g1 g2 g3 hb1)
            | (go_at_call 54; (with_reducible refine (HM.out _ HT1.out).mono ?_); rintro e w3 ⟨rfl, g⟩; have HB3 := Lib.hid (HB1.out.later g); have HQ3 := Lib.hid (HQ1.out.later g); obtain ⟨d1, ⟨z0, z1, z2, z3, z4⟩, d2, d3, d4, d5⟩ := (HB1.out.later g).cells; clear g))
          obtain ⟨Y, hY⟩ := named w1.heap.size
          have hYY := hY.out
          rw [hY.out] at HB3 ⊢
          go_loopw [] (fun wr => ∃ (m : Nat) (a' : Option Addr) (c' : Nat) (es' : List LfD), (len + m ≤ len ∨ len + m ≤ J + 1) ∧ Hid (tbOf es' = tbOf ds ++ List.replicate m []) ∧ Hid (BoxS X Y (.slice a len cap) (.slice none 0 0) (.slice a' (len + m) c') #[.int .i64 k, .int .i64 s, .int .i64 n, .int .i64 z, .int .u32 m0] w wr) ∧ Hid (TabQ wr (X + 3) a' (len + m) c' es' es')) (fun wr => J + 1 - lenOf9 wr Y)
          case atStart => exact ⟨0, a1, c1, es, Or.inl (Nat.le_refl _), (show tbOf es = tbOf ds ++ List.replicate 0 [] by rw [HE1.out]; simp), HB3.out, HQ3.out⟩
          case round =>
            obtain ⟨m, a', c', es', hm, HE, HB, HQ⟩ := hrel
            obtain ⟨x1, ⟨v0, v1, v2, v3, v4⟩, x2, x3, x4, x5⟩ := HB.out.cells
            obtain ⟨M, hM⟩ := named (len + m)
            rw [hM.out] at HB HQ x4 hm
            have hsz : X + 3 ≤ wr.heap.size := by
              have h1 := HB.out.2.2.2.1.lt
              have h2 := HB.out.2.2.2.2.2
              omega
            have hl1 := lenOf9_is x4
            by_cases hlt : M ≤ J
            · have HQA := Lib.hid (HQ.out.alloc (.cells #[.slice none 0 0] 68))
              have HBA := Lib.hid (HB.out.later ((Below.refl _ _).alloc (Nat.le_refl _) (.cells #[.slice none 0 0] 68)))
              have HRD := Lib.hid (one_reads (cv := cvD) wr (none, 0, 0, []) #[.slice none 0 0] 68 rfl)
              go_wp2_with (at_builtin; refine append_gg lf_rowed rfl _ _ rfl (X + 3) _ M es' rfl HQA.out.out (some ⟨wr.heap.size, 0, none⟩) 1 1 [(none, 0, 0, [])] rfl (fun e => by cases e) HRD.out (by omega) (by rw [World.size_alloc]; omega) ?_; intro a2 c2 w2 hO hB2 hg; have hb2 := HBA.out.app HQA.out.out (by omega) hg; have hq2 := HQA.out.nilMore hO hg; have HB3 := Lib.hid (hb2.out (.slice a2 (M + 1) c2)); have HQ3 := Lib.hid (hq2.box hb2.2.2.2.1 (grownBy_setCell4 w2 Y 0 (.slice a2 (M + 1) c2))); obtain ⟨_, _, _, _, t4, t5⟩ := hb2.cells; clear hb2 hq2 hO hB2 hg)
              go_roundw
              case rel =>
                refine ⟨m + 1, a2, c2, es' ++ [(none, 0, 0, [])], Or.inr (by have := hM.out; omega), ?_, ?_, ?_⟩
                · show tbOf (es' ++ [(none, 0, 0, [])]) = _
                  rw [List.replicate_succ', ← List.append_assoc, ← HE.out]
                  unfold tbOf
                  rw [List.map_append]
                  rfl
                · rw [← Nat.add_assoc, hM.out]
                  exact HB3.out
                · rw [← Nat.add_assoc, hM.out]
                  exact HQ3.out
              case measure =>
                have hl2 := lenOf9_is HB3.out.cells.2.2.2.2.1
                rw [hl1, hl2]
                omega
            · have HM1 : Hid (M = max len (J + 1)) := by show M = _; have := hM.out; omega
              have hE : tbOf es' = padT (tbOf ds) J := by
                rw [HE.out]
                unfold padT
                have h1 := HLS.out.1
                have h2 := hM.out
                rw [h1, show m = J + 1 - len by have := HM1.out; omega]
              have HE3 := Lib.hid hE
              have HMl : Hid ((padT (tbOf ds) J).length = M) := by
                show _ = _
                rw [pad_len, HLS.out.1]
                exact HM1.out.symm
              obtain ⟨g, d, rfl, hg1, hg2, hd, hcell, hfz⟩ := HQ.out.at J (by omega)
              have hJM : J < M := by omega
              have hLO := HQ.out.leaf d (List.mem_of_getElem? hd)
              have hLl := hLO.reads.len
              have htb : tbAt (tbOf ds) J = d.2.2.2 := by
                rw [← tbAt_pad, ← hE]
                unfold tbAt tbOf
                rw [List.getD_eq_getElem?_getD, List.getElem?_map, hd]
                rfl
              obtain ⟨al, ll, cl, xs⟩ := d
              dsimp only at hcell hLl htb
              have hcx : wr.drew.cell? ⟨g, J, none⟩ = some (.slice al ll cl) := hcell
              have hf8 : (full (tbAt (tbOf ds) J)).length = 8 := by
                obtain ⟨c0, h1, _⟩ := hf
                exact (full_ok h1.2.1 (h1.ok J)).1
              by_cases h0 : ll = 0
              · subst h0
                obtain ⟨w4, hmk, hf1, hf2⟩ := make9 wr (X + 3) hsz
                have hb4 := HB.out.later (below_of_grown hf2)
                have hq4 := (HQ.out.later (below_of_grown hf2)).putEs J _ hf1 (fun x hx b hb hb' => by
                  have h1 := HQ.out.lt x hx b hb
                  simp only [blkD, Value.ownBlock, Option.some.injEq] at hb'
                  omega)
                have hd4 : (es'.set J (some ⟨wr.heap.size, 0, none⟩, 8, 8, List.replicate 8 enZ))[J]? = some (some ⟨wr.heap.size, 0, none⟩, 8, 8, List.replicate 8 enZ) := by
                  rw [List.getElem?_set, if_pos rfl, if_pos (by have := HQ.out.size; omega)]
                have hxs : xs = [] := List.eq_nil_of_length_eq_zero hLl
                have hfull : full (tbAt (tbOf ds) J) = List.replicate 8 enZ := by
                  rw [htb, hxs]
                  rfl
                have hq6x := hq4.storeIn J _ hd4 rfl R hR8 (k, s, n, z, m0) HO.out
                obtain ⟨cur, k1, k2, k3, k4, k5⟩ := hq6x
                have hb6 := hb4.row k5 (fun e => by
                  have h9 := hb4.2.2.2.1
                  rw [← e] at h9
                  have := Eq.trans (Eq.symm h9) k1
                  simp at this) k4
                obtain ⟨t1, ⟨q0, q1, q2, q3, q4⟩, t2, t3, t4, t5⟩ := hb4.cells
                obtain ⟨XS, hXS⟩ := named ((List.replicate 8 enZ).set R (k, s, n, z, m0))
                rw [hXS.out] at k3
                have hXl : XS.length = 8 := by rw [← hXS.out, List.length_set, ← hfull]; exact hf8
                obtain ⟨w6, hw6⟩ := named (World.setRow _ wr.heap.size (cur.toList.take (R * 5) ++ enV (k, s, n, z, m0) ++ cur.toList.drop (R * 5 + (enV (k, s, n, z, m0)).length)).toArray)
                rw [hw6.out] at k3 hb6
                have hd6 : ((es'.set J (some ⟨wr.heap.size, 0, none⟩, 8, 8, List.replicate 8 enZ)).set J (some ⟨wr.heap.size, 0, none⟩, 8, 8, XS))[J]? = some (some ⟨wr.heap.size, 0, none⟩, 8, 8, XS) := by
                  rw [List.getElem?_set, if_pos rfl, if_pos (List.getElem?_eq_some_iff.1 hd4).1]
                have HL6 := Lib.hid (k3.leaf _ (List.mem_of_getElem? hd6)).reads
                have HQ6 : Hid (∀ q3 : LfD, (q3 = (some ⟨wr.heap.size, 0, none⟩, 8, 8, XS) ∨ q3 = (none, 0, 0, [])) → TabQ (w6.setCell ⟨g, J, none⟩ (.slice q3.1 q3.2.1 q3.2.2.1)) (X + 3) (some ⟨g, 0, none⟩) M c' (es'.set J q3) (es'.set J q3) ∧ w6.grownBy (w6.setCell ⟨g, J, none⟩ (.slice q3.1 q3.2.1 q3.2.2.1)) (some g)) := fun q3 h => by
                  rcases h with rfl | rfl
                  · have := k3.setOut g J rfl (some ⟨wr.heap.size, 0, none⟩, 8, 8, XS)
                    rwa [List.set_set] at this
                  · have := (k3.putEs J (none, 0, 0, []) (LfO.none _ _) (fun _ _ _ _ e => by cases e)).setOut g J rfl (none, 0, 0, [])
                    rwa [List.set_set, List.set_set] at this
                have HB6 := Lib.hid hb6
                have hs6 : someL XS ↔ ∃ k, k < 8 ∧ (lfAt XS k).1 ≠ 0 := Iff.rfl
                have HSL := Lib.hid hs6
                have HP : Hid (∀ q3 : LfD, q3.2.2.2 = setL (tbAt (tbOf ds) J) R (k, s, n, z, m0) → setT (tbOf ds) I (k, s, n, z, m0) = trimN (tbOf (es'.set J q3)) M ∧ (tbOf (es'.set J q3)).length = M) := fun q3 hq3 => by
                  have hp : tbOf (es'.set J q3) = putT (tbOf ds) I (k, s, n, z, m0) := by
                    rw [tb_set, hq3, HE3.out]
                    unfold putT
                    rw [hJ.out, hR.out]
                  have hpl : (putT (tbOf ds) I (k, s, n, z, m0)).length = M := by
                    rw [putT_len, hJ.out, HLS.out.1]
                    exact HM1.out.symm
                  rw [hp]
                  refine ⟨?_, hpl⟩
                  unfold setT
                  rw [if_pos ⟨by omega, hf⟩, Int.toNat_natCast]
                  unfold setN
                  rw [if_neg (fun h => hkz h.1), hpl]
                have HXS := Lib.hid hXS.out
                have HFU := Lib.hid hfull
                obtain ⟨cg, fg⟩ : w6.cell? ⟨g, J, none⟩ = some (.slice al 0 cl) ∧ w6.frozen? ⟨g, J, none⟩ = false := by
                  obtain ⟨g', d', e1, _, _, e2, e3, e4⟩ := k3.at J hJM
                  cases e1
                  obtain rfl := Option.some.inj (hd.symm.trans e2)
                  exact ⟨e3, e4⟩
                obtain ⟨_, _, _, _, cY, fY⟩ := hb6.cells
                clear hb6 k3 hq4 hb4 hd6 hs6 hLO hd
                go_wp2_with (refine wpList_store_in9 rfl (.tmp 63) (.tmp 62) rfl wr.heap.size (R * 5) cur (enV (k, s, n, z, m0)).toArray (by rfl) (by rfl) k1 entry_size k2 (enV_one _) ?_; rw [hw6.out])
                go_loop [9, 10] (fun v i => ∃ (q : Nat) (B : Bool), q ≤ 8 ∧ v = .bool B ∧ i = .int .i64 q ∧ Hid (B = true ↔ ∃ k, k < q ∧ (lfAt XS k).1 ≠ 0)) (fun _ i => 8 - (intOf i).toNat)
                case atStart => exact ⟨0, false, by omega, rfl, rfl, ⟨fun e => (by cases e), fun ⟨k, hk, _⟩ => by omega⟩⟩
                case round =>
                  obtain ⟨q, B, hq8, rfl, rfl, HBB⟩ := hrel
                  by_cases hql : q < 8
                  · obtain ⟨b', off', e1, _, x1, _⟩ := HL6.out.at q hql
                    dsimp only at e1 x1
                    cases e1
                    rw [Nat.zero_add] at x1
                    cases B with
                    | true =>
                      have HB2 : Hid (true = true ↔ ∃ k, k < q + 1 ∧ (lfAt XS k).1 ≠ 0) := ⟨fun _ => by
                        obtain ⟨k, h1, h2⟩ := HBB.out.1 rfl
                        exact ⟨k, by omega, h2⟩, fun _ => rfl⟩
                      go_wp2
                      go_round
                      case rel => exact ⟨q + 1, true, by omega, rfl, by go_num, HB2⟩
                      case measure => simp [intOf]; omega
                    | false =>
                      by_cases hv : (lfAt XS q).1 = 0
                      · have HB2 : Hid (false = true ↔ ∃ k, k < q + 1 ∧ (lfAt XS k).1 ≠ 0) := ⟨fun e => (by cases e), fun ⟨k, h1, h2⟩ => by
                          by_cases e : k = q
                          · rw [e] at h2
                            exact absurd hv h2
                          · exact HBB.out.2 ⟨k, by omega, h2⟩⟩
                        rw [hv] at x1
                        go_wp2
                        go_round
                        case rel => exact ⟨q + 1, false, by omega, rfl, by go_num, HB2⟩
                        case measure => simp [intOf]; omega
                      · have HB2 : Hid (true = true ↔ ∃ k, k < q + 1 ∧ (lfAt XS k).1 ≠ 0) := ⟨fun _ => ⟨q, by omega, hv⟩, fun _ => rfl⟩
                        obtain ⟨v1, hv1⟩ := named (lfAt XS q).1
                        rw [hv1.out] at x1 hv
                        have hvb : (v1 != 0) = true := by simp [hv]
                        go_wp2
                        go_round
                        case rel => exact ⟨q + 1, true, by omega, rfl, by go_num, HB2⟩
                        case measure => simp [intOf]; omega
                  · have hq9 : q = 8 := by omega
                    subst hq9
                    cases B with
                    | true =>
                      have hsl : ((some ⟨wr.heap.size, 0, none⟩, 8, 8, XS) : LfD).2.2.2 = setL (tbAt (tbOf ds) J) R (k, s, n, z, m0) := by
                        show XS = _
                        unfold setL
                        rw [HFU.out, HXS.out, if_pos (HSL.out.2 (HBB.out.1 rfl))]
                      obtain ⟨hq7, hg7⟩ := HQ6.out (some ⟨wr.heap.size, 0, none⟩, 8, 8, XS) (Or.inl rfl)
                      have HP7 := Lib.hid (HP.out _ hsl)
                      have hgY : g ≠ Y := fun e => HB.out.2.2.2.1.not_row (by decide) HQ.out.out (by rw [← e]; rfl)
                      have hb7 := HB6.out.row (by omega) hgY hg7
                      obtain ⟨es3, hes3⟩ := named (es'.set J _)
                      rw [hes3.out] at hq7 HP7
                      dsimp only at hq7 hb7
                      have HQ7 := Lib.hid hq7
                      have HB7 := Lib.hid hb7
                      obtain ⟨_, _, _, _, cY7, fY7⟩ := hb7.cells
                      have hel3 : es3.length = M := by
                        have := HP7.out.2
                        rwa [tbOf_len] at this
                      clear hq7 hb7 hg7 hsl
                      go_wp2
                      go_loopw [] (fun wr => ∃ (M' : Nat), M' ≤ M ∧ Hid (trimN (tbOf es3) M = trimN (tbOf es3) M') ∧ Hid (BoxS X Y (.slice a len cap) (.slice none 0 0) (.slice (some ⟨g, 0, none⟩) M' c') #[.int .i64 k, .int .i64 s, .int .i64 n, .int .i64 z, .int .u32 m0] w wr) ∧ Hid (TabQ wr (X + 3) (some ⟨g, 0, none⟩) M' c' (es3.take M') (es3.take M'))) (fun wr => lenOf9 wr Y)
                      case atStart => exact ⟨M, Nat.le_refl _, rfl, HB7.out, by rw [List.take_of_length_le (by omega)]; exact HQ7.out⟩
                      case round =>
                        obtain ⟨M', hM', HTM, HBr, HQr⟩ := hrel
                        obtain ⟨p1, _, p2, p3, p4, p5⟩ := HBr.out.cells
                        have hl1 := lenOf9_is p4
                        have HFIN : Hid (trimN (tbOf es3) M' = tbOf (es3.take M') → TabN (World.setCell wr ⟨X + 2, 0, none⟩ (.slice (some ⟨g, 0, none⟩) M' c')) X (some ⟨g, 0, none⟩) M' c' (setT (tbOf ds) I (k, s, n, z, m0)) ∧ Below X w (World.setCell wr ⟨X + 2, 0, none⟩ (.slice (some ⟨g, 0, none⟩) M' c')) ∧ Blk (World.setCell wr ⟨X + 2, 0, none⟩ (.slice (some ⟨g, 0, none⟩) M' c')) (X + 2) 36 #[.slice (some ⟨g, 0, none⟩) M' c']) := fun ht => by
                          have hb8 := HBr.out.res (.slice (some ⟨g, 0, none⟩) M' c')
                          have hq8 := HQr.out.low (X := X + 2) (by omega) (grownBy_setCell4 wr (X + 2) 0 (.slice (some ⟨g, 0, none⟩) M' c'))
                          obtain ⟨c9, hc9⟩ := set_in9 hf (i := (I : Int)) (by omega)
                          obtain ⟨n1, n2⟩ := right_lens hc9
                          refine ⟨hq8.tabN (by rw [HP7.out.1, HTM.out, ht]) (by have := pad_len (tbOf ds) J; have := HMl.out; have := HLS.out.1; omega) (fun lf hlf => by have := n2 lf hlf; omega) (by omega), hb8.2.2.2.2.1, hb8.2.2.1⟩
                        by_cases hz : M' = 0
                        · subst hz
                          have HF := Lib.hid (HFIN.out (by simp [trimN, tbOf]))
                          clear HFIN
                          go_wp2
                          refine bodyPost_ret (v := .agg #[.slice (some ⟨g, 0, none⟩) 0 c']) (results_cell_row rfl _ _ (X + 2) 36 #[.slice (some ⟨g, 0, none⟩) 0 c'] (0, 0) _ rfl HF.out.2.2 Tryz.underlying36 rfl tbl_size) rfl ⟨_, 0, c', rfl, HF.out.1, HF.out.2.1⟩
                        · obtain ⟨P', rfl⟩ : ∃ P', M' = P' + 1 := ⟨M' - 1, by omega⟩
                          obtain ⟨g', d, e1, _, _, hdP, hcP, _⟩ := HQr.out.at P' (by omega)
                          cases e1
                          have hdE : es3[P']? = some d := by
                            rw [List.getElem?_take, if_pos (by omega)] at hdP
                            exact hdP
                          have htP : tbAt (tbOf es3) P' = d.2.2.2 := by
                            unfold tbAt tbOf
                            rw [List.getD_eq_getElem?_getD, List.getElem?_map, hdE]
                            rfl
                          have hdl := (HQr.out.leaf d (List.mem_of_getElem? hdP)).reads.len
                          obtain ⟨pl, plen, pc, pxs⟩ := d
                          dsimp only at hcP htP hdl
                          have e1 : wrap64 (((P' + 1 : Nat) : Int) - 1) = (P' : Int) := by unfold wrap64; omega
                          have e2 : wrap64 ((P' : Int) + 1 - 1) = (P' : Int) := by unfold wrap64; omega
                          have hP1 : P' < P' + 1 := by omega
                          by_cases hpl : plen = 0
                          · subst hpl
                            have HTN : Hid (trimN (tbOf es3) M = trimN (tbOf es3) P') := by
                              show _ = _
                              rw [HTM.out]
                              show (if tbAt (tbOf es3) P' = [] then trimN (tbOf es3) P' else _) = _
                              rw [if_pos (htP.trans (List.eq_nil_of_length_eq_zero hdl))]
                            have hfr : ∀ w' : World, (Instr.slice 34 (.slice (some ⟨g, 0, none⟩) (P' + 1) c') none (some (.int .i64 P')) none).run Tryz.prog w' = .ok (.slice (some ⟨g, 0, none⟩) P' c') w' := fun w' => slice_front9 (by have := HQr.out.caps.2; omega) w'
                            have hb8 := HBr.out.out (.slice (some ⟨g, 0, none⟩) P' c')
                            have hq8 := (HQr.out.take P' (by omega)).box HBr.out.2.2.2.1 (grownBy_setCell4 wr Y 0 (.slice (some ⟨g, 0, none⟩) P' c'))
                            rw [List.take_take, Nat.min_eq_left (by omega)] at hq8
                            have HB8 := Lib.hid hb8
                            have HQ8 := Lib.hid hq8
                            clear hb8 hq8 HFIN hdE htP hdP
                            go_wp2
                            go_roundw
                            case rel => exact ⟨P', by omega, HTN, HB8.out, HQ8.out⟩
                            case measure =>
                              have hl2 := lenOf9_is HB8.out.cells.2.2.2.2.1
                              rw [hl1, hl2]
                              omega
                          · have hpb : ((plen : Int) == 0) = false := by simp [hpl]
                            have HF := Lib.hid (HFIN.out (by
                              show (if tbAt (tbOf es3) P' = [] then trimN (tbOf es3) P' else (tbOf es3).take (P' + 1)) = _
                              rw [if_neg (fun e => hpl (by rw [htP] at e; rw [← hdl, e]; rfl))]
                              unfold tbOf
                              rw [List.map_take]))
                            clear HFIN hdE htP hdP
                            go_wp2
                            refine bodyPost_ret (v := .agg #[.slice (some ⟨g, 0, none⟩) (P' + 1) c']) (results_cell_row rfl _ _ (X + 2) 36 #[.slice (some ⟨g, 0, none⟩) (P' + 1) c'] (0, 0) _ rfl HF.out.2.2 Tryz.underlying36 rfl tbl_size) rfl ⟨_, P' + 1, c', rfl, HF.out.1, HF.out.2.1⟩
                    | false =>
                      have hsl : ((none, 0, 0, []) : LfD).2.2.2 = setL (tbAt (tbOf ds) J) R (k, s, n, z, m0) := by
                        show [] = _
                        unfold setL
                        rw [HFU.out, HXS.out, if_neg (fun h => by cases HBB.out.2 (HSL.out.1 h))]
                      obtain ⟨hq7, hg7⟩ := HQ6.out (none, 0, 0, []) (Or.inr rfl)
                      have HP7 := Lib.hid (HP.out _ hsl)
                      have hgY : g ≠ Y := fun e => HB.out.2.2.2.1.not_row (by decide) HQ.out.out (by rw [← e]; rfl)
                      have hb7 := HB6.out.row (by omega) hgY hg7
                      obtain ⟨es3, hes3⟩ := named (es'.set J _)
                      rw [hes3.out] at hq7 HP7
                      dsimp only at hq7 hb7
                      have HQ7 := Lib.hid hq7
                      have HB7 := Lib.hid hb7
                      obtain ⟨_, _, _, _, cY7, fY7⟩ := hb7.cells
                      have hel3 : es3.length = M := by
                        have := HP7.out.2
                        rwa [tbOf_len] at this
                      clear hq7 hb7 hg7 hsl
                      go_wp2
                      go_loopw [] (fun wr => ∃ (M' : Nat), M' ≤ M ∧ Hid (trimN (tbOf es3) M = trimN (tbOf es3) M') ∧ Hid (BoxS X Y (.slice a len cap) (.slice none 0 0) (.slice (some ⟨g, 0, none⟩) M' c') #[.int .i64 k, .int .i64 s, .int .i64 n, .int .i64 z, .int .u32 m0] w wr) ∧ Hid (TabQ wr (X + 3) (some ⟨g, 0, none⟩) M' c' (es3.take M') (es3.take M'))) (fun wr => lenOf9 wr Y)
                      case atStart => exact ⟨M, Nat.le_refl _, rfl, HB7.out, by rw [List.take_of_length_le (by omega)]; exact HQ7.out⟩
                      case round =>
                        obtain ⟨M', hM', HTM, HBr, HQr⟩ := hrel
                        obtain ⟨p1, _, p2, p3, p4, p5⟩ := HBr.out.cells
                        have hl1 := lenOf9_is p4
                        have HFIN : Hid (trimN (tbOf es3) M' = tbOf (es3.take M') → TabN (World.setCell wr ⟨X + 2, 0, none⟩ (.slice (some ⟨g, 0, none⟩) M' c')) X (some ⟨g, 0, none⟩) M' c' (setT (tbOf ds) I (k, s, n, z, m0)) ∧ Below X w (World.setCell wr ⟨X + 2, 0, none⟩ (.slice (some ⟨g, 0, none⟩) M' c')) ∧ Blk (World.setCell wr ⟨X + 2, 0, none⟩ (.slice (some ⟨g, 0, none⟩) M' c')) (X + 2) 36 #[.slice (some ⟨g, 0, none⟩) M' c']) := fun ht => by
                          have hb8 := HBr.out.res (.slice (some ⟨g, 0, none⟩) M' c')
                          have hq8 := HQr.out.low (X := X + 2) (by omega) (grownBy_setCell4 wr (X + 2) 0 (.slice (some ⟨g, 0, none⟩) M' c'))
                          obtain ⟨c9, hc9⟩ := set_in9 hf (i := (I : Int)) (by omega)
                          obtain ⟨n1, n2⟩ := right_lens hc9
                          refine ⟨hq8.tabN (by rw [HP7.out.1, HTM.out, ht]) (by have := pad_len (tbOf ds) J; have := HMl.out; have := HLS.out.1; omega) (fun lf hlf => by have := n2 lf hlf; omega) (by omega), hb8.2.2.2.2.1, hb8.2.2.1⟩
                        by_cases hz : M' = 0
                        · subst hz
                          have HF := Lib.hid (HFIN.out (by simp [trimN, tbOf]))
                          clear HFIN
                          go_wp2
                          refine bodyPost_ret (v := .agg #[.slice (some ⟨g, 0, none⟩) 0 c']) (results_cell_row rfl _ _ (X + 2) 36 #[.slice (some ⟨g, 0, none⟩) 0 c'] (0, 0) _ rfl HF.out.2.2 Tryz.underlying36 rfl tbl_size) rfl ⟨_, 0, c', rfl, HF.out.1, HF.out.2.1⟩
                        · obtain ⟨P', rfl⟩ : ∃ P', M' = P' + 1 := ⟨M' - 1, by omega⟩
                          obtain ⟨g', d, e1, _, _, hdP, hcP, _⟩ := HQr.out.at P' (by omega)
                          cases e1
                          have hdE : es3[P']? = some d := by
                            rw [List.getElem?_take, if_pos (by omega)] at hdP
                            exact hdP
                          have htP : tbAt (tbOf es3) P' = d.2.2.2 := by
                            unfold tbAt tbOf
                            rw [List.getD_eq_getElem?_getD, List.getElem?_map, hdE]
                            rfl
                          have hdl := (HQr.out.leaf d (List.mem_of_getElem? hdP)).reads.len
                          obtain ⟨pl, plen, pc, pxs⟩ := d
                          dsimp only at hcP htP hdl
                          have e1 : wrap64 (((P' + 1 : Nat) : Int) - 1) = (P' : Int) := by unfold wrap64; omega
                          have e2 : wrap64 ((P' : Int) + 1 - 1) = (P' : Int) := by unfold wrap64; omega
                          have hP1 : P' < P' + 1 := by omega
                          by_cases hpl : plen = 0
                          · subst hpl
                            have HTN : Hid (trimN (tbOf es3) M = trimN (tbOf es3) P') := by
                              show _ = _
                              rw [HTM.out]
                              show (if tbAt (tbOf es3) P' = [] then trimN (tbOf es3) P' else _) = _
                              rw [if_pos (htP.trans (List.eq_nil_of_length_eq_zero hdl))]
                            have hfr : ∀ w' : World, (Instr.slice 34 (.slice (some ⟨g, 0, none⟩) (P' + 1) c') none (some (.int .i64 P')) none).run Tryz.prog w' = .ok (.slice (some ⟨g, 0, none⟩) P' c') w' := fun w' => slice_front9 (by have := HQr.out.caps.2; omega) w'
                            have hb8 := HBr.out.out (.slice (some ⟨g, 0, none⟩) P' c')
                            have hq8 := (HQr.out.take P' (by omega)).box HBr.out.2.2.2.1 (grownBy_setCell4 wr Y 0 (.slice (some ⟨g, 0, none⟩) P' c'))
                            rw [List.take_take, Nat.min_eq_left (by omega)] at hq8
                            have HB8 := Lib.hid hb8
                            have HQ8 := Lib.hid hq8
                            clear hb8 hq8 HFIN hdE htP hdP
                            go_wp2
                            go_roundw
                            case rel => exact ⟨P', by omega, HTN, HB8.out, HQ8.out⟩
                            case measure =>
                              have hl2 := lenOf9_is HB8.out.cells.2.2.2.2.1
                              rw [hl1, hl2]
                              omega
                          · have hpb : ((plen : Int) == 0) = false := by simp [hpl]
                            have HF := Lib.hid (HFIN.out (by
                              show (if tbAt (tbOf es3) P' = [] then trimN (tbOf es3) P' else (tbOf es3).take (P' + 1)) = _
                              rw [if_neg (fun e => hpl (by rw [htP] at e; rw [← hdl, e]; rfl))]
                              unfold tbOf
                              rw [List.map_take]))
                            clear HFIN hdE htP hdP
                            go_wp2
                            refine bodyPost_ret (v := .agg #[.slice (some ⟨g, 0, none⟩) (P' + 1) c']) (results_cell_row rfl _ _ (X + 2) 36 #[.slice (some ⟨g, 0, none⟩) (P' + 1) c'] (0, 0) _ rfl HF.out.2.2 Tryz.underlying36 rfl tbl_size) rfl ⟨_, P' + 1, c', rfl, HF.out.1, HF.out.2.1⟩
              · have hfull : full (tbAt (tbOf ds) J) = xs := by
                  rw [htb]
                  unfold full
                  rw [if_neg (fun e => h0 (by rw [← hLl, e]; rfl))]
                have h8 : ll = 8 := by
                  rw [hfull] at hf8
                  omega
                subst h8
                obtain ⟨LB, hLB, hLB1, hLB2⟩ := hLO.form (by show 0 < 8; omega)
                dsimp only at hLB
                subst hLB
                have hb4 := HB.out
                have hq4 := HQ.out
                have hd4 := hd
                have hq6x := hq4.storeIn J _ hd4 rfl R hR8 (k, s, n, z, m0) HO.out
                obtain ⟨cur, k1, k2, k3, k4, k5⟩ := hq6x
                have hb6 := hb4.row k5 (fun e => by
                  have h9 := hb4.2.2.2.1
                  rw [← e] at h9
                  have := Eq.trans (Eq.symm h9) k1
                  simp at this) k4
                obtain ⟨t1, ⟨q0, q1, q2, q3, q4⟩, t2, t3, t4, t5⟩ := hb4.cells
                obtain ⟨XS, hXS⟩ := named (xs.set R (k, s, n, z, m0))
                rw [hXS.out] at k3
                have hXl : XS.length = 8 := by rw [← hXS.out, List.length_set, ← hfull]; exact hf8
                obtain ⟨w6, hw6⟩ := named (World.setRow _ LB (cur.toList.take (R * 5) ++ enV (k, s, n, z, m0) ++ cur.toList.drop (R * 5 + (enV (k, s, n, z, m0)).length)).toArray)
                rw [hw6.out] at k3 hb6
                have hd6 : (es'.set J (some ⟨LB, 0, none⟩, 8, cl, XS))[J]? = some (some ⟨LB, 0, none⟩, 8, cl, XS) := by
                  rw [List.getElem?_set, if_pos rfl, if_pos (List.getElem?_eq_some_iff.1 hd4).1]
                have HL6 := Lib.hid (k3.leaf _ (List.mem_of_getElem? hd6)).reads
                have HQ6 : Hid (∀ q3 : LfD, (q3 = (some ⟨LB, 0, none⟩, 8, cl, XS) ∨ q3 = (none, 0, 0, [])) → TabQ (w6.setCell ⟨g, J, none⟩ (.slice q3.1 q3.2.1 q3.2.2.1)) (X + 3) (some ⟨g, 0, none⟩) M c' (es'.set J q3) (es'.set J q3) ∧ w6.grownBy (w6.setCell ⟨g, J, none⟩ (.slice q3.1 q3.2.1 q3.2.2.1)) (some g)) := fun q3 h => by
                  rcases h with rfl | rfl
                  · have := k3.setOut g J rfl (some ⟨LB, 0, none⟩, 8, cl, XS)
                    exact this
                  · have := (k3.putEs J (none, 0, 0, []) (LfO.none _ _) (fun _ _ _ _ e => by cases e)).setOut g J rfl (none, 0, 0, [])
                    rwa [List.set_set] at this
                have HB6 := Lib.hid hb6
                have hs6 : someL XS ↔ ∃ k, k < 8 ∧ (lfAt XS k).1 ≠ 0 := Iff.rfl
                have HSL := Lib.hid hs6
                have HP : Hid (∀ q3 : LfD, q3.2.2.2 = setL (tbAt (tbOf ds) J) R (k, s, n, z, m0) → setT (tbOf ds) I (k, s, n, z, m0) = trimN (tbOf (es'.set J q3)) M ∧ (tbOf (es'.set J q3)).length = M) := fun q3 hq3 => by
                  have hp : tbOf (es'.set J q3) = putT (tbOf ds) I (k, s, n, z, m0) := by
                    rw [tb_set, hq3, HE3.out]
                    unfold putT
                    rw [hJ.out, hR.out]
                  have hpl : (putT (tbOf ds) I (k, s, n, z, m0)).length = M := by
                    rw [putT_len, hJ.out, HLS.out.1]
                    exact HM1.out.symm
                  rw [hp]
                  refine ⟨?_, hpl⟩
                  unfold setT
                  rw [if_pos ⟨by omega, hf⟩, Int.toNat_natCast]
                  unfold setN
                  rw [if_neg (fun h => hkz h.1), hpl]
                have HXS := Lib.hid hXS.out
                have HFU := Lib.hid hfull
                obtain ⟨cg, fg⟩ : w6.cell? ⟨g, J, none⟩ = some (.slice (some ⟨LB, 0, none⟩) 8 cl) ∧ w6.frozen? ⟨g, J, none⟩ = false := by
                  obtain ⟨g', d', e1, _, _, e2, e3, e4⟩ := k3.at J hJM
                  cases e1
                  obtain rfl := Option.some.inj (hd.symm.trans e2)
                  exact ⟨e3, e4⟩
                obtain ⟨_, _, _, _, cY, fY⟩ := hb6.cells
                clear hb6 k3 hq4 hb4 hd6 hs6 hLO hd
                go_wp2_with (refine wpList_store_in9 rfl (.tmp 63) (.tmp 62) rfl LB (R * 5) cur (enV (k, s, n, z, m0)).toArray (by rfl) (by rfl) k1 entry_size k2 (enV_one _) ?_; rw [hw6.out])
                go_loop [9, 10] (fun v i => ∃ (q : Nat) (B : Bool), q ≤ 8 ∧ v = .bool B ∧ i = .int .i64 q ∧ Hid (B = true ↔ ∃ k, k < q ∧ (lfAt XS k).1 ≠ 0)) (fun _ i => 8 - (intOf i).toNat)
                case atStart => exact ⟨0, false, by omega, rfl, rfl, ⟨fun e => (by cases e), fun ⟨k, hk, _⟩ => by omega⟩⟩
                case round =>
                  obtain ⟨q, B, hq8, rfl, rfl, HBB⟩ := hrel
                  by_cases hql : q < 8
                  · obtain ⟨b', off', e1, _, x1, _⟩ := HL6.out.at q hql
                    dsimp only at e1 x1
                    cases e1
                    rw [Nat.zero_add] at x1
                    cases B with
                    | true =>
                      have HB2 : Hid (true = true ↔ ∃ k, k < q + 1 ∧ (lfAt XS k).1 ≠ 0) := ⟨fun _ => by
                        obtain ⟨k, h1, h2⟩ := HBB.out.1 rfl
                        exact ⟨k, by omega, h2⟩, fun _ => rfl⟩
                      go_wp2
                      go_round
                      case rel => exact ⟨q + 1, true, by omega, rfl, by go_num, HB2⟩
                      case measure => simp [intOf]; omega
                    | false =>
                      by_cases hv : (lfAt XS q).1 = 0
                      · have HB2 : Hid (false = true ↔ ∃ k, k < q + 1 ∧ (lfAt XS k).1 ≠ 0) := ⟨fun e => (by cases e), fun ⟨k, h1, h2⟩ => by
                          by_cases e : k = q
                          · rw [e] at h2
                            exact absurd hv h2
                          · exact HBB.out.2 ⟨k, by omega, h2⟩⟩
                        rw [hv] at x1
                        go_wp2
                        go_round
                        case rel => exact ⟨q + 1, false, by omega, rfl, by go_num, HB2⟩
                        case measure => simp [intOf]; omega
                      · have HB2 : Hid (true = true ↔ ∃ k, k < q + 1 ∧ (lfAt XS k).1 ≠ 0) := ⟨fun _ => ⟨q, by omega, hv⟩, fun _ => rfl⟩
                        obtain ⟨v1, hv1⟩ := named (lfAt XS q).1
                        rw [hv1.out] at x1 hv
                        have hvb : (v1 != 0) = true := by simp [hv]
                        go_wp2
                        go_round
                        case rel => exact ⟨q + 1, true, by omega, rfl, by go_num, HB2⟩
                        case measure => simp [intOf]; omega
                  · have hq9 : q = 8 := by omega
                    subst hq9
                    cases B with
                    | true =>
                      have hsl : ((some ⟨LB, 0, none⟩, 8, cl, XS) : LfD).2.2.2 = setL (tbAt (tbOf ds) J) R (k, s, n, z, m0) := by
                        show XS = _
                        unfold setL
                        rw [HFU.out, HXS.out, if_pos (HSL.out.2 (HBB.out.1 rfl))]
                      obtain ⟨hq7, hg7⟩ := HQ6.out (some ⟨LB, 0, none⟩, 8, cl, XS) (Or.inl rfl)
                      have HP7 := Lib.hid (HP.out _ hsl)
                      have hgY : g ≠ Y := fun e => HB.out.2.2.2.1.not_row (by decide) HQ.out.out (by rw [← e]; rfl)
                      have hb7 := HB6.out.row (by omega) hgY hg7
                      obtain ⟨es3, hes3⟩ := named (es'.set J _)
                      rw [hes3.out] at hq7 HP7
                      dsimp only at hq7 hb7
                      have HQ7 := Lib.hid hq7
                      have HB7 := Lib.hid hb7
                      obtain ⟨_, _, _, _, cY7, fY7⟩ := hb7.cells
                      have hel3 : es3.length = M := by
                        have := HP7.out.2
                        rwa [tbOf_len] at this
                      clear hq7 hb7 hg7 hsl
                      go_wp2
                      go_loopw [] (fun wr => ∃ (M' : Nat), M' ≤ M ∧ Hid (trimN (tbOf es3) M = trimN (tbOf es3) M') ∧ Hid (BoxS X Y (.slice a len cap) (.slice none 0 0) (.slice (some ⟨g, 0, none⟩) M' c') #[.int .i64 k, .int .i64 s, .int .i64 n, .int .i64 z, .int .u32 m0] w wr) ∧ Hid (TabQ wr (X + 3) (some ⟨g, 0, none⟩) M' c' (es3.take M') (es3.take M'))) (fun wr => lenOf9 wr Y)
                      case atStart => exact ⟨M, Nat.le_refl _, rfl, HB7.out, by rw [List.take_of_length_le (by omega)]; exact HQ7.out⟩
                      case round =>
                        obtain ⟨M', hM', HTM, HBr, HQr⟩ := hrel
                        obtain ⟨p1, _, p2, p3, p4, p5⟩ := HBr.out.cells
                        have hl1 := lenOf9_is p4
                        have HFIN : Hid (trimN (tbOf es3) M' = tbOf (es3.take M') → TabN (World.setCell wr ⟨X + 2, 0, none⟩ (.slice (some ⟨g, 0, none⟩) M' c')) X (some ⟨g, 0, none⟩) M' c' (setT (tbOf ds) I (k, s, n, z, m0)) ∧ Below X w (World.setCell wr ⟨X + 2, 0, none⟩ (.slice (some ⟨g, 0, none⟩) M' c')) ∧ Blk (World.setCell wr ⟨X + 2, 0, none⟩ (.slice (some ⟨g, 0, none⟩) M' c')) (X + 2) 36 #[.slice (some ⟨g, 0, none⟩) M' c']) := fun ht => by
                          have hb8 := HBr.out.res (.slice (some ⟨g, 0, none⟩) M' c')
                          have hq8 := HQr.out.low (X := X + 2) (by omega) (grownBy_setCell4 wr (X + 2) 0 (.slice (some ⟨g, 0, none⟩) M' c'))
                          obtain ⟨c9, hc9⟩ := set_in9 hf (i := (I : Int)) (by omega)
                          obtain ⟨n1, n2⟩ := right_lens hc9
                          refine ⟨hq8.tabN (by rw [HP7.out.1, HTM.out, ht]) (by have := pad_len (tbOf ds) J; have := HMl.out; have := HLS.out.1; omega) (fun lf hlf => by have := n2 lf hlf; omega) (by omega), hb8.2.2.2.2.1, hb8.2.2.1⟩
                        by_cases hz : M' = 0
                        · subst hz
                          have HF := Lib.hid (HFIN.out (by simp [trimN, tbOf]))
                          clear HFIN
                          go_wp2
                          refine bodyPost_ret (v := .agg #[.slice (some ⟨g, 0, none⟩) 0 c']) (results_cell_row rfl _ _ (X + 2) 36 #[.slice (some ⟨g, 0, none⟩) 0 c'] (0, 0) _ rfl HF.out.2.2 Tryz.underlying36 rfl tbl_size) rfl ⟨_, 0, c', rfl, HF.out.1, HF.out.2.1⟩
                        · obtain ⟨P', rfl⟩ : ∃ P', M' = P' + 1 := ⟨M' - 1, by omega⟩
                          obtain ⟨g', d, e1, _, _, hdP, hcP, _⟩ := HQr.out.at P' (by omega)
                          cases e1
                          have hdE : es3[P']? = some d := by
                            rw [List.getElem?_take, if_pos (by omega)] at hdP
                            exact hdP
                          have htP : tbAt (tbOf es3) P' = d.2.2.2 := by
                            unfold tbAt tbOf
                            rw [List.getD_eq_getElem?_getD, List.getElem?_map, hdE]
                            rfl
                          have hdl := (HQr.out.leaf d (List.mem_of_getElem? hdP)).reads.len
                          obtain ⟨pl, plen, pc, pxs⟩ := d
                          dsimp only at hcP htP hdl
                          have e1 : wrap64 (((P' + 1 : Nat) : Int) - 1) = (P' : Int) := by unfold wrap64; omega
                          have e2 : wrap64 ((P' : Int) + 1 - 1) = (P' : Int) := by unfold wrap64; omega
                          have hP1 : P' < P' + 1 := by omega
                          by_cases hpl : plen = 0
                          · subst hpl
                            have HTN : Hid (trimN (tbOf es3) M = trimN (tbOf es3) P') := by
                              show _ = _
                              rw [HTM.out]
                              show (if tbAt (tbOf es3) P' = [] then trimN (tbOf es3) P' else _) = _
                              rw [if_pos (htP.trans (List.eq_nil_of_length_eq_zero hdl))]
                            have hfr : ∀ w' : World, (Instr.slice 34 (.slice (some ⟨g, 0, none⟩) (P' + 1) c') none (some (.int .i64 P')) none).run Tryz.prog w' = .ok (.slice (some ⟨g, 0, none⟩) P' c') w' := fun w' => slice_front9 (by have := HQr.out.caps.2; omega) w'
                            have hb8 := HBr.out.out (.slice (some ⟨g, 0, none⟩) P' c')
                            have hq8 := (HQr.out.take P' (by omega)).box HBr.out.2.2.2.1 (grownBy_setCell4 wr Y 0 (.slice (some ⟨g, 0, none⟩) P' c'))
                            rw [List.take_take, Nat.min_eq_left (by omega)] at hq8
                            have HB8 := Lib.hid hb8
                            have HQ8 := Lib.hid hq8
                            clear hb8 hq8 HFIN hdE htP hdP
                            go_wp2
                            go_roundw
                            case rel => exact ⟨P', by omega, HTN, HB8.out, HQ8.out⟩
                            case measure =>
                              have hl2 := lenOf9_is HB8.out.cells.2.2.2.2.1
                              rw [hl1, hl2]
                              omega
                          · have hpb : ((plen : Int) == 0) = false := by simp [hpl]
                            have HF := Lib.hid (HFIN.out (by
                              show (if tbAt (tbOf es3) P' = [] then trimN (tbOf es3) P' else (tbOf es3).take (P' + 1)) = _
                              rw [if_neg (fun e => hpl (by rw [htP] at e; rw [← hdl, e]; rfl))]
                              unfold tbOf
                              rw [List.map_take]))
                            clear HFIN hdE htP hdP
                            go_wp2
                            refine bodyPost_ret (v := .agg #[.slice (some ⟨g, 0, none⟩) (P' + 1) c']) (results_cell_row rfl _ _ (X + 2) 36 #[.slice (some ⟨g, 0, none⟩) (P' + 1) c'] (0, 0) _ rfl HF.out.2.2 Tryz.underlying36 rfl tbl_size) rfl ⟨_, P' + 1, c', rfl, HF.out.1, HF.out.2.1⟩
                    | false =>
                      have hsl : ((none, 0, 0, []) : LfD).2.2.2 = setL (tbAt (tbOf ds) J) R (k, s, n, z, m0) := by
                        show [] = _
                        unfold setL
                        rw [HFU.out, HXS.out, if_neg (fun h => by cases HBB.out.2 (HSL.out.1 h))]
                      obtain ⟨hq7, hg7⟩ := HQ6.out (none, 0, 0, []) (Or.inr rfl)
                      have HP7 := Lib.hid (HP.out _ hsl)
                      have hgY : g ≠ Y := fun e => HB.out.2.2.2.1.not_row (by decide) HQ.out.out (by rw [← e]; rfl)
                      have hb7 := HB6.out.row (by omega) hgY hg7
                      obtain ⟨es3, hes3⟩ := named (es'.set J _)
                      rw [hes3.out] at hq7 HP7
                      dsimp only at hq7 hb7
                      have HQ7 := Lib.hid hq7
                      have HB7 := Lib.hid hb7
                      obtain ⟨_, _, _, _, cY7, fY7⟩ := hb7.cells
                      have hel3 : es3.length = M := by
                        have := HP7.out.2
                        rwa [tbOf_len] at this
                      clear hq7 hb7 hg7 hsl
                      go_wp2
                      go_loopw [] (fun wr => ∃ (M' : Nat), M' ≤ M ∧ Hid (trimN (tbOf es3) M = trimN (tbOf es3) M') ∧ Hid (BoxS X Y (.slice a len cap) (.slice none 0 0) (.slice (some ⟨g, 0, none⟩) M' c') #[.int .i64 k, .int .i64 s, .int .i64 n, .int .i64 z, .int .u32 m0] w wr) ∧ Hid (TabQ wr (X + 3) (some ⟨g, 0, none⟩) M' c' (es3.take M') (es3.take M'))) (fun wr => lenOf9 wr Y)
                      case atStart => exact ⟨M, Nat.le_refl _, rfl, HB7.out, by rw [List.take_of_length_le (by omega)]; exact HQ7.out⟩
                      case round =>
                        obtain ⟨M', hM', HTM, HBr, HQr⟩ := hrel
                        obtain ⟨p1, _, p2, p3, p4, p5⟩ := HBr.out.cells
                        have hl1 := lenOf9_is p4
                        have HFIN : Hid (trimN (tbOf es3) M' = tbOf (es3.take M') → TabN (World.setCell wr ⟨X + 2, 0, none⟩ (.slice (some ⟨g, 0, none⟩) M' c')) X (some ⟨g, 0, none⟩) M' c' (setT (tbOf ds) I (k, s, n, z, m0)) ∧ Below X w (World.setCell wr ⟨X + 2, 0, none⟩ (.slice (some ⟨g, 0, none⟩) M' c')) ∧ Blk (World.setCell wr ⟨X + 2, 0, none⟩ (.slice (some ⟨g, 0, none⟩) M' c')) (X + 2) 36 #[.slice (some ⟨g, 0, none⟩) M' c']) := fun ht => by
                          have hb8 := HBr.out.res (.slice (some ⟨g, 0, none⟩) M' c')
                          have hq8 := HQr.out.low (X := X + 2) (by omega) (grownBy_setCell4 wr (X + 2) 0 (.slice (some ⟨g, 0, none⟩) M' c'))
                          obtain ⟨c9, hc9⟩ := set_in9 hf (i := (I : Int)) (by omega)
                          obtain ⟨n1, n2⟩ := right_lens hc9
                          refine ⟨hq8.tabN (by rw [HP7.out.1, HTM.out, ht]) (by have := pad_len (tbOf ds) J; have := HMl.out; have := HLS.out.1; omega) (fun lf hlf => by have := n2 lf hlf; omega) (by omega), hb8.2.2.2.2.1, hb8.2.2.1⟩
                        by_cases hz : M' = 0
                        · subst hz
                          have HF := Lib.hid (HFIN.out (by simp [trimN, tbOf]))
                          clear HFIN
                          go_wp2
                          refine bodyPost_ret (v := .agg #[.slice (some ⟨g, 0, none⟩) 0 c']) (results_cell_row rfl _ _ (X + 2) 36 #[.slice (some ⟨g, 0, none⟩) 0 c'] (0, 0) _ rfl HF.out.2.2 Tryz.underlying36 rfl tbl_size) rfl ⟨_, 0, c', rfl, HF.out.1, HF.out.2.1⟩
                        · obtain ⟨P', rfl⟩ : ∃ P', M' = P' + 1 := ⟨M' - 1, by omega⟩
                          obtain ⟨g', d, e1, _, _, hdP, hcP, _⟩ := HQr.out.at P' (by omega)
                          cases e1
                          have hdE : es3[P']? = some d := by
                            rw [List.getElem?_take, if_pos (by omega)] at hdP
                            exact hdP
                          have htP : tbAt (tbOf es3) P' = d.2.2.2 := by
                            unfold tbAt tbOf
                            rw [List.getD_eq_getElem?_getD, List.getElem?_map, hdE]
                            rfl
                          have hdl := (HQr.out.leaf d (List.mem_of_getElem? hdP)).reads.len
                          obtain ⟨pl, plen, pc, pxs⟩ := d
                          dsimp only at hcP htP hdl
                          have e1 : wrap64 (((P' + 1 : Nat) : Int) - 1) = (P' : Int) := by unfold wrap64; omega
                          have e2 : wrap64 ((P' : Int) + 1 - 1) = (P' : Int) := by unfold wrap64; omega
                          have hP1 : P' < P' + 1 := by omega
                          by_cases hpl : plen = 0
                          · subst hpl
                            have HTN : Hid (trimN (tbOf es3) M = trimN (tbOf es3) P') := by
                              show _ = _
                              rw [HTM.out]
                              show (if tbAt (tbOf es3) P' = [] then trimN (tbOf es3) P' else _) = _
                              rw [if_pos (htP.trans (List.eq_nil_of_length_eq_zero hdl))]
                            have hfr : ∀ w' : World, (Instr.slice 34 (.slice (some ⟨g, 0, none⟩) (P' + 1) c') none (some (.int .i64 P')) none).run Tryz.prog w' = .ok (.slice (some ⟨g, 0, none⟩) P' c') w' := fun w' => slice_front9 (by have := HQr.out.caps.2; omega) w'
                            have hb8 := HBr.out.out (.slice (some ⟨g, 0, none⟩) P' c')
                            have hq8 := (HQr.out.take P' (by omega)).box HBr.out.2.2.2.1 (grownBy_setCell4 wr Y 0 (.slice (some ⟨g, 0, none⟩) P' c'))
                            rw [List.take_take, Nat.min_eq_left (by omega)] at hq8
                            have HB8 := Lib.hid hb8
                            have HQ8 := Lib.hid hq8
                            clear hb8 hq8 HFIN hdE htP hdP
                            go_wp2
                            go_roundw
                            case rel => exact ⟨P', by omega, HTN, HB8.out, HQ8.out⟩
                            case measure =>
                              have hl2 := lenOf9_is HB8.out.cells.2.2.2.2.1
                              rw [hl1, hl2]
                              omega
                          · have hpb : ((plen : Int) == 0) = false := by simp [hpl]
                            have HF := Lib.hid (HFIN.out (by
                              show (if tbAt (tbOf es3) P' = [] then trimN (tbOf es3) P' else (tbOf es3).take (P' + 1)) = _
                              rw [if_neg (fun e => hpl (by rw [htP] at e; rw [← hdl, e]; rfl))]
                              unfold tbOf
                              rw [List.map_take]))
                            clear HFIN hdE htP hdP
                            go_wp2
                            refine bodyPost_ret (v := .agg #[.slice (some ⟨g, 0, none⟩) (P' + 1) c']) (results_cell_row rfl _ _ (X + 2) 36 #[.slice (some ⟨g, 0, none⟩) (P' + 1) c'] (0, 0) _ rfl HF.out.2.2 Tryz.underlying36 rfl tbl_size) rfl ⟨_, P' + 1, c', rfl, HF.out.1, HF.out.2.1⟩
    · have HM := Lib.hid (fun w h => fitsC (a := a) (len := len) (cap := cap) ho (decide_eq_false hf) w h)
      rw [setT_out (fun h => hf h.2)]
      clear hT ho hf
      go_enter Tryz.func25, Tryz.ntmps25
      go_wp2_with (first
        | (go_at_call 36; refine (HCP.out _ HG0.out).mono ?_; rintro e w1 ⟨a1, c1, es, rfl, g1, g2, g3⟩; have hb1 := HFB.out w1 a1 c1 g3; rw [HSZ.out] at g2; have HQ1 := Lib.hid (g2.alloc (.cells #[.slice a1 len c1] 36)); have HE1 := Lib.hid g1; have HB1 := Lib.hid hb1; have HT1 := Lib.hid (HTR.out.later (hX.out.symm ▸ hb1.2.2.2.2.1)); obtain ⟨b1, ⟨y0, y1, y2, y3, y4⟩, _, _, _, _⟩ := hb1.cells; clear g1 g2 g3 hb1)
        | (go_at_call 54; (with_reducible refine (HM.out _ HT1.out).mono ?_); rintro e w3 ⟨rfl, g⟩; have HB3 := Lib.hid ((HB1.out.later g).res (.slice a1 len c1)); have HQ3 := Lib.hid ((HQ1.out.later g).low (X := X + 2) (by omega) (grownBy_setCell4 w3 (X + 2) 0 (.slice a1 len c1))); obtain ⟨d1, ⟨z0, z1, z2, z3, z4⟩, d2, d3, d4, d5⟩ := (HB1.out.later g).cells; clear g))
      refine bodyPost_ret (v := .agg #[.slice a1 len c1]) (results_cell_row rfl _ _ (X + 2) 36 #[.slice a1 len c1] (0, 0) _ rfl HB3.out.2.2.1 Tryz.underlying36 rfl tbl_size) rfl ⟨a1, len, c1, rfl, HQ3.out.tabN HE1.out HLS.out.2.1 HLS.out.2.2.1 (by omega), HB3.out.2.2.2.2.1⟩
  · rw [setT_out (fun h => hw h.1)]
    have hcs : i < 0 ∨ (0 ≤ i ∧ 4096 ≤ i) := by omega
    clear hT ho hw
    rcases hcs with h1 | ⟨h1, h2⟩
    all_goals
      go_enter Tryz.func25, Tryz.ntmps25
      go_wp2_with (go_at_call 36; refine (HCP.out _ HG0.out).mono ?_; rintro e w1 ⟨a1, c1, es, rfl, g1, g2, g3⟩; have hb1 := HFB.out w1 a1 c1 g3; rw [HSZ.out] at g2; have HQ3 := Lib.hid ((g2.alloc (.cells #[.slice a1 len c1] 36)).low (X := X + 2) (by omega) (grownBy_setCell4 (w1.alloc (.cells #[.slice a1 len c1] 36)) (X + 2) 0 (.slice a1 len c1))); have HE1 := Lib.hid g1; have HB3 := Lib.hid (hb1.res (.slice a1 len c1)); obtain ⟨_, _, d2, d3, d4, _⟩ := hb1.cells; clear g1 g2 g3 hb1)
      refine bodyPost_ret (v := .agg #[.slice a1 len c1]) (results_cell_row rfl _ _ (X + 2) 36 #[.slice a1 len c1] (0, 0) _ rfl HB3.out.2.2.1 Tryz.underlying36 rfl tbl_size) rfl ⟨a1, len, c1, rfl, HQ3.out.tabN HE1.out HLS.out.2.1 HLS.out.2.2.1 (by omega), HB3.out.2.2.2.2.1⟩
end Go.Proofs.YtlljcdmblmkblaaGreat
