/-
  What the method write of a file does (package disk). Conditions: none but short files.
-/
import Derived.Test.YtnhaidofblfopaaD5
namespace Go.Proofs.Ytnhaidofblfopaa
open Go.RowKit

theorem list18 : ∀ CS : Array Value, CS.size = 18 → ∃ a b c d e f g h i j k l m n o p q r, CS = #[a, b, c, d, e, f, g, h, i, j, k, l, m, n, o, p, q, r]
  | ⟨[a, b, c, d, e, f, g, h, i, j, k, l, m, n, o, p, q, r]⟩, _ => ⟨a, b, c, d, e, f, g, h, i, j, k, l, m, n, o, p, q, r, rfl⟩
theorem fold18 (CS : Array Value) (h : CS.size = 18) : Array.foldl (fun (cs : Array Value) (x : Value × Nat) => cs.setIfInBounds x.snd x.fst) #[.int .u64 0, .int .i64 0, .int .u8 0, .int .u8 0, .int .u8 0, .int .u8 0, .int .u8 0, .int .u8 0, .int .u8 0, .int .u8 0, .int .u8 0, .int .u8 0, .int .u8 0, .int .u8 0, .int .u8 0, .int .u8 0, .int .u8 0, .int .u8 0] CS.zipIdx 0 18 = CS := by
  obtain ⟨a, b, c, d, e, f, g, h, i, j, k, l, m, n, o, p, q, r, rfl⟩ := list18 CS h
  kernel_rfl
set_option maxRecDepth 1000000 in
/-- write. -/
theorem fwrite_any {w : World} {f : FR} {vn vd vw : Value} (h : FileIn w f vn vd vw) (r : Nat × Nat × Sec) (hi : r.2.1 < 65536) (hx : SecOk r.2.2) (hn : r.1 ≤ 2000000) (hwl : f.wr.length < 2000000) :
    Calls Try.prog 50 #[.pointer (some ⟨f.G, 0, none⟩), .agg (recV r).toArray] w fun e w' => e = .returned (.tuple #[]) ∧ ∃ S', FileAt w' ⟨f.name, f.G, S', putS f.now r.2.1 r.2.2, f.dur, f.wr ++ [r]⟩ ∧ Away f.S w S' w' := by
  have c2 : w.cell? ⟨f.G, 1, none⟩ = some vn := by rw [h.blk.cell]; rfl
  have HB := Lib.hid h.blk
  have HN := Lib.hid h.now
  have HWR := Lib.hid h.wr
  have HOk := Lib.hid h.ok
  obtain ⟨CS, hCS⟩ := named (recV r).toArray
  rw [hCS.out]
  obtain ⟨G, hG⟩ := named f.G
  rw [hG.out] at c2 HB ⊢
  obtain ⟨R, hR⟩ := named w.heap.size
  have hGR : G < R := by rw [← hR.out]; exact HB.out.lt
  have H := Lib.hid h
  clear h
  go_enter Try.func50, Try.ntmps50
  go_wp2_with fail
  rw [hR.out]
  have hRB : Blk (w.alloc (.cells CS 77)) R 77 CS := by rw [← hR.out]; exact Blk.new w _ CS
  obtain ⟨W, hW⟩ := named (w.alloc (.cells CS 77))
  rw [hW.out] at hRB ⊢
  have HCSL : Hid (CS.size = 18) := by rw [Hid, ← hCS.out]; simp [recV_len]
  have hRX : Blk W.drew R 77 CS := hRB
  have hWX : Below w.heap.size w W.drew := by rw [← hW.out]; exact ((Below.refl _ w).alloc (Nat.le_refl _) _).drew
  have HWX := Lib.hid hWX
  have HRX := Lib.hid hRX
  have hGd : vn.ownBlock ≠ some G := fun e => HB.out.not_own (by decide) HN.out e
  have hRd : vn.ownBlock ≠ some R := fun e => by have := HN.out.lt e; have := hR.out; omega
  have hRG : R ≠ G := by omega
  have c2' : W.drew.cell? ⟨G, 1, none⟩ = some vn := by rw [(HB.out.later HWX.out).cell]; rfl
  clear c2 hRB hRX
  refine wp_region_held_drew (S := fun w' => Blk w' R 77 CS ∧ ∃ u, Blk w' G 65 #[.string f.name, u, vd, vw]) (by kernel_rfl) (by first | exact ⟨HRX.out, vn, HB.out.later HWX.out⟩ | exact ⟨HR2.out, vn, HB2.out⟩ | exact ⟨HR2.out.other hRG _, _, HB2.out.set 1 _⟩) (fun hHeld => ?_)
  refine wpAnyH_take (i := 0) (oi := _) (v := ?vk0) rfl (by kernel_rfl) (by kernel_rfl) (by kernel_rfl) (fun _ _ _ h => h) (Or.inl ⟨by rfl, ?hyk0⟩) (by assumption) ?restk0
  case hyk0 => (intro wz hSw; (try dsimp only at hSw); go_simp; try with_reducible rfl)
  (try simp only [List.getElem_toArray, List.getElem_cons_zero, Act.put, List.setIfInBounds_toArray, List.set_cons_zero, List.set_cons_succ])
  refine wpAnyH_take (i := 1) (oi := _) (v := ?vk1) rfl (by kernel_rfl) (by kernel_rfl) (by kernel_rfl) (fun _ _ _ h => h) (Or.inl ⟨by rfl, ?hyk1⟩) (by assumption) ?restk1
  case hyk1 => (intro wz hSw; (try dsimp only at hSw); go_simp; try with_reducible rfl)
  (try simp only [List.getElem_toArray, List.getElem_cons_zero, List.getElem_cons_succ, Act.put, List.setIfInBounds_toArray, List.set_cons_zero, List.set_cons_succ])
  refine wpAnyH_take (i := 2) (oi := _) (v := ?vk2) rfl (by kernel_rfl) (by kernel_rfl) (by kernel_rfl) (fun _ _ _ h => h) (Or.inl ⟨by rfl, ?hyk2⟩) (by assumption) ?restk2
  case hyk2 => (intro wz hSw; (try dsimp only at hSw); go_simp; try with_reducible rfl)
  (try simp only [List.getElem_toArray, List.getElem_cons_zero, List.getElem_cons_succ, Act.put, List.setIfInBounds_toArray, List.set_cons_zero, List.set_cons_succ])
  refine wpAnyH_take (i := 3) (oi := _) (v := ?vk3) rfl (by kernel_rfl) (by kernel_rfl) (by kernel_rfl) (fun _ _ _ h => h) (Or.inl ⟨by rfl, ?hyk3⟩) (by assumption) ?restk3
  case hyk3 => (intro wz hSw; (try dsimp only at hSw); go_simp; try with_reducible rfl)
  (try simp only [List.getElem_toArray, List.getElem_cons_zero, List.getElem_cons_succ, Act.put, List.setIfInBounds_toArray, List.set_cons_zero, List.set_cons_succ])
  refine wpAnyH_take (i := 5) (oi := _) (v := .agg CS) rfl (by kernel_rfl) (by kernel_rfl) (by kernel_rfl) (fun _ _ _ h => h) (Or.inl ⟨by rfl, fun wz hSw => exec_load 77 (.tmp 3) rfl rfl (run_loadVar_blk hSw.1 HCSL.out)⟩) (by assumption) ?_
  (try simp only [List.getElem_toArray, List.getElem_cons_zero, List.getElem_cons_succ, Act.put, List.setIfInBounds_toArray, List.set_cons_zero, List.set_cons_succ])
  refine wpAnyH_ready (rs := [4]) (by kernel_rfl) (by simp) ?_
  refine AllReadyH.cons (o := _) rfl (fun K hK => ?_) AllReadyH.nil
  rw [if_pos (by rfl)]
  go_simp
  refine hK.out _ _ (by first | exact ⟨HRX.out, vn, HB.out.later HWX.out⟩ | exact ⟨HR2.out, vn, HB2.out⟩ | exact ⟨HR2.out.other hRG _, _, HB2.out.set 1 _⟩) (fun hHeld => ?_)
  clear hK K
  (try simp only [List.getElem_toArray, List.getElem_cons_zero, List.getElem_cons_succ, Act.put, List.setIfInBounds_toArray, List.set_cons_zero, List.set_cons_succ])
  refine wpAnyH_ready (rs := [6]) (by kernel_rfl) (by simp) ?_
  refine AllReadyH.cons (o := _) rfl (fun K hK => ?_) AllReadyH.nil
  rw [if_pos (by rfl)]
  go_simp
  (go_at_call 57; rw [← hCS.out]; refine (put_any _ _ f.now HOk.out.now16 HOk.out.now (HN.out.belowL' HWX.out) r hi hx).mono ?_; rintro e w2 ⟨v2, rfl, h1, h2, h3⟩; obtain ⟨a2, n2, rfl, _, _⟩ := h1.shape; have hB2 := (HB.out.later HWX.out).kept h2 (fun e => hGd e.symm); have hR2 := HRX.out.kept h2 (fun e => hRd e.symm); have q2 : w2.cell? ⟨G, 1, none⟩ = some vn := (by rw [hB2.cell]; rfl); have q3 := hB2.free 1; have HR2 := Lib.hid hR2; have HB2 := Lib.hid hB2; have H1 := Lib.hid h1; have H2 := Lib.hid h2; have H3 := Lib.hid h3; clear hB2 h1 h2 h3 hR2)
  dsimp only
  refine hK.out _ _ (by first | exact ⟨HRX.out, vn, HB.out.later HWX.out⟩ | exact ⟨HR2.out, vn, HB2.out⟩ | exact ⟨HR2.out.other hRG _, _, HB2.out.set 1 _⟩) (fun hHeld => ?_)
  clear hK K
  (try simp only [List.getElem_toArray, List.getElem_cons_zero, List.getElem_cons_succ, Act.put, List.setIfInBounds_toArray, List.set_cons_zero, List.set_cons_succ])
  refine wpAnyH_take (i := 7) (oi := _) (v := ?vk7) rfl (by kernel_rfl) (by kernel_rfl) (by kernel_rfl) (fun _ _ _ h => h) (Or.inl ⟨by rfl, ?hyk7⟩) (by assumption) ?restk7
  case hyk7 => (intro wz hSw; (try dsimp only at hSw); go_simp; try with_reducible rfl)
  (try simp only [List.getElem_toArray, List.getElem_cons_zero, List.getElem_cons_succ, Act.put, List.setIfInBounds_toArray, List.set_cons_zero, List.set_cons_succ])
  refine wpAnyH_take (i := 8) (oi := _) (v := ?vk8) rfl (by kernel_rfl) (by kernel_rfl) (by kernel_rfl) (fun _ _ _ h => h) (Or.inl ⟨by rfl, ?hyk8⟩) (by assumption) ?restk8
  case hyk8 => (intro wz hSw; (try dsimp only at hSw); go_simp; try with_reducible rfl)
  (try simp only [List.getElem_toArray, List.getElem_cons_zero, List.getElem_cons_succ, Act.put, List.setIfInBounds_toArray, List.set_cons_zero, List.set_cons_succ])
  refine wpAnyH_ready (rs := [9]) (by kernel_rfl) (by simp) ?_
  refine AllReadyH.cons (o := _) rfl (fun K hK => ?_) AllReadyH.nil
  rw [if_pos (by rfl)]
  go_simp
  refine hK.out _ _ (by first | exact ⟨HRX.out, vn, HB.out.later HWX.out⟩ | exact ⟨HR2.out, vn, HB2.out⟩ | exact ⟨HR2.out.other hRG _, _, HB2.out.set 1 _⟩) (fun hHeld => ?_)
  clear hK K
  (try simp only [List.getElem_toArray, List.getElem_cons_zero, List.getElem_cons_succ, Act.put, List.setIfInBounds_toArray, List.set_cons_zero, List.set_cons_succ])
  refine wpAnyH_done (by kernel_rfl) ?_ _
  obtain ⟨v2, hv2⟩ := named (Value.slice a2 (16 * (putS f.now r.2.1 r.2.2).length) n2)
  have h1 := H1.out
  have h3 := H3.out
  rw [hv2.out] at h1 h3 ⊢
  have hG2 : v2.ownBlock ≠ some G := HB2.out.not_own (by decide) h1
  have hB3 : Blk (w2.setCell ⟨G, 1, none⟩ v2) G 65 #[.string f.name, v2, vd, vw] := HB2.out.set 1 v2
  have hR3 : Blk (w2.setCell ⟨G, 1, none⟩ v2) R 77 CS := HR2.out.other hRG _
  have hw3 : ∀ k, k < w.heap.size → k ≠ G → vn.ownBlock ≠ some k → (w2.setCell ⟨G, 1, none⟩ v2).heap[k]? = w.heap[k]? := fun k hk h4 h5 =>
    (Below.heap_setCell w2 ⟨G, 1, none⟩ v2 k h4).trans ((H2.out.block k (Nat.lt_of_lt_of_le hk hWX.size) (fun e => h5 e.symm)).trans (hWX.block k hk))
  have hA3 : Away f.S w f.S (w2.setCell ⟨G, 1, none⟩ v2) := (((Away.refl f.S w).later hWX).grown H2.out fun k e => Or.inl (H.out.sN e)).set (hG.out ▸ H.out.sG) 1 v2
  have hO3 : Own (w2.setCell ⟨G, 1, none⟩ v2) 0 v2 (16 * (putS f.now r.2.1 r.2.2).length) (putS f.now r.2.1 r.2.2).flatten := h1.frame fun k hk => Below.heap_setCell w2 ⟨G, 1, none⟩ v2 k (fun e => hG2 (hk.trans (congrArg some e)))
  have hz3 : w.heap.size ≤ (w2.setCell ⟨G, 1, none⟩ v2).heap.size := hA3.size
  clear hHeld q2 q3 HR2 HB2 H1 H2 H3
  obtain ⟨W3, hW3⟩ := named (w2.setCell ⟨G, 1, none⟩ v2)
  rw [hW3.out] at hB3 hR3 hw3 hA3 hO3 hz3 ⊢
  have hGw : vw.ownBlock ≠ some G := fun e => HB.out.not_row (by decide) HWR.out e.symm
  have hRw : vw.ownBlock ≠ some R := fun e => by have := (HWR.out.1.lt R e).2; have := hR.out; omega
  have HW3 : Hid (OwnG recV 77 18 W3 0 vw f.wr.length f.wr) := Lib.hid (HWR.out.frame fun k hk => hw3 k (HWR.out.1.lt k hk).2 (fun e => hGw (hk.trans (congrArg some e))) (fun e => HWR.out.not_own (by decide) HN.out e hk))
  have hE : CS.toList = recV r := by rw [← hCS.out]
  have HL4 : Hid (Reads recV (W3.drew.alloc (.cells CS 77)) (some ⟨W3.heap.size, 0, none⟩) 1 [r]) := Lib.hid (one_reads W3.drew r CS 77 hE)
  have HW4 : Hid (OwnG recV 77 18 (W3.drew.alloc (.cells CS 77)) 0 vw f.wr.length f.wr) := Lib.hid (HW3.out.drew.alloc _)
  have HR3 : Hid (Blk W3.drew R 77 CS) := Lib.hid hR3
  have HB3 : Hid (Blk W3.drew G 65 #[.string f.name, v2, vd, vw]) := Lib.hid hB3
  have HR4 : Hid (Blk (W3.drew.alloc (.cells CS 77)) R 77 CS) := Lib.hid (HR3.out.alloc _)
  have HB4 : Hid (Blk (W3.drew.alloc (.cells CS 77)) G 65 #[.string f.name, v2, vd, vw]) := Lib.hid (HB3.out.alloc _)
  have c3 : W3.drew.cell? ⟨G, 3, none⟩ = some vw := by rw [HB3.out.cell]; rfl
  have c4 : (W3.drew.alloc (.cells CS 77)).cell? ⟨G, 3, none⟩ = some vw := by rw [HB4.out.cell]; rfl
  have c5 : (W3.alloc (.cells CS 77)).cell? ⟨G, 3, none⟩ = some vw := c4
  have HEND : ∀ (v5 : Value) (w5 : World), OwnG recV 77 18 w5 0 v5 (f.wr.length + 1) (f.wr ++ [r]) → (W3.drew.alloc (.cells CS 77)).grownBy w5 vw.ownBlock →
      (v5.ownBlock = vw.ownBlock ∨ v5.ownBlock = some (W3.drew.alloc (.cells CS 77)).heap.size) → Blk w5 G 65 #[.string f.name, v2, vd, vw] →
      ∃ S', FileAt (w5.setCell ⟨G, 3, none⟩ v5) ⟨f.name, G, S', putS f.now r.2.1 r.2.2, f.dur, f.wr ++ [r]⟩ ∧ Away f.S w S' (w5.setCell ⟨G, 3, none⟩ v5) := by
    intro v5 w5 g1 g2 g3 g4
    have h := H.out
    obtain rfl := hG.out
    have hG5 : v5.ownBlock ≠ some f.G := fun e => g4.not_row (by decide) g1 e.symm
    have hA4 : Away f.S w f.S (W3.drew.alloc (.cells CS 77)) := hA3.later ((Below.refl _ W3).drew.alloc (Nat.le_refl _) _)
    have hw5 : ∀ k, k < W3.heap.size → k ≠ f.G → vw.ownBlock ≠ some k → (w5.setCell ⟨f.G, 3, none⟩ v5).heap[k]? = W3.heap[k]? := fun k hk h4 h5 =>
      (Below.heap_setCell w5 ⟨f.G, 3, none⟩ v5 k h4).trans ((g2.block k (by rw [World.size_alloc]; exact Nat.lt_succ_of_lt hk) (fun e => h5 e.symm)).trans (Below.heap_alloc W3.drew _ _ hk))
    have hm2 : ∀ k, v2.ownBlock = some k → f.S k ∨ w.heap.size ≤ k := fun k hk => by
      rcases h3 with h3 | ⟨k', h4, h3⟩
      · exact Or.inl (h.sN (h3.symm.trans hk))
      · have : k' = k := by rw [h3] at hk; exact Option.some.inj hk
        have := hWX.size
        exact Or.inr (by omega)
    have hok := h.ok
    refine at_of_in (h.done (putS f.now r.2.1 r.2.2) f.dur (f.wr ++ [r]) v2 vd v5 ((hA4.grown g2 fun k e => Or.inl (h.sW e)).set h.sG 3 v5)
      ⟨by rw [putS_len]; have := hok.now; show max _ _ ≤ _; omega, hok.dur, putS16 hok.now16 _ hx.1, hok.dur16, fun y hy => ?_, by show (f.wr ++ [r]).length ≤ _; rw [List.length_append]; exact hwl⟩ (g4.set 3 v5) ?_ ?_ ?_ ?_ hm2 (fun k hk => Or.inl (h.sD hk)) ?_)
    · rcases List.mem_append.1 hy with hy | hy
      · exact hok.wr y hy
      · rw [List.mem_singleton.1 hy]
        exact ⟨hi, hx, hn⟩
    · exact hO3.frame fun k hk => hw5 k (hO3.lt hk) (fun e => hG2 (hk.trans (congrArg some e))) (HW3.out.not_own (by decide) hO3 hk)
    · have hd3 : Own W3 0 vd (16 * f.dur.length) f.dur.flatten := h.dur.frame fun k hk => hw3 k (h.dur.lt hk) (fun e => h.blk.not_own (by decide) h.dur (e ▸ hk)) (fun e => h.apart k e hk)
      exact hd3.frame fun k hk => hw5 k (hd3.lt hk) (fun e => h.blk.not_own (by decide) h.dur (e ▸ hk)) (HW3.out.not_own (by decide) hd3 hk)
    · have := g1.frame (w' := w5.setCell ⟨f.G, 3, none⟩ v5) fun k hk => Below.heap_setCell w5 ⟨f.G, 3, none⟩ v5 k (fun e => hG5 (hk.trans (congrArg some e)))
      show OwnG recV _ 18 _ 0 v5 (f.wr ++ [r]).length (f.wr ++ [r])
      rw [List.length_append]
      exact this
    · intro k hk e
      rcases h3 with h3 | ⟨k', h4, h3⟩
      · exact h.apart k (h3.symm.trans hk) e
      · have := h.dur.lt e
        have := hWX.size
        have : k' = k := by rw [h3] at hk; exact Option.some.inj hk
        omega
    · intro k hk
      rcases g3 with g3 | g3
      · exact Or.inl (h.sW (g3.symm.trans hk))
      · rw [World.size_alloc] at g3
        have : (W3.drew.heap.size + 1 : Nat) = k := Option.some.inj (g3.symm.trans hk)
        have : W3.drew.heap.size = W3.heap.size := rfl
        exact Or.inr (by omega)
  have HE := Lib.hid HEND
  have hwl2 : f.wr.length + 1 ≤ 10000000 := by omega
  have hCSL : CS.size = 18 := HCSL.out
  have hfold := fold18 CS hCSL
  clear HEND hw3 hA3 hO3 hz3 hB3 hR3 h1 h3 hwl hn
  go_wp2_with fail
  refine wp_region_held_drew (S := fun w' => Blk w' R 77 CS ∧ ∃ u, Blk w' G 65 #[.string f.name, v2, vd, u]) (by kernel_rfl) (by first | exact ⟨HR3.out, vw, HB3.out⟩ | exact ⟨HR4.out, vw, HB4.out⟩ | exact ⟨HR5.out, vw, HB5.out⟩ | exact ⟨HR5.out.other hRG _, _, HB5.out.set 3 _⟩) (fun hHeld => ?_)
  refine wpAnyH_take (i := 0) (oi := _) (v := ?vm0) rfl (by kernel_rfl) (by kernel_rfl) (by kernel_rfl) (fun _ _ _ h => h) (Or.inl ⟨by rfl, ?hym0⟩) (by assumption) ?restm0
  case hym0 => (intro wz hSw; (try dsimp only at hSw); go_simp; try with_reducible rfl)
  (try simp only [List.getElem_toArray, List.getElem_cons_zero, Act.put, List.setIfInBounds_toArray, List.set_cons_zero, List.set_cons_succ])
  refine wpAnyH_take (i := 1) (oi := _) (v := ?vm1) rfl (by kernel_rfl) (by kernel_rfl) (by kernel_rfl) (fun _ _ _ h => h) (Or.inl ⟨by rfl, ?hym1⟩) (by assumption) ?restm1
  case hym1 => (intro wz hSw; (try dsimp only at hSw); go_simp; try with_reducible rfl)
  (try simp only [List.getElem_toArray, List.getElem_cons_zero, List.getElem_cons_succ, Act.put, List.setIfInBounds_toArray, List.set_cons_zero, List.set_cons_succ])
  refine wpAnyH_take (i := 2) (oi := _) (v := ?vm2) rfl (by kernel_rfl) (by kernel_rfl) (by kernel_rfl) (fun _ _ _ h => h) (Or.inl ⟨by rfl, ?hym2⟩) (by assumption) ?restm2
  case hym2 => (intro wz hSw; (try dsimp only at hSw); go_simp; try with_reducible rfl)
  (try simp only [List.getElem_toArray, List.getElem_cons_zero, List.getElem_cons_succ, Act.put, List.setIfInBounds_toArray, List.set_cons_zero, List.set_cons_succ])
  refine wpAnyH_take (i := 3) (oi := _) (v := ?vm3) rfl (by kernel_rfl) (by kernel_rfl) (by kernel_rfl) (fun _ _ _ h => h) (Or.inl ⟨by rfl, ?hym3⟩) (by assumption) ?restm3
  case hym3 => (intro wz hSw; (try dsimp only at hSw); go_simp; try with_reducible rfl)
  (try simp only [List.getElem_toArray, List.getElem_cons_zero, List.getElem_cons_succ, Act.put, List.setIfInBounds_toArray, List.set_cons_zero, List.set_cons_succ])
  refine wpAnyH_take (i := 5) (oi := _) (v := .agg CS) rfl (by kernel_rfl) (by kernel_rfl) (by kernel_rfl) (fun _ _ _ h => h) (Or.inl ⟨by rfl, fun wz hSw => exec_load 77 (.tmp 3) rfl rfl (run_loadVar_blk hSw.1 HCSL.out)⟩) (by assumption) ?_
  (try simp only [List.getElem_toArray, List.getElem_cons_zero, List.getElem_cons_succ, Act.put, List.setIfInBounds_toArray, List.set_cons_zero, List.set_cons_succ])
  refine wpAnyH_ready (rs := [4, 6]) (by kernel_rfl) (by simp) ?_
  refine AllReadyH.cons (o := _) rfl (fun K hK => ?_) (AllReadyH.cons (o := _) rfl (fun K hK => ?_) AllReadyH.nil)
  · rw [if_pos (by rfl)]
    go_simp
    refine hK.out _ _ (by first | exact ⟨HR3.out, vw, HB3.out⟩ | exact ⟨HR4.out, vw, HB4.out⟩ | exact ⟨HR5.out, vw, HB5.out⟩ | exact ⟨HR5.out.other hRG _, _, HB5.out.set 3 _⟩) (fun hHeld => ?_)
    clear hK K
    (try simp only [List.getElem_toArray, List.getElem_cons_zero, List.getElem_cons_succ, Act.put, List.setIfInBounds_toArray, List.set_cons_zero, List.set_cons_succ])
    refine wpAnyH_ready (rs := [6]) (by kernel_rfl) (by simp) ?_
    refine AllReadyH.cons (o := _) rfl (fun K hK => ?_) AllReadyH.nil
    rw [if_pos (by rfl)]
    go_simp
    refine hK.out _ _ (by first | exact ⟨HR3.out, vw, HB3.out⟩ | exact ⟨HR4.out, vw, HB4.out⟩ | exact ⟨HR5.out, vw, HB5.out⟩ | exact ⟨HR5.out.other hRG _, _, HB5.out.set 3 _⟩) (fun hHeld => ?_)
    clear hK K
    (try simp only [List.getElem_toArray, List.getElem_cons_zero, List.getElem_cons_succ, Act.put, List.setIfInBounds_toArray, List.set_cons_zero, List.set_cons_succ])
    refine wpAnyH_ready (rs := [7]) (by kernel_rfl) (by simp) ?_
    refine AllReadyH.cons (o := _) rfl (fun K hK => ?_) AllReadyH.nil
    rw [if_pos (by rfl)]
    (refine wp_append_lg rec_rowed (.tmp 17) (.tmp 19) rfl 0 vw f.wr.length f.wr (by rfl) HW4.out (some ⟨W3.heap.size, 0, none⟩) 1 1 [r] (by rfl) (fun e => by cases e) HL4.out hwl2 (Nat.zero_le _) ?_; intro a5 c5 w5 g1 g2 g3; have hB5 := HB4.out.kept g2 (fun e => hGw e.symm); have hR5 := HR4.out.kept g2 (fun e => hRw e.symm); have q4 : w5.cell? ⟨G, 3, none⟩ = some vw := (by rw [hB5.cell]; rfl); have q5 := hB5.free 3; have HB5 := Lib.hid hB5; have HR5 := Lib.hid hR5; have G1 := Lib.hid g1; have G2 := Lib.hid g2; have G3 := Lib.hid g3; clear hB5 hR5 g1 g2 g3)
    (try dsimp only)
    refine hK.out _ _ (by first | exact ⟨HR3.out, vw, HB3.out⟩ | exact ⟨HR4.out, vw, HB4.out⟩ | exact ⟨HR5.out, vw, HB5.out⟩ | exact ⟨HR5.out.other hRG _, _, HB5.out.set 3 _⟩) (fun hHeld => ?_)
    clear hK K
    (try simp only [List.getElem_toArray, List.getElem_cons_zero, List.getElem_cons_succ, Act.put, List.setIfInBounds_toArray, List.set_cons_zero, List.set_cons_succ])
    refine wpAnyH_take (i := 8) (oi := _) (v := ?vp8) rfl (by kernel_rfl) (by kernel_rfl) (by kernel_rfl) (fun _ _ _ h => h) (Or.inl ⟨by rfl, ?hyp8⟩) (by assumption) ?restp8
    case hyp8 => (intro wz hSw; (try dsimp only at hSw); go_simp; try with_reducible rfl)
    (try simp only [List.getElem_toArray, List.getElem_cons_zero, List.getElem_cons_succ, Act.put, List.setIfInBounds_toArray, List.set_cons_zero, List.set_cons_succ])
    refine wpAnyH_take (i := 9) (oi := _) (v := ?vp9) rfl (by kernel_rfl) (by kernel_rfl) (by kernel_rfl) (fun _ _ _ h => h) (Or.inl ⟨by rfl, ?hyp9⟩) (by assumption) ?restp9
    case hyp9 => (intro wz hSw; (try dsimp only at hSw); go_simp; try with_reducible rfl)
    (try simp only [List.getElem_toArray, List.getElem_cons_zero, List.getElem_cons_succ, Act.put, List.setIfInBounds_toArray, List.set_cons_zero, List.set_cons_succ])
    refine wpAnyH_ready (rs := [10]) (by kernel_rfl) (by simp) ?_
    refine AllReadyH.cons (o := _) rfl (fun K hK => ?_) AllReadyH.nil
    rw [if_pos (by rfl)]
    go_simp
    refine hK.out _ _ (by first | exact ⟨HR3.out, vw, HB3.out⟩ | exact ⟨HR4.out, vw, HB4.out⟩ | exact ⟨HR5.out, vw, HB5.out⟩ | exact ⟨HR5.out.other hRG _, _, HB5.out.set 3 _⟩) (fun hHeld => ?_)
    clear hK K
    (try simp only [List.getElem_toArray, List.getElem_cons_zero, List.getElem_cons_succ, Act.put, List.setIfInBounds_toArray, List.set_cons_zero, List.set_cons_succ])
    refine wpAnyH_done (by kernel_rfl) ?_ _
    go_end0
    exact ⟨rfl, HE.out _ _ G1.out G2.out G3.out HB5.out⟩
  · rw [if_pos (by rfl)]
    go_simp
    refine hK.out _ _ (by first | exact ⟨HR3.out, vw, HB3.out⟩ | exact ⟨HR4.out, vw, HB4.out⟩ | exact ⟨HR5.out, vw, HB5.out⟩ | exact ⟨HR5.out.other hRG _, _, HB5.out.set 3 _⟩) (fun hHeld => ?_)
    clear hK K
    (try simp only [List.getElem_toArray, List.getElem_cons_zero, List.getElem_cons_succ, Act.put, List.setIfInBounds_toArray, List.set_cons_zero, List.set_cons_succ])
    refine wpAnyH_ready (rs := [4]) (by kernel_rfl) (by simp) ?_
    refine AllReadyH.cons (o := _) rfl (fun K hK => ?_) AllReadyH.nil
    rw [if_pos (by rfl)]
    go_simp
    refine hK.out _ _ (by first | exact ⟨HR3.out, vw, HB3.out⟩ | exact ⟨HR4.out, vw, HB4.out⟩ | exact ⟨HR5.out, vw, HB5.out⟩ | exact ⟨HR5.out.other hRG _, _, HB5.out.set 3 _⟩) (fun hHeld => ?_)
    clear hK K
    (try simp only [List.getElem_toArray, List.getElem_cons_zero, List.getElem_cons_succ, Act.put, List.setIfInBounds_toArray, List.set_cons_zero, List.set_cons_succ])
    refine wpAnyH_ready (rs := [7]) (by kernel_rfl) (by simp) ?_
    refine AllReadyH.cons (o := _) rfl (fun K hK => ?_) AllReadyH.nil
    rw [if_pos (by rfl)]
    (refine wp_append_lg rec_rowed (.tmp 17) (.tmp 19) rfl 0 vw f.wr.length f.wr (by rfl) HW4.out (some ⟨W3.heap.size, 0, none⟩) 1 1 [r] (by rfl) (fun e => by cases e) HL4.out hwl2 (Nat.zero_le _) ?_; intro a5 c5 w5 g1 g2 g3; have hB5 := HB4.out.kept g2 (fun e => hGw e.symm); have hR5 := HR4.out.kept g2 (fun e => hRw e.symm); have q4 : w5.cell? ⟨G, 3, none⟩ = some vw := (by rw [hB5.cell]; rfl); have q5 := hB5.free 3; have HB5 := Lib.hid hB5; have HR5 := Lib.hid hR5; have G1 := Lib.hid g1; have G2 := Lib.hid g2; have G3 := Lib.hid g3; clear hB5 hR5 g1 g2 g3)
    (try dsimp only)
    refine hK.out _ _ (by first | exact ⟨HR3.out, vw, HB3.out⟩ | exact ⟨HR4.out, vw, HB4.out⟩ | exact ⟨HR5.out, vw, HB5.out⟩ | exact ⟨HR5.out.other hRG _, _, HB5.out.set 3 _⟩) (fun hHeld => ?_)
    clear hK K
    (try simp only [List.getElem_toArray, List.getElem_cons_zero, List.getElem_cons_succ, Act.put, List.setIfInBounds_toArray, List.set_cons_zero, List.set_cons_succ])
    refine wpAnyH_take (i := 8) (oi := _) (v := ?vq8) rfl (by kernel_rfl) (by kernel_rfl) (by kernel_rfl) (fun _ _ _ h => h) (Or.inl ⟨by rfl, ?hyq8⟩) (by assumption) ?restq8
    case hyq8 => (intro wz hSw; (try dsimp only at hSw); go_simp; try with_reducible rfl)
    (try simp only [List.getElem_toArray, List.getElem_cons_zero, List.getElem_cons_succ, Act.put, List.setIfInBounds_toArray, List.set_cons_zero, List.set_cons_succ])
    refine wpAnyH_take (i := 9) (oi := _) (v := ?vq9) rfl (by kernel_rfl) (by kernel_rfl) (by kernel_rfl) (fun _ _ _ h => h) (Or.inl ⟨by rfl, ?hyq9⟩) (by assumption) ?restq9
    case hyq9 => (intro wz hSw; (try dsimp only at hSw); go_simp; try with_reducible rfl)
    (try simp only [List.getElem_toArray, List.getElem_cons_zero, List.getElem_cons_succ, Act.put, List.setIfInBounds_toArray, List.set_cons_zero, List.set_cons_succ])
    refine wpAnyH_ready (rs := [10]) (by kernel_rfl) (by simp) ?_
    refine AllReadyH.cons (o := _) rfl (fun K hK => ?_) AllReadyH.nil
    rw [if_pos (by rfl)]
    go_simp
    refine hK.out _ _ (by first | exact ⟨HR3.out, vw, HB3.out⟩ | exact ⟨HR4.out, vw, HB4.out⟩ | exact ⟨HR5.out, vw, HB5.out⟩ | exact ⟨HR5.out.other hRG _, _, HB5.out.set 3 _⟩) (fun hHeld => ?_)
    clear hK K
    (try simp only [List.getElem_toArray, List.getElem_cons_zero, List.getElem_cons_succ, Act.put, List.setIfInBounds_toArray, List.set_cons_zero, List.set_cons_succ])
    refine wpAnyH_done (by kernel_rfl) ?_ _
    go_end0
    exact ⟨rfl, HE.out _ _ G1.out G2.out G3.out HB5.out⟩
end Go.Proofs.Ytnhaidofblfopaa
