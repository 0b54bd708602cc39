/-
  What the method flush of a file does (package disk). Conditions: none but short files.
-/
import Derived.Test.YtnhaidofblfopaaI5
import Derived.Deep.WholeRow
namespace Go.Proofs.Ytnhaidofblfopaa
open Go.RowKit

/-- A record into the block that was made last. -/
theorem wpList_store_new {P : Program} {ops : Array Oper} {rest : List Oper} {op : Oper} {a : Act} {w : World} {Q : Exit → Act → World → Prop} {t : TypeId} {c : Array Value} (hgd : op.guard = none) (x y : Operand) (ho : op.op = .store t x y) (c' : Array Value)
    (hx : a.eval x = .pointer (some ⟨w.heap.size, 0, none⟩)) (hy : a.eval y = .agg c') (hi : (P.info? t).map (·.size) = some c'.size) (hc : c.size = c'.size) (h1 : c'.all (·.oneCell') = true)
    (h : wpList P ops Q rest (a.put op.dst undef) (w.alloc (.cells c' t))) : wpList P ops Q (op :: rest) a (w.alloc (.cells c t)) := by
  refine wpList_plain hgd fun K' hK => ?_
  unfold Oper.wp execOp
  simp only [ho, hx, hy, run_storeAt_new w t c c' hi hc h1, Sem.run_bind, Result.andThen_ok]
  exact hK _ _ h
theorem keptA_len_le (l : List (Nat × Sec)) (h : ∀ x ∈ l, x.1 < 65536) : ∀ dur : List Sec, dur.length ≤ 65536 → (keptA dur l).length ≤ 65536 := by
  induction l with
  | nil => intro dur h1; exact h1
  | cons x r ih =>
    intro dur h1
    exact ih (fun y hy => h y (List.mem_cons_of_mem _ hy)) (putS dur x.1 x.2) (by rw [putS_len]; have := h x (List.mem_cons_self ..); omega)
theorem rec_size : (Try.prog.info? 77).map (·.size) = some 18 := by kernel_rfl
theorem recV_all (r : Nat × Nat × Sec) : (recV r).toArray.all (·.oneCell') = true := all_oneCell_toArray fun v hv => rec_rowed.one r v hv
/-- A record's cells in its row. -/
theorem ownG_range {w : World} {b n c : Nat} {l : List (Nat × Nat × Sec)} (h : OwnG recV 77 18 w 0 (.slice (some ⟨b, 0, none⟩) n c) n l) (j : Nat) (r : Nat × Nat × Sec) (hj : l[j]? = some r) : w.rangeAt b (j * 18) (recV r) := fun i v hv => by
  have hr := (h.reads rec_rowed).1
  have := hr.cellAt rec_rowed j i r v hj hv
  rwa [Nat.zero_add] at this
theorem Away.trans {S S1 S2 : Nat → Prop} {w w1 w2 : World} (h1 : Away S w S1 w1) (h2 : Away S1 w1 S2 w2) : Away S w S2 w2 :=
  ⟨h2.os.trans h1.os, h2.tape.trans h1.tape, h2.output.trans h1.output, Nat.le_trans h1.size h2.size, fun k hk hS => (h2.block k (Nat.lt_of_lt_of_le hk h1.size) (h1.far hk hS)).trans (h1.block k hk hS), fun k hk => by
    rcases h2.mine k hk with h | h
    · exact h1.mine k h
    · exact Or.inr (Nat.le_trans h1.size h)⟩
theorem Away.of_below (S : Nat → Prop) {w w' : World} (hb : Below w.heap.size w w') : Away S w S w' := (Away.refl S w).later hb
set_option maxHeartbeats 2000000 in
set_option maxRecDepth 100000 in
/-- flush. -/
theorem flush_any {w : World} {f : FR} (h : FileAt w f) (hc : (keptA f.dur (f.wr.map (·.2))).length ≤ f.now.length) :
    Calls Try.prog 33 #[.pointer (some ⟨f.G, 0, none⟩)] w fun e w' => e = .returned (.tuple #[]) ∧ ∃ S', FileAt w' ⟨f.name, f.G, S', f.now, padS (keptA f.dur (f.wr.map (·.2))) f.now.length, []⟩ ∧ Away f.S w S' w' := by
  obtain ⟨vn, vd, vw, h⟩ := h
  obtain ⟨aw, cw, rfl, hrw, hnw, hcw⟩ := h.wr.shape rec_rowed
  have c3 : w.cell? ⟨f.G, 3, none⟩ = some (.slice aw f.wr.length cw) := by rw [h.blk.cell]; rfl
  have H := Lib.hid h
  have HC := Lib.hid hc
  have hwl := h.ok.wrs
  obtain ⟨m, hm⟩ := named f.wr.length
  rw [hm.out] at c3 hwl
  obtain ⟨G, hG⟩ := named f.G
  rw [hG.out] at c3 ⊢
  clear h hrw hc hcw
  go_enter Try.func33, Try.ntmps33
  go_wp2_with fail
  go_loopw [9] (fun i wr => ∃ (j : Nat) (vd' : Value) (S' : Nat → Prop), j ≤ m ∧ i = .int .i64 j ∧ Hid (FileIn wr ⟨f.name, G, S', f.now, keptA f.dur ((f.wr.take j).map (·.2)), f.wr⟩ vn vd' (.slice aw f.wr.length cw) ∧ Away f.S w S' wr)) (fun i _ => m - (intOf i).toNat)
  case atStart => exact ⟨0, vd, f.S, by omega, rfl, by rw [← hG.out]; exact ⟨H.out, Away.refl _ _⟩⟩
  case round =>
    obtain ⟨j, vd', S', hj, rfl, HI⟩ := hrel
    by_cases hlt : j < m
    · obtain ⟨b, rfl⟩ : ∃ b, aw = some ⟨b, 0, none⟩ := by
        rcases HI.out.1.wr.1.2 with ⟨e, e'⟩ | ⟨g, cap, cur, e, _⟩
        · have : f.wr.length = 0 := e'
          have := hm.out
          omega
        · cases e
          exact ⟨_, rfl⟩
      have hjl : j < f.wr.length := by have := hm.out; omega
      obtain ⟨r, hr⟩ : ∃ r, f.wr[j]? = some r := ⟨_, List.getElem?_eq_getElem hjl⟩
      have hrr := ownG_range HI.out.1.wr j r hr
      have HRR := Lib.hid hrr
      have hmem : r ∈ f.wr := List.mem_of_getElem? hr
      obtain ⟨p1, p2, p3⟩ := HI.out.1.ok.wr r hmem
      have HNW : Hid ((wr.alloc (.cells (recV r).toArray 77)).rangeAt wr.heap.size 0 (recV r)) := fun i v hv => by
        rw [Nat.zero_add, (Blk.new wr _ _).cell]
        simpa using hv
      have HF1 : Hid (FileIn (wr.alloc (.cells (recV r).toArray 77)) ⟨f.name, G, S', f.now, keptA f.dur ((f.wr.take j).map (·.2)), f.wr⟩ vn vd' (.slice (some ⟨b, 0, none⟩) f.wr.length cw)) :=
        Lib.hid (HI.out.1.frame fun k hk => Below.heap_alloc wr _ k (HI.out.1.lt k hk))
      clear hrr
      go_wp2_with (first
        | (refine wpList_load_mid rfl 77 (.tmp 11) rfl b (j * 18) (by rfl) (recV r) _ HRR.out Try.underlying77 rfl (by rw [recV_len]; exact rec_size) ?_)
        | (refine wpList_store_new rfl (.tmp 3) (.tmp 12) rfl (recV r).toArray (by rfl) (by rfl) (by rw [List.size_toArray, recV_len]; exact rec_size) (by simp [recV_len]) (recV_all r) ?_)
        | (refine wpList_load_mid rfl 77 (.tmp 3) rfl wr.heap.size 0 (by rfl) (recV r) _ HNW.out Try.underlying77 rfl (by rw [recV_len]; exact rec_size) ?_)
        | (go_at_call 36; refine (keep_any HF1.out r p1 p2).mono ?_; rintro e w2 ⟨rfl, vd2, S2, hF2, hA2⟩))
      go_roundw
      case rel =>
        have e : (f.wr.take (j + 1)).map (·.2) = (f.wr.take j).map (·.2) ++ [r.2] := by
          rw [List.take_add_one, hr]
          simp
        refine ⟨j + 1, vd2, S2, by omega, by go_num, ?_, ?_⟩
        · rw [e, keptA_snoc]
          exact hF2
        · exact HI.out.2.trans ((Away.of_below S' ((Below.refl _ wr).alloc (Nat.le_refl _) _)).trans hA2)
      case measure => simp [intOf]; omega
    · obtain rfl : j = m := by omega
      have e : f.wr.take j = f.wr := List.take_of_length_le (by have := hm.out; omega)
      rw [e] at HI
      have HC' := HC.out
      obtain ⟨K, hK⟩ := named (keptA f.dur (f.wr.map (·.2)))
      rw [hK.out] at HI HC'
      have hNl : f.now.length ≤ 65536 := H.out.ok.now
      have hKl : K.length ≤ 65536 := HI.out.1.ok.dur
      have hGd : vd'.ownBlock ≠ some G := fun e => HI.out.1.blk.not_own (by decide) HI.out.1.dur e
      have HB1 : Hid (Blk wr.drew G 65 #[.string f.name, vn, vd', .slice aw f.wr.length cw]) := Lib.hid HI.out.1.blk
      have HF0 : Hid (FileIn wr.drew ⟨f.name, G, S', f.now, K, f.wr⟩ vn vd' (.slice aw f.wr.length cw)) := Lib.hid (HI.out.1.frame fun _ _ => rfl)
      have HF : Hid (FileIn wr.drew ⟨f.name, G, S', f.now, K, f.wr⟩ vn vd' (.slice aw f.wr.length cw)) := HF0
      have HD1 : Hid (Own wr.drew 0 vd' (16 * K.length) K.flatten) := Lib.hid HF.out.dur
      have c2 : wr.drew.cell? ⟨G, 2, none⟩ = some vd' := by rw [HB1.out.cell]; rfl
      have HE : Hid (∀ (v2 : Value) (w2 : World), Own w2 0 v2 (16 * (padS K f.now.length).length) (padS K f.now.length).flatten → wr.drew.grownBy w2 vd'.ownBlock → (v2.ownBlock = vd'.ownBlock ∨ v2.ownBlock = some wr.drew.heap.size) →
          Blk ((w2.setCell ⟨G, 2, none⟩ v2).setCell ⟨G, 3, none⟩ (.slice none 0 0)) G 65 #[.string f.name, vn, v2, .slice none 0 0] →
          ∃ S', FileAt ((w2.setCell ⟨G, 2, none⟩ v2).setCell ⟨G, 3, none⟩ (.slice none 0 0)) ⟨f.name, G, S', f.now, padS K f.now.length, []⟩ ∧ Away f.S w S' ((w2.setCell ⟨G, 2, none⟩ v2).setCell ⟨G, 3, none⟩ (.slice none 0 0))) := by
        intro v2 w2 g1 g2 g3 g4
        have h := HI.out.1
        have hw : ∀ k, k ≠ G → ((w2.setCell ⟨G, 2, none⟩ v2).setCell ⟨G, 3, none⟩ (.slice none 0 0)).heap[k]? = w2.heap[k]? := fun k hk =>
          (Below.heap_setCell _ ⟨G, 3, none⟩ _ k hk).trans (Below.heap_setCell _ ⟨G, 2, none⟩ _ k hk)
        have hG2 : v2.ownBlock ≠ some G := fun e => by
          rcases g3 with g3 | g3
          · exact hGd (g3.symm.trans e)
          · have := h.blk.lt
            have e' : wr.drew.heap.size = G := Option.some.inj (g3.symm.trans e)
            have : wr.drew.heap.size = wr.heap.size := rfl
            have : G < wr.heap.size := h.blk.lt
            omega
        have hA : Away S' wr S' ((w2.setCell ⟨G, 2, none⟩ v2).setCell ⟨G, 3, none⟩ (.slice none 0 0)) := (((Away.refl S' wr).grown (undrew g2) fun k e => Or.inl (h.sD e)).set h.sG 2 v2).set h.sG 3 _
        obtain ⟨S2, hF2, hA2⟩ := at_of_in (h.done f.now (padS K f.now.length) [] vn v2 (.slice none 0 0) hA ⟨h.ok.now, by show (padS K f.now.length).length ≤ _; rw [padS_len]; omega, h.ok.now16, pad16 h.ok.dur16 f.now.length, (fun y hy => by cases hy), by simp⟩ g4
          (h.now.frame fun k hk => (hw k (fun e => h.blk.not_own (by decide) h.now (e ▸ hk))).trans (g2.block k (h.now.lt hk) (fun e => h.apart k hk e.symm)))
          (g1.frame fun k hk => hw k (fun e => hG2 (hk.trans (congrArg some e)))) (OwnG.none _ _ _ _ _)
          (fun k hk e => by
            rcases g3 with g3 | g3
            · exact h.apart k hk (g3.symm.trans e)
            · have := h.now.lt hk
              have e' : wr.drew.heap.size = k := Option.some.inj (g3.symm.trans e)
              have : wr.drew.heap.size = wr.heap.size := rfl
              omega) (fun k hk => Or.inl (h.sN hk)) (fun k hk => by
            rcases g3 with g3 | g3
            · exact Or.inl (h.sD (g3.symm.trans hk))
            · have e' : wr.drew.heap.size = k := Option.some.inj (g3.symm.trans hk)
              have : wr.drew.heap.size = wr.heap.size := rfl
              exact Or.inr (by omega)) (fun k hk => by cases hk))
        exact ⟨S2, hF2, HI.out.2.trans hA2⟩
      go_wp2_with fail
      refine wp_region_held_drew (S := fun w' => ∃ u, Blk w' G 65 #[.string f.name, vn, u, .slice aw f.wr.length cw]) (by kernel_rfl) (by first | exact ⟨_, HB1.out⟩ | exact ⟨_, HB2.out⟩ | exact ⟨_, HB2.out.set 2 _⟩) (fun hHeld => ?_)
      refine wpAnyH_take (i := 0) (oi := _) (v := ?vm0) rfl (by kernel_rfl) (by kernel_rfl) (by kernel_rfl) (fun _ _ _ h => h) (Or.inl ⟨by rfl, ?hym0⟩) (by assumption) ?restm0
      case hym0 => (intro wz hSw; (try dsimp only at hSw); go_simp; try with_reducible rfl)
      (try simp only [List.getElem_toArray, List.getElem_cons_zero, Act.put, List.setIfInBounds_toArray, List.set_cons_zero, List.set_cons_succ])
      refine wpAnyH_take (i := 1) (oi := _) (v := ?vm1) rfl (by kernel_rfl) (by kernel_rfl) (by kernel_rfl) (fun _ _ _ h => h) (Or.inl ⟨by rfl, ?hym1⟩) (by assumption) ?restm1
      case hym1 => (intro wz hSw; (try dsimp only at hSw); go_simp; try with_reducible rfl)
      (try simp only [List.getElem_toArray, List.getElem_cons_zero, List.getElem_cons_succ, Act.put, List.setIfInBounds_toArray, List.set_cons_zero, List.set_cons_succ])
      refine wpAnyH_take (i := 2) (oi := _) (v := ?vm2) rfl (by kernel_rfl) (by kernel_rfl) (by kernel_rfl) (fun _ _ _ h => h) (Or.inl ⟨by rfl, ?hym2⟩) (by assumption) ?restm2
      case hym2 => (intro wz hSw; (try dsimp only at hSw); go_simp; try with_reducible rfl)
      (try simp only [List.getElem_toArray, List.getElem_cons_zero, List.getElem_cons_succ, Act.put, List.setIfInBounds_toArray, List.set_cons_zero, List.set_cons_succ])
      refine wpAnyH_take (i := 3) (oi := _) (v := ?vm3) rfl (by kernel_rfl) (by kernel_rfl) (by kernel_rfl) (fun _ _ _ h => h) (Or.inl ⟨by rfl, ?hym3⟩) (by assumption) ?restm3
      case hym3 => (intro wz hSw; (try dsimp only at hSw); go_simp; try with_reducible rfl)
      (try simp only [List.getElem_toArray, List.getElem_cons_zero, List.getElem_cons_succ, Act.put, List.setIfInBounds_toArray, List.set_cons_zero, List.set_cons_succ])
      refine wpAnyH_take (i := 5) (oi := _) (v := ?vm5) rfl (by kernel_rfl) (by kernel_rfl) (by kernel_rfl) (fun _ _ _ h => h) (Or.inl ⟨by rfl, ?hym5⟩) (by assumption) ?restm5
      case hym5 => (intro wz hSw; (try dsimp only at hSw); go_simp; try with_reducible rfl)
      (try simp only [List.getElem_toArray, List.getElem_cons_zero, List.getElem_cons_succ, Act.put, List.setIfInBounds_toArray, List.set_cons_zero, List.set_cons_succ])
      refine wpAnyH_ready (rs := [4, 6]) (by kernel_rfl) (by simp) ?_
      refine AllReadyH.cons (o := _) rfl (fun K' hK => ?_) (AllReadyH.cons (o := _) rfl (fun K' hK => ?_) AllReadyH.nil)
      · rw [if_pos (by rfl)]
        go_simp
        refine hK.out _ _ (by first | exact ⟨_, HB1.out⟩ | exact ⟨_, HB2.out⟩ | exact ⟨_, HB2.out.set 2 _⟩) (fun hHeld => ?_)
        clear hK K'
        (try simp only [List.getElem_toArray, List.getElem_cons_zero, List.getElem_cons_succ, Act.put, List.setIfInBounds_toArray, List.set_cons_zero, List.set_cons_succ])
        refine wpAnyH_ready (rs := [6]) (by kernel_rfl) (by simp) ?_
        refine AllReadyH.cons (o := _) rfl (fun K' hK => ?_) AllReadyH.nil
        rw [if_pos (by rfl)]
        go_simp
        (go_at_call 31; refine (size_any HF.out).mono ?_; rintro e w1 ⟨rfl, rfl⟩)
        dsimp only
        refine hK.out _ _ (by first | exact ⟨_, HB1.out⟩ | exact ⟨_, HB2.out⟩ | exact ⟨_, HB2.out.set 2 _⟩) (fun hHeld => ?_)
        clear hK K'
        (try simp only [List.getElem_toArray, List.getElem_cons_zero, List.getElem_cons_succ, Act.put, List.setIfInBounds_toArray, List.set_cons_zero, List.set_cons_succ])
        refine wpAnyH_ready (rs := [7]) (by kernel_rfl) (by simp) ?_
        refine AllReadyH.cons (o := _) rfl (fun K' hK => ?_) AllReadyH.nil
        rw [if_pos (by rfl)]
        go_simp
        (go_at_call 52; refine (grow_any _ vd' K hKl HD1.out f.now.length hNl).mono ?_; rintro e w2 ⟨a2, n2, rfl, h1, h2, h3⟩; have hB2 := HB1.out.kept h2 (fun e => hGd e.symm); have q2 : w2.cell? ⟨G, 2, none⟩ = some vd' := (by rw [hB2.cell]; rfl); have q3 := hB2.free 2; have HB2 := Lib.hid hB2; have H1 := Lib.hid h1; have H2 := Lib.hid h2; have H3 := Lib.hid h3; clear hB2 h1 h2 h3)
        dsimp only
        refine hK.out _ _ (by first | exact ⟨_, HB1.out⟩ | exact ⟨_, HB2.out⟩ | exact ⟨_, HB2.out.set 2 _⟩) (fun hHeld => ?_)
        clear hK K'
        (try simp only [List.getElem_toArray, List.getElem_cons_zero, List.getElem_cons_succ, Act.put, List.setIfInBounds_toArray, List.set_cons_zero, List.set_cons_succ])
        refine wpAnyH_take (i := 8) (oi := _) (v := ?vp8) rfl (by kernel_rfl) (by kernel_rfl) (by kernel_rfl) (fun _ _ _ h => h) (Or.inl ⟨by rfl, ?hyp8⟩) (by assumption) ?restp8
        case hyp8 => (intro wz hSw; (try dsimp only at hSw); go_simp; try with_reducible rfl)
        (try simp only [List.getElem_toArray, List.getElem_cons_zero, List.getElem_cons_succ, Act.put, List.setIfInBounds_toArray, List.set_cons_zero, List.set_cons_succ])
        refine wpAnyH_take (i := 9) (oi := _) (v := ?vp9) rfl (by kernel_rfl) (by kernel_rfl) (by kernel_rfl) (fun _ _ _ h => h) (Or.inl ⟨by rfl, ?hyp9⟩) (by assumption) ?restp9
        case hyp9 => (intro wz hSw; (try dsimp only at hSw); go_simp; try with_reducible rfl)
        (try simp only [List.getElem_toArray, List.getElem_cons_zero, List.getElem_cons_succ, Act.put, List.setIfInBounds_toArray, List.set_cons_zero, List.set_cons_succ])
        refine wpAnyH_ready (rs := [10]) (by kernel_rfl) (by simp) ?_
        refine AllReadyH.cons (o := _) rfl (fun K' hK => ?_) AllReadyH.nil
        rw [if_pos (by rfl)]
        go_simp
        refine hK.out _ _ (by first | exact ⟨_, HB1.out⟩ | exact ⟨_, HB2.out⟩ | exact ⟨_, HB2.out.set 2 _⟩) (fun hHeld => ?_)
        clear hK K'
        (try simp only [List.getElem_toArray, List.getElem_cons_zero, List.getElem_cons_succ, Act.put, List.setIfInBounds_toArray, List.set_cons_zero, List.set_cons_succ])
        refine wpAnyH_done (by kernel_rfl) ?_ _
        have q4 := HB2.out.set 2 (.slice a2 (16 * (padS K f.now.length).length) n2)
        have q5 : (w2.setCell ⟨G, 2, none⟩ (.slice a2 (16 * (padS K f.now.length).length) n2)).cell? ⟨G, 3, none⟩ = some (.slice aw f.wr.length cw) := by rw [q4.cell]; rfl
        have q6 := q4.free 3
        have HB4 := Lib.hid (q4.set 3 (.slice none 0 0))
        clear q4
        go_wp2
        go_end0
        rw [hK.out]
        exact ⟨rfl, HE.out _ _ H1.out H2.out H3.out HB4.out⟩
      · rw [if_pos (by rfl)]
        go_simp
        (go_at_call 31; refine (size_any HF.out).mono ?_; rintro e w1 ⟨rfl, rfl⟩)
        dsimp only
        refine hK.out _ _ (by first | exact ⟨_, HB1.out⟩ | exact ⟨_, HB2.out⟩ | exact ⟨_, HB2.out.set 2 _⟩) (fun hHeld => ?_)
        clear hK K'
        (try simp only [List.getElem_toArray, List.getElem_cons_zero, List.getElem_cons_succ, Act.put, List.setIfInBounds_toArray, List.set_cons_zero, List.set_cons_succ])
        refine wpAnyH_ready (rs := [4]) (by kernel_rfl) (by simp) ?_
        refine AllReadyH.cons (o := _) rfl (fun K' hK => ?_) AllReadyH.nil
        rw [if_pos (by rfl)]
        go_simp
        refine hK.out _ _ (by first | exact ⟨_, HB1.out⟩ | exact ⟨_, HB2.out⟩ | exact ⟨_, HB2.out.set 2 _⟩) (fun hHeld => ?_)
        clear hK K'
        (try simp only [List.getElem_toArray, List.getElem_cons_zero, List.getElem_cons_succ, Act.put, List.setIfInBounds_toArray, List.set_cons_zero, List.set_cons_succ])
        refine wpAnyH_ready (rs := [7]) (by kernel_rfl) (by simp) ?_
        refine AllReadyH.cons (o := _) rfl (fun K' hK => ?_) AllReadyH.nil
        rw [if_pos (by rfl)]
        go_simp
        (go_at_call 52; refine (grow_any _ vd' K hKl HD1.out f.now.length hNl).mono ?_; rintro e w2 ⟨a2, n2, rfl, h1, h2, h3⟩; have hB2 := HB1.out.kept h2 (fun e => hGd e.symm); have q2 : w2.cell? ⟨G, 2, none⟩ = some vd' := (by rw [hB2.cell]; rfl); have q3 := hB2.free 2; have HB2 := Lib.hid hB2; have H1 := Lib.hid h1; have H2 := Lib.hid h2; have H3 := Lib.hid h3; clear hB2 h1 h2 h3)
        dsimp only
        refine hK.out _ _ (by first | exact ⟨_, HB1.out⟩ | exact ⟨_, HB2.out⟩ | exact ⟨_, HB2.out.set 2 _⟩) (fun hHeld => ?_)
        clear hK K'
        (try simp only [List.getElem_toArray, List.getElem_cons_zero, List.getElem_cons_succ, Act.put, List.setIfInBounds_toArray, List.set_cons_zero, List.set_cons_succ])
        refine wpAnyH_take (i := 8) (oi := _) (v := ?vq8) rfl (by kernel_rfl) (by kernel_rfl) (by kernel_rfl) (fun _ _ _ h => h) (Or.inl ⟨by rfl, ?hyq8⟩) (by assumption) ?restq8
        case hyq8 => (intro wz hSw; (try dsimp only at hSw); go_simp; try with_reducible rfl)
        (try simp only [List.getElem_toArray, List.getElem_cons_zero, List.getElem_cons_succ, Act.put, List.setIfInBounds_toArray, List.set_cons_zero, List.set_cons_succ])
        refine wpAnyH_take (i := 9) (oi := _) (v := ?vq9) rfl (by kernel_rfl) (by kernel_rfl) (by kernel_rfl) (fun _ _ _ h => h) (Or.inl ⟨by rfl, ?hyq9⟩) (by assumption) ?restq9
        case hyq9 => (intro wz hSw; (try dsimp only at hSw); go_simp; try with_reducible rfl)
        (try simp only [List.getElem_toArray, List.getElem_cons_zero, List.getElem_cons_succ, Act.put, List.setIfInBounds_toArray, List.set_cons_zero, List.set_cons_succ])
        refine wpAnyH_ready (rs := [10]) (by kernel_rfl) (by simp) ?_
        refine AllReadyH.cons (o := _) rfl (fun K' hK => ?_) AllReadyH.nil
        rw [if_pos (by rfl)]
        go_simp
        refine hK.out _ _ (by first | exact ⟨_, HB1.out⟩ | exact ⟨_, HB2.out⟩ | exact ⟨_, HB2.out.set 2 _⟩) (fun hHeld => ?_)
        clear hK K'
        (try simp only [List.getElem_toArray, List.getElem_cons_zero, List.getElem_cons_succ, Act.put, List.setIfInBounds_toArray, List.set_cons_zero, List.set_cons_succ])
        refine wpAnyH_done (by kernel_rfl) ?_ _
        have q4 := HB2.out.set 2 (.slice a2 (16 * (padS K f.now.length).length) n2)
        have q5 : (w2.setCell ⟨G, 2, none⟩ (.slice a2 (16 * (padS K f.now.length).length) n2)).cell? ⟨G, 3, none⟩ = some (.slice aw f.wr.length cw) := by rw [q4.cell]; rfl
        have q6 := q4.free 3
        have HB4 := Lib.hid (q4.set 3 (.slice none 0 0))
        clear q4
        go_wp2
        go_end0
        rw [hK.out]
        exact ⟨rfl, HE.out _ _ H1.out H2.out H3.out HB4.out⟩
end Go.Proofs.Ytnhaidofblfopaa
