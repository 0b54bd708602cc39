/-
  What the methods of a file do (package disk): put, size, keep, write, fall, flush. Conditions: none but short files.
-/
import Derived.Test.YtnhaidofblfopaaC5
import Derived.Test.YtnhaidofblfopaaH5
import Derived.Deep.MidRow
import Derived.BigQuiet
namespace Go.Proofs.Ytnhaidofblfopaa
open Go.RowKit

theorem grown_past {w w1 w2 : World} {v : Value} (h1 : Below w.heap.size w w1) (h2 : w1.grownBy w2 v.ownBlock) : w.grownBy w2 v.ownBlock :=
  ⟨h2.os.trans h1.os, h2.tape.trans h1.tape, h2.output.trans h1.output, Nat.le_trans h1.size h2.size, fun k hk hne => (h2.block k (Nat.lt_of_lt_of_le hk h1.size) hne).trans (h1.block k hk)⟩
theorem undrew {w w' : World} {row : Option Nat} (h : w.drew.grownBy w' row) : w.grownBy w' row := ⟨h.os, h.tape, h.output, h.size, h.block⟩
theorem grown_then {w w1 w2 : World} {row : Option Nat} {g : Nat} (h1 : w.grownBy w1 row) (h2 : w1.grownBy w2 (some g)) (hg : row = some g ∨ w.heap.size ≤ g) : w.grownBy w2 row :=
  ⟨h2.os.trans h1.os, h2.tape.trans h1.tape, h2.output.trans h1.output, Nat.le_trans h1.size h2.size, fun k hk hne => (h2.block k (Nat.lt_of_lt_of_le hk h1.size) (fun e => by
    cases e
    rcases hg with e | e
    · exact hne e.symm
    · omega)).trans (h1.block k hk hne)⟩
theorem Away.grown {S : Nat → Prop} {w0 w w' : World} {row : Option Nat} (ha : Away S w0 S w) (hg : w.grownBy w' row) (hr : ∀ k, row = some k → S k ∨ w0.heap.size ≤ k) : Away S w0 S w' :=
  ⟨hg.os.trans ha.os, hg.tape.trans ha.tape, hg.output.trans ha.output, Nat.le_trans ha.size hg.size, fun k hk hS => (hg.block k (Nat.lt_of_lt_of_le hk ha.size) (fun e => by
    rcases hr k e.symm with h | h
    · exact hS h
    · omega)).trans (ha.block k hk hS), fun _ h => Or.inl h⟩
theorem Away.later {S : Nat → Prop} {w0 w w' : World} (ha : Away S w0 S w) (hb : Below w.heap.size w w') : Away S w0 S w' := ha.grown (grown_of_below hb) (fun _ e => by cases e)
theorem Away.set {S : Nat → Prop} {w0 w : World} (ha : Away S w0 S w) {B : Nat} (hB : S B) (i : Nat) (v : Value) : Away S w0 S (w.setCell ⟨B, i, none⟩ v) := ha.grown (grownBy_setCell4 w B i v) fun k e => by cases e; exact Or.inl hB
theorem Blk.not_own {W : World} {B : Nat} {t : TypeId} {cs : Array Value} (h : Blk W B t cs) (hte : t ≠ 5) {base n : Nat} {v : Value} {l : List Int} (hr : Own W base v n l) : v.ownBlock ≠ some B := fun e' => by
  rcases hr.1.2 with ⟨rfl, _⟩ | ⟨g, cap, cur, rfl, _, hgb, _⟩
  · simp [Value.ownBlock] at e'
  · obtain rfl : g = B := by simpa [Value.ownBlock] using e'
    have := (show W.heap[g]? = _ from h).symm.trans hgb
    simp at this
    exact hte this.2
theorem OwnG.not_own {α : Type} {cv : α → List Value} {t : TypeId} {sz base' n' : Nat} {W : World} {u : Value} {m : List α} (h : OwnG cv t sz W base' u n' m) (hte : t ≠ 5) {base n : Nat} {v : Value} {l : List Int} (hr : Own W base v n l) {k : Nat} (hk : v.ownBlock = some k) : u.ownBlock ≠ some k := fun e' => by
  rcases h.1.2 with ⟨rfl, _⟩ | ⟨g, cap, cur, rfl, _, hgb, _⟩
  · simp [Value.ownBlock] at e'
  · obtain rfl : g = k := by simpa [Value.ownBlock] using e'
    exact Blk.not_own (show Blk W g t cur from hgb) hte hr hk
/-- The file anew. -/
theorem FileIn.done {w w' : World} {f : FR} {vn vd vw : Value} (h : FileIn w f vn vd vw) (now dur : List Sec) (wr : List (Nat × Nat × Sec)) (vn' vd' vw' : Value) (ha : Away f.S w f.S w') (hok : (FR.mk f.name f.G f.S now dur wr).Ok) (hB : Blk w' f.G 65 #[.string f.name, vn', vd', vw'])
    (hn : Own w' 0 vn' (16 * now.length) now.flatten) (hd : Own w' 0 vd' (16 * dur.length) dur.flatten) (hw : OwnG recV 77 18 w' 0 vw' wr.length wr) (hap : ∀ k, vn'.ownBlock = some k → vd'.ownBlock ≠ some k)
    (m1 : ∀ k, vn'.ownBlock = some k → f.S k ∨ w.heap.size ≤ k) (m2 : ∀ k, vd'.ownBlock = some k → f.S k ∨ w.heap.size ≤ k) (m3 : ∀ k, vw'.ownBlock = some k → f.S k ∨ w.heap.size ≤ k) :
    ∃ S', FileIn w' ⟨f.name, f.G, S', now, dur, wr⟩ vn' vd' vw' ∧ Away f.S w S' w' := by
  refine ⟨fun k => k = f.G ∨ vn'.ownBlock = some k ∨ vd'.ownBlock = some k ∨ vw'.ownBlock = some k, ⟨⟨hok.now, hok.dur, hok.now16, hok.dur16, hok.wr, hok.wrs⟩, hB, hn, hd, hw, hap, fun _ => Iff.rfl⟩, ha.os, ha.tape, ha.output, ha.size, ha.block, fun k hk => ?_⟩
  rcases hk with rfl | hk | hk | hk
  · exact Or.inl ((h.mine _).2 (Or.inl rfl))
  · exact m1 k hk
  · exact m2 k hk
  · exact m3 k hk
theorem at_of_in {w w' : World} {f : FR} {now dur : List Sec} {wr : List (Nat × Nat × Sec)} {a b c : Value} (h : ∃ S', FileIn w' ⟨f.name, f.G, S', now, dur, wr⟩ a b c ∧ Away f.S w S' w') : ∃ S', FileAt w' ⟨f.name, f.G, S', now, dur, wr⟩ ∧ Away f.S w S' w' := by
  obtain ⟨S', h, ha⟩ := h
  exact ⟨S', ⟨a, b, c, h⟩, ha⟩
theorem FileIn.sG {w : World} {f : FR} {vn vd vw : Value} (h : FileIn w f vn vd vw) : f.S f.G := (h.mine _).2 (Or.inl rfl)
theorem FileIn.sN {w : World} {f : FR} {vn vd vw : Value} (h : FileIn w f vn vd vw) {k : Nat} (e : vn.ownBlock = some k) : f.S k := (h.mine _).2 (Or.inr (Or.inl e))
theorem FileIn.sD {w : World} {f : FR} {vn vd vw : Value} (h : FileIn w f vn vd vw) {k : Nat} (e : vd.ownBlock = some k) : f.S k := (h.mine _).2 (Or.inr (Or.inr (Or.inl e)))
theorem FileIn.sW {w : World} {f : FR} {vn vd vw : Value} (h : FileIn w f vn vd vw) {k : Nat} (e : vw.ownBlock = some k) : f.S k := (h.mine _).2 (Or.inr (Or.inr (Or.inr e)))
theorem putS16 {l : List Sec} (h : ∀ x ∈ l, x.length = 16) (i : Nat) {s : Sec} (hs : s.length = 16) : ∀ x ∈ putS l i s, x.length = 16 := fun x hx => by
  rw [putS_pad] at hx
  rcases List.mem_or_eq_of_mem_set hx with h1 | h1
  · exact pad16 h _ x h1
  · rw [h1, hs]
/-- put. -/
theorem put_any (w : World) (v : Value) (l : List Sec) (h16 : ∀ x ∈ l, x.length = 16) (hl : l.length ≤ 65536) (hown : Own w 0 v (16 * l.length) l.flatten) (r : Nat × Nat × Sec) (hi : r.2.1 < 65536) (hx : SecOk r.2.2) :
    Calls Try.prog 57 #[v, .agg (recV r).toArray] w fun e w' => ∃ v', e = .returned v' ∧ Own w' 0 v' (16 * (putS l r.2.1 r.2.2).length) (putS l r.2.1 r.2.2).flatten ∧ w.grownBy w' v.ownBlock ∧
      (v'.ownBlock = v.ownBlock ∨ ∃ k, w.heap.size ≤ k ∧ v'.ownBlock = some k) := by
  obtain ⟨nr, i, x⟩ := r
  dsimp only at hi hx ⊢
  have q1 : (recV (nr, i, x)).toArray[1]? = some (.int .i64 i) := by simp [recV]
  have q2 : ∀ j, j < 16 → (recV (nr, i, x)).toArray[2 + j]? = some (.int .u8 (x.getD j 0)) := fun j hj => by
    simp only [recV, List.getElem?_toArray, show 2 + j = j + 1 + 1 by omega, List.getElem?_cons_succ, List.getElem?_map]
    rw [List.getElem?_range hj]
    rfl
  obtain ⟨CS, hCS⟩ := named (recV (nr, i, x)).toArray
  rw [hCS.out] at q1 q2 ⊢
  have HO := Lib.hid hown
  obtain ⟨a0, c0, rfl, _, _⟩ := hown.shape
  obtain ⟨A, hA⟩ := named (16 * l.length)
  rw [hA.out] at HO
  rw [hA.out]
  have Q2 := Lib.hid q2
  obtain ⟨R, hR⟩ := named w.heap.size
  clear hown q2
  go_enter Try.func57, Try.ntmps57
  go_wp2_with (go_at_call 52; refine (grow_any _ _ l hl (by rw [hA.out]; exact HO.out.alloc _) (i + 1) (by omega)).mono ?_; rintro e w2 ⟨a1, c1, rfl, h1, h2, h3⟩)
  have hpl : (padS l (i + 1)).length = max l.length (i + 1) := padS_len _ _
  have hp16 := pad16 h16 (i + 1)
  obtain ⟨P, hP⟩ := named (padS l (i + 1))
  rw [hP.out] at h1 h3 hpl hp16 ⊢
  obtain ⟨N1, hN1⟩ := named (16 * P.length)
  rw [hN1.out] at h1 h3 ⊢
  have hNP := hN1.out
  rcases h1.1.2 with ⟨e, e'⟩ | ⟨g, cap, cur, e, _, hg, hnc, hcm, hcs, htake⟩
  · omega
  cases e
  have hmx : (maxLen : Int) = 9223372036854775807 := rfl
  have b1 : ((i : Int) * 16).toNat = 16 * i := by omega
  have b3 : (i : Int) * 16 ≤ (N1 : Int) := by omega
  have b5 : 0 ≤ (i : Int) * 16 := by omega
  have b6 : ¬ c1 = 16 * i := by omega
  have b7 : IntKind.i64.wrap ((i : Int) * 16) = (i : Int) * 16 := by rw [IntKind.wrap_i64]; omega
  have hRg : R ≠ g := fun e => by
    have hlt : (Value.slice a0 A c0).ownBlock = some g ∨ (w.alloc (.cells CS 77)).heap.size = g := by
      rcases h3 with h | h
      · left; rw [← h]; rfl
      · right; simpa [Value.ownBlock] using h.symm
    rcases hlt with h | h
    · have := HO.out.lt h
      have := hR.out
      omega
    · rw [World.size_alloc] at h
      have := hR.out
      omega
  have hB : Blk w2 R 77 CS := by
    rw [← hR.out]
    exact (Blk.new w _ CS).kept h2 (fun e => by have := HO.out.lt e.symm; omega)
  have k1 : w2.drew.cell? ⟨R, 1, none⟩ = some (.int .i64 i) := by rw [show w2.drew.cell? ⟨R, 1, none⟩ = w2.cell? ⟨R, 1, none⟩ from rfl, hB.cell]; exact q1
  rw [hR.out]
  have HB := Lib.hid hB
  have HO1 := Lib.hid h1
  have HP16 := Lib.hid hp16
  have HPL := Lib.hid hpl
  have HHG := Lib.hid h2
  clear hB h1 hp16 hpl h2 hg htake q1 
  go_region_law (refine step_over rfl _ _ rfl g N1 c1 P HP16.out HO1.out.drew i (by have := HPL.out; omega) x hx R 2 (c1 - 16 * i) (by rfl) (by rfl) (fun j hj => by rw [show w2.drew.cell? ⟨R, 2 + j, none⟩ = w2.cell? ⟨R, 2 + j, none⟩ from rfl, HB.out.cell]; exact Q2.out j hj) ?_; intro w4 g1 g2)
  have HG2 := Lib.hid g2
  have HO4 := Lib.hid g1
  clear g1 g2
  go_wp2
  go_ret
  have e1 : putS l i x = P.set i x := by rw [putS_pad, hP.out]
  refine ⟨_, rfl, ?_, ?_, ?_⟩
  · rw [e1, List.length_set, hNP]
    exact HO4.out
  · refine grown_then (grown_past ((Below.refl _ w).alloc (Nat.le_refl _) _) HHG.out) (undrew HG2.out) ?_
    rcases h3 with h | h
    · exact Or.inl h.symm
    · have h' : g = (w.alloc (Obj.cells CS 77)).heap.size := by simpa [Value.ownBlock] using h
      rw [World.size_alloc] at h'
      exact Or.inr (by omega)
  · rcases h3 with h | h
    · exact Or.inl h
    · exact Or.inr ⟨_, by rw [World.size_alloc]; omega, h⟩
/-- size. -/
theorem size_any {w : World} {f : FR} {vn vd vw : Value} (h : FileIn w f vn vd vw) : Calls Try.prog 31 #[.pointer (some ⟨f.G, 0, none⟩)] w fun e w' => e = .returned (.int .i64 f.now.length) ∧ w' = w := by
  obtain ⟨a, c, rfl, _, _⟩ := h.now.shape
  have c1 : w.cell? ⟨f.G, 1, none⟩ = some (.slice a (16 * f.now.length) c) := by rw [h.blk.cell]; rfl
  have h1 := h.ok.now
  obtain ⟨N, hN⟩ := named f.now.length
  rw [hN.out] at c1 h1 ⊢
  obtain ⟨G, hG⟩ := named f.G
  rw [hG.out] at c1 ⊢
  clear h
  have hq : ((16 * N : Nat) : Int).tdiv 16 = (N : Int) := by rw [Int.tdiv_eq_ediv_of_nonneg (by omega)]; omega
  go_enter Try.func31, Try.ntmps31
  go_wp2
  go_ret
  exact ⟨ret_int (by omega), rfl⟩
/-- A record out of its block. -/
theorem run_loadVar_blk {W : World} {R : Nat} {CS : Array Value} (h : Blk W R 77 CS) (hs : CS.size = 18) : (loadVar 77 ⟨R, 0, none⟩).run Try.prog W = .ok (.agg CS) W := by
  have h1 := run_loadVar_mid (P := Try.prog) W R 0 77 CS.toList _ (fun j v hj => by rw [Nat.zero_add, h.cell]; simpa using hj) Try.underlying77 rfl (by
    have h : (Try.prog.info? 77).map (·.size) = some 18 := by kernel_rfl
    rw [h, Array.length_toList, hs])
  simpa using h1
theorem exec_load {P : Program} {W : World} {a : Act} {o : Oper} (ty : TypeId) (x : Operand) (ho : o.op = .load ty x) {ad : Addr} (hx : a.eval x = .pointer (some ad)) {v : Value}
    (hl : (loadVar ty ad).run P W = .ok v W) : (execOp a.eval o).run P W = .ok (.value v) W := by
  unfold execOp
  simp only [ho, hx, Instr.loadAt, Instr.sureAddr, Sem.run_bind, Sem.run_pure, Result.andThen_ok, hl]
theorem Own.belowL' {w w' : World} {base : Nat} {v : Value} {n : Nat} {xs : List Int} (h : Own w base v n xs) (hb : Below w.heap.size w w') : Own w' base v n xs := h.frame fun k hk => hb.block k (h.lt hk)
theorem recV_at (r : Nat × Nat × Sec) (j : Nat) (v : Value) (h : (recV r)[j]? = some v) : j < 18 := by
  rcases Nat.lt_or_ge j 18 with h' | h'
  · exact h'
  · rw [List.getElem?_eq_none (by rw [recV_len]; exact h')] at h
    cases h
set_option maxRecDepth 1000000 in
/-- keep. -/
theorem keep_any {w : World} {f : FR} {vn vd vw : Value} (h : FileIn w f vn vd vw) (r : Nat × Nat × Sec) (hi : r.2.1 < 65536) (hx : SecOk r.2.2) :
    Calls Try.prog 36 #[.pointer (some ⟨f.G, 0, none⟩), .agg (recV r).toArray] w fun e w' => e = .returned (.tuple #[]) ∧ ∃ vd' S', FileIn w' ⟨f.name, f.G, S', f.now, putS f.dur r.2.1 r.2.2, f.wr⟩ vn vd' vw ∧ Away f.S w S' w' := by
  have c2 : w.cell? ⟨f.G, 2, none⟩ = some vd := by rw [h.blk.cell]; rfl
  have HB := Lib.hid h.blk
  have HD := Lib.hid h.dur
  have HOk := Lib.hid h.ok
  obtain ⟨CS, hCS⟩ := named (recV r).toArray
  rw [hCS.out]
  obtain ⟨G, hG⟩ := named f.G
  rw [hG.out] at c2 HB ⊢
  obtain ⟨R, hR⟩ := named w.heap.size
  have hGR : G < R := by rw [← hR.out]; exact HB.out.lt
  have H := Lib.hid h
  clear h
  go_enter Try.func36, Try.ntmps36
  go_wp2_with fail
  rw [hR.out]
  have hRB : Blk (w.alloc (.cells CS 77)) R 77 CS := by rw [← hR.out]; exact Blk.new w _ CS
  obtain ⟨W, hW⟩ := named (w.alloc (.cells CS 77))
  rw [hW.out] at hRB ⊢
  have HCSL : Hid (CS.size = 18) := by rw [Hid, ← hCS.out]; simp [recV_len]
  have hRX : Blk W.drew R 77 CS := hRB
  have hWX : Below w.heap.size w W.drew := by rw [← hW.out]; exact ((Below.refl _ w).alloc (Nat.le_refl _) _).drew
  have HWX := Lib.hid hWX
  have HRX := Lib.hid hRX
  have hGd : vd.ownBlock ≠ some G := fun e => HB.out.not_own (by decide) HD.out e
  have hRd : vd.ownBlock ≠ some R := fun e => by have := HD.out.lt e; have := hR.out; omega
  have hRG : R ≠ G := by omega
  have c2' : W.drew.cell? ⟨G, 2, none⟩ = some vd := by rw [(HB.out.later HWX.out).cell]; rfl
  clear c2 hRB hRX
  refine wp_region_held_drew (S := fun w' => Blk w' R 77 CS ∧ ∃ u, Blk w' G 65 #[.string f.name, vn, u, vw]) (by kernel_rfl) (by first | exact ⟨HRX.out, vd, HB.out.later HWX.out⟩ | exact ⟨HR2.out, vd, HB2.out⟩ | exact ⟨HR2.out.other hRG _, _, HB2.out.set 2 _⟩) (fun hHeld => ?_)
  refine wpAnyH_take (i := 0) (oi := _) (v := ?vk0) rfl (by kernel_rfl) (by kernel_rfl) (by kernel_rfl) (fun _ _ _ h => h) (Or.inl ⟨by rfl, ?hyk0⟩) (by assumption) ?restk0
  case hyk0 => (intro wz hSw; (try dsimp only at hSw); go_simp; try with_reducible rfl)
  (try simp only [List.getElem_toArray, List.getElem_cons_zero, Act.put, List.setIfInBounds_toArray, List.set_cons_zero, List.set_cons_succ])
  refine wpAnyH_take (i := 1) (oi := _) (v := ?vk1) rfl (by kernel_rfl) (by kernel_rfl) (by kernel_rfl) (fun _ _ _ h => h) (Or.inl ⟨by rfl, ?hyk1⟩) (by assumption) ?restk1
  case hyk1 => (intro wz hSw; (try dsimp only at hSw); go_simp; try with_reducible rfl)
  (try simp only [List.getElem_toArray, List.getElem_cons_zero, List.getElem_cons_succ, Act.put, List.setIfInBounds_toArray, List.set_cons_zero, List.set_cons_succ])
  refine wpAnyH_take (i := 2) (oi := _) (v := ?vk2) rfl (by kernel_rfl) (by kernel_rfl) (by kernel_rfl) (fun _ _ _ h => h) (Or.inl ⟨by rfl, ?hyk2⟩) (by assumption) ?restk2
  case hyk2 => (intro wz hSw; (try dsimp only at hSw); go_simp; try with_reducible rfl)
  (try simp only [List.getElem_toArray, List.getElem_cons_zero, List.getElem_cons_succ, Act.put, List.setIfInBounds_toArray, List.set_cons_zero, List.set_cons_succ])
  refine wpAnyH_take (i := 3) (oi := _) (v := ?vk3) rfl (by kernel_rfl) (by kernel_rfl) (by kernel_rfl) (fun _ _ _ h => h) (Or.inl ⟨by rfl, ?hyk3⟩) (by assumption) ?restk3
  case hyk3 => (intro wz hSw; (try dsimp only at hSw); go_simp; try with_reducible rfl)
  (try simp only [List.getElem_toArray, List.getElem_cons_zero, List.getElem_cons_succ, Act.put, List.setIfInBounds_toArray, List.set_cons_zero, List.set_cons_succ])
  refine wpAnyH_take (i := 5) (oi := _) (v := .agg CS) rfl (by kernel_rfl) (by kernel_rfl) (by kernel_rfl) (fun _ _ _ h => h) (Or.inl ⟨by rfl, fun wz hSw => exec_load 77 (.tmp 3) rfl rfl (run_loadVar_blk hSw.1 HCSL.out)⟩) (by assumption) ?_
  (try simp only [List.getElem_toArray, List.getElem_cons_zero, List.getElem_cons_succ, Act.put, List.setIfInBounds_toArray, List.set_cons_zero, List.set_cons_succ])
  refine wpAnyH_ready (rs := [4]) (by kernel_rfl) (by simp) ?_
  refine AllReadyH.cons (o := _) rfl (fun K hK => ?_) AllReadyH.nil
  rw [if_pos (by rfl)]
  go_simp
  refine hK.out _ _ (by first | exact ⟨HRX.out, vd, HB.out.later HWX.out⟩ | exact ⟨HR2.out, vd, HB2.out⟩ | exact ⟨HR2.out.other hRG _, _, HB2.out.set 2 _⟩) (fun hHeld => ?_)
  clear hK K
  (try simp only [List.getElem_toArray, List.getElem_cons_zero, List.getElem_cons_succ, Act.put, List.setIfInBounds_toArray, List.set_cons_zero, List.set_cons_succ])
  refine wpAnyH_ready (rs := [6]) (by kernel_rfl) (by simp) ?_
  refine AllReadyH.cons (o := _) rfl (fun K hK => ?_) AllReadyH.nil
  rw [if_pos (by rfl)]
  go_simp
  (go_at_call 57; rw [← hCS.out]; refine (put_any _ _ f.dur HOk.out.dur16 HOk.out.dur (HD.out.belowL' HWX.out) r hi hx).mono ?_; rintro e w2 ⟨v2, rfl, h1, h2, h3⟩; obtain ⟨a2, n2, rfl, _, _⟩ := h1.shape; have hB2 := (HB.out.later HWX.out).kept h2 (fun e => hGd e.symm); have hR2 := HRX.out.kept h2 (fun e => hRd e.symm); have q2 : w2.cell? ⟨G, 2, none⟩ = some vd := (by rw [hB2.cell]; rfl); have q3 := hB2.free 2; have HR2 := Lib.hid hR2; have HB2 := Lib.hid hB2; have H1 := Lib.hid h1; have H2 := Lib.hid h2; have H3 := Lib.hid h3; clear hB2 h1 h2 h3 hR2)
  dsimp only
  refine hK.out _ _ (by first | exact ⟨HRX.out, vd, HB.out.later HWX.out⟩ | exact ⟨HR2.out, vd, HB2.out⟩ | exact ⟨HR2.out.other hRG _, _, HB2.out.set 2 _⟩) (fun hHeld => ?_)
  clear hK K
  (try simp only [List.getElem_toArray, List.getElem_cons_zero, List.getElem_cons_succ, Act.put, List.setIfInBounds_toArray, List.set_cons_zero, List.set_cons_succ])
  refine wpAnyH_take (i := 7) (oi := _) (v := ?vk7) rfl (by kernel_rfl) (by kernel_rfl) (by kernel_rfl) (fun _ _ _ h => h) (Or.inl ⟨by rfl, ?hyk7⟩) (by assumption) ?restk7
  case hyk7 => (intro wz hSw; (try dsimp only at hSw); go_simp; try with_reducible rfl)
  (try simp only [List.getElem_toArray, List.getElem_cons_zero, List.getElem_cons_succ, Act.put, List.setIfInBounds_toArray, List.set_cons_zero, List.set_cons_succ])
  refine wpAnyH_take (i := 8) (oi := _) (v := ?vk8) rfl (by kernel_rfl) (by kernel_rfl) (by kernel_rfl) (fun _ _ _ h => h) (Or.inl ⟨by rfl, ?hyk8⟩) (by assumption) ?restk8
  case hyk8 => (intro wz hSw; (try dsimp only at hSw); go_simp; try with_reducible rfl)
  (try simp only [List.getElem_toArray, List.getElem_cons_zero, List.getElem_cons_succ, Act.put, List.setIfInBounds_toArray, List.set_cons_zero, List.set_cons_succ])
  refine wpAnyH_ready (rs := [9]) (by kernel_rfl) (by simp) ?_
  refine AllReadyH.cons (o := _) rfl (fun K hK => ?_) AllReadyH.nil
  rw [if_pos (by rfl)]
  go_simp
  refine hK.out _ _ (by first | exact ⟨HRX.out, vd, HB.out.later HWX.out⟩ | exact ⟨HR2.out, vd, HB2.out⟩ | exact ⟨HR2.out.other hRG _, _, HB2.out.set 2 _⟩) (fun hHeld => ?_)
  clear hK K
  (try simp only [List.getElem_toArray, List.getElem_cons_zero, List.getElem_cons_succ, Act.put, List.setIfInBounds_toArray, List.set_cons_zero, List.set_cons_succ])
  refine wpAnyH_done (by kernel_rfl) ?_ _
  go_end0
  have h := H.out
  obtain rfl := hG.out
  obtain ⟨v2, hv2⟩ := named (Value.slice a2 (16 * (putS f.dur r.2.1 r.2.2).length) n2)
  have h1 := H1.out
  have h3 := H3.out
  rw [hv2.out] at h1 h3 ⊢
  have hG2 : v2.ownBlock ≠ some f.G := HB2.out.not_own (by decide) h1
  have hw : ∀ k, k < w.heap.size → k ≠ f.G → vd.ownBlock ≠ some k → (w2.setCell ⟨f.G, 2, none⟩ v2).heap[k]? = w.heap[k]? := fun k hk h4 h5 =>
    (Below.heap_setCell w2 ⟨f.G, 2, none⟩ v2 k h4).trans ((H2.out.block k (Nat.lt_of_lt_of_le hk hWX.size) (fun e => h5 e.symm)).trans (hWX.block k hk))
  refine ⟨rfl, v2, h.done f.now (putS f.dur r.2.1 r.2.2) f.wr vn v2 vw ?_ ⟨h.ok.now, by rw [putS_len]; have := h.ok.dur; show max _ _ ≤ _; omega, h.ok.now16, putS16 h.ok.dur16 _ hx.1, h.ok.wr, h.ok.wrs⟩ (HB2.out.set 2 v2) ?_ ?_ ?_ ?_ (fun k hk => Or.inl (h.sN hk)) ?_ (fun k hk => Or.inl (h.sW hk))⟩
  · exact (((Away.refl f.S w).later hWX).grown H2.out fun k e => Or.inl (h.sD e)).set h.sG 2 v2
  · exact h.now.frame fun k hk => hw k (h.now.lt hk) (fun e => h.blk.not_own (by decide) h.now (e ▸ hk)) (h.apart k hk)
  · exact h1.frame fun k hk => Below.heap_setCell w2 ⟨f.G, 2, none⟩ v2 k (fun e => hG2 (hk.trans (congrArg some e)))
  · exact h.wr.frame fun k hk => hw k (h.wr.1.lt k hk).2 (fun e => h.blk.not_row (by decide) h.wr (e ▸ hk).symm) (fun e => h.wr.not_own (by decide) h.dur e hk)
  · intro k hk e
    rcases h3 with h3 | ⟨k', h4, h3⟩
    · exact h.apart k hk (h3.symm.trans e)
    · have := h.now.lt hk
      have := hWX.size
      have : k' = k := by rw [h3] at e; exact Option.some.inj e
      omega
  · intro k hk
    rcases h3 with h3 | ⟨k', h4, h3⟩
    · exact Or.inl (h.sD (h3.symm.trans hk))
    · have : k' = k := by rw [h3] at hk; exact Option.some.inj hk
      have := hWX.size
      exact Or.inr (by omega)
end Go.Proofs.Ytnhaidofblfopaa
