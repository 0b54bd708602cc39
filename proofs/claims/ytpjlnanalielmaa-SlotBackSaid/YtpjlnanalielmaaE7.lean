/-
  What the project's own decode, Put and Get answer (package slot). Conditions: the slice reads as bytes.
-/
import Derived.Test.YtpjlnanalielmaaD7
import Derived.Deep.MidRow
namespace Go.Proofs.Ytpjlnanalielmaa
open Go.RowKit
set_option linter.unusedVariables false

def Sect (X : Nat) (CS : Array Value) (w0 W : World) : Prop := Blk W X 48 CS ∧ (∃ R, R.size = 4 ∧ Blk W (X + 1) 24 R) ∧ Below X w0 W
theorem Sect.drew {X : Nat} {CS : Array Value} {w0 W : World} (h : Sect X CS w0 W) : Sect X CS w0 W.drew := ⟨h.1, h.2.1, h.2.2.drew⟩
theorem Sect.called {X : Nat} {CS : Array Value} {w0 W W' : World} (h : Sect X CS w0 W) (hb : Below W.heap.size W W') : Sect X CS w0 W' := ⟨h.1.later hb, (by obtain ⟨R, h1, h2⟩ := h.2.1; exact ⟨R, h1, h2.later hb⟩), h.2.2.trans (hb.mono (by have := h.1.lt; omega))⟩
theorem Sect.stored {X : Nat} {CS : Array Value} {w0 W : World} (h : Sect X CS w0 W) (R : Array Value) (hR : R.size = 4) : Sect X CS w0 (W.setRow (X + 1) R) := by
  obtain ⟨h1, ⟨R', _, h2⟩, h3⟩ := h
  exact ⟨(setRow_other _ _ _ _ (by omega)).trans h1, ⟨R, hR, setRow_heap _ _ _ _ _ _ h2⟩, below_setRow h3 (by omega) _⟩
theorem run_loadVar_sec {W : World} {R : Nat} {CS : Array Value} (h : Blk W R 48 CS) (hs : CS.size = 16) : (loadVar 48 ⟨R, 0, none⟩).run Try.prog W = .ok (.agg CS) W := by
  have h1 := run_loadVar_mid (P := Try.prog) W R 0 48 CS.toList _ (fun j v hj => by rw [Nat.zero_add, h.cell]; simpa using hj) Try.underlying48 rfl (by
    rw [sec_size, Array.length_toList, hs])
  simpa using h1
theorem exec_load7 {P : Program} {W : World} {a : Act} {o : Oper} (ty : TypeId) (x : Operand) (ho : o.op = .load ty x) {ad : Addr} (hx : a.eval x = .pointer (some ad)) {v : Value}
    (hl : (loadVar ty ad).run P W = .ok v W) : (execOp a.eval o).run P W = .ok (.value v) W := by
  unfold execOp
  simp only [ho, hx, Instr.loadAt, Instr.sureAddr, Sem.run_bind, Sem.run_pure, Result.andThen_ok, hl]
theorem small_getTo {l : List Int} (hb : ∀ c ∈ l, 0 ≤ c ∧ c < 256) (p : Nat) : getTo false 4 p l 4 < 4294967296 := getTo_lt hb false 4 p 4
set_option maxHeartbeats 1600000 in
theorem decode_any7 (w : World) (l : List Int) (hl : l.length = 16) (hb : ∀ c ∈ l, 0 ≤ c ∧ c < 256) :
    Calls Try.prog 21 #[.agg (arrV l)] w fun e w' => e = .returned (.agg (slV (slOf l)).toArray) ∧ Below w.heap.size w w' := by
  have h0 := fun w => number_any7 w l hl hb 0 0 0 0 rfl rfl rfl (by omega)
  have h1 := fun w => number_any7 w l hl hb 1 4 1 4 rfl rfl rfl (by omega)
  have h2 := fun w => number_any7 w l hl hb 2 8 2 8 rfl rfl rfl (by omega)
  have h3 := fun w => number_any7 w l hl hb 3 12 3 12 rfl rfl rfl (by omega)
  have b0 := small_getTo hb 0
  have b1 := small_getTo hb 4
  have b2 := small_getTo hb 8
  have b3 := small_getTo hb 12
  have hs : (arrV l).size = 16 := (arrV_size l).trans hl
  obtain ⟨CS, hCS⟩ := named (arrV l)
  rw [hCS.out] at h0 h1 h2 h3 hs ⊢
  have HCSL := Lib.hid hs
  unfold slOf slV
  obtain ⟨q, hq⟩ := named (getTo false 4 0 l 4)
  obtain ⟨s, hss⟩ := named (getTo false 4 4 l 4)
  obtain ⟨c, hc⟩ := named (getTo false 4 8 l 4)
  obtain ⟨m, hm⟩ := named (getTo false 4 12 l 4)
  rw [hq.out] at h0 b0 ⊢
  rw [hss.out] at h1 b1 ⊢
  rw [hc.out] at h2 b2 ⊢
  rw [hm.out] at h3 b3 ⊢
  obtain ⟨RS, hRS⟩ := named #[Value.int .i64 q, .int .i64 s, .int .i64 c, .int .u32 m]
  have hRSs : RS.size = 4 := by rw [← hRS.out]; rfl
  have hRS1 : RS.all (·.oneCell') = true := by rw [← hRS.out]; exact all_oneCell_toArray fun v hv => sl_rowed.one ((q : Int), (s : Int), (c : Int), (m : Int)) v hv
  show Calls _ _ _ w fun e w' => e = .returned (.agg #[.int .i64 q, .int .i64 s, .int .i64 c, .int .u32 m]) ∧ Below w.heap.size w w'
  rw [hRS.out]
  have e0 : IntKind.i64.wrap (q : Int) = q := by rw [IntKind.wrap_i64]; omega
  have e1 : IntKind.i64.wrap (s : Int) = s := by rw [IntKind.wrap_i64]; omega
  have e2 : IntKind.i64.wrap (c : Int) = c := by rw [IntKind.wrap_i64]; omega
  have e3 : IntKind.u32.wrap (m : Int) = m := by rw [IntKind.wrap_u32]; omega
  have H0 := Lib.hid h0
  have H1 := Lib.hid h1
  have H2 := Lib.hid h2
  have H3 := Lib.hid h3
  have HI : Hid ((Try.prog.info? 48).map (·.size) = some CS.size) := by rw [Hid, hs]; exact sec_size
  obtain ⟨X, hX⟩ := named w.heap.size
  have HS0 : Hid (Sect X CS w ((w.alloc (.cells CS 48)).alloc (.cells (slV slZ).toArray 24))) := by
    rw [← hX.out]
    refine ⟨(Blk.new w _ CS).alloc _, ⟨(slV slZ).toArray, rfl, ?_⟩, ((Below.refl _ _).alloc (Nat.le_refl _) _).alloc (by simp) _⟩
    have := Blk.new (w.alloc (.cells CS 48)) 24 (slV slZ).toArray
    rwa [World.size_alloc] at this
  have hXX := hX.out
  rw [hX.out]
  clear h0 h1 h2 h3 hq hss hc hm hb hl hCS hs
  go_enter Try.func21, Try.ntmps21
  go_wp2_with fail
  have hRI : (Try.prog.info? 24).map (·.size) = some RS.size := by rw [hRSs]; kernel_rfl
  have HSD : Hid (Sect X CS w _) := Lib.hid HS0.out.drew
  refine wp_region_held_drew (S := fun w' => Sect X CS w w') (by kernel_rfl) (by first | exact HS5.out | exact HS4.out | exact HS3.out | exact HS2.out | exact HS1.out | exact HSD.out) (fun hHeld => ?_)
  refine wpAnyH_take (i := 0) (oi := _) (v := .agg CS) rfl (by kernel_rfl) (by kernel_rfl) (by kernel_rfl) (fun _ _ _ h => h) (Or.inl ⟨by rfl, fun wz hSw => exec_load7 48 (.tmp 1) rfl rfl (run_loadVar_sec hSw.1 HCSL.out)⟩) (by assumption) ?_
  (try simp only [List.getElem_toArray, List.getElem_cons_zero, Act.put, List.setIfInBounds_toArray, List.set_cons_zero, List.set_cons_succ])
  refine wpAnyH_take (i := 3) (oi := _) (v := .agg CS) rfl (by kernel_rfl) (by kernel_rfl) (by kernel_rfl) (fun _ _ _ h => h) (Or.inl ⟨by rfl, fun wz hSw => exec_load7 48 (.tmp 1) rfl rfl (run_loadVar_sec hSw.1 HCSL.out)⟩) (by assumption) ?_
  (try simp only [List.getElem_toArray, List.getElem_cons_zero, List.getElem_cons_succ, Act.put, List.setIfInBounds_toArray, List.set_cons_zero, List.set_cons_succ])
  refine wpAnyH_take (i := 6) (oi := _) (v := .agg CS) rfl (by kernel_rfl) (by kernel_rfl) (by kernel_rfl) (fun _ _ _ h => h) (Or.inl ⟨by rfl, fun wz hSw => exec_load7 48 (.tmp 1) rfl rfl (run_loadVar_sec hSw.1 HCSL.out)⟩) (by assumption) ?_
  (try simp only [List.getElem_toArray, List.getElem_cons_zero, List.getElem_cons_succ, Act.put, List.setIfInBounds_toArray, List.set_cons_zero, List.set_cons_succ])
  refine wpAnyH_take (i := 9) (oi := _) (v := .agg CS) rfl (by kernel_rfl) (by kernel_rfl) (by kernel_rfl) (fun _ _ _ h => h) (Or.inl ⟨by rfl, fun wz hSw => exec_load7 48 (.tmp 1) rfl rfl (run_loadVar_sec hSw.1 HCSL.out)⟩) (by assumption) ?_
  (try simp only [List.getElem_toArray, List.getElem_cons_zero, List.getElem_cons_succ, Act.put, List.setIfInBounds_toArray, List.set_cons_zero, List.set_cons_succ])
  refine wpAnyH_ready (rs := [1]) (by kernel_rfl) (by simp) ?_
  refine AllReadyH.cons (o := _) rfl (fun K hK => ?_) AllReadyH.nil
  rw [if_pos (by rfl)]
  go_simp
  (go_at_call 29; (with_reducible refine (H0.out _).mono ?_); rintro e w1 ⟨rfl, g⟩; have HS1 := Lib.hid (HSD.out.called g); clear g)
  dsimp only
  refine hK.out _ _ (by first | exact HS5.out | exact HS4.out | exact HS3.out | exact HS2.out | exact HS1.out | exact HSD.out) (fun hHeld => ?_)
  clear hK K
  (try simp only [List.getElem_toArray, List.getElem_cons_zero, List.getElem_cons_succ, Act.put, List.setIfInBounds_toArray, List.set_cons_zero, List.set_cons_succ])
  refine wpAnyH_take (i := 2) (oi := _) (v := ?vd2) rfl (by kernel_rfl) (by kernel_rfl) (by kernel_rfl) (fun _ _ _ h => h) (Or.inl ⟨by rfl, ?hyd2⟩) (by assumption) ?restd2
  case hyd2 => (intro wz hSw; (try dsimp only at hSw); go_simp; try with_reducible rfl)
  (try simp only [List.getElem_toArray, List.getElem_cons_zero, List.getElem_cons_succ, Act.put, List.setIfInBounds_toArray, List.set_cons_zero, List.set_cons_succ])
  refine wpAnyH_ready (rs := [4]) (by kernel_rfl) (by simp) ?_
  refine AllReadyH.cons (o := _) rfl (fun K hK => ?_) AllReadyH.nil
  rw [if_pos (by rfl)]
  go_simp
  (go_at_call 29; (with_reducible refine (H1.out _).mono ?_); rintro e w2 ⟨rfl, g⟩; have HS2 := Lib.hid (HS1.out.called g); clear g)
  dsimp only
  refine hK.out _ _ (by first | exact HS5.out | exact HS4.out | exact HS3.out | exact HS2.out | exact HS1.out | exact HSD.out) (fun hHeld => ?_)
  clear hK K
  (try simp only [List.getElem_toArray, List.getElem_cons_zero, List.getElem_cons_succ, Act.put, List.setIfInBounds_toArray, List.set_cons_zero, List.set_cons_succ])
  refine wpAnyH_take (i := 5) (oi := _) (v := ?vd5) rfl (by kernel_rfl) (by kernel_rfl) (by kernel_rfl) (fun _ _ _ h => h) (Or.inl ⟨by rfl, ?hyd5⟩) (by assumption) ?restd5
  case hyd5 => (intro wz hSw; (try dsimp only at hSw); go_simp; try with_reducible rfl)
  (try simp only [List.getElem_toArray, List.getElem_cons_zero, List.getElem_cons_succ, Act.put, List.setIfInBounds_toArray, List.set_cons_zero, List.set_cons_succ])
  refine wpAnyH_ready (rs := [7]) (by kernel_rfl) (by simp) ?_
  refine AllReadyH.cons (o := _) rfl (fun K hK => ?_) AllReadyH.nil
  rw [if_pos (by rfl)]
  go_simp
  (go_at_call 29; (with_reducible refine (H2.out _).mono ?_); rintro e w3 ⟨rfl, g⟩; have HS3 := Lib.hid (HS2.out.called g); clear g)
  dsimp only
  refine hK.out _ _ (by first | exact HS5.out | exact HS4.out | exact HS3.out | exact HS2.out | exact HS1.out | exact HSD.out) (fun hHeld => ?_)
  clear hK K
  (try simp only [List.getElem_toArray, List.getElem_cons_zero, List.getElem_cons_succ, Act.put, List.setIfInBounds_toArray, List.set_cons_zero, List.set_cons_succ])
  refine wpAnyH_take (i := 8) (oi := _) (v := ?vd8) rfl (by kernel_rfl) (by kernel_rfl) (by kernel_rfl) (fun _ _ _ h => h) (Or.inl ⟨by rfl, ?hyd8⟩) (by assumption) ?restd8
  case hyd8 => (intro wz hSw; (try dsimp only at hSw); go_simp; try with_reducible rfl)
  (try simp only [List.getElem_toArray, List.getElem_cons_zero, List.getElem_cons_succ, Act.put, List.setIfInBounds_toArray, List.set_cons_zero, List.set_cons_succ])
  refine wpAnyH_ready (rs := [10]) (by kernel_rfl) (by simp) ?_
  refine AllReadyH.cons (o := _) rfl (fun K hK => ?_) AllReadyH.nil
  rw [if_pos (by rfl)]
  go_simp
  (go_at_call 29; (with_reducible refine (H3.out _).mono ?_); rintro e w4 ⟨rfl, g⟩; have HS4 := Lib.hid (HS3.out.called g); clear g)
  dsimp only
  refine hK.out _ _ (by first | exact HS5.out | exact HS4.out | exact HS3.out | exact HS2.out | exact HS1.out | exact HSD.out) (fun hHeld => ?_)
  clear hK K
  (try simp only [List.getElem_toArray, List.getElem_cons_zero, List.getElem_cons_succ, Act.put, List.setIfInBounds_toArray, List.set_cons_zero, List.set_cons_succ])
  refine wpAnyH_take (i := 11) (oi := _) (v := ?vd11) rfl (by kernel_rfl) (by kernel_rfl) (by kernel_rfl) (fun _ _ _ h => h) (Or.inl ⟨by rfl, ?hyd11⟩) (by assumption) ?restd11
  case hyd11 => (intro wz hSw; (try dsimp only at hSw); go_simp; try with_reducible rfl)
  (try simp only [List.getElem_toArray, List.getElem_cons_zero, List.getElem_cons_succ, Act.put, List.setIfInBounds_toArray, List.set_cons_zero, List.set_cons_succ])
  refine wpAnyH_take (i := 12) (oi := _) (v := ?vd12) rfl (by kernel_rfl) (by kernel_rfl) (by kernel_rfl) (fun _ _ _ h => h) (Or.inl ⟨by rfl, ?hyd12⟩) (by assumption) ?restd12
  case hyd12 => (intro wz hSw; (try dsimp only at hSw); go_simp; try with_reducible rfl)
  (try simp only [List.getElem_toArray, List.getElem_cons_zero, List.getElem_cons_succ, Act.put, List.setIfInBounds_toArray, List.set_cons_zero, List.set_cons_succ])
  refine wpAnyH_ready (rs := [13]) (by kernel_rfl) (by simp) ?_
  refine AllReadyH.cons (o := _) rfl (fun K hK => ?_) AllReadyH.nil
  rw [if_pos (by rfl)]
  (obtain ⟨R5, z5, hB5⟩ := HS4.out.2.1; refine wp_store_row 24 (.tmp 2) (.tmp 15) rfl (X + 1) RS rfl (congrArg Value.agg hRS.out) 24 R5 hB5 hRI (z5.trans hRSs.symm) hRS1 ?_; have HR := Lib.hid (setRow_heap _ (X + 1) _ RS _ _ hB5); have HS5 := Lib.hid (HS4.out.stored RS hRSs); clear z5 hB5)
  (try dsimp only)
  refine hK.out _ _ (by first | exact HS5.out | exact HS4.out | exact HS3.out | exact HS2.out | exact HS1.out | exact HSD.out) (fun hHeld => ?_)
  clear hK K
  (try simp only [List.getElem_toArray, List.getElem_cons_zero, List.getElem_cons_succ, Act.put])
  refine wpAnyH_done (by kernel_rfl) ?_ _
  go_wp2
  refine bodyPost_ret (v := .agg RS) (results_cell_row rfl _ _ (X + 1) 24 RS (0, 0) _ rfl HR.out Try.underlying24 rfl hRI) rfl ⟨rfl, HS5.out.2.2⟩
end Go.Proofs.Ytpjlnanalielmaa
