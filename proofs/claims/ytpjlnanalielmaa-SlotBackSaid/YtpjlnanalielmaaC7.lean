/-
  What the project's own with and encode answer (package slot). Conditions: none.
-/
import Derived.Test.YtpjlnanalielmaaB7
import Derived.Laws.CopyOwn
import Derived.Laws.CopyRow
import Derived.Laws.Rows
import Derived.Laws.Tables
namespace Go.Proofs.Ytpjlnanalielmaa
open Go.RowKit
set_option linter.unusedVariables false

/-- 'PutPost' with the length under a name. -/
theorem PutPost.sized {w0 : World} {l : List Int} {err : Int} {e : Ending} {w : World} (h : PutPost w0 l err e w) {n : Nat} (hn : l.length = n) :
    ∃ a c, e = .returned (.tuple #[.slice a n c, .int .i64 err]) ∧ Bytes w a n l ∧ ((a = none → c = 0) ∧ n ≤ c) ∧ Below w0.heap.size w0 w := by
  subst hn
  exact h
theorem wpList_copy_eq7 {P : Program} {ops : Array Oper} {rest : List Oper} {o : Oper} {a : Act} {w : World} {Q : Exit → Act → World → Prop} (hgd : o.guard = none) (d s : Operand) (t t' : TypeId)
    (ho : o.op = .call { callee := .builtin .copy, args := #[d, s], argTypes := #[t, t'] }) (v u : Value) (hd : a.eval d = v) (hs : a.eval s = u) {v' : Value} {w' : World}
    (hr : (Builtin.copy_ #[t, t'] o.type #[v, u]).run P w = .ok v' w') (h : wpList P ops Q rest (a.put o.dst v') w') : wpList P ops Q (o :: rest) a w := by
  refine wpList_plain hgd fun K hK => ?_
  unfold Oper.wp execOp
  simp only [ho, resolve, invoke, builtin, Sem.run_bind, Sem.run_pure, Result.andThen_ok, List.map_toArray, List.map_cons, List.map_nil, hd, hs, hr]
  exact hK _ _ h
theorem arrV_size (l : List Int) : (arrV l).size = l.length := by simp [arrV]
theorem arrV_one (l : List Int) : (arrV l).all (·.oneCell') = true := all_oneCell_toArray fun v hv => by
  obtain ⟨c, _, rfl⟩ := List.mem_map.1 hv
  rfl
theorem arrV_over (l d : List Int) (p : Nat) : ((arrV l).toList.take p ++ d.map (Value.int .u8) ++ (arrV l).toList.drop (p + (d.map (Value.int .u8)).length)).toArray = arrV (overB l p d) := by
  simp [arrV, overB, List.map_take, List.map_drop]
theorem sec_size : (Try.prog.info? 48).map (·.size) = some 16 := by kernel_rfl
/-- Four bytes copied over an array's. -/
theorem copy_over {w : World} {X : Nat} {l d : List Int} (hl : l.length = 16) (hB : Blk w X 48 (arrV l)) {a : Option Addr} {c : Nat} (hd : Bytes w a 4 d) (P dc : Nat) (hP : P + 4 ≤ 16) (ty : TypeId) :
    (Builtin.copy_ #[25, 25] ty #[.slice (some ⟨X, P, none⟩) (16 - P) dc, .slice a 4 c]).run Try.prog w = .ok (goInt 4) (w.setRow X (arrV (overB l P d))) := by
  obtain ⟨i0, hi0, _, hz1, _⟩ := info_parts info5
  obtain ⟨h1, h2, h3⟩ := hd
  obtain ⟨b, off, rfl, hlt, hc⟩ := h3.resolve_left (by omega)
  have hcl : (d.map (Value.int .u8)).length = 4 := by rw [List.length_map, h1]
  have hr := run_copy_row (P := Try.prog) w 25 25 ty 5 X P (16 - P) dc ⟨b, off, none⟩ 4 c (arrV l) 48 (d.map (Value.int .u8)) Try.underlying25 (by rw [hi0]; simp [hz1]) hB
    (by rw [hcl]; simp only [Nat.min_def]; split <;> omega)
    (fun j v hj => by
      have hlt : j < 4 := by
        rcases Nat.lt_or_ge j 4 with h' | h'
        · exact h'
        · rw [List.getElem?_eq_none (by rw [hcl]; exact h')] at hj
          cases hj
      rw [add_none, hc j (by omega)]
      rw [List.getElem?_map, List.getElem?_eq_getElem (by omega)] at hj
      rw [List.getD_eq_getElem?_getD, List.getElem?_eq_getElem (by omega)]
      simpa using hj) (by rw [hcl, arrV_size, hl]; omega) (fun v hv => by obtain ⟨c, _, rfl⟩ := List.mem_map.1 hv; rfl)
  rw [arrV_over, hcl] at hr
  exact hr

set_option maxHeartbeats 800000 in
/-- The sector with a number at a place. -/
theorem with_any7 (w : World) (l : List Int) (hl : l.length = 16) (hb : ∀ c ∈ l, 0 ≤ c ∧ c < 256) (K : Int) (P v : Nat) (hK : (K = 0 ∧ P = 0) ∨ (K = 1 ∧ P = 4) ∨ (K = 2 ∧ P = 8) ∨ (K = 3 ∧ P = 12)) (hv : v < 4294967296) :
    Calls Try.prog 27 #[.agg (arrV l), .int .i64 K, .int .u64 v] w fun e w' => e = .returned (.agg (arrV (overB l P (numB false 4 v)))) ∧ Below w.heap.size w w' := by
  have hP4 : P + 4 ≤ 16 := by omega
  have HP : Hid (∀ w, Calls Try.prog 33 #[.slice none 0 0, .int .i64 4, .bool false, .int .u64 v] w (PutPost w (numB false 4 v) 0)) := fun w => by
    have := fieldPut_ok none 0 0 4 v [] false w (none_bytes w) (fun _ => rfl) (by omega) (by omega) (by omega) (fit4 hv) (fits4 hv)
    rwa [List.nil_append] at this
  have hDl := numB_len false 4 v
  obtain ⟨D, hD⟩ := named (numB false 4 v)
  rw [hD.out] at HP hDl ⊢
  have hz : ∀ w, (zeroValue 48).run Try.prog w = .ok (.agg (arrV (noughts 16))) w := fun w => by kernel_rfl
  obtain ⟨Z, hZ⟩ := named (arrV (noughts 16))
  obtain ⟨X, hX⟩ := named w.heap.size
  have hZs : Z.size = 16 := by rw [← hZ.out, arrV_size]; rfl
  rw [hZ.out] at hz
  have hRs : (arrV (overB l P D)).size = 16 := by rw [arrV_size, overB_len (by omega), hl]
  have hR1 := arrV_one (overB l P D)
  obtain ⟨CS, hCS⟩ := named (arrV l)
  have HCPY : Hid (∀ (w3 : World) (a : Option Addr) (c dc : Nat) (ty : TypeId), Blk w3 X 48 CS → Bytes w3 a 4 D → (Builtin.copy_ #[25, 25] ty #[.slice (some ⟨X, P, none⟩) (16 - P) dc, .slice a 4 c]).run Try.prog w3 = .ok (goInt 4) (w3.setRow X (arrV (overB l P D)))) := fun w3 a c dc ty h1 h2 =>
    copy_over hl (by rw [hCS.out]; exact h1) h2 P dc hP4 ty
  obtain ⟨R, hR⟩ := named (arrV (overB l P D))
  rw [hR.out] at HCPY hRs hR1 ⊢
  rw [hCS.out]
  have HR1 := Lib.hid hR1
  have HRI : Hid ((Try.prog.info? 48).map (·.size) = some R.size) := by rw [Hid, hRs]; exact sec_size
  have HZR : Hid (Z.size = R.size) := by rw [Hid, hZs, hRs]
  have HB0 : Hid (Blk ((w.alloc (.cells CS 48)).alloc (.cells Z 48)) X 48 CS) := by rw [← hX.out]; exact (Blk.new w _ CS).alloc _
  have HB1 : Hid (Blk ((w.alloc (.cells CS 48)).alloc (.cells Z 48)) (X + 1) 48 Z) := by
    have := Blk.new (w.alloc (.cells CS 48)) 48 Z
    rwa [World.size_alloc, hX.out] at this
  have HG0 : Hid (Below X w ((w.alloc (.cells CS 48)).alloc (.cells Z 48))) := by rw [← hX.out]; exact ((Below.refl _ _).alloc (Nat.le_refl _) _).alloc (by simp) _
  have hXX := hX.out
  rw [hX.out]
  have HDL := Lib.hid hDl
  clear hb hl hv hDl hR1 hRs hZs hD hZ hCS hR
  rcases hK with ⟨rfl, rfl⟩ | ⟨rfl, rfl⟩ | ⟨rfl, rfl⟩ | ⟨rfl, rfl⟩
  all_goals
    go_enter Try.func27, Try.ntmps27
    go_wp2_with (first
      | (go_at_call 33; refine (HP.out _).mono ?_; rintro e w3 hp; obtain ⟨a1, c1, rfl, g1, _, g3⟩ := hp.sized HDL.out; have HD := Lib.hid g1; have HB3 := Lib.hid (HB0.out.later g3); have HB4 := Lib.hid (HB1.out.later g3); have HG3 := Lib.hid (HG0.out.trans (g3.mono (by rw [← hX.out]; exact HG0.out.size))); clear hp g1 g3)
      | (refine wpList_copy_eq7 rfl (.tmp 16) (.tmp 17) 25 25 rfl _ _ rfl rfl (HCPY.out _ _ _ _ _ HB3.out HD.out) ?_)
      | (refine wpList_load_row rfl 48 (.tmp 3) rfl X rfl 48 R (0, 0) _ (setRow_heap _ X CS R _ _ HB3.out) Try.underlying48 rfl HRI.out ?_)
      | (refine wpList_store_row rfl 48 (.tmp 6) (.tmp 19) rfl (X + 1) R rfl rfl 48 Z ((setRow_other _ X (X + 1) _ (by omega)).trans HB4.out) HRI.out HZR.out HR1.out ?_))
    refine bodyPost_ret (v := .agg R) (results_cell_row rfl _ _ (X + 1) 48 R (0, 0) _ rfl ?_ Try.underlying48 rfl HRI.out) rfl ⟨rfl, ?_⟩
    · exact setRow_heap _ (X + 1) Z R _ _ ((setRow_other _ X (X + 1) _ (by omega)).trans HB4.out)
    · exact below_setRow (below_setRow HG3.out (Nat.le_refl _) _) (by omega) _
end Go.Proofs.Ytpjlnanalielmaa
