/-
  The reference's cache (layer 10): use. Conditions: the cache as it lies, the key is there.
-/
import Derived.Test.YthmkmhfoicfapaaRb
namespace Go.Proofs.Ythmkmhfoicfapaa
open Go.RowKit
set_option linter.unusedVariables false

theorem use_list {LM : List RI} {i : Nat} {x : RI} (hi : LM[i]? = some x) (h1 : ∀ j y, LM[j]? = some y → y.1.key = x.1.key → j = i) : useR (LM.map fun x => x.1) x.1.key = (LM.take i ++ LM.drop (i + 1) ++ [x]).map fun x => x.1 := by
  have hlt : i < LM.length := (List.getElem?_eq_some_iff.1 hi).1
  have he : LM = LM.take i ++ x :: LM.drop (i + 1) := by
    have hx : LM[i] = x := (List.getElem?_eq_some_iff.1 hi).2
    rw [← hx, ← List.drop_eq_getElem_cons hlt, List.take_append_drop]
  have ht : ∀ y ∈ LM.take i, y.1.key ≠ x.1.key := fun y hy e => by
    obtain ⟨j, hj⟩ := List.mem_iff_getElem?.1 hy
    have hji : j < i := by
      have := (List.getElem?_eq_some_iff.1 hj).1
      rw [List.length_take] at this
      omega
    rw [List.getElem?_take, if_pos hji] at hj
    have := h1 j y hj e
    omega
  have hd : ∀ y ∈ LM.drop (i + 1), y.1.key ≠ x.1.key := fun y hy e => by
    obtain ⟨j, hj⟩ := List.mem_iff_getElem?.1 hy
    rw [List.getElem?_drop] at hj
    have := h1 _ y hj e
    omega
  have f1 : LM.filter (fun y => !decide (y.1.key = x.1.key)) = LM.take i ++ LM.drop (i + 1) := by
    conv => lhs; rw [he]
    rw [List.filter_append, List.filter_cons_of_neg (by simp), List.filter_eq_self.2 (fun y hy => by simpa using ht y hy), List.filter_eq_self.2 (fun y hy => by simpa using hd y hy)]
  have f2 : LM.filter (fun y => decide (y.1.key = x.1.key)) = [x] := by
    conv => lhs; rw [he]
    rw [List.filter_append, List.filter_cons_of_pos (by simp), List.filter_eq_nil_iff.2 (fun y hy => by simpa using ht y hy), List.filter_eq_nil_iff.2 (fun y hy => by simpa using hd y hy), List.nil_append]
  unfold useR
  rw [List.filter_map, List.filter_map, List.map_append]
  show (LM.filter (fun y => !decide (y.1.key = x.1.key))).map _ ++ (LM.filter (fun y => decide (y.1.key = x.1.key))).map _ = _
  rw [f1, f2]
theorem use_nodup {LM : List RI} {i : Nat} {x : RI} (hi : LM[i]? = some x) (hn : (LM.map fun x => x.1.key).Nodup) : ((LM.take i ++ LM.drop (i + 1) ++ [x]).map fun x => x.1.key).Nodup := by
  have hlt : i < LM.length := (List.getElem?_eq_some_iff.1 hi).1
  have hx : LM[i] = x := (List.getElem?_eq_some_iff.1 hi).2
  have he : LM = LM.take i ++ x :: LM.drop (i + 1) := by rw [← hx, ← List.drop_eq_getElem_cons hlt, List.take_append_drop]
  have hp : (LM.take i ++ LM.drop (i + 1) ++ [x]).Perm LM := by
    conv => rhs; rw [he]
    rw [List.append_assoc]
    exact List.Perm.append_left _ (List.perm_append_comm (l₂ := [x]))
  exact ((hp.map _).nodup_iff).2 hn
theorem RcIn.kn {w : World} {B : Nat} {D : RC} {vL vR : Value} {LM : List RI} (h : RcIn w B D vL vR LM) : (LM.map fun x => x.1.key).Nodup := by
  have hn := h.keys
  rw [← h.its, List.map_map] at hn
  exact hn
theorem own_later {w w' : World} {base n : Nat} {v : Value} {l : List Int} (h : Own w base v n l) (hb : Below w.heap.size w w') : Own w' base v n l := h.frame fun k hk => hb.block k (h.lt hk)
set_option maxHeartbeats 1600000 in
set_option maxRecDepth 100000 in
/-- use. -/
theorem rUse_any {w : World} {B : Nat} {D : RC} {vL vR : Value} {LM : List RI} (h : RcIn w B D vL vR LM) {i : Nat} {x : RI} (hi : LM[i]? = some x) :
    Calls Try.prog 47 #[.pointer (some ⟨B, 0, none⟩), .int .i64 x.1.key] w fun e w' => e = .returned (.tuple #[]) ∧ Turn B ⟨D.room, useR D.items x.1.key, D.rels⟩ (rcS B vL vR LM) w w' := by
  have hlt0 : i < LM.length := (List.getElem?_eq_some_iff.1 hi).1
  have hmany := h.many
  obtain ⟨a, c, rfl, _, _, hcap⟩ := h.row.shape ri_rowed
  obtain ⟨n, hN⟩ := named LM.length
  have HN := Lib.hid hN.out
  rw [hN.out] at h ⊢
  have c1 := h.c1
  have HA := Lib.hid (rAt_some h hi)
  have hrow := h.row
  have HUL : Hid (useR D.items x.1.key = (LM.take i ++ LM.drop (i + 1) ++ [x]).map fun x => x.1) := by
    have := use_list hi fun j y hj e => (h.one hi hj e).symm
    rw [h.its] at this
    exact this
  have HUN := Lib.hid (use_nodup hi h.kn)
  have HH := Lib.hid h
  have HLEN : Hid ((LM.take i ++ LM.drop (i + 1) ++ [x]).length = LM.length) := by
    rw [Hid, List.length_append, List.length_append, List.length_take, List.length_drop, List.length_singleton]
    omega
  have HMEM : Hid (∀ y ∈ LM.take i ++ LM.drop (i + 1) ++ [x], y ∈ LM) := fun y hy => by
    rcases List.mem_append.1 hy with hy | hy
    · rcases List.mem_append.1 hy with hy | hy
      · exact List.mem_of_mem_take hy
      · exact List.mem_of_mem_drop hy
    · rw [List.mem_singleton] at hy
      rw [hy]
      exact List.mem_of_getElem? hi
  rw [hN.out] at hmany hlt0 hrow hcap HLEN
  obtain ⟨b, rfl⟩ := hrow.at0 (by omega)
  obtain ⟨e0, e1, e2⟩ := ri_cells hrow i x hi
  have hrd := (hrow.reads ri_rowed).1
  have HRF := Lib.hid (reads_take ri_rowed hrd (p := i) (by omega))
  have hfr := fun w' => ri_front (b := b) (n := n) (c := c) (p := i) (by omega) w'
  obtain ⟨n1, hn1⟩ : ∃ n1, Hid (n - (i + 1) = n1) := ⟨_, rfl⟩
  obtain ⟨ab, cb, hbk, hnb, hrb⟩ := ri_back hrd (p := i + 1) (by omega) hcap
  rw [hn1.out] at hbk hrb
  have hbk' : ∀ w' : World, (Instr.slice 65 (.slice (some ⟨b, 0, none⟩) n c) (some (.int .i64 ((i : Int) + 1))) none none).run Try.prog w' = .ok (.slice ab n1 cb) w' := hbk
  have HRB := Lib.hid hrb
  obtain ⟨it, ax, nx, cx⟩ := x
  dsimp only [riS] at e1
  obtain ⟨N, hNW⟩ := named w.heap.size
  have hNN := hNW.out
  have hn1' : n = i + 1 + n1 := by have := hn1.out; omega
  have HNI := Lib.hid hn1'
  have hn1le : n1 ≤ 1100 := by omega
  have hsum : i + n1 ≤ 1100 := by omega
  clear hn1'
  have f1 := h.blk.free 1
  obtain ⟨W1, hW1⟩ := named (w.alloc (.cells #[.int .i64 it.key, .slice ax nx cx, .bool it.dirty] 86))
  have hW := hW1.out
  have HBX : Hid (Blk W1 N 86 #[.int .i64 it.key, .slice ax nx cx, .bool it.dirty]) := by rw [← hW, ← hNN]; exact Blk.new w _ _
  have HB1 : Hid (Below w.heap.size w W1) := by rw [← hW]; exact (Below.refl _ _).alloc (Nat.le_refl _) _
  have HS1 : Hid (W1.heap.size = N + 1) := by rw [← hW, ← hNN]; exact World.size_alloc _ _
  have HIN1 := Lib.hid (h.later HB1.out)
  have HCC : Hid (∀ W : World, Below (N + 1) W1 W → W.cell? ⟨B, 1, none⟩ = some (.slice (some ⟨b, 0, none⟩) n c) ∧ (∀ o, (W.alloc o).cell? ⟨B, 1, none⟩ = some (.slice (some ⟨b, 0, none⟩) n c)) ∧ W.cell? ⟨N, 0, none⟩ = some (.int .i64 it.key) ∧ W.cell? ⟨N, 1, none⟩ = some (.slice ax nx cx) ∧ W.cell? ⟨N, 2, none⟩ = some (.bool it.dirty) ∧ W.frozen? ⟨B, 1, none⟩ = false) := fun W hb => by
    have hb' : Below W1.heap.size W1 W := by rw [HS1.out]; exact hb
    have h2 := HIN1.out.later hb'
    have h3 := HBX.out.later hb'
    have hc1 : W.cell? ⟨B, 1, none⟩ = some (.slice (some ⟨b, 0, none⟩) n c) := h2.c1
    refine ⟨hc1, fun o => ?_, ?_, ?_, ?_, h2.blk.free 1⟩
    · exact ((h2.blk.alloc o).cell 1).trans rfl
    · rw [h3.cell]; rfl
    · rw [h3.cell]; rfl
    · rw [h3.cell]; rfl
  obtain ⟨g1, g2, g3, g4, g5, g6⟩ := HCC.out W1 (Below.refl _ _)
  have hsz1 : N + 1 ≤ W1.heap.size := by rw [HS1.out]; exact Nat.le_refl _
  clear h hrow hi hrd hrb hbk
  go_enter Try.func47, Try.ntmps47
  go_wp2_with (first
    | (go_at_call 46; refine HA.out.mono ?_; rintro e w' ⟨rfl, hww⟩; obtain rfl := hww.symm; clear hww)
    | (at_builtin; refine append_gg ri_rowed rfl (.tmp 17) (.tmp 23) rfl (N + 1) (.slice none 0 0) 0 [] rfl (OwnG.none _ _ _ _ _) (some ⟨b, 0, none⟩) i c (LM.take i) rfl (fun e => by cases e) (HRF.out.later HB1.out) (by omega) hsz1 ?_; intro a2 c2 w2 q1 q2 q3; rw [Nat.zero_add, List.nil_append] at q1; rw [Nat.zero_add]; have HO2 := Lib.hid q1; have HB2 : Hid (Below (N + 1) W1 w2) := Lib.hid q2; obtain ⟨j1, j2, j3, j4, j5, j6⟩ := HCC.out w2 q2; clear q1 q2 q3)
    | (at_builtin; refine append_gg ri_rowed rfl (.tmp 25) (.tmp 32) rfl (N + 1) (.slice a2 i c2) i (LM.take i) rfl HO2.out ab n1 cb (LM.drop (i + 1)) rfl hnb ((HRB.out.later HB1.out).later (by rw [HS1.out]; exact HB2.out)) (by omega) (Nat.le_trans hsz1 HB2.out.size) ?_; intro a3 c3 w3 q1 q2 q3; have HO3 := Lib.hid q1; have HB3 : Hid (Below (N + 1) W1 w3) := Lib.hid (HB2.out.trans q2); obtain ⟨k1, k2, k3, k4, k5, k6⟩ := HCC.out w3 HB3.out; clear q1 q2 q3)
    | (at_builtin; refine append_gg ri_rowed rfl (.tmp 34) (.tmp 36) rfl (N + 1) (.slice a3 (i + n1) c3) (i + n1) (LM.take i ++ LM.drop (i + 1)) rfl (HO3.out.alloc _) (some ⟨w3.heap.size, 0, none⟩) 1 1 [(it, ax, nx, cx)] rfl (fun e => by cases e) (one_reads _ _ _ _ rfl) (by omega) (by rw [World.size_alloc]; exact Nat.le_trans (Nat.le_trans hsz1 HB3.out.size) (Nat.le_succ _)) ?_; intro a4 c4 w4 q1 q2 q3; have HO4 := Lib.hid q1; have HB4 : Hid (Below (N + 1) W1 w4) := Lib.hid ((HB3.out.alloc (Nat.le_trans hsz1 HB3.out.size) _).trans q2); obtain ⟨m1, m2, m3, m4, m5, m6⟩ := HCC.out w4 HB4.out; clear q1 q2 q3))
  go_end0
  have hbw : Below w.heap.size w w4 := HB1.out.trans (HB4.out.mono (by have := HB1.out.size; have := HS1.out; omega))
  have hlen : (LM.take i ++ LM.drop (i + 1) ++ [(it, ax, nx, cx)]).length = i + n1 + 1 := by have := HLEN.out; have := HNI.out; omega
  obtain ⟨r1, r2⟩ := HH.out.storeL (vL' := .slice a4 (i + n1 + 1) c4) hbw (by rw [hlen]; exact HO4.out.rebase (by omega)) HMEM.out HUN.out (by rw [HLEN.out]; exact hmany)
  have hul : useR D.items it.key = (LM.take i ++ LM.drop (i + 1) ++ [(it, ax, nx, cx)]).map (fun x => x.1) := HUL.out
  rw [hul]
  exact ⟨rfl, _, _, _, r1, r2⟩
end Go.Proofs.Ythmkmhfoicfapaa
