/-
  The reference's cache (layer 10): Drop, Get, After. Conditions: the cache as it lies; nothing is after itself, however far round.
-/
import Derived.Test.YthmkmhfoicfapaaRg
namespace Go.Proofs.Ythmkmhfoicfapaa
open Go.RowKit
set_option linter.unusedVariables false

theorem drop_list {LM : List RI} {i : Nat} {x : RI} (hi : LM[i]? = some x) (h1 : ∀ j y, LM[j]? = some y → y.1.key = x.1.key → j = i) : (LM.map fun x => x.1).filter (fun y => !decide (y.key = x.1.key)) = (LM.take i ++ LM.drop (i + 1)).map fun x => x.1 := by
  have h := use_list hi h1
  have hlt : i < LM.length := (List.getElem?_eq_some_iff.1 hi).1
  have he : LM = LM.take i ++ x :: LM.drop (i + 1) := by
    have hx : LM[i] = x := (List.getElem?_eq_some_iff.1 hi).2
    rw [← hx, ← List.drop_eq_getElem_cons hlt, List.take_append_drop]
  have ht : ∀ y ∈ LM.take i, y.1.key ≠ x.1.key := fun y hy e => by
    obtain ⟨j, hj⟩ := List.mem_iff_getElem?.1 hy
    have hji : j < i := by
      have := (List.getElem?_eq_some_iff.1 hj).1
      rw [List.length_take] at this
      omega
    rw [List.getElem?_take, if_pos hji] at hj
    have := h1 j y hj e
    omega
  have hd : ∀ y ∈ LM.drop (i + 1), y.1.key ≠ x.1.key := fun y hy e => by
    obtain ⟨j, hj⟩ := List.mem_iff_getElem?.1 hy
    rw [List.getElem?_drop] at hj
    have := h1 _ y hj e
    omega
  have f1 : LM.filter (fun y => !decide (y.1.key = x.1.key)) = LM.take i ++ LM.drop (i + 1) := by
    conv => lhs; rw [he]
    rw [List.filter_append, List.filter_cons_of_neg (by simp), List.filter_eq_self.2 (fun y hy => by simpa using ht y hy), List.filter_eq_self.2 (fun y hy => by simpa using hd y hy)]
  rw [List.filter_map]
  show (LM.filter (fun y => !decide (y.1.key = x.1.key))).map _ = _
  rw [f1]
/-- Behind clean: the key stands where it stood. -/
theorem after_clean {w w1 : World} {B : Nat} {D : RC} {vL vR : Value} {LM : List RI} (h : RcIn w B D vL vR LM) {i : Nat} {x : RI} (hi : LM[i]? = some x) {k : Int} (hk : x.1.key = k) (g : Turn B (cleanR D k) (rcS B vL vR LM) w w1) :
    ∃ (b c n : Nat) (vR1 : Value) (LM1 : List RI) (x1 : RI), RcIn w1 B (cleanR D k) (.slice (some ⟨b, 0, none⟩) n c) vR1 LM1 ∧ Away (rcS B vL vR LM) w (rcS B (.slice (some ⟨b, 0, none⟩) n c) vR1 LM1) w1 ∧ LM1[i]? = some x1 ∧ x1.1.key = k ∧ LM1.length = n ∧ i < n ∧ n ≤ c ∧ n ≤ 1100 := by
  obtain ⟨vL1, vR1, LM1, q1, q2⟩ := g
  have hlt : i < LM.length := (List.getElem?_eq_some_iff.1 hi).1
  have hkeys : LM1.map (fun x => x.1.key) = LM.map fun x => x.1.key := by
    have e1 : LM1.map (fun x => x.1.key) = (cleanR D k).items.map RIt.key := by rw [← q1.its, List.map_map]; rfl
    have e2 : LM.map (fun x => x.1.key) = D.items.map RIt.key := by rw [← h.its, List.map_map]; rfl
    rw [e1, e2, rclean_keys]
  have hl : LM1.length = LM.length := by simpa using congrArg List.length hkeys
  obtain ⟨x1, hx1⟩ : ∃ x1, LM1[i]? = some x1 := ⟨_, List.getElem?_eq_getElem (by omega)⟩
  have hx1k : x1.1.key = k := by
    have := congrArg (fun l : List Int => l[i]?) hkeys
    simp only [List.getElem?_map, hx1, hi, Option.map_some] at this
    rw [Option.some.inj this, hk]
  have hmany := q1.many
  obtain ⟨a, c, rfl, _, _, hcap⟩ := q1.row.shape ri_rowed
  obtain ⟨b, rfl⟩ := q1.row.at0 (by omega)
  exact ⟨b, c, _, vR1, LM1, x1, q1, q2, hx1, hx1k, rfl, by omega, hcap, hmany⟩
theorem rDrop_none {w : World} {B : Nat} {D : RC} {vL vR : Value} {LM : List RI} (h : RcIn w B D vL vR LM) {k : Int} (hk : ∀ x ∈ LM, x.1.key ≠ k) :
    Calls Try.prog 31 #[.pointer (some ⟨B, 0, none⟩), .int .i64 k] w fun e w' => e = .returned (.tuple #[]) ∧ w' = w := by
  have HA := Lib.hid (rAt_none h hk)
  clear h hk
  go_enter Try.func31, Try.ntmps31
  go_wp2_with (go_at_call 46; refine HA.out.mono ?_; rintro e w' ⟨rfl, hww⟩; obtain rfl := hww.symm; clear hww)
  refine bodyPost_ret (results_none rfl _ _ _) rfl ?_
  exact ⟨rfl, rfl⟩
set_option maxHeartbeats 1600000 in
set_option maxRecDepth 100000 in
/-- Drop. -/
theorem rDrop_some {w : World} {B : Nat} {D : RC} {vL vR : Value} {LM : List RI} (h : RcIn w B D vL vR LM) {i : Nat} {x : RI} (hi : LM[i]? = some x) :
    Calls Try.prog 31 #[.pointer (some ⟨B, 0, none⟩), .int .i64 x.1.key] w fun e w' => e = .returned (.tuple #[]) ∧ Turn B ⟨D.room, (cleanR D x.1.key).items.filter (fun y => !decide (y.key = x.1.key)), (cleanR D x.1.key).rels⟩ (rcS B vL vR LM) w w' := by
  have HA := Lib.hid (rAt_some h hi)
  have HCL := Lib.hid (rClean_any h x.1.key)
  have HH := Lib.hid h
  have HI := Lib.hid hi
  have hi1 : i ≤ 1100 := by have := (List.getElem?_eq_some_iff.1 hi).1; have := h.many; omega
  obtain ⟨k, hk⟩ := named x.1.key
  rw [hk.out] at HA HCL ⊢
  clear h hi
  go_enter Try.func31, Try.ntmps31
  go_wp2_with (first
    | (go_at_call 46; refine HA.out.mono ?_; rintro e w' ⟨rfl, hww⟩; obtain rfl := hww.symm; clear hww)
    | (go_at_call 51; refine HCL.out.mono ?_; rintro e w1 ⟨rfl, g1⟩; obtain ⟨b, c, n, vR1, LM1, x1, q1, q2, q3, q4, q5, q6, q7, q8⟩ := after_clean HH.out HI.out hk.out g1; have HQ1 := Lib.hid q1; have HQ2 := Lib.hid q2; have HQ3 := Lib.hid q3; have HQ4 := Lib.hid q4; have HQ5 := Lib.hid q5; have c1 := q1.c1; have f1 := q1.blk.free 1; obtain ⟨n1, hn1⟩ : ∃ n1, Hid (n - (i + 1) = n1) := ⟨_, rfl⟩; have hrow := q1.row; rw [q5] at hrow; have hrd := (hrow.reads ri_rowed).1; have HRF := Lib.hid (reads_take ri_rowed hrd (p := i) (Nat.le_of_lt q6)); have hfr := fun w' => ri_front (b := b) (n := n) (c := c) (p := i) (Nat.le_trans (Nat.le_of_lt q6) q7) w'; obtain ⟨ab, cb, hbk, hnb, hrb⟩ := ri_back hrd (p := i + 1) q6 q7; rw [hn1.out] at hbk hrb; have hbk' : ∀ w' : World, (Instr.slice 65 (.slice (some ⟨b, 0, none⟩) n c) (some (.int .i64 ((i : Int) + 1))) none none).run Try.prog w' = .ok (.slice ab n1 cb) w' := hbk; have HRB := Lib.hid hrb; obtain ⟨N, hNW⟩ := named w1.heap.size; have hn1le : n1 ≤ 1100 := Nat.le_trans (hn1.out ▸ Nat.sub_le _ _) q8; clear g1 q1 q2 q3 q4 q5 hrow hrd hrb hbk)
    | (at_builtin; refine append_gg ri_rowed rfl (.tmp 14) (.tmp 20) rfl N (.slice none 0 0) 0 [] rfl (OwnG.none _ _ _ _ _) (some ⟨b, 0, none⟩) i c (LM1.take i) rfl (fun e => by cases e) HRF.out (by omega) (Nat.le_of_eq hNW.out.symm) ?_; intro a2 c2 w2 r1 r2 r3; rw [Nat.zero_add, List.nil_append] at r1; rw [Nat.zero_add]; have HO2 := Lib.hid r1; have HB2 : Hid (Below w1.heap.size w1 w2) := Lib.hid (hNW.out.symm ▸ r2); have k1 := (HQ1.out.later HB2.out).c1; have k2 := (HQ1.out.later HB2.out).blk.free 1; clear r1 r2 r3)
    | (at_builtin; refine append_gg ri_rowed rfl (.tmp 22) (.tmp 29) rfl N (.slice a2 i c2) i (LM1.take i) rfl HO2.out ab n1 cb (LM1.drop (i + 1)) rfl hnb (HRB.out.later HB2.out) (by omega) (Nat.le_trans (Nat.le_of_eq hNW.out.symm) HB2.out.size) ?_; intro a3 c3 w3 r1 r2 r3; have HO3 := Lib.hid r1; have HB3 : Hid (Below w1.heap.size w1 w3) := Lib.hid (HB2.out.trans (hNW.out.symm ▸ r2)); have k3 := (HQ1.out.later HB3.out).c1; have k4 := (HQ1.out.later HB3.out).blk.free 1; clear r1 r2 r3))
  go_end0
  have hl : (LM1.take i ++ LM1.drop (i + 1)).length = i + n1 := by
    rw [List.length_append, List.length_take, List.length_drop, HQ5.out, hn1.out, Nat.min_eq_left (by omega)]
  have hmem : ∀ y ∈ LM1.take i ++ LM1.drop (i + 1), y ∈ LM1 := fun y hy => by
    rcases List.mem_append.1 hy with hy | hy
    · exact List.mem_of_mem_take hy
    · exact List.mem_of_mem_drop hy
  have hnd : ((LM1.take i ++ LM1.drop (i + 1)).map fun x => x.1.key).Nodup := by
    have := use_nodup HQ3.out HQ1.out.kn
    rw [List.map_append] at this
    exact (List.nodup_append.1 this).1
  obtain ⟨r1, r2⟩ := HQ1.out.storeL (vL' := .slice a3 (i + n1) c3) HB3.out (by rw [hl, hNW.out]; exact HO3.out) hmem hnd (by rw [hl]; have := hn1.out; omega)
  have hdl : (cleanR D k).items.filter (fun y => !decide (y.key = k)) = (LM1.take i ++ LM1.drop (i + 1)).map fun x => x.1 := by
    have := drop_list HQ3.out fun j y hj e => (HQ1.out.one HQ3.out hj e).symm
    rw [HQ1.out.its, HQ4.out] at this
    exact this
  rw [hdl]
  exact ⟨rfl, _, _, _, r1, HQ2.out.trans r2⟩
theorem setR_id (l : List RIt) (k : Int) : setR l k id = useR l k := by
  unfold setR
  congr 1
  conv => rhs; rw [← List.map_id l]
  exact List.map_congr_left fun x _ => by split <;> rfl
theorem rGet_none {w : World} {B : Nat} {D : RC} {vL vR : Value} {LM : List RI} (h : RcIn w B D vL vR LM) {k : Int} (hk : ∀ x ∈ LM, x.1.key ≠ k) :
    Calls Try.prog 25 #[.pointer (some ⟨B, 0, none⟩), .int .i64 k] w fun e w' => e = .returned (.tuple #[.slice none 0 0, .bool false]) ∧ w' = w := by
  have HA := Lib.hid (rAt_none h hk)
  clear h hk
  go_enter Try.func25, Try.ntmps25
  go_wp2_with (go_at_call 46; refine HA.out.mono ?_; rintro e w' ⟨rfl, hww⟩; obtain rfl := hww.symm; clear hww)
  go_ret2
  exact ⟨rfl, rfl⟩
def RGetQ (B : Nat) (l : List Int) (D' : RC) (S : Nat → Prop) (w : World) (e : Ending) (w' : World) : Prop := ∃ (a : Option Addr) (n c : Nat), e = .returned (.tuple #[.slice a n c, .bool true]) ∧ Bytes w' a n l ∧ Turn B D' S w w'
set_option maxHeartbeats 1600000 in
set_option maxRecDepth 100000 in
/-- Get. -/
theorem rGet_some {w : World} {B : Nat} {D : RC} {vL vR : Value} {LM : List RI} (h : RcIn w B D vL vR LM) {i : Nat} {x : RI} (hi : LM[i]? = some x) (hb : x.1.bs.length ≤ 1000000) :
    Calls Try.prog 25 #[.pointer (some ⟨B, 0, none⟩), .int .i64 x.1.key] w (RGetQ B x.1.bs ⟨D.room, setR D.items x.1.key id, D.rels⟩ (rcS B vL vR LM) w) := by
  rw [setR_id]
  have HA := Lib.hid (rAt_some h hi)
  have HUSE : Hid (∀ w1 : World, Below w.heap.size w w1 → Calls Try.prog 47 #[.pointer (some ⟨B, 0, none⟩), .int .i64 x.1.key] w1 fun e w' => e = .returned (.tuple #[]) ∧ Turn B ⟨D.room, useR D.items x.1.key, D.rels⟩ (rcS B vL vR LM) w1 w') := fun w1 hb1 => rUse_any (h.later hb1) hi
  have HH := Lib.hid h
  have hlt0 : i < LM.length := (List.getElem?_eq_some_iff.1 hi).1
  have hmany := h.many
  have c1 := h.c1
  have hrow := h.row
  have hbx := h.bys x (List.mem_of_getElem? hi)
  obtain ⟨a, c, rfl, _, _, hcap⟩ := h.row.shape ri_rowed
  obtain ⟨b, rfl⟩ := hrow.at0 (by omega)
  obtain ⟨_, e1, _⟩ := ri_cells hrow i x hi
  have dA : ∀ o, (w.alloc o).cell? ⟨B, 1, none⟩ = some (.slice (some ⟨b, 0, none⟩) LM.length c) := fun o => ((h.blk.alloc o).cell 1).trans rfl
  have eA : ∀ o, (w.alloc o).cell? ⟨b, i * 3 + 1, none⟩ = some (riS x) := fun o => (ri_cells (hrow.alloc o) i x hi).2.1
  obtain ⟨n, hN⟩ := named LM.length
  rw [hN.out] at c1 hmany hlt0 dA hcap
  obtain ⟨it, ax, nx, cx⟩ := x
  dsimp only [riS] at e1 eA hbx
  obtain ⟨hby, hnx⟩ := hbx.bytes
  have hbe : it.bs.length = nx := by
    obtain ⟨a', c', e, _, _⟩ := hbx.shape
    cases e
    rfl
  obtain ⟨bs, hbs⟩ := named it.bs
  obtain ⟨k, hk⟩ := named it.key
  unfold RGetQ
  dsimp only at HA HUSE hb ⊢
  rw [hbs.out] at hb hby hbe ⊢
  rw [hk.out] at HA HUSE ⊢
  have hby2 : Bytes w ax nx bs := by rw [← hbe]; exact hby
  have HBY := Lib.hid hby2
  have hnx2 : nx ≤ 1000000 := by omega
  obtain ⟨S, hS⟩ := named (rcS B (.slice (some ⟨b, 0, none⟩) LM.length c) vR LM)
  have HSL : Hid (∀ j, S j → j < w.heap.size) := by rw [← hS.out]; exact h.lt
  rw [hS.out] at HUSE ⊢
  obtain ⟨N, hNW⟩ := named w.heap.size
  have hNN := hNW.out
  clear h hi hrow hbx hby hby2 hbe hb
  go_enter Try.func25, Try.ntmps25
  go_wp2_with (first
    | (go_at_call 46; refine HA.out.mono ?_; rintro e w' ⟨rfl, hww⟩; obtain rfl := hww.symm; clear hww)
    | (at_builtin; refine append_bytes rfl (.tmp 13) (.tmp 21) rfl N (.slice (some ⟨N, 0, none⟩) 0 0) 0 [] (by rw [← hNN]; rfl) (by rw [← hNN]; exact Own.made w w.heap.size (Nat.le_refl _)) ax nx cx bs rfl hnx (HBY.out.later ((Below.refl _ w).alloc (Nat.le_refl _) _)) (by omega) (by rw [World.size_alloc]; have := hNN; omega) ?_; intro a2 c2 w2 r1 r2; rw [Nat.zero_add, List.nil_append] at r1; rw [Nat.zero_add]; have HO2 := Lib.hid r1; have HB2 : Hid (Below w.heap.size w w2) := Lib.hid (((Below.refl w.heap.size w).alloc (Nat.le_refl _) _).grown r2 (by rw [World.size_alloc]; omega) fun j e => by have : N = j := (by simpa [Value.ownBlock] using e); omega); clear r1 r2)
    | (go_at_call 47; refine (HUSE.out w2 HB2.out).mono ?_; rintro e w3 ⟨rfl, g1⟩; have HT3 := Lib.hid g1; clear g1))
  go_ret2
  obtain ⟨vL3, vR3, LM3, t1, t2⟩ := HT3.out
  refine ⟨a2, nx, c2, rfl, ?_, vL3, vR3, LM3, t1, (Away.of_below HB2.out).trans t2⟩
  have hown : Own w3 N (.slice a2 nx c2) nx bs := HO2.out.frame fun j hj => t2.block j (HO2.out.lt hj) fun hs => by
    have h1 := HSL.out j hs
    have h2 := (HO2.out.1.lt j hj).1
    omega
  exact hown.bytes.1
end Go.Proofs.Ythmkmhfoicfapaa
