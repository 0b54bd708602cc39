/-
  What the project's own Put and Get answer (package slot). Conditions: the fields are numbers of their types; the slice reads as bytes.
-/
import Derived.Test.YtpjlnanalielmaaE7
import Derived.Deep.WholeRow
namespace Go.Proofs.Ytpjlnanalielmaa
open Go.RowKit
set_option linter.unusedVariables false

theorem PutPost.of_sized {w0 w : World} {l : List Int} {err : Int} {a : Option Addr} {n c : Nat} (hn : l.length = n) (hB : Bytes w a n l) (hc : (a = none → c = 0) ∧ n ≤ c) (hb : Below w0.heap.size w0 w) : PutPost w0 l err (.returned (.tuple #[.slice a n c, .int .i64 err])) w := by
  subst hn
  exact ⟨a, c, rfl, hB, hc, hb⟩
theorem slot_size : (Try.prog.info? 24).map (·.size) = some 4 := by kernel_rfl
set_option maxHeartbeats 800000 in
theorem slotPut_arg {q s c m : Int} (h : ¬ May (q, s, c, m)) (w : World) : Calls Try.prog 9 #[.agg (slV (q, s, c, m)).toArray] w (PutPost w [] 1) := by
  have h1 := fun w => isSlot_any q s c m w
  rw [decide_eq_false h] at h1
  obtain ⟨RS, hRS⟩ := named (slV (q, s, c, m)).toArray
  have hRSs : RS.size = 4 := by rw [← hRS.out]; rfl
  rw [hRS.out] at h1 ⊢
  have H1 := Lib.hid h1
  have HI : Hid ((Try.prog.info? 24).map (·.size) = some RS.size) := by rw [Hid, hRSs]; exact slot_size
  clear h1 hRSs
  go_enter Try.func9, Try.ntmps9
  go_wp2_with (first
    | (refine wpList_load_row rfl 24 (.tmp 1) rfl w.heap.size rfl 24 RS (0, 0) _ (Blk.new w _ RS) Try.underlying24 rfl HI.out ?_)
    | (go_at_call 18; (with_reducible refine (H1.out _).mono ?_); rintro e w1 ⟨rfl, g⟩; have HG : Hid (Below w.heap.size w w1) := ((Below.refl _ _).alloc (Nat.le_refl _) _).trans (g.mono (by simp)); clear g))
  go_ret2
  exact ⟨none, 0, rfl, none_bytes _, ⟨fun _ => rfl, Nat.le_refl _⟩, HG.out⟩
set_option maxHeartbeats 800000 in
theorem slotPut_ok {q s c m : Int} (h : May (q, s, c, m)) (ho : SlOk (q, s, c, m)) (w : World) : Calls Try.prog 9 #[.agg (slV (q, s, c, m)).toArray] w (PutPost w (slB (q, s, c, m)) 0) := by
  have h1 := fun w => isSlot_any q s c m w
  rw [decide_eq_true h] at h1
  have hbd := slB_bd (q, s, c, m)
  obtain ⟨⟨p1, p2⟩, ⟨p3, p4⟩, p5, p6⟩ := h
  obtain ⟨_, _, _, p7, p8⟩ := ho
  dsimp only at p1 p2 p3 p4 p5 p6 p7 p8
  obtain ⟨Q, rfl⟩ : ∃ Q : Nat, q = Q := ⟨q.toNat, by omega⟩
  obtain ⟨S, rfl⟩ : ∃ Q : Nat, s = Q := ⟨s.toNat, by omega⟩
  obtain ⟨C, rfl⟩ : ∃ Q : Nat, c = Q := ⟨c.toNat, by omega⟩
  obtain ⟨M, rfl⟩ : ∃ Q : Nat, m = Q := ⟨m.toNat, by omega⟩
  have h2 : ∀ w, Calls Try.prog 19 #[.agg (slV (Q, S, C, M)).toArray] w fun e w' => e = .returned (.agg (arrV (slB (Q, S, C, M)))) ∧ Below w.heap.size w w' := fun w => encode_any7 w Q S C M (by omega) (by omega) (by omega) (by omega)
  have hln := slB_len ((Q : Int), (S : Int), (C : Int), (M : Int))
  obtain ⟨D, hD⟩ := named (slB ((Q : Int), (S : Int), (C : Int), (M : Int)))
  rw [hD.out] at h2 hln hbd ⊢
  have hs16 := small16 hln hbd
  have hR := arrV_size D
  rw [hln] at hR
  have hR1 := arrV_one D
  have HAL : Hid (∀ (W : World) (b : Nat), Blk W b 48 (arrV D) → Bytes W (some ⟨b, 0, none⟩) 16 D) := fun W b hB => by
    have := arr_lies W D 48 hs16 b hB
    rwa [hln] at this
  obtain ⟨R, hRR⟩ := named (arrV D)
  rw [hRR.out] at h2 hR hR1 HAL
  have HR1 := Lib.hid hR1
  have HRI : Hid ((Try.prog.info? 48).map (·.size) = some R.size) := by rw [Hid, hR]; exact sec_size
  obtain ⟨RS, hRS⟩ := named (slV ((Q : Int), (S : Int), (C : Int), (M : Int))).toArray
  have hRSs : RS.size = 4 := by rw [← hRS.out]; rfl
  rw [hRS.out] at h1 h2 ⊢
  have H1 := Lib.hid h1
  have H2 := Lib.hid h2
  have HI : Hid ((Try.prog.info? 24).map (·.size) = some RS.size) := by rw [Hid, hRSs]; exact slot_size
  have hz : ∀ w, (zeroValue 48).run Try.prog w = .ok (.agg (arrV (noughts 16))) w := fun w => by kernel_rfl
  have hZs : (arrV (noughts 16)).size = R.size := by rw [hR, arrV_size]; rfl
  obtain ⟨Z, hZ⟩ := named (arrV (noughts 16))
  rw [hZ.out] at hz hZs
  have HZ := Lib.hid hZs
  clear h1 h2 hRSs hRS hR hR1 hbd hs16 hD hRR hZs hZ p1 p2 p3 p4 p5 p6 p7 p8
  have HLN := Lib.hid hln
  clear hln
  go_enter Try.func9, Try.ntmps9
  go_wp2_with (first
    | (refine wpList_load_row rfl 24 (.tmp 1) rfl w.heap.size rfl 24 RS (0, 0) _ (Blk.new w _ RS) Try.underlying24 rfl HI.out ?_)
    | (go_at_call 18; (with_reducible refine (H1.out _).mono ?_); rintro e w1 ⟨rfl, g⟩; have HB1 := Lib.hid ((Blk.new w 24 RS).later g); have HG : Hid (Below w.heap.size w w1) := ((Below.refl _ _).alloc (Nat.le_refl _) _).trans (g.mono (by simp)); clear g)
    | (refine wpList_load_row rfl 24 (.tmp 1) rfl w.heap.size rfl 24 RS (0, 0) _ HB1.out Try.underlying24 rfl HI.out ?_)
    | (go_at_call 19; (with_reducible refine (H2.out _).mono ?_); rintro e w2 ⟨rfl, g⟩; have HG2 : Hid (Below w.heap.size w w2) := HG.out.trans (g.mono HG.out.size); clear g)
    | (refine wpList_store_row rfl 48 (.tmp 4) (.tmp 9) rfl w2.heap.size R rfl rfl 48 Z (Blk.new w2 _ Z) HRI.out HZ.out HR1.out ?_))
  go_ret2
  have hB := setRow_heap (w2.alloc (.cells Z 48)) w2.heap.size Z R _ _ (Blk.new w2 _ Z)
  exact PutPost.of_sized HLN.out (HAL.out _ _ hB) ⟨(fun e => by cases e), Nat.le_refl _⟩ (below_setRow (HG2.out.alloc HG2.out.size _) HG2.out.size _)
theorem bytes_range {w : World} {b off n : Nat} {l : List Int} (h : Bytes w (some ⟨b, off, none⟩) n l) : w.rangeAt b off (l.map (Value.int .u8)) := fun j v hj => by
  rw [List.getElem?_map] at hj
  have hlt : j < l.length := by
    rcases Nat.lt_or_ge j l.length with h' | h'
    · exact h'
    · rw [List.getElem?_eq_none h'] at hj
      cases hj
  rw [h.cellAt j (by rw [← h.1]; exact hlt), List.getD_eq_getElem?_getD]
  rw [List.getElem?_eq_getElem hlt] at hj ⊢
  simpa using hj
/-- A slot into the block that was made last. -/
theorem store_new7 {P : Program} {ops : Array Oper} {rest : List Oper} {op : Oper} {a : Act} {w : World} {Q : Exit → Act → World → Prop} {t : TypeId} {c : Array Value} (hgd : op.guard = none) (x y : Operand) (ho : op.op = .store t x y) (c' : Array Value)
    (hx : a.eval x = .pointer (some ⟨w.heap.size, 0, none⟩)) (hy : a.eval y = .agg c') (hi : (P.info? t).map (·.size) = some c'.size) (hc : c.size = c'.size) (h1 : c'.all (·.oneCell') = true)
    (h : wpList P ops Q rest (a.put op.dst undef) (w.alloc (.cells c' t))) : wpList P ops Q (op :: rest) a (w.alloc (.cells c t)) := by
  refine wpList_plain hgd fun K' hK => ?_
  unfold Oper.wp execOp
  simp only [ho, hx, hy, run_storeAt_new w t c c' hi hc h1, Sem.run_bind, Result.andThen_ok]
  exact hK _ _ h
theorem slV_all (x : Sl) : (slV x).toArray.all (·.oneCell') = true := all_oneCell_toArray fun v hv => sl_rowed.one x v hv
theorem results_cell_tmp {P : Program} {fn : Func} {p q : Tmp} {ty : TypeId} (h : fn.results = #[.cell p ty, .tmp q]) (tmps : Array Value) (w : World) (g : Nat) (t : TypeId) (cs : Array Value) (fr : Nat × Nat) (d : TypeDesc)
    (hp : tmps.getD p undef = .pointer (some ⟨g, 0, none⟩)) (v : Value) (hv : tmps.getD q undef = v) (hg : w.heap[g]? = some (.cells cs t fr))
    (hu : P.underlying ty = some d) (hd : (match d with | .struct _ | .array _ _ => true | _ => false) = true) (hi : (P.info? ty).map (·.size) = some cs.size) :
    (results fn tmps).run P w = .ok (.tuple #[.agg cs, v]) w := by
  have hp' : tmps[p]?.getD undef = .pointer (some ⟨g, 0, none⟩) := by simpa using hp
  have hv' : tmps[q]?.getD undef = v := by simpa using hv
  simp [results, h, hp', hv', asAddr, run_loadVar_row w g t ty cs fr d hg hu hd hi]
/-- What 'Get' hands back. -/
def GotS (o : Option Sl) (w0 : World) (e : Ending) (w : World) : Prop := e = .returned (.tuple #[.agg (slV (o.getD slZ)).toArray, .int .i64 (if o.isSome then 0 else 3)]) ∧ Below w0.heap.size w0 w
set_option maxHeartbeats 1600000 in
theorem slotGet_any (w : World) (a : Option Addr) (len cap : Nat) (l : List Int) (hB : Bytes w a len l) (hcap : len ≤ cap) : Calls Try.prog 13 #[.slice a len cap] w (GotS (getS l) w) := by
  by_cases h16 : len = 16
  · subst h16
    obtain ⟨b, off, rfl⟩ := hB.lies (by omega)
    have hl := hB.1
    have hd := fun w => decode_any7 w l hl hB.small.2
    have ho := slOf_bd hB.small.2
    have hbR := bytes_range (hB.later ((Below.refl _ _).alloc (Nat.le_refl _) (.cells (slV slZ).toArray 24)))
    have hml : (l.map (Value.int .u8)).length = 16 := by rw [List.length_map, hl]
    have hg : getS l = if May (slOf l) then some (slOf l) else none := by
      unfold getS
      by_cases hm : May (slOf l) <;> simp [hl, hm]
    rw [hg]
    unfold arrV at hd
    obtain ⟨LV, hLV⟩ := named (l.map (Value.int .u8))
    rw [hLV.out] at hd hbR hml
    obtain ⟨x, hx⟩ := named (slOf l)
    rw [hx.out] at hd ho ⊢
    obtain ⟨q, s, c, m⟩ := x
    have hS := fun w => isSlot_any q s c m w
    have hR1 := slV_all (q, s, c, m)
    have hE : (slV (q, s, c, m)).toArray = #[.int .i64 q, .int .i64 s, .int .i64 c, .int .u32 m] := rfl
    obtain ⟨RS, hRS⟩ := named (slV (q, s, c, m)).toArray
    have hRSs : RS.size = 4 := by rw [← hRS.out]; rfl
    rw [hRS.out] at hd hS hR1 hE
    have H1 := Lib.hid hd
    have HB := Lib.hid hbR
    have HR1 := Lib.hid hR1
    have HI : Hid ((Try.prog.info? 24).map (·.size) = some RS.size) := by rw [Hid, hRSs]; exact slot_size
    have HZS : Hid ((slV slZ).toArray.size = RS.size) := hRSs.symm
    have HE := Lib.hid hE
    clear hE
    have HI2 : Hid ((Try.prog.info? 48).map (·.size) = some LV.length) := by rw [Hid, hml]; exact sec_size
    obtain ⟨X, hX⟩ := named w.heap.size
    have HX0 : Hid (Blk (w.alloc (.cells (slV slZ).toArray 24)) X 24 (slV slZ).toArray) := by rw [← hX.out]; exact Blk.new w _ _
    have HG0 : Hid (Below X w (w.alloc (.cells (slV slZ).toArray 24))) := by rw [← hX.out]; exact (Below.refl _ _).alloc (Nat.le_refl _) _
    have hXX := hX.out
    have hAT : ∀ w' : World, (Instr.arrayAt 48 (.slice (some ⟨b, off, none⟩) 16 cap)).run Try.prog w' = .ok (.pointer (some ⟨b, off, none⟩)) w' := fun w' => by
      simp [Instr.arrayAt, run_underlying Try.underlying48, go_sem]
    by_cases hm : May (q, s, c, m)
    · rw [if_pos hm]
      rw [decide_eq_true hm] at hS
      have H2 := Lib.hid hS
      unfold GotS
      show Calls _ _ _ w fun e w' => e = .returned (.tuple #[.agg (slV (q, s, c, m)).toArray, .int .i64 0]) ∧ Below w.heap.size w w'
      rw [hRS.out, hX.out]
      clear hd hbR hml hg hS hR1 hRSs hm hB hRS hLV ho
      go_enter Try.func13, Try.ntmps13
      go_wp2_with (first
        | (refine wpList_load_mid rfl 48 (.tmp 10) rfl b off (by rfl) LV _ HB.out Try.underlying48 rfl HI2.out ?_)
        | (go_at_call 21; (with_reducible refine (H1.out _).mono ?_); rintro e w1 ⟨rfl, g⟩; have HX1 := Lib.hid (HX0.out.later g); have HG1 : Hid (Below X w w1) := HG0.out.trans (g.mono (by rw [← hX.out]; exact HG0.out.size)); clear g)
        | (refine store_new7 rfl (.tmp 4) (.tmp 12) rfl RS (by rfl) (by rfl) HI.out HZS.out HR1.out ?_)
        | (refine wpList_load_row rfl 24 (.tmp 4) rfl w1.heap.size rfl 24 RS (0, 0) _ (Blk.new w1 _ RS) Try.underlying24 rfl HI.out ?_)
        | (go_at_call 18; (with_reducible refine (H2.out _).mono ?_); rintro e w2 ⟨rfl, g⟩; have HX2 := Lib.hid ((HX1.out.alloc _).later g); have HY2 := Lib.hid ((Blk.new w1 24 RS).later g); have HG2 : Hid (Below X w w2) := (HG1.out.alloc (by rw [← hX.out]; exact HG1.out.size) _).trans (g.mono (by rw [← hX.out, World.size_alloc]; exact Nat.le_succ_of_le HG1.out.size)); clear g)
        | (refine wpList_load_row rfl 24 (.tmp 4) rfl w1.heap.size rfl 24 RS (0, 0) _ HY2.out Try.underlying24 rfl HI.out ?_)
        | (refine wpList_store_row rfl 24 (.tmp 2) (.tmp 17) rfl X RS rfl rfl 24 _ HX2.out HI.out HZS.out HR1.out ?_))
      exact bodyPost_ret (results_cell_tmp rfl _ _ X 24 RS (0, 0) _ rfl _ rfl (setRow_heap _ X _ RS _ _ HX2.out) Try.underlying24 rfl HI.out) rfl ⟨rfl, below_setRow HG2.out (Nat.le_refl _) _⟩
    · rw [if_neg hm]
      rw [decide_eq_false hm] at hS
      have H2 := Lib.hid hS
      unfold GotS
      show Calls _ _ _ w fun e w' => e = .returned (.tuple #[.agg (slV slZ).toArray, .int .i64 3]) ∧ Below w.heap.size w w'
      rw [hX.out]
      have HI0 : Hid ((Try.prog.info? 24).map (·.size) = some ((slV slZ).toArray).size) := slot_size
      clear hd hbR hml hg hS hR1 hRSs hm hB hRS hLV ho
      go_enter Try.func13, Try.ntmps13
      go_wp2_with (first
        | (refine wpList_load_mid rfl 48 (.tmp 10) rfl b off (by rfl) LV _ HB.out Try.underlying48 rfl HI2.out ?_)
        | (go_at_call 21; (with_reducible refine (H1.out _).mono ?_); rintro e w1 ⟨rfl, g⟩; have HX1 := Lib.hid (HX0.out.later g); have HG1 : Hid (Below X w w1) := HG0.out.trans (g.mono (by rw [← hX.out]; exact HG0.out.size)); clear g)
        | (refine store_new7 rfl (.tmp 4) (.tmp 12) rfl RS (by rfl) (by rfl) HI.out HZS.out HR1.out ?_)
        | (refine wpList_load_row rfl 24 (.tmp 4) rfl w1.heap.size rfl 24 RS (0, 0) _ (Blk.new w1 _ RS) Try.underlying24 rfl HI.out ?_)
        | (go_at_call 18; (with_reducible refine (H2.out _).mono ?_); rintro e w2 ⟨rfl, g⟩; have HX2 := Lib.hid ((HX1.out.alloc _).later g); have HY2 := Lib.hid ((Blk.new w1 24 RS).later g); have HG2 : Hid (Below X w w2) := (HG1.out.alloc (by rw [← hX.out]; exact HG1.out.size) _).trans (g.mono (by rw [← hX.out, World.size_alloc]; exact Nat.le_succ_of_le HG1.out.size)); clear g)
        | (refine wpList_store_row rfl 24 (.tmp 2) (.tmp 16) rfl X (slV slZ).toArray rfl rfl 24 _ HX2.out HI0.out rfl (slV_all slZ) ?_))
      exact bodyPost_ret (results_cell_tmp rfl _ _ X 24 (slV slZ).toArray (0, 0) _ rfl _ rfl (setRow_heap _ X _ _ _ _ HX2.out) Try.underlying24 rfl HI0.out) rfl ⟨rfl, below_setRow HG2.out (Nat.le_refl _) _⟩
  · have hg : getS l = none := getS_none (fun e => h16 (hB.1.symm.trans e))
    rw [hg]
    unfold GotS
    show Calls _ _ _ w fun e w' => e = .returned (.tuple #[.agg (slV slZ).toArray, .int .i64 3]) ∧ Below w.heap.size w w'
    have h16' : ¬ (len : Int) = 16 := by omega
    have HI0 : Hid ((Try.prog.info? 24).map (·.size) = some ((slV slZ).toArray).size) := slot_size
    clear hB hg
    go_enter Try.func13, Try.ntmps13
    go_wp2_with (refine store_new7 rfl (.tmp 2) (.tmp 8) rfl (slV slZ).toArray (by rfl) (by rfl) HI0.out rfl (slV_all slZ) ?_)
    exact bodyPost_ret (results_cell_tmp rfl _ _ w.heap.size 24 (slV slZ).toArray (0, 0) _ rfl _ rfl (Blk.new w _ _) Try.underlying24 rfl HI0.out) rfl ⟨rfl, (Below.refl _ _).alloc (Nat.le_refl _) _⟩
end Go.Proofs.Ytpjlnanalielmaa
