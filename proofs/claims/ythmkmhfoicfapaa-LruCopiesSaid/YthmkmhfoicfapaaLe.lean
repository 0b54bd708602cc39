/-
  slices.IndexFunc, DeleteFunc, Index, Contains, Clone of ints; bytes.Clone (package lru). Conditions: rows of the cache's own.
-/
import Derived.Test.YthmkmhfoicfapaaLb
import Derived.Deep.MidRow
import Derived.Lib.SliceRun
import Derived.Deep.Onto
namespace Go.Proofs.Ythmkmhfoicfapaa
open Go.RowKit
set_option linter.unusedVariables false

theorem run_clear_row {P : Program} (w : World) (t e ty : TypeId) (z : Value) (k : Nat) (ht : P.underlying t = some (.slice e)) (hv : ∀ w, (zeroValue e).run P w = .ok z w) (hz : z.cells.size = k) (h1 : ∀ u ∈ z.cells, u.oneCell' = true) (g o m c : Nat) (cur : Array Value) (hm : 0 < m)
    (hg : w.heap[g]? = some (.cells cur e (0, 0))) (hfit : o + m * k ≤ cur.size) :
    ∃ zs : List Value, zs.length = m * k ∧ (Builtin.clear_ #[t] ty #[.slice (some ⟨g, o, none⟩) m c]).run P w = .ok (.tuple #[]) (w.setRow g (cur.toList.take o ++ zs ++ cur.toList.drop (o + zs.length)).toArray) := by
  have hl : (Builtin.zeroCells z.cells m).toList.length = m * k := by rw [Array.length_toList, size_zeroCells, hz]
  have hone : ∀ u ∈ (Builtin.zeroCells z.cells m).toList, u.oneCell' = true := fun u hu => by
    simp only [Builtin.zeroCells, Array.toList_map, List.mem_map, Array.mem_toList_iff, Array.mem_range] at hu
    obtain ⟨i, hi, rfl⟩ := hu
    have h0 : 0 < z.cells.size := by
      rcases Nat.eq_zero_or_pos z.cells.size with h | h
      · rw [h, Nat.mul_zero] at hi
        omega
      · exact h
    have hlt := Nat.mod_lt i h0
    rw [getElem!_pos z.cells _ hlt]
    exact h1 _ (Array.getElem_mem hlt)
  refine ⟨(Builtin.zeroCells z.cells m).toList, hl, ?_⟩
  have hst := run_storeCells_at P g o e (Builtin.zeroCells z.cells m).toList 0 cur w hg (by rw [hl]; simpa using hfit) hone
  simp only [Nat.add_zero] at hst
  obtain ⟨m, rfl⟩ : ∃ q, m = q + 1 := ⟨m - 1, by omega⟩
  simp [Builtin.clear_, run_underlying ht, hv, hst]
/-- A record into the middle of a row. -/
theorem run_storeAt_mid {P : Program} (w : World) (t e : TypeId) (g o : Nat) (cur c' : Array Value) (hg : w.heap[g]? = some (.cells cur e (0, 0))) (hi : (P.info? t).map (·.size) = some c'.size) (hfit : o + c'.toList.length ≤ cur.size) (h1 : ∀ u ∈ c'.toList, u.oneCell' = true) :
    (Instr.storeAt t (.pointer (some ⟨g, o, none⟩)) (.agg c')).run P w = .ok () (w.setRow g (cur.toList.take o ++ c'.toList ++ cur.toList.drop (o + c'.toList.length)).toArray) := by
  have hst := run_storeCells_at P g o e c'.toList 0 cur w hg (by simpa using hfit) h1
  simp only [Nat.add_zero] at hst
  obtain ⟨i, hii, hs⟩ := Option.map_eq_some_iff.1 hi
  simp [Instr.storeAt, Instr.sureAddr, storeVar, sizeOf, typeInfo, hii, hs, Value.cells, Result.andThen, hst]
theorem wpList_store_mid {P : Program} {ops : Array Oper} {rest : List Oper} {op : Oper} {a : Act} {w : World} {Q : Exit → Act → World → Prop} {t e : TypeId} (hgd : op.guard = none) (x y : Operand) (ho : op.op = .store t x y) (g o : Nat) (cur c' : Array Value)
    (hx : a.eval x = .pointer (some ⟨g, o, none⟩)) (hy : a.eval y = .agg c') (hg : w.heap[g]? = some (.cells cur e (0, 0))) (hi : (P.info? t).map (·.size) = some c'.size) (hfit : o + c'.toList.length ≤ cur.size) (h1 : ∀ u ∈ c'.toList, u.oneCell' = true)
    (h : wpList P ops Q rest (a.put op.dst undef) (w.setRow g (cur.toList.take o ++ c'.toList ++ cur.toList.drop (o + c'.toList.length)).toArray)) : wpList P ops Q (op :: rest) a w := by
  refine wpList_plain hgd fun K' hK => ?_
  unfold Oper.wp execOp
  simp only [ho, hx, hy, run_storeAt_mid w t e g o cur c' hg hi hfit h1, Sem.run_bind, Result.andThen_ok]
  exact hK _ _ h
theorem pivl_len (L : List Int) : (L.flatMap ivV).length = L.length := by rw [flat_len (cv := ivV) (sz := 1) (fun _ => rfl), Nat.mul_one]
theorem iv_cell {w : World} {b n c : Nat} {L : List Int} (h : OwnG ivV 3 1 w 0 (.slice (some ⟨b, 0, none⟩) n c) n L) (i : Nat) (x : Int) (hi : L[i]? = some x) : w.cell? ⟨b, i, none⟩ = some (.int .i64 x) := by
  have := (h.reads iv_rowed).1.cellAt iv_rowed i 0 x (.int .i64 x) hi rfl
  rwa [Nat.zero_add, Nat.mul_one, Nat.add_zero] at this
theorem iv_set {w : World} {b n c : Nat} {L : List Int} (h : OwnG ivV 3 1 w 0 (.slice (some ⟨b, 0, none⟩) n c) n L) (i : Nat) (x : Int) :
    OwnG ivV 3 1 (w.setCell ⟨b, i, none⟩ (.int .i64 x)) 0 (.slice (some ⟨b, 0, none⟩) n c) n (L.set i x) := by
  obtain ⟨⟨h1, h2⟩, h3, h4⟩ := h
  refine ⟨⟨by rw [pivl_len, List.length_set, h3, Nat.mul_one], ?_⟩, by rw [List.length_set]; exact h3, h4⟩
  rcases h2 with ⟨e, _⟩ | ⟨g, cap, cur, e, hb, hg, hn, hm, hs, ht⟩
  · cases e
  · cases e
    refine Or.inr ⟨b, c, cur.setIfInBounds i (.int .i64 x), rfl, hb, Blk.set i _ (show Blk w b _ cur from hg), hn, hm, by simp [hs], ?_⟩
    rw [Array.toList_setIfInBounds, List.take_set, ht, flat_iv, flat_iv, List.map_set]
theorem iv_free {w : World} {b n c : Nat} {L : List Int} (h : OwnG ivV 3 1 w 0 (.slice (some ⟨b, 0, none⟩) n c) n L) (i : Nat) : w.frozen? ⟨b, i, none⟩ = false := by
  rcases h.1.2 with ⟨e, _⟩ | ⟨g, cap, cur, e, hb, hg, _⟩
  · cases e
  · cases e
    exact Blk.free (show Blk w b _ cur from hg) i
/-- What is said of a function value that tells which go. -/
def Tells (w : World) (F : Nat) (cs : Array Value) (q : Int → Bool) : Prop := ∀ x, Calls Try.prog F (#[.int .i64 x] ++ cs) w fun e w' => e = .returned (.bool (q x)) ∧ w' = w
def IdxQ (n : Nat) (L : List Int) (q : Int → Bool) (w : World) (e : Ending) (w' : World) : Prop :=
  ((e = .returned (.int .i64 (-1)) ∧ ∀ x ∈ L, q x = false) ∨ ∃ (i : Nat) (r : Int), i < n ∧ ((i : Int) == -1) = false ∧ e = .returned (.int .i64 i) ∧ L[i]? = some r ∧ q r = true ∧ ∀ x ∈ L.take i, q x = false) ∧ w' = w
set_option maxHeartbeats 800000 in
/-- slices.IndexFunc. -/
theorem indexf_any {w : World} {v : Value} {n : Nat} {L : List Int} (hown : OwnG ivV 3 1 w 0 v n L) (C : Value) (q : Int → Bool) (ht : Tells w 70 #[C] q) :
    Calls Try.prog 75 #[v, .func (.func 70) #[] #[C]] w (IdxQ n L q w) := by
  obtain ⟨a, c, rfl, _, hnil, hcap⟩ := hown.shape iv_rowed
  have hL : L.length = n := hown.2.1
  have hn8 : n ≤ 100000000 := hown.2.2
  have HO := Lib.hid hown
  have HT := Lib.hid ht
  clear hown ht
  go_enter Try.func75, Try.ntmps75
  go_wp2
  go_loopw [8] (fun i wr => ∃ j : Nat, j ≤ n ∧ i = .int .i64 j ∧ wr = w ∧ Hid (∀ x ∈ L.take j, q x = false)) (fun i _ => n - (intOf i).toNat)
  case atStart => exact ⟨0, Nat.zero_le _, rfl, rfl, fun x hx => by simp at hx⟩
  case round =>
    obtain ⟨j, hj, rfl, rfl, HA⟩ := hrel
    by_cases hlt : j < n
    · obtain ⟨r, hr⟩ : ∃ r, L[j]? = some r := ⟨_, List.getElem?_eq_getElem (by omega)⟩
      obtain ⟨b, rfl⟩ : ∃ b, a = some ⟨b, 0, none⟩ := by
        rcases HO.out.1.2 with ⟨e, e'⟩ | ⟨g, cap, cur, e, _⟩
        · omega
        · cases e
          exact ⟨_, rfl⟩
      have cj := iv_cell HO.out j r hr
      have HCL : Hid (Calls Try.prog 70 #[.int .i64 r, C] wr fun e w' => e = .returned (.bool (q r)) ∧ w' = wr) := HT.out r
      have HRR := Lib.hid hr
      clear hr
      cases hq : q r with
      | true =>
        rw [hq] at HCL
        have HP := Lib.hid hq
        have hm1 : ((j : Int) == -1) = false := by rw [beq_eq_false_iff_ne]; omega
        have HM := Lib.hid hm1
        clear hq hm1
        go_wp2_with (go_at_call 70; refine HCL.out.mono ?_; rintro e w' ⟨rfl, rfl⟩)
        go_ret
        exact ⟨Or.inr ⟨j, r, hlt, HM.out, rfl, HRR.out, HP.out, HA.out⟩, rfl⟩
      | false =>
        rw [hq] at HCL
        have HP := Lib.hid hq
        clear hq
        go_wp2_with (go_at_call 70; refine HCL.out.mono ?_; rintro e w' ⟨rfl, rfl⟩)
        go_roundw
        case rel =>
          refine ⟨j + 1, by omega, by go_num, trivial, fun x hx => ?_⟩
          rw [List.take_add_one, HRR.out] at hx
          rcases List.mem_append.1 hx with hx | hx
          · exact HA.out x hx
          · simp at hx
            rw [hx]
            exact HP.out
        case measure => simp [intOf]; omega
    · obtain rfl : j = n := by omega
      go_wp2
      go_ret
      exact ⟨Or.inl ⟨rfl, fun x hx => HA.out x (by rw [List.take_of_length_le (by omega)]; exact hx)⟩, rfl⟩
def DelSt (w : World) (b n c : Nat) (q : Int → Bool) (L : List Int) (i j : Nat) (wr : World) : Prop :=
  ∃ M : List Int, OwnG ivV 3 1 wr 0 (.slice (some ⟨b, 0, Option.none⟩) n c) n M ∧ M.take i = (L.take j).filter (fun x => !q x) ∧ M.drop j = L.drop j ∧ w.grownBy wr (some b)
theorem DelSt.first {w : World} {b n c : Nat} {q : Int → Bool} {L : List Int} {i : Nat} {r : Int} (hown : OwnG ivV 3 1 w 0 (.slice (some ⟨b, 0, Option.none⟩) n c) n L) (hr : L[i]? = some r) (hN : q r = true) (hA : ∀ x ∈ L.take i, q x = false) :
    DelSt w b n c q L i (i + 1) w := by
  refine ⟨L, hown, ?_, rfl, ⟨rfl, rfl, rfl, Nat.le_refl _, fun _ _ _ => rfl⟩⟩
  rw [List.take_add_one, hr, List.filter_append, List.filter_eq_self.2 (fun x hx => by simp [hA x hx])]
  simp [hN]
theorem DelSt.row {w : World} {b n c : Nat} {q : Int → Bool} {L : List Int} {i j : Nat} {wr : World} (h : DelSt w b n c q L i j wr) (r : Int) (hr : L[j]? = some r) : wr.cell? ⟨b, j, none⟩ = some (.int .i64 r) := by
  obtain ⟨M, h1, _, h3, _⟩ := h
  have : M[j]? = some r := by
    have := congrArg (fun l : List Int => l[0]?) h3
    simpa [hr] using this
  exact iv_cell h1 j r this
theorem DelSt.skip {w : World} {b n c : Nat} {q : Int → Bool} {L : List Int} {i j : Nat} {wr : World} (h : DelSt w b n c q L i j wr) (r : Int) (hr : L[j]? = some r) (hk : q r = true) : DelSt w b n c q L i (j + 1) wr := by
  obtain ⟨M, h1, h2, h3, h4⟩ := h
  refine ⟨M, h1, ?_, ?_, h4⟩
  · rw [h2, List.take_add_one, hr, List.filter_append]
    simp [hk]
  · rw [← List.drop_drop, h3, List.drop_drop]
theorem DelSt.put {w : World} {b n c : Nat} {q : Int → Bool} {L : List Int} {i j : Nat} {wr : World} (h : DelSt w b n c q L i j wr) (hij : i < j) (hj : j < n) (r : Int) (hr : L[j]? = some r) (hk : q r = false) : DelSt w b n c q L (i + 1) (j + 1) (wr.setCell ⟨b, i, none⟩ (.int .i64 r)) := by
  obtain ⟨M, h1, h2, h3, h4⟩ := h
  refine ⟨M.set i r, iv_set h1 i r, ?_, ?_, h4.trans (grownBy_setCell4 wr b i _)⟩
  · have hMl : M.length = n := h1.2.1
    have hi : i < M.length := by omega
    rw [List.take_add_one, List.take_set_of_le (Nat.le_refl _), h2, List.take_add_one, hr, List.filter_append, List.getElem?_set_self hi]
    simp [hk]
  · rw [List.drop_set_of_lt (by omega), ← List.drop_drop, h3, List.drop_drop]
theorem slice_back1 {b j c p : Nat} (h1 : p < j) (h2 : j ≤ c) (w' : World) : (Instr.slice 38 (.slice (some ⟨b, 0, none⟩) j c) (some (.int .i64 p)) none none).run Try.prog w' = .ok (.slice (some ⟨b, p, none⟩) (j - p) (c - p)) w' := by
  have hinf : (Try.prog.info? 3).map (fun i => i.size) = some 1 := by kernel_rfl
  obtain ⟨i0, hi0, hi1⟩ := Option.map_eq_some_iff.1 hinf
  have b1 : p ≤ j := by omega
  have b2 : ¬ c = p := by omega
  simp [Instr.slice, Instr.sliceBounds, Instr.sliceBound, asIntOf, run_underlying Try.underlying38, sizeOf, typeInfo, hi0, hi1, b1, b2, Addr.add, go_sem]
  exact fun h => h.symm
theorem slice_front1 {b j c p : Nat} (h1 : p ≤ c) (w' : World) : (Instr.slice 38 (.slice (some ⟨b, 0, none⟩) j c) none (some (.int .i64 p)) none).run Try.prog w' = .ok (.slice (some ⟨b, 0, none⟩) p c) w' := by
  have hinf : (Try.prog.info? 3).map (fun i => i.size) = some 1 := by kernel_rfl
  obtain ⟨i0, hi0, _⟩ := Option.map_eq_some_iff.1 hinf
  simp [Instr.slice, Instr.sliceBounds, Instr.sliceBound, asIntOf, run_underlying Try.underlying38, sizeOf, typeInfo, hi0, h1, Addr.add, go_sem]
def DelQ (b c : Nat) (L' : List Int) (w : World) (e : Ending) (w' : World) : Prop :=
  e = .returned (.slice (some ⟨b, 0, none⟩) L'.length c) ∧ OwnI w' (.slice (some ⟨b, 0, none⟩) L'.length c) L' ∧ w.grownBy w' (some b)
set_option maxHeartbeats 1600000 in
set_option maxRecDepth 100000 in
/-- slices.DeleteFunc of ints. -/
theorem deletef_any {w : World} {n b c : Nat} {L : List Int} (hown : OwnG ivV 3 1 w 0 (.slice (some ⟨b, 0, none⟩) n c) n L) (C : Value) (q : Int → Bool)
    (ht : ∀ w', w.grownBy w' (some b) → (∃ M, OwnG ivV 3 1 w' 0 (.slice (some ⟨b, 0, none⟩) n c) n M) → Tells w' 70 #[C] q) :
    Calls Try.prog 69 #[.slice (some ⟨b, 0, none⟩) n c, .func (.func 70) #[] #[C]] w (DelQ b c (L.filter fun x => !q x) w) := by
  have hL : L.length = n := hown.2.1
  have hnc : n ≤ c := (hown.reads iv_rowed).2.2
  have hn8 : n ≤ 100000000 := hown.2.2
  have HO := Lib.hid hown
  have HT := Lib.hid ht
  have HIX := Lib.hid (indexf_any hown C q (ht w ⟨rfl, rfl, rfl, Nat.le_refl _, fun _ _ _ => rfl⟩ ⟨L, hown⟩))
  clear hown ht
  go_enter Try.func69, Try.ntmps69
  go_wp2_with (go_at_call 75; refine HIX.out.mono ?_; rintro e w1 ⟨hx, rfl⟩; rcases hx with ⟨rfl, hA⟩ | ⟨i, r, hil, hm1, rfl, hr, hN, hA⟩)
  · go_ret
    have e : L.filter (fun x => !q x) = L := List.filter_eq_self.2 fun x hx => by simp [hA x hx]
    unfold DelQ
    rw [e, hL]
    exact ⟨rfl, by unfold OwnI; rw [hL]; exact HO.out, ⟨rfl, rfl, rfl, Nat.le_refl _, fun _ _ _ => rfl⟩⟩
  · have HD0 := Lib.hid (DelSt.first HO.out hr hN hA)
    clear hA hN hr HIX
    go_loopw [5, 6] (fun x y wr => ∃ p j : Nat, p < j ∧ j ≤ n ∧ x = .int .i64 p ∧ y = .int .i64 j ∧ Hid (DelSt w1 b n c q L p j wr)) (fun _ y _ => n - (intOf y).toNat)
    case atStart => exact ⟨i, i + 1, by omega, by omega, rfl, by go_num, HD0.out⟩
    case round =>
      obtain ⟨p, j, hpj, hj, rfl, rfl, HD⟩ := hrel
      clear HD0
      by_cases hlt : j < n
      · obtain ⟨r1, hr1⟩ : ∃ r, L[j]? = some r := ⟨_, List.getElem?_eq_getElem (by omega)⟩
        have cj := HD.out.row r1 hr1
        have HCL : Hid (Calls Try.prog 70 #[.int .i64 r1, C] wr fun e w' => e = .returned (.bool (q r1)) ∧ w' = wr) := by
          obtain ⟨M, h1, _, _, h4⟩ := HD.out
          exact HT.out wr h4 ⟨M, h1⟩ r1
        have HRR := Lib.hid hr1
        clear hr1
        cases hq : q r1 with
        | true =>
          rw [hq] at HCL
          have HP := Lib.hid hq
          clear hq
          go_wp2_with (go_at_call 70; refine HCL.out.mono ?_; rintro e w' ⟨rfl, rfl⟩)
          go_roundw
          case rel => exact ⟨p, j + 1, by omega, by omega, rfl, by go_num, HD.out.skip r1 HRR.out HP.out⟩
          case measure => simp [intOf]; omega
        | false =>
          rw [hq] at HCL
          have HP := Lib.hid hq
          have HD2 := Lib.hid (HD.out.put hpj hlt r1 HRR.out hq)
          have ⟨kp, fp⟩ : (∃ v, wr.cell? ⟨b, p, none⟩ = some v) ∧ wr.frozen? ⟨b, p, none⟩ = false := by
            obtain ⟨M, h1, _⟩ := HD.out
            obtain ⟨x, hx⟩ : ∃ x, M[p]? = some x := ⟨_, List.getElem?_eq_getElem (by have := h1.2.1; omega)⟩
            exact ⟨⟨_, iv_cell h1 p x hx⟩, iv_free h1 p⟩
          obtain ⟨vp, kp⟩ := kp
          clear hq
          go_wp2_with (go_at_call 70; refine HCL.out.mono ?_; rintro e w' ⟨rfl, rfl⟩)
          go_roundw
          case rel => exact ⟨p + 1, j + 1, by omega, by omega, by go_num, by go_num, HD2.out⟩
          case measure => simp [intOf]; omega
      · obtain rfl : j = n := by omega
        have hpn : p < j := hpj
        obtain ⟨M, hM1, hM2, hM3, hM4⟩ := HD.out
        have hM2' : M.take p = L.filter (fun x => !q x) := by rw [hM2, List.take_of_length_le (by omega)]
        rcases hM1.1.2 with ⟨e, _⟩ | ⟨g, cap, cur, e, hbg, hg, hncc, hcm, hcs, htake⟩
        · cases e
        cases e
        rw [Nat.mul_one] at hcs htake
        obtain ⟨zs, hz, hcl⟩ := run_clear_row (P := Try.prog) wr 38 3 0 (.int .i64 0) 1 Try.underlying38 (fun w => by kernel_rfl) rfl (fun u hu => by simp [Value.cells] at hu; subst hu; rfl) b p (j - p) (c - p) cur (by omega) hg (by rw [hcs]; omega)
        rw [Nat.mul_one] at hz
        have hcl1 : cur.toList.length = c := by rw [Array.length_toList, hcs]
        have hNRl : (cur.toList.take p ++ zs ++ cur.toList.drop (p + zs.length)).length = c := by
          rw [List.length_append, List.length_append, List.length_take, List.length_drop, hcl1, hz]
          omega
        have hMl : M.length = j := hM1.2.1
        have hNRt : (cur.toList.take p ++ zs ++ cur.toList.drop (p + zs.length)).take p = (L.filter (fun x => !q x)).flatMap ivV := by
          rw [List.append_assoc, List.take_append_of_le_length (by rw [List.length_take, hcl1]; omega), List.take_take, Nat.min_self, ← hM2']
          have h3 : cur.toList.take p = (cur.toList.take j).take p := by rw [List.take_take, Nat.min_eq_left (by omega)]
          rw [h3, htake, flat_iv, flat_iv, List.map_take]
        have hfl : (L.filter (fun x => !q x)).length = p := by rw [← hM2', List.length_take, Nat.min_eq_left (by omega)]
        obtain ⟨NR, hNR⟩ := named (cur.toList.take p ++ zs ++ cur.toList.drop (p + zs.length))
        rw [hNR.out] at hcl hNRl hNRt
        have hs1 := fun w' => slice_back1 (b := b) hpn hncc w'
        have hs2 := fun w' => slice_front1 (b := b) (j := j) (c := c) (p := p) (by omega) w'
        have HCL := Lib.hid hcl
        have HNL := Lib.hid hNRl
        have HNT := Lib.hid hNRt
        have HG := Lib.hid hg
        have HM4 := Lib.hid hM4
        have HFL := Lib.hid hfl
        clear hcl hNRl hNRt hg hM1 hM2 hM2' hM3 hM4 hz htake hcs hcl1 hNR hfl HD hMl
        go_wp2_with (simp only [HCL.out])
        go_ret
        have hsl : NR.toArray.size = c := by rw [List.size_toArray]; exact HNL.out
        unfold DelQ
        rw [HFL.out]
        refine ⟨rfl, ?_, ⟨HM4.out.os, HM4.out.tape, HM4.out.output, by have := HM4.out.size; simpa [World.setRow] using this, fun k hk hne' => (setRow_other wr b k _ (fun e => hne' (by rw [e]))).trans (HM4.out.block k hk hne')⟩⟩
        unfold OwnI
        rw [HFL.out]
        exact ⟨⟨by rw [pivl_len, HFL.out, Nat.mul_one], Or.inr ⟨b, c, NR.toArray, rfl, hbg, setRow_heap wr b cur _ _ _ HG.out, by omega, hcm, by rw [Nat.mul_one]; exact hsl, by rw [Nat.mul_one]; exact HNT.out⟩⟩, HFL.out, by omega⟩
theorem indexf_none (w : World) (C : Value) : Calls Try.prog 75 #[.slice none 0 0, C] w fun e w' => e = .returned (.int .i64 (-1)) ∧ w' = w := by
  go_enter Try.func75, Try.ntmps75
  go_wp2
  go_loopw [8] (fun i wr => i = .int .i64 0 ∧ wr = w) (fun _ _ => 1)
  case atStart => exact ⟨rfl, rfl⟩
  case round =>
    obtain ⟨rfl, rfl⟩ := hrel
    go_wp2
    go_ret
    exact ⟨rfl, rfl⟩
theorem deletef_none (w : World) (C : Value) : Calls Try.prog 69 #[.slice none 0 0, C] w fun e w' => e = .returned (.slice none 0 0) ∧ w' = w := by
  have HI := Lib.hid (indexf_none w C)
  go_enter Try.func69, Try.ntmps69
  go_wp2_with (go_at_call 75; refine HI.out.mono ?_; rintro e w' ⟨rfl, rfl⟩)
  go_ret
  exact ⟨rfl, rfl⟩
/-- slices.Index of ints. -/
def Idx1Q (L : List Int) (y : Int) (w : World) (e : Ending) (w' : World) : Prop := (∃ i : Int, e = .returned (.int .i64 i) ∧ (0 ≤ i ↔ y ∈ L)) ∧ w' = w
set_option maxHeartbeats 800000 in
theorem index_any {w : World} {v : Value} {n : Nat} {L : List Int} (hown : OwnG ivV 3 1 w 0 v n L) (y : Int) :
    Calls Try.prog 63 #[v, .int .i64 y] w (Idx1Q L y w) := by
  obtain ⟨a, c, rfl, _, hnil, hcap⟩ := hown.shape iv_rowed
  have hL : L.length = n := hown.2.1
  have hn8 : n ≤ 100000000 := hown.2.2
  have HO := Lib.hid hown
  clear hown
  go_enter Try.func63, Try.ntmps63
  go_wp2
  go_loopw [8] (fun i wr => ∃ j : Nat, j ≤ n ∧ i = .int .i64 j ∧ wr = w ∧ Hid (∀ x ∈ L.take j, y ≠ x)) (fun i _ => n - (intOf i).toNat)
  case atStart => exact ⟨0, Nat.zero_le _, rfl, rfl, fun x hx => by simp at hx⟩
  case round =>
    obtain ⟨j, hj, rfl, rfl, HA⟩ := hrel
    by_cases hlt : j < n
    · obtain ⟨r, hr⟩ : ∃ r, L[j]? = some r := ⟨_, List.getElem?_eq_getElem (by omega)⟩
      obtain ⟨b, rfl⟩ : ∃ b, a = some ⟨b, 0, none⟩ := by
        rcases HO.out.1.2 with ⟨e, e'⟩ | ⟨g, cap, cur, e, _⟩
        · omega
        · cases e
          exact ⟨_, rfl⟩
      have cj := iv_cell HO.out j r hr
      have HRR := Lib.hid hr
      clear hr
      by_cases hq : y = r
      · subst hq
        go_wp2
        go_ret
        exact ⟨⟨j, rfl, fun _ => List.mem_of_getElem? HRR.out, fun _ => Int.natCast_nonneg _⟩, rfl⟩
      · have hq' : (y == r) = false := by simpa using hq
        have HP := Lib.hid hq
        clear hq
        go_wp2
        go_roundw
        case rel =>
          refine ⟨j + 1, by omega, by go_num, trivial, fun x hx => ?_⟩
          rw [List.take_add_one, HRR.out] at hx
          rcases List.mem_append.1 hx with hx | hx
          · exact HA.out x hx
          · simp at hx
            rw [hx]
            exact HP.out
        case measure => simp [intOf]; omega
    · obtain rfl : j = n := by omega
      go_wp2
      go_ret
      refine ⟨⟨-1, rfl, fun h => by omega, fun hx => ?_⟩, rfl⟩
      have := HA.out y (by rw [List.take_of_length_le (by omega)]; exact hx)
      exact absurd rfl this
theorem contains_any {w : World} {v : Value} {n : Nat} {L : List Int} (hown : OwnG ivV 3 1 w 0 v n L) (y : Int) :
    Calls Try.prog 39 #[v, .int .i64 y] w fun e w' => e = .returned (.bool (decide (y ∈ L))) ∧ w' = w := by
  have HI := Lib.hid (index_any hown y)
  clear hown
  go_enter Try.func39, Try.ntmps39
  go_wp2_with (go_at_call 63; refine HI.out.mono ?_; rintro e w' ⟨⟨i, rfl, hi⟩, rfl⟩; have HQ := Lib.hid hi; clear hi)
  go_ret
  refine ⟨?_, rfl⟩
  have : decide (0 ≤ i) = decide (y ∈ L) := by
    rw [Bool.eq_iff_iff]
    simpa using HQ.out
  simp [this]
set_option maxRecDepth 100000 in
/-- bytes.Clone. -/
theorem bclone_any (w : World) (a : Option Addr) (n c : Nat) (l : List Int) (hB : Bytes w a n l) (hnil : a = none → c = 0) (hn : n ≤ 10000000) :
    Calls Try.prog 35 #[.slice a n c] w fun e w' => ∃ a' c', e = .returned (.slice a' n c') ∧ Own w' w.heap.size (.slice a' n c') n l ∧ Below w.heap.size w w' := by
  have HB := Lib.hid hB
  have q22 : ∀ (w : World) (a : Option Addr) (n c n' c' : Nat), (binOp .eql 34 (.slice a n c) (.slice none n' c')).run Try.prog w = .ok (.bool a.isNone) w := fun w a n c n' c' => Lib.run_eql_slice_nil w _ _ a n c n' c' Try.underlying34
  obtain ⟨N, hN⟩ := named w.heap.size
  rw [hN.out]
  cases a with
  | none =>
    obtain rfl := hnil rfl
    have h0 : n = 0 := by
      rcases hB.2.2 with h | ⟨b, off, e, _⟩
      · exact h
      · cases e
    subst h0
    obtain rfl : l = [] := List.eq_nil_of_length_eq_zero hB.1
    clear hB
    go_enter Try.func35, Try.ntmps35
    go_wp2
    go_ret
    exact ⟨none, 0, rfl, ⟨⟨by simp, Or.inl ⟨rfl, rfl⟩⟩, by unfold Small; simp⟩, Below.refl _ _⟩
  | some ad =>
    clear hB
    go_enter Try.func35, Try.ntmps35
    go_wp2_with (at_builtin; refine append_bytes rfl (.tmp 5) (.tmp 6) rfl N (.slice (some ⟨N, 0, none⟩) 0 0) 0 [] (by rw [← hN.out]; rfl) (by rw [← hN.out]; exact Own.made w w.heap.size (Nat.le_refl _)) (some ad) n c l rfl hnil (HB.out.later ((Below.refl _ w).alloc (Nat.le_refl _) _)) (by omega) (by rw [World.size_alloc]; have := hN.out; omega) ?_; intro a' c' w' h1 h2)
    go_wp2
    go_ret
    rw [Nat.zero_add, List.nil_append] at h1
    exact ⟨a', c', rfl, h1, hN.out ▸ (((Below.refl w.heap.size w).alloc (Nat.le_refl _) _).grown h2 (by rw [World.size_alloc]; omega) fun k e => by have := hN.out; have : N = k := (by simpa [Value.ownBlock] using e); omega)⟩
set_option maxRecDepth 100000 in
/-- slices.Clone of ints. -/
theorem iclone_any (w : World) (a : Option Addr) (n c : Nat) (l : List Int) (hB : Reads ivV w a n l) (hnil : a = none → c = 0) (hn : n ≤ 1000000) :
    Calls Try.prog 67 #[.slice a n c] w fun e w' => ∃ a' c', e = .returned (.slice a' n c') ∧ OwnG ivV 3 1 w' w.heap.size (.slice a' n c') n l ∧ Below w.heap.size w w' := by
  have HB := Lib.hid hB
  have q22 : ∀ (w : World) (a : Option Addr) (n c n' c' : Nat), (binOp .eql 38 (.slice a n c) (.slice none n' c')).run Try.prog w = .ok (.bool a.isNone) w := fun w a n c n' c' => Lib.run_eql_slice_nil w _ _ a n c n' c' Try.underlying38
  obtain ⟨N, hN⟩ := named w.heap.size
  rw [hN.out]
  cases a with
  | none =>
    obtain rfl := hnil rfl
    have h0 : n = 0 := by
      rcases hB.2.2 with h | ⟨b, off, e, _⟩
      · exact h
      · cases e
    subst h0
    obtain rfl : l = [] := List.eq_nil_of_length_eq_zero hB.1
    clear hB
    go_enter Try.func67, Try.ntmps67
    go_wp2
    go_ret
    exact ⟨none, 0, rfl, OwnG.none _ _ _ _ _, Below.refl _ _⟩
  | some ad =>
    clear hB
    go_enter Try.func67, Try.ntmps67
    go_wp2_with (at_builtin; refine append_gg iv_rowed rfl (.tmp 5) (.tmp 6) rfl N (.slice (some ⟨N, 0, none⟩) 0 0) 0 [] (by rw [← hN.out]; rfl) (by rw [← hN.out]; exact OwnG.made _ _ _ w w.heap.size (Nat.le_refl _)) (some ad) n c l rfl hnil (HB.out.later ((Below.refl _ w).alloc (Nat.le_refl _) _)) (by omega) (by rw [World.size_alloc]; have := hN.out; omega) ?_; intro a' c' w' h1 hb0 h2)
    go_wp2
    go_ret
    rw [Nat.zero_add, List.nil_append] at h1
    exact ⟨a', c', rfl, h1, hN.out ▸ (((Below.refl w.heap.size w).alloc (Nat.le_refl _) _).grown h2 (by rw [World.size_alloc]; omega) fun k e => by have := hN.out; have : N = k := (by simpa [Value.ownBlock] using e); omega)⟩
end Go.Proofs.Ythmkmhfoicfapaa
