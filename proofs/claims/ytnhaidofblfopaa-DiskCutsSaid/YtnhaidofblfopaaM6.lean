/-
  slices.DeleteFunc over the records of a file, and Cut (package disk). Conditions: the records, the file, the disk as they lie.
-/
import Derived.Test.YtnhaidofblfopaaL6
import Derived.Test.YtnhaidofblfopaaW5
namespace Go.Proofs.Ytnhaidofblfopaa
open Go.RowKit
set_option linter.unusedVariables false

/-- The record stays. -/
def keepR (N : Nat) (r : RC) : Bool := !decide (N ≤ r.2.1)
theorem keepR_iff {N : Nat} {r : RC} : keepR N r = true ↔ (r.2.1 : Int) < (N : Int) := by simp [keepR]
/-- Of no records. -/
theorem indexf_none {w : World} (v : Value) : Calls Try.prog 68 #[.slice none 0 0, v] w fun e w' => e = .returned (.int .i64 (-1)) ∧ w = w' := by
  go_enter Try.func68, Try.ntmps68
  go_wp2
  go_loopw [8] (fun i wr => i = .int .i64 0 ∧ wr = w) (fun _ _ => 1)
  case atStart => exact ⟨rfl, rfl⟩
  case round =>
    obtain ⟨rfl, rfl⟩ := hrel
    go_wp2
    go_ret
    exact ⟨rfl, rfl⟩
theorem deletef_none {w : World} (v : Value) : Calls Try.prog 58 #[.slice none 0 0, v] w fun e w' => e = .returned (.slice none 0 0) ∧ w = w' := by
  have HI := Lib.hid (indexf_none (w := w) v)
  go_enter Try.func58, Try.ntmps58
  go_wp2_with (go_at_call 68; refine HI.out.mono ?_; rintro e w' ⟨rfl, rfl⟩)
  go_ret
  exact ⟨rfl, rfl⟩
/-- What the loop holds. -/
def DelSt (w : World) (b n c N : Nat) (L : List RC) (i j : Nat) (wr : World) : Prop :=
  ∃ M : List RC, OwnG recV 77 18 wr 0 (.slice (some ⟨b, 0, Option.none⟩) n c) n M ∧ M.take i = (L.take j).filter (keepR N) ∧ M.drop j = L.drop j ∧ w.grownBy wr (some b)
theorem DelSt.first {w : World} {b n c N : Nat} {L : List RC} {i : Nat} {r : RC} (hown : OwnG recV 77 18 w 0 (.slice (some ⟨b, 0, Option.none⟩) n c) n L) (w1 : World) (hb : Below w.heap.size w w1) (hr : L[i]? = some r) (hN : (N : Int) ≤ (r.2.1 : Int)) (hA : ∀ x ∈ L.take i, (x.2.1 : Int) < (N : Int)) :
    DelSt w b n c N L i (i + 1) w1 := by
  refine ⟨L, hown.kept' (grown_of_below hb) (fun k _ e => by cases e), ?_, rfl, ⟨hb.os, hb.tape, hb.output, hb.size, fun k hk _ => hb.block k hk⟩⟩
  rw [List.take_add_one, hr, List.filter_append, List.filter_eq_self.2 (fun x hx => keepR_iff.2 (hA x hx))]
  have : keepR N r = false := by
    cases h : keepR N r with
    | false => rfl
    | true => have := keepR_iff.1 h; omega
  simp [this]
theorem DelSt.row {w : World} {b n c N : Nat} {L : List RC} {i j : Nat} {wr : World} (h : DelSt w b n c N L i j wr) (r : RC) (hr : L[j]? = some r) : wr.rangeAt b (j * 18) (recV r) := by
  obtain ⟨M, h1, _, h3, _⟩ := h
  have : M[j]? = some r := by
    have := congrArg (fun l : List RC => l[0]?) h3
    simpa [hr] using this
  exact ownG_range h1 j r this
theorem DelSt.later {w : World} {b n c N : Nat} {L : List RC} {i j : Nat} {wr w' : World} (h : DelSt w b n c N L i j wr) (hb : Below wr.heap.size wr w') : DelSt w b n c N L i j w' := by
  obtain ⟨M, h1, h2, h3, h4⟩ := h
  refine ⟨M, h1.kept' (grown_of_below hb) (fun k _ e => by cases e), h2, h3, ⟨hb.os.trans h4.os, hb.tape.trans h4.tape, hb.output.trans h4.output, Nat.le_trans h4.size hb.size, fun k hk hne => (hb.block k (Nat.lt_of_lt_of_le hk h4.size)).trans (h4.block k hk hne)⟩⟩
theorem DelSt.skip {w : World} {b n c N : Nat} {L : List RC} {i j : Nat} {wr : World} (h : DelSt w b n c N L i j wr) (r : RC) (hr : L[j]? = some r) (hk : keepR N r = false) : DelSt w b n c N L i (j + 1) wr := by
  obtain ⟨M, h1, h2, h3, h4⟩ := h
  refine ⟨M, h1, ?_, ?_, h4⟩
  · rw [h2, List.take_add_one, hr, List.filter_append]
    simp [hk]
  · rw [← List.drop_drop, h3, List.drop_drop]
/-- The record stored at place i. -/
theorem DelSt.put {w : World} {b n c N : Nat} {L : List RC} {i j : Nat} {wr : World} (h : DelSt w b n c N L i j wr) (hij : i < j) (hj : j < n) (r : RC) (hr : L[j]? = some r) (hk : keepR N r = true) :
    ∃ cur : Array Value, wr.heap[b]? = some (.cells cur 77 (0, 0)) ∧ i * 18 + (recV r).length ≤ cur.size ∧ DelSt w b n c N L (i + 1) (j + 1) (wr.setRow b (cur.toList.take (i * 18) ++ recV r ++ cur.toList.drop (i * 18 + (recV r).length)).toArray) := by
  obtain ⟨M, h1, h2, h3, h4⟩ := h
  obtain ⟨cur, k1, k2, k3⟩ := own_rec_set h1 i (by omega) r
  refine ⟨cur, k1, k2, M.set i r, k3, ?_, ?_, h4.os, h4.tape, h4.output, by have := h4.size; simpa [World.setRow] using this, fun k hk hne => (setRow_other wr b k _ (fun e => hne (by rw [e]))).trans (h4.block k hk hne)⟩
  · have hMl : M.length = n := h1.2.1
    have hi : i < M.length := by omega
    rw [List.take_add_one, List.take_set_of_le (Nat.le_refl _), h2, List.take_add_one, hr, List.filter_append, List.getElem?_set_self hi]
    simp [hk]
  · rw [List.drop_set_of_lt (by omega), ← List.drop_drop, h3, List.drop_drop]
theorem range_later {W W' : World} {g o : Nat} {cs : List Value} (hb : Below W.heap.size W W') (h : W.rangeAt g o cs) (hg : g < W.heap.size) : W'.rangeAt g o cs := fun i v hv => (hb.cell (p := ⟨g, o + i, none⟩) hg).trans (h i v hv)
theorem slice_back18 {b j c p : Nat} (h1 : p < j) (h2 : j ≤ c) (w' : World) : (Instr.slice 63 (.slice (some ⟨b, 0, none⟩) j c) (some (.int .i64 p)) none none).run Try.prog w' = .ok (.slice (some ⟨b, p * 18, none⟩) (j - p) (c - p)) w' := by
  have hinf : (Try.prog.info? 77).map (fun i => i.size) = some 18 := rec_size
  obtain ⟨i0, hi0, hi1⟩ := Option.map_eq_some_iff.1 hinf
  have b1 : p ≤ j := by omega
  have b2 : ¬ c = p := by omega
  simp [Instr.slice, Instr.sliceBounds, Instr.sliceBound, asIntOf, run_underlying Try.underlying63, sizeOf, typeInfo, hi0, hi1, b1, b2, Addr.add, go_sem]
  exact fun h => h.symm
theorem slice_front18 {b j c p : Nat} (h1 : p ≤ c) (w' : World) : (Instr.slice 63 (.slice (some ⟨b, 0, none⟩) j c) none (some (.int .i64 p)) none).run Try.prog w' = .ok (.slice (some ⟨b, 0, none⟩) p c) w' := by
  have hinf : (Try.prog.info? 77).map (fun i => i.size) = some 18 := rec_size
  obtain ⟨i0, hi0, _⟩ := Option.map_eq_some_iff.1 hinf
  simp [Instr.slice, Instr.sliceBounds, Instr.sliceBound, asIntOf, run_underlying Try.underlying63, sizeOf, typeInfo, hi0, h1, Addr.add, go_sem]
set_option maxHeartbeats 1600000 in
set_option maxRecDepth 100000 in
theorem deletef_any {w : World} {n b c qb : Nat} {L : List RC} (hown : OwnG recV 77 18 w 0 (.slice (some ⟨b, 0, none⟩) n c) n L) (hn : n ≤ 3000000) (N : Nat) (hq : w.cell? ⟨qb, 0, none⟩ = some (.int .i64 N)) (hqb : qb < w.heap.size) (hne : qb ≠ b) :
    Calls Try.prog 58 #[.slice (some ⟨b, 0, none⟩) n c, .func (.func 59) #[] #[.pointer (some ⟨qb, 0, none⟩)]] w fun e w' =>
      ∃ m, e = .returned (.slice (some ⟨b, 0, none⟩) m c) ∧ OwnG recV 77 18 w' 0 (.slice (some ⟨b, 0, none⟩) m c) m (L.filter (keepR N)) ∧ w.grownBy w' (some b) := by
  have hL : L.length = n := hown.2.1
  have hnc : n ≤ c := (hown.reads rec_rowed).2.2
  have HO := Lib.hid hown
  have HIX : Hid (Calls Try.prog 68 #[.slice (some ⟨b, 0, none⟩) n c, .func (.func 59) #[] #[.pointer (some ⟨qb, 0, none⟩)]] w fun e w' => ((e = .returned (.int .i64 (-1)) ∧ ∀ r ∈ L, (r.2.1 : Int) < N) ∨ ∃ (i : Nat) (r : RC), i < n ∧ ((i : Int) == -1) = false ∧ e = .returned (.int .i64 i) ∧ L[i]? = some r ∧ (N : Int) ≤ (r.2.1 : Int) ∧ ∀ x ∈ L.take i, (x.2.1 : Int) < N) ∧ Below w.heap.size w w') :=
    (indexf_any hown hn (N : Int) hq hqb).mono fun e w' h => ⟨h.1.imp id (fun ⟨i, r, h1, h2, h3, h4⟩ => ⟨i, r, (by have := (List.getElem?_eq_some_iff.1 h2).1; omega), (by rw [beq_eq_false_iff_ne]; omega), h1, h2, h3, h4⟩), h.2⟩
  have HQ := Lib.hid hq
  have HQB := Lib.hid hqb
  clear hown hq hqb
  go_enter Try.func58, Try.ntmps58
  go_wp2_with (go_at_call 68; refine HIX.out.mono ?_; rintro e w1 ⟨hx, hb⟩; rcases hx with ⟨rfl, hA⟩ | ⟨i, r, hil, hm1, rfl, hr, hN, hA⟩)
  · go_ret
    have e : L.filter (keepR N) = L := List.filter_eq_self.2 fun x hx => keepR_iff.2 (hA x hx)
    refine ⟨n, rfl, ?_, ⟨hb.os, hb.tape, hb.output, hb.size, fun k hk _ => hb.block k hk⟩⟩
    rw [e]
    exact HO.out.kept' (grown_of_below hb) (fun k _ e => by cases e)
  · have HD0 := Lib.hid (DelSt.first HO.out w1 hb hr hN hA)
    have HQ0 : Hid (w1.cell? ⟨qb, 0, none⟩ = some (.int .i64 N)) := Lib.hid ((hb.cell (p := ⟨qb, 0, none⟩) HQB.out).trans HQ.out)
    have HL0 := Lib.hid (Nat.lt_of_lt_of_le HQB.out hb.size)
    clear hA hN hr hb HIX
    go_loopw [5, 6] (fun x y wr => ∃ p j : Nat, p < j ∧ j ≤ n ∧ x = .int .i64 p ∧ y = .int .i64 j ∧ Hid (DelSt w b n c N L p j wr) ∧ Hid (wr.cell? ⟨qb, 0, none⟩ = some (.int .i64 N)) ∧ Hid (qb < wr.heap.size)) (fun _ y _ => n - (intOf y).toNat)
    case atStart => exact ⟨i, i + 1, by omega, by omega, rfl, by go_num, HD0.out, HQ0.out, HL0.out⟩
    case round =>
      obtain ⟨p, j, hpj, hj, rfl, rfl, HD, HQr, HLr⟩ := hrel
      clear HD0 HQ0 HL0
      by_cases hlt : j < n
      · obtain ⟨r1, hr1⟩ : ∃ r, L[j]? = some r := ⟨_, List.getElem?_eq_getElem (by omega)⟩
        have hrow := HD.out.row r1 hr1
        obtain ⟨CS, hCS⟩ := named (recV r1).toArray
        have hCSL : CS.size = 18 := by rw [← hCS.out]; simp [recV_len]
        have hE : CS.toList = recV r1 := by rw [← hCS.out]
        have HR1 : Hid (wr.rangeAt b (j * 18) CS.toList) := Lib.hid (by rw [hE]; exact hrow)
        have HSZ : Hid ((Try.prog.info? 77).map (·.size) = some CS.toList.length) := by rw [Hid, Array.length_toList, hCSL]; exact rec_size
        have HSC : Hid ((Try.prog.info? 77).map (·.size) = some CS.size) := by rw [Hid, hCSL]; exact rec_size
        have HSC18 : Hid (CS.size = 18) := hCSL
        have HC1 : Hid (CS.all (·.oneCell') = true) := by rw [← hCS.out]; exact recV_all r1
        have HC2 : Hid (∀ u ∈ CS.toList, u.oneCell' = true) := by rw [hE]; exact fun u hu => rec_rowed.one r1 u hu
        have HNW : Hid ((wr.alloc (.cells CS 77)).rangeAt wr.heap.size 0 CS.toList) := fun i v hv => by
          rw [Nat.zero_add, (Blk.new wr _ CS).cell]
          simpa using hv
        have HQA : Hid ((wr.alloc (.cells CS 77)).cell? ⟨qb, 0, none⟩ = some (.int .i64 N)) := Lib.hid ((World.cell?_of_block (Below.heap_alloc wr _ qb HLr.out)).trans HQr.out)
        have hcall := cut1_any (w := wr.alloc (.cells CS 77)) r1 qb (N : Int) HQA.out (Nat.lt_of_lt_of_le HLr.out (by simp))
        rw [hCS.out] at hcall
        have HQB' := HLr
        have HRR := Lib.hid hr1
        clear hr1 hrow
        by_cases hp : (N : Int) ≤ (r1.2.1 : Int)
        · have HP : Hid (keepR N r1 = false) := by
            cases h : keepR N r1 with
            | false => rfl
            | true => have := keepR_iff.1 h; omega
          rw [decide_eq_true hp] at hcall
          have HCL := Lib.hid hcall
          clear hp hcall hE hCSL
          go_wp2_with (first
            | (refine wpList_load_mid rfl 77 (.tmp 24) rfl b (j * 18) (by rfl) CS.toList _ HR1.out Try.underlying77 rfl HSZ.out ?_)
            | (refine wpList_store_new rfl (.tmp 7) (.tmp 25) rfl CS (by rfl) (by rfl) HSC.out (by rw [HSC18.out]; rfl) HC1.out ?_)
            | (refine wpList_load_mid rfl 77 (.tmp 7) rfl wr.heap.size 0 (by rfl) CS.toList _ HNW.out Try.underlying77 rfl HSZ.out ?_)
            | (go_at_call 59; (refine HCL.out.mono ?_); rintro e w1 ⟨rfl, hb⟩; have HD1 := Lib.hid ((HD.out.later ((Below.refl _ wr).alloc (Nat.le_refl _) (.cells CS 77))).later hb); have HL1 : Hid (qb < w1.heap.size) := Lib.hid (Nat.lt_of_lt_of_le HLr.out (Nat.le_trans (by simp) hb.size)); have HQ1 : Hid (w1.cell? ⟨qb, 0, none⟩ = some (.int .i64 N)) := Lib.hid ((hb.cell (p := ⟨qb, 0, none⟩) (Nat.lt_of_lt_of_le HLr.out (by simp))).trans HQA.out); have HNW1 := Lib.hid (range_later hb HNW.out (by simp)); clear hb))
          go_roundw
          case rel => exact ⟨p, j + 1, by omega, by omega, rfl, by go_num, HD1.out.skip r1 HRR.out HP.out, HQ1.out, HL1.out⟩
          case measure => simp [intOf]; omega
        · have HP : Hid (keepR N r1 = true) := keepR_iff.2 (by omega)
          rw [decide_eq_false hp] at hcall
          have HCL := Lib.hid hcall
          have HE := Lib.hid hE
          clear hp hcall hE hCSL
          go_wp2_with (first
            | (refine wpList_load_mid rfl 77 (.tmp 24) rfl b (j * 18) (by rfl) CS.toList _ HR1.out Try.underlying77 rfl HSZ.out ?_)
            | (refine wpList_store_new rfl (.tmp 7) (.tmp 25) rfl CS (by rfl) (by rfl) HSC.out (by rw [HSC18.out]; rfl) HC1.out ?_)
            | (refine wpList_load_mid rfl 77 (.tmp 7) rfl wr.heap.size 0 (by rfl) CS.toList _ HNW.out Try.underlying77 rfl HSZ.out ?_)
            | (go_at_call 59; (refine HCL.out.mono ?_); rintro e w1 ⟨rfl, hb⟩; have HD1 := Lib.hid ((HD.out.later ((Below.refl _ wr).alloc (Nat.le_refl _) (.cells CS 77))).later hb); have HL1 : Hid (qb < w1.heap.size) := Lib.hid (Nat.lt_of_lt_of_le HLr.out (Nat.le_trans (by simp) hb.size)); have HQ1 : Hid (w1.cell? ⟨qb, 0, none⟩ = some (.int .i64 N)) := Lib.hid ((hb.cell (p := ⟨qb, 0, none⟩) (Nat.lt_of_lt_of_le HLr.out (by simp))).trans HQA.out); have HNW1 := Lib.hid (range_later hb HNW.out (by simp)); clear hb)
            | (refine wpList_load_mid rfl 77 (.tmp 7) rfl wr.heap.size 0 (by rfl) CS.toList _ HNW1.out Try.underlying77 rfl HSZ.out ?_)
            | (obtain ⟨cur, hc1, hc2, hc3⟩ := HD1.out.put hpj hlt r1 HRR.out HP.out; rw [← HE.out] at hc2 hc3; refine wpList_store_mid rfl (.tmp 33) (.tmp 32) rfl b (p * 18) cur CS (by rfl) (by rfl) hc1 HSC.out hc2 HC2.out ?_; obtain ⟨NR, hNR⟩ := named (cur.toList.take (p * 18) ++ CS.toList ++ cur.toList.drop (p * 18 + CS.toList.length)).toArray; rw [hNR.out] at hc3 ⊢; have HD2 := Lib.hid hc3; have HQ2 : Hid ((w1.setRow b NR).cell? ⟨qb, 0, none⟩ = some (.int .i64 N)) := Lib.hid ((World.cell?_of_block (setRow_other w1 b qb _ hne)).trans HQ1.out); have HL2 : Hid (qb < (w1.setRow b NR).heap.size) := Lib.hid (by simpa [World.setRow] using HL1.out); clear hc1 hc2 hc3))
          go_roundw
          case rel => exact ⟨p + 1, j + 1, by omega, by omega, by go_num, by go_num, HD2.out, HQ2.out, HL2.out⟩
          case measure => simp [intOf]; omega
      · obtain rfl : j = n := by omega
        have hpn : p < j := hpj
        obtain ⟨M, hM1, hM2, hM3, hM4⟩ := HD.out
        have hM2' : M.take p = L.filter (keepR N) := by rw [hM2, List.take_of_length_le (by omega)]
        rcases hM1.1.2 with ⟨e, _⟩ | ⟨g, cap, cur, e, hbg, hg, hncc, hcm, hcs, htake⟩
        · cases e
        cases e
        obtain ⟨zs, hz, hcl⟩ := run_clear_row (P := Try.prog) wr 63 77 0 (.agg (recV (0, 0, zero16)).toArray) 18 Try.underlying63 (fun w => by kernel_rfl) rfl (fun u hu => rec_rowed.one (0, 0, zero16) u (by simpa [Value.cells] using hu)) b (p * 18) (j - p) (c - p) cur (by omega) hg (by rw [hcs, ← Nat.add_mul]; exact Nat.mul_le_mul_right 18 (by omega))
        have hcl18 : cur.toList.length = c * 18 := by rw [Array.length_toList, hcs]
        have hNRl : (cur.toList.take (p * 18) ++ zs ++ cur.toList.drop (p * 18 + zs.length)).length = c * 18 := by
          have h1 : p * 18 + (j - p) * 18 ≤ c * 18 := by rw [← Nat.add_mul]; exact Nat.mul_le_mul_right 18 (by omega)
          rw [List.length_append, List.length_append, List.length_take, List.length_drop, hcl18, hz]
          omega
        have hNRt : (cur.toList.take (p * 18) ++ zs ++ cur.toList.drop (p * 18 + zs.length)).take (p * 18) = (L.filter (keepR N)).flatMap recV := by
          have h1 : p * 18 ≤ j * 18 := Nat.mul_le_mul_right 18 (by omega)
          have h2 : j * 18 ≤ c * 18 := Nat.mul_le_mul_right 18 hncc
          rw [List.append_assoc, List.take_append_of_le_length (by rw [List.length_take, hcl18]; omega), List.take_take, Nat.min_self, ← hM2']
          have h3 : cur.toList.take (p * 18) = (cur.toList.take (j * 18)).take (p * 18) := by rw [List.take_take, Nat.min_eq_left h1]
          rw [h3, htake]
          have h4 : M = M.take p ++ M.drop p := (List.take_append_drop p M).symm
          have h5 : ((M.take p).flatMap recV).length = p * 18 := by rw [flat18, List.length_take, Nat.min_eq_left (by have := hM1.2.1; omega)]
          conv => lhs; rw [h4, List.flatMap_append]
          exact List.take_left' h5
        have hfl : (L.filter (keepR N)).length = p := by rw [← hM2', List.length_take, Nat.min_eq_left (by have := hM1.2.1; omega)]
        obtain ⟨NR, hNR⟩ := named (cur.toList.take (p * 18) ++ zs ++ cur.toList.drop (p * 18 + zs.length))
        rw [hNR.out] at hcl hNRl hNRt
        have hs1 := fun w' => slice_back18 (b := b) hpn hncc w'
        have hs2 := fun w' => slice_front18 (b := b) (j := j) (c := c) (p := p) (by omega) w'
        have HCL := Lib.hid hcl
        have HNL := Lib.hid hNRl
        have HNT := Lib.hid hNRt
        have HG := Lib.hid hg
        have HM4 := Lib.hid hM4
        have HFL := Lib.hid hfl
        clear hcl hNRl hNRt hg hM1 hM2 hM2' hM3 hM4 hz htake hcs hcl18 hNR hfl HD HQr HLr
        go_wp2_with (simp only [HCL.out])
        go_ret
        have hsl : NR.toArray.size = c * 18 := by rw [List.size_toArray]; exact HNL.out
        refine ⟨p, rfl, ⟨⟨by rw [flat18, HFL.out], Or.inr ⟨b, c, NR.toArray, rfl, hbg, setRow_heap wr b cur _ _ _ HG.out, by omega, hcm, hsl, HNT.out⟩⟩, HFL.out, by omega⟩, ⟨HM4.out.os, HM4.out.tape, HM4.out.output, by have := HM4.out.size; simpa [World.setRow] using this, fun k hk hne' => (setRow_other wr b k _ (fun e => hne' (by rw [e]))).trans (HM4.out.block k hk hne')⟩⟩
end Go.Proofs.Ytnhaidofblfopaa
