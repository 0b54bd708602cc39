/-
  slices.IndexFunc and DeleteFunc of pairs at one function value (package index). Conditions: short rows, what the function value captures stays.
-/
import Derived.Test.YtobnmdjpcmegiaaKd
namespace Go.Proofs.Ytobnmdjpcmegiaa
open Go.RowKit
set_option linter.unusedVariables false

theorem indexf_noneA {w : World} (v : Value) : Calls Try.prog 32 #[.slice none 0 0, v] w fun e w' => e = .returned (.int .i64 (-1)) ∧ w' = w := by
  go_enter Try.func32, Try.ntmps32
  go_wp2
  go_loopw [8] (fun i wr => i = .int .i64 0 ∧ wr = w) (fun _ _ => 1)
  case atStart => exact ⟨rfl, rfl⟩
  case round =>
    obtain ⟨rfl, rfl⟩ := hrel
    go_wp2
    go_ret
    exact ⟨rfl, rfl⟩
theorem deletef_noneA {w : World} (v : Value) : Calls Try.prog 30 #[.slice none 0 0, v] w fun e w' => e = .returned (.slice none 0 0) ∧ w' = w := by
  have HI := Lib.hid (indexf_noneA (w := w) v)
  go_enter Try.func30, Try.ntmps30
  go_wp2_with (go_at_call 32; refine HI.out.mono ?_; rintro e w' ⟨rfl, rfl⟩)
  go_ret
  exact ⟨rfl, rfl⟩
set_option maxHeartbeats 1600000 in
theorem indexf_anyA {w : World} {n b c qb : Nat} {L : List Pr} {ty : TypeId} {cs : Array Value} {q : Pr → Bool} (hown : OwnG pvV 59 6 w 0 (.slice (some ⟨b, 0, none⟩) n c) n L) (hn : n ≤ 1000) (hq : Blk w qb ty cs) (ht : TellsX 24 qb q ty cs) :
    Calls Try.prog 32 #[.slice (some ⟨b, 0, none⟩) n c, .func (.func 24) #[] #[.pointer (some ⟨qb, 0, none⟩)]] w (IdxQ n L q w) := by
  have hL : L.length = n := hown.2.1
  have HO := Lib.hid hown
  have HQ := Lib.hid hq
  have HT := Lib.hid ht
  clear hown hq ht
  go_enter Try.func32, Try.ntmps32
  go_wp2_with fail
  go_loopw [5, 8] (fun _ i wr => ∃ j : Nat, j ≤ n ∧ i = .int .i64 j ∧ Hid (Below w.heap.size w wr) ∧ Hid (∀ x ∈ L.take j, q x = false)) (fun _ i _ => n - (intOf i).toNat)
  case atStart => exact ⟨0, Nat.zero_le _, rfl, Below.refl _ _, fun x hx => by simp at hx⟩
  case round =>
    obtain ⟨j, hj, rfl, HB, HA⟩ := hrel
    by_cases hlt : j < n
    · obtain ⟨r, hr⟩ : ∃ r, L[j]? = some r := ⟨_, List.getElem?_eq_getElem (by omega)⟩
      have HR1 : Hid (wr.rangeAt b (j * 6) (pvV r)) := Lib.hid (pr_range (HO.out.kept' (grown_of_below HB.out) (fun k _ e => by cases e)) j r hr)
      have hcall := HT.out wr r (HQ.out.later HB.out)
      have HRR := Lib.hid hr
      obtain ⟨l1, h1⟩ := named (pvV r)
      have HL1 : Hid ((Try.prog.info? 59).map (·.size) = some l1.length) := by rw [← h1.out]; exact pr_size
      rw [h1.out] at HR1 hcall
      clear hr h1
      cases hp : q r with
      | true =>
        have HP := Lib.hid hp
        rw [hp] at hcall
        have HCL := Lib.hid hcall
        have hm1 : ((j : Int) == -1) = false := by rw [beq_eq_false_iff_ne]; omega
        have HM := Lib.hid hm1
        clear hp hcall hm1
        go_wp2_with (first
          | (refine wpList_load_mid rfl 59 (.tmp 14) rfl b (j * 6) (by rfl) l1 _ HR1.out Try.underlying59 rfl HL1.out ?_)
          | (go_at_call 24; refine HCL.out.mono ?_; rintro e w' ⟨rfl, hb'⟩; have HB' := Lib.hid hb'; clear hb'))
        go_ret
        exact ⟨Or.inr ⟨j, r, hlt, HM.out, rfl, HRR.out, HP.out, HA.out⟩, HB.out.trans (HB'.out.mono HB.out.size)⟩
      | false =>
        have HP := Lib.hid hp
        rw [hp] at hcall
        have HCL := Lib.hid hcall
        clear hp hcall
        go_wp2_with (first
          | (refine wpList_load_mid rfl 59 (.tmp 14) rfl b (j * 6) (by rfl) l1 _ HR1.out Try.underlying59 rfl HL1.out ?_)
          | (go_at_call 24; refine HCL.out.mono ?_; rintro e w' ⟨rfl, hb'⟩; have HB' := Lib.hid hb'; clear hb'))
        go_roundw
        case rel =>
          refine ⟨j + 1, by omega, by go_num, HB.out.trans (HB'.out.mono HB.out.size), fun x hx => ?_⟩
          rw [List.take_add_one, HRR.out] at hx
          rcases List.mem_append.1 hx with hx | hx
          · exact HA.out x hx
          · simp at hx
            rw [hx]
            exact HP.out
        case measure => simp [intOf]; omega
    · obtain rfl : j = n := by omega
      have e : L.take j = L := List.take_of_length_le (by omega)
      rw [e] at HA
      go_wp2_with fail
      go_ret
      exact ⟨Or.inl ⟨rfl, HA.out⟩, HB.out⟩
def DelQA (b c : Nat) (L' : List Pr) (w : World) (e : Ending) (w' : World) : Prop :=
  e = .returned (.slice (some ⟨b, 0, none⟩) L'.length c) ∧ OwnG pvV 59 6 w' 0 (.slice (some ⟨b, 0, none⟩) L'.length c) L'.length L' ∧ w.grownBy w' (some b)
set_option maxHeartbeats 1600000 in
set_option maxRecDepth 100000 in
theorem deletef_anyA {w : World} {n b c qb : Nat} {L : List Pr} {ty : TypeId} {cs : Array Value} {q : Pr → Bool} (hown : OwnG pvV 59 6 w 0 (.slice (some ⟨b, 0, none⟩) n c) n L) (hn : n ≤ 1000) (hq : Blk w qb ty cs) (ht : TellsX 24 qb q ty cs) (hne : qb ≠ b) :
    Calls Try.prog 30 #[.slice (some ⟨b, 0, none⟩) n c, .func (.func 24) #[] #[.pointer (some ⟨qb, 0, none⟩)]] w (DelQA b c (L.filter fun x => !q x) w) := by
  have hL : L.length = n := hown.2.1
  have hnc : n ≤ c := (hown.reads pr_rowed).2.2
  have HO := Lib.hid hown
  have HIX := Lib.hid (indexf_anyA hown hn hq ht)
  unfold IdxQ at HIX
  have HT := Lib.hid ht
  have HQ := Lib.hid hq
  clear hown hq ht
  go_enter Try.func30, Try.ntmps30
  go_wp2_with (go_at_call 32; refine HIX.out.mono ?_; rintro e w1 ⟨hx, hb⟩; rcases hx with ⟨rfl, hA⟩ | ⟨i, r, hil, hm1, rfl, hr, hN, hA⟩)
  · go_ret
    have e : L.filter (fun x => !q x) = L := List.filter_eq_self.2 fun x hx => by simp [hA x hx]
    unfold DelQA
    rw [e, hL]
    exact ⟨rfl, HO.out.kept' (grown_of_below hb) (fun k _ e => by cases e), ⟨hb.os, hb.tape, hb.output, hb.size, fun k hk _ => hb.block k hk⟩⟩
  · have HD0 := Lib.hid (DelSt.first HO.out w1 hb hr hN hA)
    have HQ0 := Lib.hid (HQ.out.later hb)
    clear hA hN hr hb HIX
    go_loopw [5, 6] (fun x y wr => ∃ p j : Nat, p < j ∧ j ≤ n ∧ x = .int .i64 p ∧ y = .int .i64 j ∧ Hid (DelSt w b n c q L p j wr) ∧ Hid (Blk wr qb ty cs)) (fun _ y _ => n - (intOf y).toNat)
    case atStart => exact ⟨i, i + 1, by omega, by omega, rfl, by go_num, HD0.out, HQ0.out⟩
    case round =>
      obtain ⟨p, j, hpj, hj, rfl, rfl, HD, HQr⟩ := hrel
      clear HD0 HQ0
      by_cases hlt : j < n
      · obtain ⟨r1, hr1⟩ : ∃ r, L[j]? = some r := ⟨_, List.getElem?_eq_getElem (by omega)⟩
        have hrow := HD.out.row r1 hr1
        obtain ⟨CS, hCS⟩ := named (pvV r1).toArray
        have hCSL : CS.size = 6 := by rw [← hCS.out]; simp [pvV_len]
        have hE : CS.toList = pvV r1 := by rw [← hCS.out]
        have HR1 : Hid (wr.rangeAt b (j * 6) CS.toList) := Lib.hid (by rw [hE]; exact hrow)
        have HSZ : Hid ((Try.prog.info? 59).map (·.size) = some CS.toList.length) := by rw [Hid, Array.length_toList, hCSL]; exact pr_size
        have HSC : Hid ((Try.prog.info? 59).map (·.size) = some CS.size) := by rw [Hid, hCSL]; exact pr_size
        have HSC6 : Hid (CS.size = 6) := hCSL
        have HC1 : Hid (CS.all (·.oneCell') = true) := by rw [← hCS.out]; exact pvV_all r1
        have HC2 : Hid (∀ u ∈ CS.toList, u.oneCell' = true) := by rw [hE]; exact fun u hu => pvV_one r1 u hu
        have HNW : Hid ((wr.alloc (.cells CS 59)).rangeAt wr.heap.size 0 CS.toList) := fun i v hv => by
          rw [Nat.zero_add, (Blk.new wr _ CS).cell]
          simpa using hv
        have HQA := Lib.hid (HQr.out.alloc (.cells CS 59))
        have hcall := HT.out (wr.alloc (.cells CS 59)) r1 HQA.out
        rw [hCS.out] at hcall
        have HRR := Lib.hid hr1
        clear hr1 hrow
        cases hp : q r1 with
        | true =>
          have HP := Lib.hid hp
          rw [hp] at hcall
          have HCL := Lib.hid hcall
          clear hp hcall hE hCSL
          go_wp2_with (first
            | (refine wpList_load_mid rfl 59 (.tmp 24) rfl b (j * 6) (by rfl) CS.toList _ HR1.out Try.underlying59 rfl HSZ.out ?_)
            | (refine wpList_store_new rfl (.tmp 7) (.tmp 25) rfl CS (by rfl) (by rfl) HSC.out (by rw [HSC6.out]; rfl) HC1.out ?_)
            | (refine wpList_load_mid rfl 59 (.tmp 7) rfl wr.heap.size 0 (by rfl) CS.toList _ HNW.out Try.underlying59 rfl HSZ.out ?_)
            | (go_at_call 24; (refine HCL.out.mono ?_); rintro e w1 ⟨rfl, hb⟩; have HD1 := Lib.hid ((HD.out.later ((Below.refl _ wr).alloc (Nat.le_refl _) (.cells CS 59))).later hb); have HQ1 := Lib.hid (HQA.out.later hb); have HNW1 := Lib.hid (range_later hb HNW.out (by simp)); clear hb))
          go_roundw
          case rel => exact ⟨p, j + 1, by omega, by omega, rfl, by go_num, HD1.out.skip r1 HRR.out HP.out, HQ1.out⟩
          case measure => simp [intOf]; omega
        | false =>
          have HP := Lib.hid hp
          rw [hp] at hcall
          have HCL := Lib.hid hcall
          have HE := Lib.hid hE
          clear hp hcall hE hCSL
          go_wp2_with (first
            | (refine wpList_load_mid rfl 59 (.tmp 24) rfl b (j * 6) (by rfl) CS.toList _ HR1.out Try.underlying59 rfl HSZ.out ?_)
            | (refine wpList_store_new rfl (.tmp 7) (.tmp 25) rfl CS (by rfl) (by rfl) HSC.out (by rw [HSC6.out]; rfl) HC1.out ?_)
            | (refine wpList_load_mid rfl 59 (.tmp 7) rfl wr.heap.size 0 (by rfl) CS.toList _ HNW.out Try.underlying59 rfl HSZ.out ?_)
            | (go_at_call 24; (refine HCL.out.mono ?_); rintro e w1 ⟨rfl, hb⟩; have HD1 := Lib.hid ((HD.out.later ((Below.refl _ wr).alloc (Nat.le_refl _) (.cells CS 59))).later hb); have HQ1 := Lib.hid (HQA.out.later hb); have HNW1 := Lib.hid (range_later hb HNW.out (by simp)); clear hb)
            | (refine wpList_load_mid rfl 59 (.tmp 7) rfl wr.heap.size 0 (by rfl) CS.toList _ HNW1.out Try.underlying59 rfl HSZ.out ?_)
            | (obtain ⟨cur, hc1, hc2, hc3⟩ := HD1.out.put hpj hlt r1 HRR.out HP.out; rw [← HE.out] at hc2 hc3; refine wpList_store_mid rfl (.tmp 33) (.tmp 32) rfl b (p * 6) cur CS (by rfl) (by rfl) hc1 HSC.out hc2 HC2.out ?_; obtain ⟨NR, hNR⟩ := named (cur.toList.take (p * 6) ++ CS.toList ++ cur.toList.drop (p * 6 + CS.toList.length)).toArray; rw [hNR.out] at hc3 ⊢; have HD2 := Lib.hid hc3; have HQ2 : Hid (Blk (w1.setRow b NR) qb ty cs) := Lib.hid ((setRow_other w1 b qb _ hne).trans HQ1.out); clear hc1 hc2 hc3))
          go_roundw
          case rel => exact ⟨p + 1, j + 1, by omega, by omega, by go_num, by go_num, HD2.out, HQ2.out⟩
          case measure => simp [intOf]; omega
      · obtain rfl : j = n := by omega
        have hpn : p < j := hpj
        obtain ⟨M, hM1, hM2, hM3, hM4⟩ := HD.out
        have hM2' : M.take p = L.filter (fun x => !q x) := by rw [hM2, List.take_of_length_le (by omega)]
        rcases hM1.1.2 with ⟨e, _⟩ | ⟨g, cap, cur, e, hbg, hg, hncc, hcm, hcs, htake⟩
        · cases e
        cases e
        obtain ⟨zs, hz, hcl⟩ := run_clear_row (P := Try.prog) wr 47 59 0 (.agg (pvV (0, 0, 0, 0, 0, 0)).toArray) 6 Try.underlying47 (fun w => by kernel_rfl) rfl (fun u hu => pvV_one (0, 0, 0, 0, 0, 0) u (by simpa [Value.cells] using hu)) b (p * 6) (j - p) (c - p) cur (by omega) hg (by rw [hcs, ← Nat.add_mul]; exact Nat.mul_le_mul_right 6 (by omega))
        have hcl6 : cur.toList.length = c * 6 := by rw [Array.length_toList, hcs]
        have hNRl : (cur.toList.take (p * 6) ++ zs ++ cur.toList.drop (p * 6 + zs.length)).length = c * 6 := by
          have h1 : p * 6 + (j - p) * 6 ≤ c * 6 := by rw [← Nat.add_mul]; exact Nat.mul_le_mul_right 6 (by omega)
          rw [List.length_append, List.length_append, List.length_take, List.length_drop, hcl6, hz]
          omega
        have hNRt : (cur.toList.take (p * 6) ++ zs ++ cur.toList.drop (p * 6 + zs.length)).take (p * 6) = (L.filter (fun x => !q x)).flatMap pvV := by
          have h1 : p * 6 ≤ j * 6 := Nat.mul_le_mul_right 6 (by omega)
          have h2 : j * 6 ≤ c * 6 := Nat.mul_le_mul_right 6 hncc
          rw [List.append_assoc, List.take_append_of_le_length (by rw [List.length_take, hcl6]; omega), List.take_take, Nat.min_self, ← hM2']
          have h3 : cur.toList.take (p * 6) = (cur.toList.take (j * 6)).take (p * 6) := by rw [List.take_take, Nat.min_eq_left h1]
          rw [h3, htake]
          have h4 : M = M.take p ++ M.drop p := (List.take_append_drop p M).symm
          have h5 : ((M.take p).flatMap pvV).length = p * 6 := by rw [flat6, List.length_take, Nat.min_eq_left (by have := hM1.2.1; omega)]
          conv => lhs; rw [h4, List.flatMap_append]
          exact List.take_left' h5
        have hfl : (L.filter (fun x => !q x)).length = p := by rw [← hM2', List.length_take, Nat.min_eq_left (by have := hM1.2.1; omega)]
        obtain ⟨NR, hNR⟩ := named (cur.toList.take (p * 6) ++ zs ++ cur.toList.drop (p * 6 + zs.length))
        rw [hNR.out] at hcl hNRl hNRt
        have hs1 := fun w' => slice_back6 (b := b) hpn hncc w'
        have hs2 := fun w' => slice_front6 (b := b) (j := j) (c := c) (p := p) (by omega) w'
        have HCL := Lib.hid hcl
        have HNL := Lib.hid hNRl
        have HNT := Lib.hid hNRt
        have HG := Lib.hid hg
        have HM4 := Lib.hid hM4
        have HFL := Lib.hid hfl
        clear hcl hNRl hNRt hg hM1 hM2 hM2' hM3 hM4 hz htake hcs hcl6 hNR hfl HD HQr
        go_wp2_with (simp only [HCL.out])
        go_ret
        have hsl : NR.toArray.size = c * 6 := by rw [List.size_toArray]; exact HNL.out
        unfold DelQA
        rw [HFL.out]
        refine ⟨rfl, ⟨⟨by rw [flat6, HFL.out], Or.inr ⟨b, c, NR.toArray, rfl, hbg, setRow_heap wr b cur _ _ _ HG.out, by omega, hcm, hsl, HNT.out⟩⟩, HFL.out, by omega⟩, ⟨HM4.out.os, HM4.out.tape, HM4.out.output, by have := HM4.out.size; simpa [World.setRow] using this, fun k hk hne' => (setRow_other wr b k _ (fun e => hne' (by rw [e]))).trans (HM4.out.block k hk hne')⟩⟩
end Go.Proofs.Ytobnmdjpcmegiaa
