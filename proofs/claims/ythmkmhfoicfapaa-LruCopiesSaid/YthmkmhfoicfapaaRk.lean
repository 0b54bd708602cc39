/-
  The reference's cache (layer 10): Flush. Conditions: the cache as it lies; nothing is after itself, however far round.
-/
import Derived.Test.YthmkmhfoicfapaaRj
namespace Go.Proofs.Ythmkmhfoicfapaa
open Go.RowKit
set_option linter.unusedVariables false

theorem writesR_append (n : Nat) : ∀ (a b : List Int) (s : List Int × RC), writesR n (a ++ b) s = writesR n b (writesR n a s)
  | [], b, s => rfl
  | k :: r, b, s => by
    rw [List.cons_append]
    exact writesR_append n r b _
theorem writesR_pre (n : Nat) : ∀ (a : List Int) (s : List Int × RC), s.1 <+: (writesR n a s).1
  | [], s => List.prefix_refl _
  | k :: r, s => by
    refine List.IsPrefix.trans ?_ (writesR_pre n r _)
    split
    · exact List.prefix_append _ _
    · exact List.prefix_refl _
theorem writesR_cleans (n : Nat) (D : RC) : ∀ (a : List Int) (s : List Int × RC), (∃ l' : List Int, s.2 = l'.foldl cleanR D) → ∃ l' : List Int, (writesR n a s).2 = l'.foldl cleanR D
  | [], s, h => h
  | k :: r, s, h => by
    refine writesR_cleans n D r _ ?_
    split
    · obtain ⟨l', h⟩ := h
      exact ⟨l' ++ lineR s.2.rels n [] k, by rw [List.foldl_append, ← h]⟩
    · exact h
theorem Turn.more {B : Nat} {D : RC} {S : Nat → Prop} {w w1 w2 : World} {v : Value} {N n : Nat} {l : List Int} (h : Turn B D S w w1) (ho : OwnG ivV 3 1 w1 N v n l) (hN : w.heap.size ≤ N) (hg : w1.grownBy w2 v.ownBlock) : Turn B D S w w2 := by
  obtain ⟨vL, vR, LM, q1, q2⟩ := h
  refine ⟨vL, vR, LM, q1.frame fun k hk => hg.block k (q1.lt k hk) (fun e => q1.apart ho k e.symm hk), hg.os.trans q2.os, hg.tape.trans q2.tape, hg.output.trans q2.output, Nat.le_trans q2.size hg.size, fun k hk hS => (hg.block k (Nat.lt_of_lt_of_le hk q2.size) fun e => ?_).trans (q2.block k hk hS), q2.mine⟩
  have := (ho.1.lt k e.symm).1
  omega
theorem Turn.self {B : Nat} {D : RC} {w : World} {vL vR : Value} {LM : List RI} (h : RcIn w B D vL vR LM) {w1 : World} (hb : Below w.heap.size w w1) : Turn B D (rcS B vL vR LM) w w1 := ⟨_, _, _, h.later hb, Away.of_below hb⟩
/-- write, dirty or not. -/
theorem rWrite_any {w : World} {B : Nat} {D : RC} {vL vR : Value} {LM : List RI} (h : RcIn w B D vL vR LM) {rank : Int → Nat} (hr : ∀ k, ∀ f ∈ rfirsts D.rels k, rank f < rank k) {n : Nat} {k : Int} (hk : isDR D k = true → rank k < n) (hlen : isDR D k = true → (lineR D.rels n [] k).length ≤ 100000) :
    Calls Try.prog 50 #[.pointer (some ⟨B, 0, none⟩), .int .i64 k] w (WriteRQ B (if isDR D k then lineR D.rels n [] k else []) (if isDR D k then (lineR D.rels n [] k).foldl cleanR D else D) (rcS B vL vR LM) w) := by
  cases hd : isDR D k with
  | true => exact rWrite_yes h hr hd (hk hd) (hlen hd)
  | false => exact rWrite_no h hd
set_option maxHeartbeats 1600000 in
set_option maxRecDepth 100000 in
/-- Flush. -/
theorem rFlush_any {w : World} {B : Nat} {D : RC} {vL vR : Value} {LM : List RI} (h : RcIn w B D vL vR LM) {rank : Int → Nat} (hr : ∀ k, ∀ f ∈ rfirsts D.rels k, rank f < rank k) {n : Nat} (hk : ∀ k, isDR D k = true → rank k < n) (hlen : (writesR n (dirtyR D.items) ([], D)).1.length ≤ 100000) :
    Calls Try.prog 30 #[.pointer (some ⟨B, 0, none⟩)] w (WriteRQ B (writesR n (dirtyR D.items) ([], D)).1 (writesR n (dirtyR D.items) ([], D)).2 (rcS B vL vR LM) w) := by
  have HDL := Lib.hid (rDirtyL_any h)
  unfold LineQ at HDL
  unfold WriteRQ
  have HH := Lib.hid h
  obtain ⟨l, hl⟩ := named (dirtyR D.items)
  rw [hl.out] at HDL hlen ⊢
  obtain ⟨m, hm⟩ := named l.length
  have HM := Lib.hid hm.out
  rw [hm.out] at HDL
  obtain ⟨G, hG⟩ := named (fun j => writesR n (l.take j) ([], D))
  have hGj : ∀ j, writesR n (l.take j) ([], D) = G j := fun j => congrFun hG.out j
  have HSN : Hid (∀ (j : Nat) (x : Int), l[j]? = some x → G (j + 1) = if isDR (G j).2 x then ((G j).1 ++ lineR (G j).2.rels n [] x, (lineR (G j).2.rels n [] x).foldl cleanR (G j).2) else G j) := fun j x hj => by
    rw [← hGj, ← hGj, List.take_add_one, hj, Option.toList_some, writesR_append]
    rfl
  have HG0 : Hid (G 0 = ([], D)) := by rw [Hid, ← hGj]; rfl
  have HGn : Hid (writesR n l ([], D) = G m) := by rw [Hid, ← hGj, ← HM.out, List.take_length]
  have HLE : Hid (∀ j, (G j).1.length ≤ 100000) := fun j => by
    refine Nat.le_trans ?_ hlen
    have := writesR_pre n (l.drop j) (G j)
    rw [← hGj, ← writesR_append, List.take_append_drop, hGj] at this
    exact this.length_le
  have HCL : Hid (∀ j, ∃ l' : List Int, (G j).2 = l'.foldl cleanR D) := fun j => by rw [← hGj]; exact writesR_cleans n D _ _ ⟨[], rfl⟩
  have HRK : Hid (∀ j, (∀ k, ∀ f ∈ rfirsts (G j).2.rels k, rank f < rank k) ∧ ∀ k, isDR (G j).2 k = true → rank k < n) := fun j => by
    obtain ⟨l', hl'⟩ := HCL.out j
    rw [hl']
    refine ⟨fun k f hf => ?_, fun k hd => ?_⟩
    · rw [cleans_rels] at hf
      split at hf
      · cases hf
      · exact hr k f ((List.mem_filter.1 hf).1)
    · rw [cleans_isD, Bool.and_eq_true] at hd
      exact hk k hd.1
  rw [HGn.out]
  obtain ⟨S, hS⟩ := named (rcS B vL vR LM)
  have HS0 : Hid (∀ w1, Below w.heap.size w w1 → Turn B D S w w1) := by rw [← hS.out]; exact fun w1 hb => Turn.self h hb
  obtain ⟨N, hNW⟩ := named w.heap.size
  rw [hNW.out] at HDL HS0 ⊢
  rw [hS.out]
  have HSZ := Lib.hid hNW.out
  obtain ⟨F1, hF1⟩ := named (G m).1
  obtain ⟨F2, hF2⟩ := named (G m).2
  have HF1 := Lib.hid hF1.out
  have HF2 := Lib.hid hF2.out
  rw [hF1.out, hF2.out]
  clear h hr hGj hG hk hlen HCL
  go_enter Try.func30, Try.ntmps30
  go_wp2_with (go_at_call 32; refine HDL.out.mono ?_; rintro e w1 ⟨al, cl, rfl, g1, g2⟩; have HO1 := Lib.hid g1; have HT1 := Lib.hid (HS0.out w1 g2); clear g1 g2)
  go_loopw [4, 5] (fun s4 s5 wr => ∃ (j mo : Nat) (a : Option Addr) (c : Nat), j ≤ m ∧ s5 = .int .i64 j ∧ s4 = .slice a mo c ∧ Hid (Turn B (G j).2 S w wr) ∧ Hid (OwnG ivV 3 1 wr N (.slice a mo c) mo (G j).1) ∧ Hid (OwnG ivV 3 1 wr N (.slice al m cl) m l) ∧ Hid (∀ k, (Value.slice al m cl).ownBlock = some k → (Value.slice a mo c).ownBlock ≠ some k)) (fun _ s5 _ => m - (intOf s5).toNat)
  case atStart => exact ⟨0, 0, none, 0, Nat.zero_le _, rfl, rfl, by rw [HG0.out]; exact HT1.out, by rw [HG0.out]; exact OwnG.none _ _ _ _ _, HO1.out, fun k _ e => by cases e⟩
  case round =>
    obtain ⟨j, mo, a, c, hj, rfl, rfl, HT, HO, HL, HA⟩ := hrel
    have hm8 := HL.out.2.2
    by_cases hlt : j < m
    · obtain ⟨x, hx⟩ : ∃ x, l[j]? = some x := ⟨_, List.getElem?_eq_getElem (by have := HM.out; omega)⟩
      obtain ⟨b, rfl⟩ := HL.out.at0 (by omega)
      have cj := iv_cell (HL.out.rebase (Nat.zero_le _)) j x hx
      have hstep := HSN.out j x hx
      obtain ⟨vL1, vR1, LM1, q1, q2⟩ := HT.out
      have hlen1 : isDR (G j).2 x = true → (lineR (G j).2.rels n [] x).length ≤ 100000 := fun hd => by
        have h1 := HLE.out (j + 1)
        rw [hstep, if_pos hd, List.length_append] at h1
        omega
      have hW := rWrite_any q1 (HRK.out j).1 (n := n) (k := x) (fun hd => (HRK.out j).2 x hd) hlen1
      unfold WriteRQ at hW
      obtain ⟨y, hy⟩ := named (if isDR (G j).2 x then lineR (G j).2.rels n [] x else [])
      obtain ⟨D2, hD2⟩ := named (if isDR (G j).2 x then (lineR (G j).2.rels n [] x).foldl cleanR (G j).2 else (G j).2)
      have hn1 : (G (j + 1)).1 = (G j).1 ++ y := by
        rw [hstep, ← hy.out]
        split <;> simp
      have hn2 : (G (j + 1)).2 = D2 := by
        rw [hstep, ← hD2.out]
        split <;> rfl
      rw [hy.out, hD2.out] at hW
      have hlenn : mo + y.length ≤ 100000 := by
        have h1 := HLE.out (j + 1)
        rw [hn1, List.length_append, HO.out.2.1] at h1
        exact h1
      obtain ⟨ny, hny⟩ := named y.length
      rw [hny.out] at hW hlenn
      have HN1 := Lib.hid hn1
      have HN2 := Lib.hid hn2
      have HQ1 := Lib.hid q1
      have HQ2 := Lib.hid q2
      have HWR := Lib.hid hW
      have HSW : Hid (N ≤ wr.heap.size) := by rw [Hid, ← HSZ.out]; exact q2.size
      have HLS : Hid (∀ k, (Value.slice (some ⟨b, 0, none⟩) m cl).ownBlock = some k → k < wr.heap.size) := fun k hk => (HL.out.1.lt k hk).2
      clear hx hstep q1 q2 hlen1 hW hn1 hn2
      go_wp2_with (first
        | (go_at_call 50; go_loud (refine HWR.out.mono ?_; rintro e w2 ⟨a2, c2, rfl, g1, g2⟩; have HT2 := Lib.hid (Turn.trans HQ2.out g2); have HO2 := Lib.hid (HQ1.out.intsT HO.out g2); have HL2 := Lib.hid (HQ1.out.intsT HL.out g2); have hsz2 := g2.size; have hsz3 : N ≤ w2.heap.size := Nat.le_trans HSW.out hsz2; obtain ⟨hrd, hnl2, _⟩ := g1.reads iv_rowed; have HRD := Lib.hid hrd; clear g1 g2 hrd))
        | (at_builtin; refine r_append_lg iv_rowed rfl (.tmp 14) (.tmp 20) rfl N (.slice a mo c) mo (G j).1 rfl HO2.out a2 ny c2 y rfl hnl2 HRD.out (by omega) hsz3 ?_; intro a3 c3 w3 r1 r2 r3; have HO3 := Lib.hid r1; have HT3 := Lib.hid (HT2.out.more HO2.out (Nat.le_of_eq HSZ.out) r2); have HL3 := Lib.hid (HL2.out.kept' r2 HA.out); have HA3 : Hid (∀ k, (Value.slice (some ⟨b, 0, none⟩) m cl).ownBlock = some k → (Value.slice a3 (mo + ny) c3).ownBlock ≠ some k) := (fun k hk e => r3.elim (fun e1 => HA.out k hk (e1 ▸ e)) (fun e1 => by rw [e1] at e; cases e; have := HLS.out _ hk; omega)); clear r1 r2 r3))
      go_roundw
      case rel => exact ⟨j + 1, mo + ny, a3, c3, by omega, by go_num, rfl, by rw [HN2.out]; exact HT3.out, by rw [HN1.out]; exact HO3.out, HL3.out, HA3.out⟩
      case measure => simp [intOf]; omega
    · obtain rfl : j = m := by omega
      have hl1 := HO.out.2.1
      rw [HF1.out] at hl1
      go_wp2
      go_ret
      rw [← HF1.out, ← HF2.out]
      have hmo : (G j).1.length = mo := by rw [HF1.out]; exact hl1
      rw [hmo]
      exact ⟨a, c, rfl, HO.out, HT.out⟩
end Go.Proofs.Ythmkmhfoicfapaa
