/-
  The reference's cache (layer 10): write, Drop, Get. Conditions: the cache as it lies; nothing is after itself, however far round.
-/
import Derived.Test.YthmkmhfoicfapaaRf
namespace Go.Proofs.Ythmkmhfoicfapaa
open Go.RowKit
set_option linter.unusedVariables false

theorem RcIn.apart {w : World} {B : Nat} {D : RC} {vL vR : Value} {LM : List RI} (h : RcIn w B D vL vR LM) {base n : Nat} {v : Value} {l : List Int} (ho : OwnG ivV 3 1 w base v n l) : ∀ j, v.ownBlock = some j → ¬ rcS B vL vR LM j := fun j hj hS => by
  rcases hS with rfl | hS | hS | ⟨x, hx, hS⟩
  · exact Blk.not_row h.blk (by decide) ho hj.symm
  · exact row_apart h.row ho (by decide) j hS hj
  · exact row_apart h.rel ho (by decide) j hS hj
  · exact OwnG.not_own ho (by decide) (h.bys x hx) hS hj
theorem RcIn.ints {w w' : World} {B : Nat} {D : RC} {vL vR : Value} {LM : List RI} {S' : Nat → Prop} (h : RcIn w B D vL vR LM) {base n : Nat} {v : Value} {l : List Int} (ho : OwnG ivV 3 1 w base v n l) (ha : Away (rcS B vL vR LM) w S' w') : OwnG ivV 3 1 w' base v n l :=
  ho.frame fun j hj => ha.block j (ho.1.lt j hj).2 (h.apart ho j hj)
theorem RcIn.intsT {w w' : World} {B : Nat} {D D' : RC} {vL vR : Value} {LM : List RI} (h : RcIn w B D vL vR LM) {base n : Nat} {v : Value} {l : List Int} (ho : OwnG ivV 3 1 w base v n l) (ha : Turn B D' (rcS B vL vR LM) w w') : OwnG ivV 3 1 w' base v n l := by
  obtain ⟨_, _, _, _, g⟩ := ha
  exact h.ints ho g
theorem Turn.size {B : Nat} {D : RC} {S : Nat → Prop} {w w' : World} (h : Turn B D S w w') : w.heap.size ≤ w'.heap.size := by
  obtain ⟨_, _, _, _, h⟩ := h
  exact h.size
def WriteRQ (B : Nat) (l : List Int) (D' : RC) (S : Nat → Prop) (w : World) (e : Ending) (w' : World) : Prop := ∃ a c, e = .returned (.slice a l.length c) ∧ OwnG ivV 3 1 w' w.heap.size (.slice a l.length c) l.length l ∧ Turn B D' S w w'
theorem rWrite_no {w : World} {B : Nat} {D : RC} {vL vR : Value} {LM : List RI} (h : RcIn w B D vL vR LM) {k : Int} (hd : isDR D k = false) :
    Calls Try.prog 50 #[.pointer (some ⟨B, 0, none⟩), .int .i64 k] w (WriteRQ B [] D (rcS B vL vR LM) w) := by
  have HD := Lib.hid (rDirty_any h k)
  rw [hd] at HD
  have HH := Lib.hid h
  clear h
  unfold WriteRQ
  go_enter Try.func50, Try.ntmps50
  go_wp2_with (go_at_call 52; refine HD.out.mono ?_; rintro e w' ⟨rfl, hww⟩; obtain rfl := hww.symm; clear hww)
  go_ret
  exact ⟨none, 0, rfl, OwnG.none _ _ _ _ _, _, _, _, HH.out, Away.refl _ _⟩
set_option maxHeartbeats 1600000 in
set_option maxRecDepth 100000 in
theorem rWrite_yes {w : World} {B : Nat} {D : RC} {vL vR : Value} {LM : List RI} (h : RcIn w B D vL vR LM) {rank : Int → Nat} (hr : ∀ k, ∀ f ∈ rfirsts D.rels k, rank f < rank k) {n : Nat} {k : Int} (hd : isDR D k = true) (hk : rank k < n) (hlen : (lineR D.rels n [] k).length ≤ 100000) :
    Calls Try.prog 50 #[.pointer (some ⟨B, 0, none⟩), .int .i64 k] w (WriteRQ B (lineR D.rels n [] k) ((lineR D.rels n [] k).foldl cleanR D) (rcS B vL vR LM) w) := by
  have HD := Lib.hid (rDirty_any h k)
  rw [hd] at HD
  have HLN := Lib.hid (rLine_any hr n k w B D vL vR LM w.heap.size none 0 0 [] hk h rfl h.lt (Nat.le_refl _) (OwnG.none _ _ _ _ _) hlen)
  unfold LineQ at HLN
  have HH := Lib.hid h
  unfold WriteRQ
  obtain ⟨l, hl⟩ := named (lineR D.rels n [] k)
  rw [hl.out] at HLN hlen ⊢
  obtain ⟨m, hm⟩ := named l.length
  have HM := Lib.hid hm.out
  rw [hm.out] at HLN hlen ⊢
  obtain ⟨G, hG⟩ := named (fun j => (l.take j).foldl cleanR D)
  have hGj : ∀ j, (l.take j).foldl cleanR D = G j := fun j => congrFun hG.out j
  have HSN : Hid (∀ (j : Nat) (x : Int), l[j]? = some x → G (j + 1) = cleanR (G j) x) := fun j x hj => by
    rw [← hGj, ← hGj, List.take_add_one, hj, Option.toList_some, List.foldl_append]
    rfl
  have HG0 : Hid (G 0 = D) := by rw [Hid, ← hGj]; rfl
  have HGn : Hid (l.foldl cleanR D = G m) := by rw [Hid, ← hGj, ← HM.out, List.take_length]
  rw [HGn.out]
  obtain ⟨S, hS⟩ := named (rcS B vL vR LM)
  obtain ⟨N, hNW⟩ := named w.heap.size
  rw [hNW.out] at HLN ⊢
  rw [hS.out]
  have HSZ := Lib.hid hNW.out
  clear h hr hGj hG hd hk
  go_enter Try.func50, Try.ntmps50
  go_wp2_with (first
    | (go_at_call 52; refine HD.out.mono ?_; rintro e w' ⟨rfl, hww⟩; obtain rfl := hww.symm; clear hww)
    | (go_at_call 71; refine HLN.out.mono ?_; rintro e w1 ⟨a, c, rfl, g1, g2⟩; have HO1 := Lib.hid g1; have HB1 := Lib.hid g2; clear g1 g2))
  have hb1 : Below w.heap.size w w1 := by rw [HSZ.out]; exact HB1.out
  have HT1 : Hid (Turn B D S w w1) := by rw [← hS.out]; exact ⟨_, _, _, HH.out.later hb1, Away.of_below hb1⟩
  go_loopw [6] (fun s wr => ∃ j : Nat, j ≤ m ∧ s = .int .i64 j ∧ Hid (Turn B (G j) S w wr) ∧ Hid (OwnG ivV 3 1 wr N (.slice a m c) m l)) (fun s _ => m - (intOf s).toNat)
  case atStart => exact ⟨0, Nat.zero_le _, rfl, by rw [HG0.out]; exact HT1.out, HO1.out⟩
  case round =>
    obtain ⟨j, hj, rfl, HT, HO⟩ := hrel
    by_cases hlt : j < m
    · obtain ⟨x, hx⟩ : ∃ x, l[j]? = some x := ⟨_, List.getElem?_eq_getElem (by have := HM.out; omega)⟩
      obtain ⟨b, rfl⟩ := HO.out.at0 (by omega)
      have cj := iv_cell (HO.out.rebase (Nat.zero_le _)) j x hx
      obtain ⟨vL1, vR1, LM1, q1, q2⟩ := HT.out
      have HQ1 := Lib.hid q1
      have HQ2 := Lib.hid q2
      have HCL := Lib.hid (rClean_any q1 x)
      rw [← HSN.out j x hx] at HCL
      clear hx q1 q2
      go_wp2_with (go_at_call 51; refine HCL.out.mono ?_; rintro e w2 ⟨rfl, g1⟩; have HT2 := Lib.hid (Turn.trans HQ2.out g1); have HO2 := Lib.hid (HQ1.out.intsT HO.out g1); clear g1)
      go_roundw
      case rel => exact ⟨j + 1, by omega, by go_num, HT2.out, HO2.out⟩
      case measure => simp [intOf]; omega
    · obtain rfl : j = m := by omega
      go_wp2
      go_ret
      exact ⟨a, c, rfl, HO.out, HT.out⟩
end Go.Proofs.Ythmkmhfoicfapaa
