/-
  The reference's cache (layer 10): Dirty. Conditions: the cache as it lies.
-/
import Derived.Test.YthmkmhfoicfapaaRi
namespace Go.Proofs.Ythmkmhfoicfapaa
open Go.RowKit
set_option linter.unusedVariables false

theorem dirtyR_succ (l : List RIt) {i : Nat} {x : RIt} (h : l[i]? = some x) : dirtyR (l.take (i + 1)) = if x.dirty then insR (dirtyR (l.take i)) x.key else dirtyR (l.take i) := by
  unfold dirtyR
  rw [List.take_add_one, h, Option.toList_some, List.filter_append, List.foldl_append]
  cases hd : x.dirty <;> simp [hd]
theorem insR_at : ∀ {l : List Int} {k : Int} {q : Nat}, (∀ x ∈ l.take q, x < k) → (∀ x, l[q]? = some x → ¬ x < k) → insR l k = l.take q ++ k :: l.drop q
  | [], k, q, _, _ => by simp [insR]
  | x :: r, k, 0, _, h2 => by
    rw [insR_cons, if_neg (h2 x rfl)]
    rfl
  | x :: r, k, q + 1, h1, h2 => by
    rw [insR_cons, if_pos (h1 x (by simp)), insR_at (l := r) (k := k) (q := q) (fun y hy => h1 y (by simp [hy])) (fun y hy => h2 y (by simpa using hy))]
    simp
theorem shift_set {l : List Int} {j : Nat} {z : Int} (hz : l[j]? = some z) (y : Int) : (l.take (j + 1) ++ y :: l.drop (j + 1)).set (j + 1) z = l.take j ++ z :: l.drop j := by
  have hlt := (List.getElem?_eq_some_iff.1 hz).1
  have hx : l[j] = z := (List.getElem?_eq_some_iff.1 hz).2
  have hl : (l.take (j + 1)).length = j + 1 := by rw [List.length_take]; omega
  rw [List.set_append_right _ _ (by omega), hl, Nat.sub_self, List.set_cons_zero, List.take_add_one, hz, List.append_assoc, List.drop_eq_getElem_cons hlt, hx]
  rfl
theorem shift_last {l : List Int} {j : Nat} (hj : j ≤ l.length) (y : Int) {z : Int} : (l.take j ++ y :: l.drop j).set j z = l.take j ++ z :: l.drop j := by
  have hl : (l.take j).length = j := by rw [List.length_take]; omega
  rw [List.set_append_right _ _ (by omega), hl, Nat.sub_self, List.set_cons_zero]
theorem shift_at {l : List Int} {j : Nat} (hj : j ≤ l.length) (y : Int) : (l.take j ++ y :: l.drop j)[j]? = some y := by
  have hl : (l.take j).length = j := by rw [List.length_take]; omega
  rw [List.getElem?_append_right (by omega), hl, Nat.sub_self]
  rfl
/-- A list of ints of the call's own, at N. -/
def IB (N : Nat) (w : World) (v : Value) (n : Nat) (l : List Int) (wr : World) : Prop := OwnG ivV 3 1 wr N v n l ∧ Below N w wr
theorem IB.set {N b n c : Nat} {w wr : World} {l : List Int} (h : IB N w (.slice (some ⟨b, 0, none⟩) n c) n l wr) (i : Nat) (x : Int) : IB N w (.slice (some ⟨b, 0, none⟩) n c) n (l.set i x) (wr.setCell ⟨b, i, none⟩ (.int .i64 x)) := by
  obtain ⟨ho, hb⟩ := h
  refine ⟨?_, hb.setCell (ho.1.lt b rfl).1 _⟩
  obtain ⟨⟨h1, h2⟩, h3, h4⟩ := ho
  refine ⟨⟨by rw [pivl_len, List.length_set, h3, Nat.mul_one], ?_⟩, by rw [List.length_set]; exact h3, h4⟩
  rcases h2 with ⟨e, _⟩ | ⟨g, cap, cur, e, hb, hg, hn, hm, hs, ht⟩
  · cases e
  · cases e
    refine Or.inr ⟨b, c, cur.setIfInBounds i (.int .i64 x), rfl, hb, Blk.set i _ (show Blk wr b _ cur from hg), hn, hm, by simp [hs], ?_⟩
    rw [Array.toList_setIfInBounds, List.take_set, ht, flat_iv, flat_iv, List.map_set]
theorem IB.app {N n : Nat} {w wr w2 : World} {v v' : Value} {n' : Nat} {l l' : List Int} {o : Obj} (h : IB N w v n l wr) (hN : w.heap.size = N) (ho : OwnG ivV 3 1 w2 N v' n' l') (hg : (wr.alloc o).grownBy w2 v.ownBlock) : IB N w v' n' l' w2 :=
  ⟨ho, h.1.below h.2 (grown_alloc hg) (hN ▸ h.2.size) (Nat.le_refl _)⟩
set_option maxHeartbeats 3200000 in
set_option maxRecDepth 100000 in
/-- Dirty. -/
theorem rDirtyL_any {w : World} {B : Nat} {D : RC} {vL vR : Value} {LM : List RI} (h : RcIn w B D vL vR LM) :
    Calls Try.prog 32 #[.pointer (some ⟨B, 0, none⟩)] w (LineQ w.heap.size (dirtyR D.items) w) := by
  have hrow := h.row
  have hmany := h.many
  obtain ⟨aL, cL, rfl, _, _, _⟩ := hrow.shape ri_rowed
  obtain ⟨m, hm⟩ := named LM.length
  have HM := Lib.hid hm.out
  rw [hm.out] at h hrow hmany
  obtain ⟨G, hG⟩ := named (fun j => dirtyR (D.items.take j))
  have hGj : ∀ j, dirtyR (D.items.take j) = G j := fun j => congrFun hG.out j
  have HSN : Hid (∀ (j : Nat) (x : RI), LM[j]? = some x → G (j + 1) = if x.1.dirty then insR (G j) x.1.key else G j) := fun j x hj => by
    rw [← hGj, ← hGj]
    exact dirtyR_succ _ (by rw [← h.its, List.getElem?_map, hj]; rfl)
  have HG0 : Hid (G 0 = []) := by rw [Hid, ← hGj]; rfl
  have HGn : Hid (dirtyR D.items = G m) := by rw [Hid, ← hGj, ← HM.out, h.len, List.take_length]
  rw [HGn.out]
  have HH := Lib.hid h
  obtain ⟨N, hNW⟩ := named w.heap.size
  have HSZ := Lib.hid hNW.out
  rw [hNW.out]
  unfold LineQ
  clear h hrow hGj hG
  go_enter Try.func32, Try.ntmps32
  go_wp2
  go_loopw [3, 4] (fun s3 s4 wr => ∃ (i n : Nat) (a : Option Addr) (c : Nat), i ≤ m ∧ n ≤ i ∧ s4 = .int .i64 i ∧ s3 = .slice a n c ∧ Hid (IB N w (.slice a n c) n (G i) wr)) (fun _ s4 _ => m - (intOf s4).toNat)
  case atStart => exact ⟨0, 0, none, 0, Nat.zero_le _, Nat.le_refl _, rfl, rfl, by rw [HG0.out]; exact ⟨OwnG.none _ _ _ _ _, Below.refl _ _⟩⟩
  case round =>
    obtain ⟨i, n, a, c, him, hni, rfl, rfl, HI⟩ := hrel
    have hh : RcIn wr B D (.slice aL m cL) vR LM := HH.out.later (HSZ.out ▸ HI.out.2)
    have c1 := hh.c1
    have HNA : Hid (∀ o, N ≤ (wr.alloc o).heap.size) := fun o => by rw [World.size_alloc, ← HSZ.out]; have := HI.out.2.size; omega
    by_cases hlt : i < m
    · obtain ⟨x, hx⟩ : ∃ x, LM[i]? = some x := ⟨_, List.getElem?_eq_getElem (by have := HM.out; omega)⟩
      have hrow := hh.row
      rw [HM.out] at hrow
      obtain ⟨bL, rfl⟩ := hrow.at0 (by have := HM.out; omega)
      obtain ⟨e0, _, e2⟩ := ri_cells hrow i x hx
      have HG1 := Lib.hid (HSN.out i x hx)
      clear hx hrow hh
      cases hd : x.1.dirty with
      | false =>
        rw [hd] at e2 HG1
        have HG2 : Hid (G (i + 1) = G i) := HG1.out
        go_wp2
        go_roundw
        case rel => exact ⟨i + 1, n, a, c, by omega, by omega, by go_num, rfl, by rw [HG2.out]; exact HI.out⟩
        case measure => simp [intOf]; omega
      | true =>
        rw [hd] at e2 HG1
        replace HG1 : Hid (G (i + 1) = insR (G i) x.1.key) := HG1.out
        obtain ⟨k, hk⟩ := named x.1.key
        go_wp2
        go_loopw [6] (fun s w2 => ∃ q : Nat, q ≤ n ∧ s = .int .i64 q ∧ w2 = wr ∧ Hid (∀ x1 ∈ (G i).take q, x1 < x.1.key)) (fun s _ => n - (intOf s).toNat)
        case atStart => exact ⟨0, Nat.zero_le _, rfl, rfl, fun x hx => by simp at hx⟩
        case round =>
          obtain ⟨q, hq, rfl, rfl, HA⟩ := hrel
          by_cases hqn : q < n
          · obtain ⟨y, hy⟩ : ∃ y, (G i)[q]? = some y := ⟨_, List.getElem?_eq_getElem (by have := HI.out.1.2.1; omega)⟩
            obtain ⟨b, rfl⟩ := HI.out.1.at0 (by omega)
            have cq := iv_cell (HI.out.1.rebase (Nat.zero_le _)) q y hy
            have HY := Lib.hid hy
            clear hy
            by_cases hyk : y < x.1.key
            · have HNE := Lib.hid hyk
              go_wp2
              go_roundw
              case rel =>
                refine ⟨q + 1, by omega, by go_num, by first | trivial | rfl, fun x2 hx2 => ?_⟩
                rw [List.take_add_one, HY.out] at hx2
                rcases List.mem_append.1 hx2 with hx2 | hx2
                · exact HA.out x2 hx2
                · simp at hx2
                  rw [hx2]
                  exact HNE.out
              case measure => simp [intOf]; omega
            · have HINS : Hid (insR (G i) x.1.key = (G i).take q ++ x.1.key :: (G i).drop q) := insR_at HA.out fun z hz => by
                rw [HY.out] at hz
                cases hz
                exact hyk
              have hstop : decide (y < x.1.key) = false := by simpa using hyk
              clear HA HY
              go_wp2_with (at_builtin; refine r_append_lg iv_rowed rfl (.tmp 48) (.tmp 49) rfl N (.slice (some ⟨b, 0, none⟩) n c) n (G i) rfl (HI.out.1.alloc _) (some ⟨wr.heap.size, 0, none⟩) 1 1 [0] rfl (fun e => by cases e) (one_reads _ _ _ _ rfl) (by omega) (HNA.out _) ?_; intro a2 c3 w2 r1 r2 r3; obtain ⟨b2, rfl⟩ := r1.at0 (Nat.succ_pos _); have HI2 := Lib.hid (IB.app HI.out HSZ.out r1 r2); clear r1 r2 r3)
              go_loopw [7] (fun s wr => ∃ (j : Nat) (y : Int), q ≤ j ∧ j ≤ n ∧ s = .int .i64 j ∧ Hid (IB N w (.slice (some ⟨b2, 0, none⟩) (n + 1) c3) (n + 1) ((G i).take j ++ y :: (G i).drop j) wr)) (fun s _ => (intOf s).toNat)
              case atStart => exact ⟨n, 0, by omega, Nat.le_refl _, by go_num, by rw [List.take_of_length_le (Nat.le_of_eq HI.out.1.2.1), List.drop_of_length_le (Nat.le_of_eq HI.out.1.2.1)]; exact HI2.out⟩
              case round =>
                obtain ⟨j, y, hqj, hjn, rfl, HJ⟩ := hrel
                by_cases hgt : q < j
                · obtain ⟨j1, rfl⟩ : ∃ j1, j = j1 + 1 := ⟨j - 1, by omega⟩
                  obtain ⟨z, hz⟩ : ∃ z, (G i)[j1]? = some z := ⟨_, List.getElem?_eq_getElem (by have := HI.out.1.2.1; omega)⟩
                  have e1 : wr.cell? ⟨b2, j1, none⟩ = some (.int .i64 z) := iv_cell (HJ.out.1.rebase (Nat.zero_le _)) j1 z (by rw [List.getElem?_append_left (by rw [List.length_take]; have := HI.out.1.2.1; omega), List.getElem?_take, if_pos (by omega)]; exact hz)
                  have e2 : wr.cell? ⟨b2, j1 + 1, none⟩ = some (.int .i64 y) := iv_cell (HJ.out.1.rebase (Nat.zero_le _)) (j1 + 1) y (shift_at (by have := HI.out.1.2.1; omega) y)
                  have e3 : wr.frozen? ⟨b2, j1 + 1, none⟩ = false := iv_free (HJ.out.1.rebase (Nat.zero_le _)) (j1 + 1)
                  have HJ2 := Lib.hid (HJ.out.set (j1 + 1) z)
                  rw [shift_set hz y] at HJ2
                  clear hz HJ HI2
                  have hgo := hgt
                  go_wp2
                  go_roundw
                  case rel => exact ⟨j1, z, by omega, by omega, by go_num, HJ2.out⟩
                  case measure => first | (simp [intOf]; done) | (simp [intOf]; omega)
                · obtain rfl : j = q := by omega
                  have e2 : wr.cell? ⟨b2, j, none⟩ = some (.int .i64 y) := iv_cell (HJ.out.1.rebase (Nat.zero_le _)) j y (shift_at (by have := HI.out.1.2.1; omega) y)
                  have e3 : wr.frozen? ⟨b2, j, none⟩ = false := iv_free (HJ.out.1.rebase (Nat.zero_le _)) j
                  have HJ2 := Lib.hid (HJ.out.set j x.1.key)
                  rw [shift_last (by have := HI.out.1.2.1; omega) y, ← HINS.out, ← HG1.out] at HJ2
                  clear HJ HI2
                  go_wp2
                  go_roundw
                  case rel => exact ⟨i + 1, _, _, _, by omega, by omega, by go_num, rfl, HJ2.out⟩
                  case measure => simp [intOf]; omega
          · obtain rfl : q = n := by omega
            have HINS : Hid (insR (G i) x.1.key = (G i).take q ++ x.1.key :: (G i).drop q) := insR_at HA.out fun z hz => by
              have := (List.getElem?_eq_some_iff.1 hz).1
              have := HI.out.1.2.1
              omega
            clear HA
            go_wp2_with (at_builtin; refine r_append_lg iv_rowed rfl (.tmp 48) (.tmp 49) rfl N (.slice a q c) q (G i) rfl (HI.out.1.alloc _) (some ⟨wr.heap.size, 0, none⟩) 1 1 [0] rfl (fun e => by cases e) (one_reads _ _ _ _ rfl) (by omega) (HNA.out _) ?_; intro a2 c3 w2 r1 r2 r3; obtain ⟨b2, rfl⟩ := r1.at0 (Nat.succ_pos _); have HI2 := Lib.hid (IB.app HI.out HSZ.out r1 r2); clear r1 r2 r3)
            go_loopw [7] (fun s wr => ∃ (j : Nat) (y : Int), q ≤ j ∧ j ≤ q ∧ s = .int .i64 j ∧ Hid (IB N w (.slice (some ⟨b2, 0, none⟩) (q + 1) c3) (q + 1) ((G i).take j ++ y :: (G i).drop j) wr)) (fun s _ => (intOf s).toNat)
            case atStart => exact ⟨q, 0, by omega, Nat.le_refl _, by go_num, by rw [List.take_of_length_le (Nat.le_of_eq HI.out.1.2.1), List.drop_of_length_le (Nat.le_of_eq HI.out.1.2.1)]; exact HI2.out⟩
            case round =>
              obtain ⟨j, y, hqj, hjn, rfl, HJ⟩ := hrel
              by_cases hgt : q < j
              · exact absurd hgt (by omega)
              · obtain rfl : j = q := by omega
                have e2 : wr.cell? ⟨b2, j, none⟩ = some (.int .i64 y) := iv_cell (HJ.out.1.rebase (Nat.zero_le _)) j y (shift_at (by have := HI.out.1.2.1; omega) y)
                have e3 : wr.frozen? ⟨b2, j, none⟩ = false := iv_free (HJ.out.1.rebase (Nat.zero_le _)) j
                have HJ2 := Lib.hid (HJ.out.set j x.1.key)
                rw [shift_last (by have := HI.out.1.2.1; omega) y, ← HINS.out, ← HG1.out] at HJ2
                clear HJ HI2
                go_wp2
                go_roundw
                case rel => exact ⟨i + 1, _, _, _, by omega, by omega, by go_num, rfl, HJ2.out⟩
                case measure => simp [intOf]; omega
    · obtain rfl : i = m := by omega
      have hl := HI.out.1.2.1
      go_wp2
      go_ret
      rw [hl]
      exact ⟨a, c, rfl, HI.out.1, HI.out.2⟩
end Go.Proofs.Ythmkmhfoicfapaa
