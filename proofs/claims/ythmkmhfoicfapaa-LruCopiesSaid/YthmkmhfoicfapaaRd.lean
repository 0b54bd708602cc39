/-
  The reference's cache (layer 10): clean. Conditions: the cache as it lies.
-/
import Derived.Test.YthmkmhfoicfapaaRc
namespace Go.Proofs.Ythmkmhfoicfapaa
open Go.RowKit
set_option linter.unusedVariables false

def keepP (k : Int) (p : Int × Int) : Bool := !decide (p.1 = k) && !decide (p.2 = k)
theorem keep_snoc (R : List (Int × Int)) (k : Int) (j : Nat) (p : Int × Int) (h : R[j]? = some p) : (R.take (j + 1)).filter (keepP k) = (R.take j).filter (keepP k) ++ if keepP k p then [p] else [] := by
  rw [List.take_add_one, h, Option.toList_some, List.filter_append]
  congr 1
  cases hp : keepP k p <;> simp [hp]
theorem clean_some {w : World} {B : Nat} {D : RC} {vL vR : Value} {LM : List RI} (h : RcIn w B D vL vR LM) {i : Nat} {x : RI} (hi : LM[i]? = some x) : cleanR D x.1.key = ⟨D.room, D.items.set i { x.1 with dirty := false }, D.rels.filter (keepP x.1.key)⟩ := by
  have hlt : i < D.items.length := by rw [← h.len]; exact (List.getElem?_eq_some_iff.1 hi).1
  have e : D.items.map (fun y => if y.key = x.1.key then { y with dirty := false } else y) = D.items.set i { x.1 with dirty := false } := by
    refine List.ext_getElem? fun q => ?_
    rw [List.getElem?_map, List.getElem?_set]
    by_cases hq : i = q
    · subst hq
      rw [if_pos rfl, if_pos hlt, ← h.its, List.getElem?_map, hi]
      simp
    · rw [if_neg hq, ← h.its, List.getElem?_map]
      cases hy : LM[q]? with
      | none => rfl
      | some y =>
        simp only [Option.map_some]
        rw [if_neg fun e => hq (h.one hi hy e)]
  show (⟨D.room, _, _⟩ : RC) = _
  rw [e]
  rfl
theorem clean_none {w : World} {B : Nat} {D : RC} {vL vR : Value} {LM : List RI} (h : RcIn w B D vL vR LM) {k : Int} (hk : ∀ x ∈ LM, x.1.key ≠ k) : cleanR D k = ⟨D.room, D.items, D.rels.filter (keepP k)⟩ := by
  have e : D.items.map (fun y => if y.key = k then { y with dirty := false } else y) = D.items := by
    conv => rhs; rw [← List.map_id D.items]
    refine List.map_congr_left fun y hy => ?_
    rw [← h.its] at hy
    obtain ⟨z, hz, rfl⟩ := List.mem_map.1 hy
    rw [if_neg (hk z hz)]
    rfl
  show (⟨D.room, _, _⟩ : RC) = _
  rw [e]
  rfl
set_option maxHeartbeats 1600000 in
set_option maxRecDepth 100000 in
theorem rClean_some {w : World} {B : Nat} {D : RC} {vL vR : Value} {LM : List RI} (h : RcIn w B D vL vR LM) {i : Nat} {x : RI} (hi : LM[i]? = some x) :
    Calls Try.prog 51 #[.pointer (some ⟨B, 0, none⟩), .int .i64 x.1.key] w fun e w' => e = .returned (.tuple #[]) ∧ Turn B (cleanR D x.1.key) (rcS B vL vR LM) w w' := by
  have hlt0 : i < LM.length := (List.getElem?_eq_some_iff.1 hi).1
  have hmany := h.many
  obtain ⟨a, c, rfl, _, _, hcap⟩ := h.row.shape ri_rowed
  obtain ⟨n, hN0⟩ := named LM.length
  have HN := Lib.hid hN0.out
  rw [hN0.out] at h ⊢
  have c1 := h.c1
  have HA := Lib.hid (rAt_some h hi)
  have hrow := h.row
  have HCL0 := Lib.hid (clean_some h hi)
  rw [hN0.out] at hmany hlt0 hrow hcap
  obtain ⟨b, rfl⟩ := hrow.at0 (by omega)
  obtain ⟨e0, e1, e2⟩ := ri_cells hrow i x hi
  have ef : w.frozen? ⟨b, i * 3 + 2, none⟩ = false := by
    rcases hrow.1.2 with ⟨e, _⟩ | ⟨g, cap, cur, e, _, hg, _⟩
    · cases e
    · cases e
      exact Blk.free (show Blk w b _ cur from hg) _
  obtain ⟨r1, r2⟩ := h.setI (x' := ({ x.1 with dirty := false }, x.2)) (j := 2) (v := .bool false) (Below.refl _ _) HN.out hi (by decide) rfl rfl (h.bys x (List.mem_of_getElem? hi)) (Or.inl rfl)
  obtain ⟨W1, hW1⟩ := named (w.setCell ⟨b, i * 3 + 2, none⟩ (.bool false))
  have hWW := hW1.out
  rw [hWW] at r1 r2
  obtain ⟨D1, hD1⟩ : ∃ D1 : RC, D1 = ⟨D.room, D.items.set i { x.1 with dirty := false }, D.rels⟩ := ⟨_, rfl⟩
  have HDR : Hid (D1.rels = D.rels) := by rw [hD1]; rfl
  have HCL : Hid (cleanR D x.1.key = ⟨D1.room, D1.items, D.rels.filter (keepP x.1.key)⟩) := by rw [hD1]; exact HCL0.out
  obtain ⟨LM1, hLM1⟩ : ∃ LM1 : List RI, LM1 = LM.set i ({ x.1 with dirty := false }, x.2) := ⟨_, rfl⟩
  obtain ⟨vL, hvL⟩ : ∃ vL : Value, vL = .slice (some ⟨b, 0, none⟩) n c := ⟨_, rfl⟩
  have HIN1 : Hid (RcIn W1 B ⟨D1.room, D1.items, D1.rels⟩ vL vR LM1) := by rw [hvL, hLM1, hD1]; exact r1
  have HAW : Hid (Away (rcS B (.slice (some ⟨b, 0, none⟩) n c) vR LM) w (rcS B vL vR LM1) W1) := by rw [hvL, hLM1]; exact r2
  obtain ⟨k, hk⟩ := named x.1.key
  rw [hk.out] at HA HCL ⊢
  obtain ⟨d0, hd0⟩ := named x.1.dirty
  rw [hd0.out] at e2
  clear r1 r2 hLM1 hvL hD1 h hi hrow HCL0 e0 e1
  have hfew := HIN1.out.few.2
  have hrel := HIN1.out.rel
  obtain ⟨aR, cR, rfl, _, _, _⟩ := hrel.shape rl_rowed
  obtain ⟨R, hR⟩ := named D.rels
  have hD1 : D1.rels = R := by rw [← hR.out]; exact HDR.out
  rw [hD1] at hfew hrel HIN1 HAW ⊢
  obtain ⟨nR, hnR⟩ := named R.length
  have HNR := Lib.hid hnR.out
  rw [hnR.out] at hfew hrel HIN1 HAW ⊢
  have HO := Lib.hid hrel
  obtain ⟨N, hN⟩ := named W1.heap.size
  have hNN := hN.out
  obtain ⟨G, hG⟩ := named (fun j => (R.take j).filter (keepP k))
  have hGj : ∀ j, (R.take j).filter (keepP k) = G j := fun j => congrFun hG.out j
  have HSN : Hid (∀ (j : Nat) (p : Int × Int), R[j]? = some p → G (j + 1) = G j ++ if keepP k p then [p] else []) := fun j p hj => by
    rw [← hGj, ← hGj]
    exact keep_snoc R k j p hj
  have HGL : Hid (∀ j, (G j).length ≤ j) := fun j => by
    rw [← hGj]
    refine Nat.le_trans (List.length_filter_le _ _) ?_
    rw [List.length_take]
    exact Nat.min_le_left _ _
  have HG0 : Hid (G 0 = []) := by rw [Hid, ← hGj]; rfl
  have HGn : Hid (R.filter (keepP k) = G nR) := by rw [Hid, ← hGj, ← HNR.out, List.take_length]
  clear hrel hGj hG hD1
  rw [hR.out] at HCL
  go_enter Try.func51, Try.ntmps51
  go_wp2_with (go_at_call 46; refine HA.out.mono ?_; rintro e w' ⟨rfl, hww⟩; obtain rfl := hww.symm; clear hww)
  try rw [hWW]
  go_loopw [5, 6] (fun s5 s6 wr => ∃ (j m : Nat) (a : Option Addr) (c : Nat), j ≤ nR ∧ s6 = .int .i64 j ∧ s5 = .slice a m c ∧ Hid (OwnG rlV 91 2 wr N (.slice a m c) m (G j)) ∧ Hid (Below N W1 wr)) (fun _ s6 _ => nR - (intOf s6).toNat)
  case atStart => exact ⟨0, 0, none, 0, Nat.zero_le _, rfl, rfl, by rw [HG0.out]; exact OwnG.none _ _ _ _ _, Below.refl _ _⟩
  case round =>
    obtain ⟨j, m, a, c', hj, rfl, rfl, HE, HB⟩ := hrel
    have HBk : Hid (Below W1.heap.size W1 wr) := by rw [hNN]; exact HB.out
    have c2 : wr.cell? ⟨B, 2, none⟩ = some (.slice aR nR cR) := (HIN1.out.later HBk.out).c2
    by_cases hlt : j < nR
    · obtain ⟨p, hp⟩ : ∃ p, R[j]? = some p := ⟨_, List.getElem?_eq_getElem (by have := HNR.out; omega)⟩
      obtain ⟨b2, rfl⟩ := HO.out.at0 (by omega)
      obtain ⟨p1, p2⟩ := p
      obtain ⟨e0, e1⟩ := rl_cells (HO.out.goes HBk.out) j _ hp
      dsimp only at e0 e1
      have hs := HSN.out j _ hp
      have hm2 : m ≤ j := by have h1 := HE.out.2.1; have h2 := HGL.out j; omega
      have hsz : N ≤ wr.heap.size := by have h1 := HBk.out.size; omega
      clear hp
      by_cases h1 : p1 = k
      · have hkp : keepP k (p1, p2) = false := by simp [keepP, h1]
        rw [hkp, if_neg (by simp), List.append_nil] at hs
        have HSS := Lib.hid hs
        clear hs hkp
        subst h1
        go_wp2
        go_roundw
        case rel => exact ⟨j + 1, m, a, c', by omega, by go_num, rfl, by rw [HSS.out]; exact HE.out, HB.out⟩
        case measure => simp [intOf]; omega
      · have t1 : (p1 == k) = false := by simpa using h1
        have t2 : (p1 != k) = true := by simpa using h1
        by_cases h2 : p2 = k
        · have hkp : keepP k (p1, p2) = false := by simp [keepP, h2]
          rw [hkp, if_neg (by simp), List.append_nil] at hs
          have HSS := Lib.hid hs
          clear hs hkp
          subst h2
          go_wp2
          go_roundw
          case rel => exact ⟨j + 1, m, a, c', by omega, by go_num, rfl, by rw [HSS.out]; exact HE.out, HB.out⟩
          case measure => simp [intOf]; omega
        · have t3 : (p2 == k) = false := by simpa using h2
          have t4 : (p2 != k) = true := by simpa using h2
          have hkp : keepP k (p1, p2) = true := by simp [keepP, h1, h2]
          rw [hkp, if_pos rfl] at hs
          have HSS := Lib.hid hs
          clear hs hkp
          go_wp2_with (at_builtin; refine append_gg rl_rowed rfl (.tmp 50) (.tmp 58) rfl N (.slice a m c') m (G j) rfl (HE.out.alloc _) (some ⟨wr.heap.size, 0, none⟩) 1 1 [(p1, p2)] rfl (fun e => by cases e) (one_reads _ _ _ _ rfl) (by omega) (by rw [World.size_alloc]; exact Nat.le_trans hsz (Nat.le_succ _)) ?_; intro a2 c2' w2 q1 q2 q3; have HO2 := Lib.hid q1; have HB2 : Hid (Below N W1 w2) := Lib.hid ((HB.out.alloc hsz _).trans q2); clear q1 q2 q3)
          go_roundw
          case rel => exact ⟨j + 1, m + 1, a2, c2', by omega, by go_num, rfl, by rw [HSS.out]; exact HO2.out, HB2.out⟩
          case measure => simp [intOf]; omega
    · obtain rfl : j = nR := by omega
      have f2 := (HIN1.out.later HBk.out).blk.free 2
      have hml : (G j).length = m := HE.out.2.1
      have HML := Lib.hid hml
      have hfl : (G j).length ≤ 100000 := Nat.le_trans (HGL.out j) hfew
      have HFL := Lib.hid hfl
      clear hml hfl
      go_wp2
      go_end0
      have hin2 : RcIn W1 B ⟨D1.room, D1.items, R⟩ vL (.slice aR j cR) LM1 := HIN1.out
      obtain ⟨r1, r2⟩ := hin2.storeR (vR' := .slice a m c') (R' := G j) (grown_of_below HBk.out) (fun k e => by cases e) (by rw [HML.out]; exact HE.out.rebase (Nat.zero_le _)) (Or.inr fun q hq => by have := (HE.out.1.lt q hq).1; omega) HFL.out
      refine ⟨rfl, _, _, _, ?_, HAW.out.trans r2⟩
      rw [HCL.out, HGn.out]
      exact r1
set_option maxHeartbeats 1600000 in
set_option maxRecDepth 100000 in
theorem rClean_none {w : World} {B : Nat} {D : RC} {vL vR : Value} {LM : List RI} (h : RcIn w B D vL vR LM) {k : Int} (hk : ∀ x ∈ LM, x.1.key ≠ k) :
    Calls Try.prog 51 #[.pointer (some ⟨B, 0, none⟩), .int .i64 k] w fun e w' => e = .returned (.tuple #[]) ∧ Turn B (cleanR D k) (rcS B vL vR LM) w w' := by
  have HA := Lib.hid (rAt_none h hk)
  have HCL := Lib.hid (clean_none h hk)
  obtain ⟨W1, hWW⟩ : ∃ W1, Hid (w = W1) := ⟨_, rfl⟩
  obtain ⟨D1, hD1⟩ : ∃ D1 : RC, D1 = D := ⟨_, rfl⟩
  have HDR : Hid (D1.rels = D.rels) := by rw [hD1]; rfl
  have HCL : Hid (cleanR D k = ⟨D1.room, D1.items, D.rels.filter (keepP k)⟩) := by rw [hD1]; exact HCL.out
  obtain ⟨LM1, hLM1⟩ : ∃ LM1 : List RI, LM1 = LM := ⟨_, rfl⟩
  have HIN1 : Hid (RcIn W1 B ⟨D1.room, D1.items, D1.rels⟩ vL vR LM1) := by rw [hLM1, hD1, ← hWW.out]; exact h
  have HAW : Hid (Away (rcS B vL vR LM) w (rcS B vL vR LM1) W1) := by rw [hLM1, ← hWW.out]; exact Away.refl _ _
  obtain rfl := hWW.out
  clear hLM1 hD1 h hk hWW
  have hfew := HIN1.out.few.2
  have hrel := HIN1.out.rel
  obtain ⟨aR, cR, rfl, _, _, _⟩ := hrel.shape rl_rowed
  obtain ⟨R, hR⟩ := named D.rels
  have hD1 : D1.rels = R := by rw [← hR.out]; exact HDR.out
  rw [hD1] at hfew hrel HIN1 HAW ⊢
  obtain ⟨nR, hnR⟩ := named R.length
  have HNR := Lib.hid hnR.out
  rw [hnR.out] at hfew hrel HIN1 HAW ⊢
  have HO := Lib.hid hrel
  obtain ⟨N, hN⟩ := named w.heap.size
  have hNN := hN.out
  obtain ⟨G, hG⟩ := named (fun j => (R.take j).filter (keepP k))
  have hGj : ∀ j, (R.take j).filter (keepP k) = G j := fun j => congrFun hG.out j
  have HSN : Hid (∀ (j : Nat) (p : Int × Int), R[j]? = some p → G (j + 1) = G j ++ if keepP k p then [p] else []) := fun j p hj => by
    rw [← hGj, ← hGj]
    exact keep_snoc R k j p hj
  have HGL : Hid (∀ j, (G j).length ≤ j) := fun j => by
    rw [← hGj]
    refine Nat.le_trans (List.length_filter_le _ _) ?_
    rw [List.length_take]
    exact Nat.min_le_left _ _
  have HG0 : Hid (G 0 = []) := by rw [Hid, ← hGj]; rfl
  have HGn : Hid (R.filter (keepP k) = G nR) := by rw [Hid, ← hGj, ← HNR.out, List.take_length]
  clear hrel hGj hG hD1
  rw [hR.out] at HCL
  go_enter Try.func51, Try.ntmps51
  go_wp2_with (go_at_call 46; refine HA.out.mono ?_; rintro e w' ⟨rfl, hww⟩; obtain rfl := hww.symm; clear hww)
  skip
  go_loopw [5, 6] (fun s5 s6 wr => ∃ (j m : Nat) (a : Option Addr) (c : Nat), j ≤ nR ∧ s6 = .int .i64 j ∧ s5 = .slice a m c ∧ Hid (OwnG rlV 91 2 wr N (.slice a m c) m (G j)) ∧ Hid (Below N w wr)) (fun _ s6 _ => nR - (intOf s6).toNat)
  case atStart => exact ⟨0, 0, none, 0, Nat.zero_le _, rfl, rfl, by rw [HG0.out]; exact OwnG.none _ _ _ _ _, Below.refl _ _⟩
  case round =>
    obtain ⟨j, m, a, c', hj, rfl, rfl, HE, HB⟩ := hrel
    have HBk : Hid (Below w.heap.size w wr) := by rw [hNN]; exact HB.out
    have c2 : wr.cell? ⟨B, 2, none⟩ = some (.slice aR nR cR) := (HIN1.out.later HBk.out).c2
    by_cases hlt : j < nR
    · obtain ⟨p, hp⟩ : ∃ p, R[j]? = some p := ⟨_, List.getElem?_eq_getElem (by have := HNR.out; omega)⟩
      obtain ⟨b2, rfl⟩ := HO.out.at0 (by omega)
      obtain ⟨p1, p2⟩ := p
      obtain ⟨e0, e1⟩ := rl_cells (HO.out.goes HBk.out) j _ hp
      dsimp only at e0 e1
      have hs := HSN.out j _ hp
      have hm2 : m ≤ j := by have h1 := HE.out.2.1; have h2 := HGL.out j; omega
      have hsz : N ≤ wr.heap.size := by have h1 := HBk.out.size; omega
      clear hp
      by_cases h1 : p1 = k
      · have hkp : keepP k (p1, p2) = false := by simp [keepP, h1]
        rw [hkp, if_neg (by simp), List.append_nil] at hs
        have HSS := Lib.hid hs
        clear hs hkp
        subst h1
        go_wp2
        go_roundw
        case rel => exact ⟨j + 1, m, a, c', by omega, by go_num, rfl, by rw [HSS.out]; exact HE.out, HB.out⟩
        case measure => simp [intOf]; omega
      · have t1 : (p1 == k) = false := by simpa using h1
        have t2 : (p1 != k) = true := by simpa using h1
        by_cases h2 : p2 = k
        · have hkp : keepP k (p1, p2) = false := by simp [keepP, h2]
          rw [hkp, if_neg (by simp), List.append_nil] at hs
          have HSS := Lib.hid hs
          clear hs hkp
          subst h2
          go_wp2
          go_roundw
          case rel => exact ⟨j + 1, m, a, c', by omega, by go_num, rfl, by rw [HSS.out]; exact HE.out, HB.out⟩
          case measure => simp [intOf]; omega
        · have t3 : (p2 == k) = false := by simpa using h2
          have t4 : (p2 != k) = true := by simpa using h2
          have hkp : keepP k (p1, p2) = true := by simp [keepP, h1, h2]
          rw [hkp, if_pos rfl] at hs
          have HSS := Lib.hid hs
          clear hs hkp
          go_wp2_with (at_builtin; refine append_gg rl_rowed rfl (.tmp 50) (.tmp 58) rfl N (.slice a m c') m (G j) rfl (HE.out.alloc _) (some ⟨wr.heap.size, 0, none⟩) 1 1 [(p1, p2)] rfl (fun e => by cases e) (one_reads _ _ _ _ rfl) (by omega) (by rw [World.size_alloc]; exact Nat.le_trans hsz (Nat.le_succ _)) ?_; intro a2 c2' w2 q1 q2 q3; have HO2 := Lib.hid q1; have HB2 : Hid (Below N w w2) := Lib.hid ((HB.out.alloc hsz _).trans q2); clear q1 q2 q3)
          go_roundw
          case rel => exact ⟨j + 1, m + 1, a2, c2', by omega, by go_num, rfl, by rw [HSS.out]; exact HO2.out, HB2.out⟩
          case measure => simp [intOf]; omega
    · obtain rfl : j = nR := by omega
      have f2 := (HIN1.out.later HBk.out).blk.free 2
      have hml : (G j).length = m := HE.out.2.1
      have HML := Lib.hid hml
      have hfl : (G j).length ≤ 100000 := Nat.le_trans (HGL.out j) hfew
      have HFL := Lib.hid hfl
      clear hml hfl
      go_wp2
      go_end0
      have hin2 : RcIn w B ⟨D1.room, D1.items, R⟩ vL (.slice aR j cR) LM1 := HIN1.out
      obtain ⟨r1, r2⟩ := hin2.storeR (vR' := .slice a m c') (R' := G j) (grown_of_below HBk.out) (fun k e => by cases e) (by rw [HML.out]; exact HE.out.rebase (Nat.zero_le _)) (Or.inr fun q hq => by have := (HE.out.1.lt q hq).1; omega) HFL.out
      refine ⟨rfl, _, _, _, ?_, HAW.out.trans r2⟩
      rw [HCL.out, HGn.out]
      exact r1
/-- clean. -/
theorem rClean_any {w : World} {B : Nat} {D : RC} {vL vR : Value} {LM : List RI} (h : RcIn w B D vL vR LM) (k : Int) :
    Calls Try.prog 51 #[.pointer (some ⟨B, 0, none⟩), .int .i64 k] w fun e w' => e = .returned (.tuple #[]) ∧ Turn B (cleanR D k) (rcS B vL vR LM) w w' := by
  rcases key_or (LM := LM) k with ⟨i, x, hi, rfl⟩ | hk
  · exact rClean_some h hi
  · exact rClean_none h hk
end Go.Proofs.Ythmkmhfoicfapaa
