/-
  What Read answers beyond the bytes, what the reference's ReadTable answers (layer 8). Conditions: the slice reads as bytes.
-/
import Derived.Test.YtbpngpommgcogaaDoorD2
import Derived.Test.YtbpngpommgcogaaDoorD8
namespace Go.Proofs.YtbpngpommgcogaaDoor
open Go.RowKit
set_option linter.unusedVariables false

set_option maxRecDepth 100000 in
set_option maxHeartbeats 1600000 in
theorem read_out (w : World) (a : Option Addr) (len cap : Nat) (p : Int) (l : List Int) (n c : Int) (hB : Bytes w a len l) (hcap : len ≤ cap) (hat : In64 p) (h : p < 0 ∨ (len : Int) < p + 2) :
    Calls Tryd.prog 11 #[.slice a len cap, .int .i64 p, .int .i64 n, .int .i64 c] w (ReadP none w) := by
  have hal : Below w.heap.size w (w.alloc (.cells #[.slice none 0 0] 24)) := (Below.refl _ _).alloc (Nat.le_refl _) _
  have HF : Hid (Calls Tryd.prog 25 #[.slice a len cap, .int .i64 p, .int .i64 2, .bool false] (w.alloc (.cells #[.slice none 0 0] 24)) (GetPost (w.alloc (.cells #[.slice none 0 0] 24)) 0 6)) := Lib.hid (fieldGet_range a len cap 2 p l false _ (hB.later hal) hcap hat (by omega) (by omega) h)
  have HX := Lib.hid (Blk.new w 24 #[.slice none 0 0])
  have HAL := Lib.hid hal
  clear hB h hal
  go_enter Tryd.func11, Tryd.ntmps11
  go_wp2_with (go_at_call 25; (with_reducible refine HF.out.mono ?_); rintro e w1 ⟨rfl, g⟩; have HX1 := Lib.hid (HX.out.later g); have x1 := one_cell9 (HX.out.later g); have x2 := (HX.out.later g).free 0; have HX2 := Lib.hid ((HX.out.later g).set 0 (.slice none 0 0)); have HB2 := Lib.hid ((HAL.out.trans (g.mono HAL.out.size)).setCell (Nat.le_refl _) (p := ⟨w.heap.size, 0, none⟩) (.slice none 0 0)); clear g)
  refine bodyPost_ret (results_cell_two rfl _ _ w.heap.size 24 #[.slice none 0 0] (0, 0) _ rfl _ _ rfl rfl HX2.out Tryd.underlying24 rfl tbl_size) rfl ?_
  exact ⟨rfl, HB2.out⟩
set_option maxRecDepth 100000 in
set_option maxHeartbeats 1600000 in
theorem refRead_out (w : World) (a : Option Addr) (len cap : Nat) (p : Int) (l : List Int) (n c : Int) (hB : Bytes w a len l) (h : p < 0 ∨ (len : Int) < p + 2) :
    Calls Tryd.prog 12 #[.slice a len cap, .int .i64 p, .int .i64 n, .int .i64 c] w (ReadP none w) := by
  have HF : Hid (Calls Tryd.prog 28 #[.slice a len cap, .int .i64 p, .int .i64 2, .bool false] (w.alloc (.cells #[.slice none 0 0] 24)) fun e w' => e = .returned (.tuple #[.int .u64 0, .int .i64 6]) ∧ (w.alloc (.cells #[.slice none 0 0] 24)) = w') := Lib.hid (refGet_range a len cap 2 p false _ (by omega) (by omega) (by rw [← hB.1]; exact hB.2.1.1) h)
  have HX2 := Lib.hid ((Blk.new w 24 #[.slice none 0 0]).set 0 (.slice none 0 0))
  have HX3 := Lib.hid (Blk.new w 24 #[.slice none 0 0])
  have HB2 : Hid (Below w.heap.size w (w.alloc (.cells #[.slice none 0 0] 24))) := (Below.refl _ _).alloc (Nat.le_refl _) _
  clear hB h
  go_enter Tryd.func12, Tryd.ntmps12
  go_wp2_with (go_at_call 28; (with_reducible refine HF.out.mono ?_); rintro e w1 ⟨rfl, rfl⟩)
  first
    | (refine bodyPost_ret (results_cell_two rfl _ _ w.heap.size 24 #[.slice none 0 0] (0, 0) _ rfl _ _ rfl rfl HX2.out Tryd.underlying24 rfl tbl_size) rfl ?_; exact ⟨rfl, HB2.out.setCell (Nat.le_refl _) _⟩)
    | (refine bodyPost_ret (results_cell_two rfl _ _ w.heap.size 24 #[.slice none 0 0] (0, 0) _ rfl _ _ rfl rfl HX3.out Tryd.underlying24 rfl tbl_size) rfl ?_; exact ⟨rfl, HB2.out⟩)
theorem readU_wide {l : List Int} {p : Nat} {n c : Int} (h : c < 0 ∨ 6 < c) : readU l p n c = none := by
  unfold readU
  split
  · rfl
  · rw [if_neg]
    intro hr
    have := hr.2.1
    omega
theorem full_of {l : List Int} {len k k2 : Nat} {c : Int} {o : Option (List En)} (h1 : ¬ len < k + 130) (h : entsB l k2 c 8 = o) : (if len < k + 130 then none else entsB l k2 c 8) = o := by rw [if_neg h1]; exact h
set_option maxRecDepth 100000 in
set_option maxHeartbeats 3200000 in
theorem refRead_any (w : World) (a : Option Addr) (len cap p : Nat) (l : List Int) (n c : Int) (hB : Bytes w a len l) (hcap : len ≤ cap) (hp : p + 2 ≤ len) :
    Calls Tryd.prog 12 #[.slice a len cap, .int .i64 p, .int .i64 n, .int .i64 c] w (ReadP (readU l p n c) w) := by
  have hsm : len ≤ 140737488351232 := by rw [← hB.1]; exact hB.2.1.1
  have hb0 : ∀ x ∈ l, 0 ≤ x ∧ x < 256 := hB.2.1.2
  have hll := hB.1
  have hv : getTo false 2 p l 2 < 65536 := getTo_lt hb0 false 2 p 2
  have hal : Below w.heap.size w (w.alloc (.cells #[.slice none 0 0] 24)) := (Below.refl _ _).alloc (Nat.le_refl _) _
  have HF : Hid (Calls Tryd.prog 28 #[.slice a len cap, .int .i64 p, .int .i64 2, .bool false] (w.alloc (.cells #[.slice none 0 0] 24)) fun e w' => e = .returned (.tuple #[.int .u64 (getTo false 2 p l 2 : Nat), .int .i64 0]) ∧ (w.alloc (.cells #[.slice none 0 0] 24)) = w') := Lib.hid (refGet_ok a len cap 2 p l false _ (hB.later hal) (by omega) (by omega) (by omega))
  by_cases hcc : c < 0 ∨ 6 < c
  · have HRU := Lib.hid (readU_wide (l := l) (p := p) (n := n) hcc)
    have HX2 := Lib.hid ((Blk.new w 24 #[.slice none 0 0]).set 0 (.slice none 0 0))
    have HX3 := Lib.hid (Blk.new w 24 #[.slice none 0 0])
    have HB2 := Lib.hid hal
    obtain ⟨v, hvv⟩ := named (getTo false 2 p l 2)
    rw [hvv.out] at HF
    have hc3 : c < 0 ∨ (¬ c < 0 ∧ 6 < c) := by omega
    clear hB hal hcc
    rcases hc3 with hc3 | ⟨hc3, hc4⟩
    all_goals
      go_enter Tryd.func12, Tryd.ntmps12
      go_wp2_with (go_at_call 28; (with_reducible refine HF.out.mono ?_); rintro e w1 ⟨rfl, rfl⟩)
      first
        | (refine bodyPost_ret (results_cell_two rfl _ _ w.heap.size 24 #[.slice none 0 0] (0, 0) _ rfl _ _ rfl rfl HX2.out Tryd.underlying24 rfl tbl_size) rfl ?_; rw [HRU.out]; exact ⟨rfl, HB2.out.setCell (Nat.le_refl _) _⟩)
        | (refine bodyPost_ret (results_cell_two rfl _ _ w.heap.size 24 #[.slice none 0 0] (0, 0) _ rfl _ _ rfl rfl HX3.out Tryd.underlying24 rfl tbl_size) rfl ?_; rw [HRU.out]; exact ⟨rfl, HB2.out⟩)
  · have hc3 : ¬ c < 0 := by omega
    have hc4 : ¬ 6 < c := by omega
    have HB := Lib.hid hB
    have HU := Lib.hid (fun (k0 v : Nat) => @readU_no l p n c k0 v)
    have HUS := Lib.hid (fun (k0 v : Nat) => @readU_is l p n c k0 v)
    have HB1 := Lib.hid (RdB.first (o := .slice none 0 0) (Below.refl _ (w.alloc (.cells #[.slice none 0 0] 24))))
    obtain ⟨v, hvv⟩ := named (getTo false 2 p l 2)
    rw [hvv.out] at hv HF
    have HVV := Lib.hid hvv.out
    obtain ⟨k0, hk0⟩ := named (p + 2)
    have hpk : (p : Int) + 2 = (k0 : Int) := by rw [← hk0.out]; omega
    have HK0 := Lib.hid hk0.out
    have hkl : k0 ≤ len := by rw [← hk0.out]; omega
    have HUN : Hid (readI l k0 c v = none → readU l p n c = none) := HU.out k0 v HK0.out HVV.out
    have HUY : Hid (∀ {T k}, readI l k0 c v = some (T, k) → readU l p n c = if rightT T n c then some (T, k) else none) := fun h => HUS.out k0 v HK0.out HVV.out h
    have hwv : IntKind.i64.wrap (v : Int) = v := by rw [IntKind.wrap_i64]; omega
    rw [World.size_alloc] at HB1
    obtain ⟨X, hX⟩ := named w.heap.size
    have hXX := hX.out
    rw [hX.out] at HB1
    obtain ⟨Y, hY⟩ := named (X + 1)
    have hYY := hY.out
    rw [hY.out] at HB1
    clear hB hvv hal HU HUS hcc
    go_enter Tryd.func12, Tryd.ntmps12
    go_wp2_with (go_at_call 28; (with_reducible refine HF.out.mono ?_); rintro e w1 ⟨rfl, rfl⟩)
    all_goals (first | (exfalso; omega) | skip)
    go_loopw [13, 15, 16] (fun b z i wr => ∃ (m k : Nat) (T : Tb) (a' : Option Addr) (c' : Nat) (es : List LfD), m ≤ v ∧ b = .int .i64 k ∧ z = .int .i64 ((T.length : Int) - 1) ∧ i = .int .i64 m ∧ Hid (readI l k0 c m = some (T, k)) ∧ Hid (tbOf es = T) ∧ Hid (RdB X Y (.slice none 0 0) (.slice a' T.length c') w wr) ∧ Hid (TabQ wr X a' T.length c' es es)) (fun _ _ i _ => v - (intOf i).toNat)
    case atStart => exact ⟨0, k0, [], none, 0, [], Nat.zero_le _, rfl, rfl, rfl, rfl, rfl, HB1.out, TabQ.first _ _⟩
    case round =>
      obtain ⟨m, k, T, a', c', es, hm, rfl, rfl, rfl, HR, HE, HB2, HQ⟩ := hrel
      obtain ⟨x1, x2, x3, x4⟩ := HB2.out.cells
      obtain ⟨-, hk5, hM5, hlens⟩ := readI_at hb0 (by omega) HR.out
      have HLE := Lib.hid hlens
      obtain ⟨M, hM⟩ := named T.length
      rw [hM.out] at HB2 HQ x3 hM5 ⊢
      clear hlens
      by_cases hlt : m < v
      · have hm2 : (m : Int) < (v : Int) := by omega
        have HST := Lib.hid (readI_stop HR.out hlt)
        rw [hll] at HST
        by_cases h130 : len < k + 130
        · have hc5 : (len : Int) - (k : Int) < 130 := by omega
          have HRU := Lib.hid (HUN.out (HST.out (Or.inl (if_pos h130))))
          have HB5 := Lib.hid (HB2.out.res (.slice none 0 0))
          clear HST
          go_wp2
          refine bodyPost_ret (results_cell_two rfl _ _ X 24 #[.slice none 0 0] (0, 0) _ rfl _ _ rfl rfl HB5.out.1 Tryd.underlying24 rfl tbl_size) rfl ?_
          rw [HRU.out]
          exact ⟨rfl, hX.out.symm ▸ HB5.out.2.2.1⟩
        · have hc5 : ¬ (len : Int) - (k : Int) < 130 := by omega
          have hgl : getTo false 2 k l 2 < 65536 := getTo_lt hb0 false 2 k 2
          have HMR := Lib.hid (fun g hg => @readI_more l k0 c m T k HR.out g hg)
          have HLF := Lib.hid (fun w' (hb : Below X w w') => refAt_any a len cap 2 k 2 (k : Int) l w' (HB.out.later (hX.out.symm ▸ hb)) (by omega) (by omega) (by omega) rfl rfl)
          obtain ⟨g, hg⟩ := named (getTo false 2 k l 2)
          rw [hg.out] at HLF HST hgl
          rw [hM.out] at HST
          have HBL : Hid (Below X w wr) := HB2.out.2.2.1
          by_cases hgd : M ≤ g ∧ g < 512
          · have hg1 : ¬ (g : Int) ≤ (M : Int) - 1 := by omega
            have hg2 : ¬ 512 ≤ (g : Int) := by omega
            have hg3 : ¬ (g : Int) < (M : Int) := by omega
            have hg4 : ¬ (512 : Nat) ≤ g ∧ ¬ g < M := by omega
            have hgd1 := hgd.1
            have HRI := Lib.hid (fun xs (h : entsB l (k + 2) c 8 = some xs) => HMR.out g hg.out (by rw [hll]; exact h130) (by rw [hM.out]; exact hgd.1) hgd.2 h)
            clear HMR
            go_wp2_with (go_at_call 29; (with_reducible refine (HLF.out _ HBL.out).mono ?_); rintro e w5 ⟨rfl, rfl⟩)
            go_loopw [] (fun wq => ∃ (q : Nat) (a2 : Option Addr) (c2 : Nat) (es2 : List LfD), M + q ≤ g ∧ Hid (tbOf es2 = T ++ List.replicate q []) ∧ Hid (RdB X Y (.slice none 0 0) (.slice a2 (M + q) c2) w wq) ∧ Hid (TabQ wq X a2 (M + q) c2 es2 es2)) (fun wq => g - lenOf9 wq Y)
            case atStart => exact ⟨0, a', c', es, hgd1, (show tbOf es = T ++ List.replicate 0 [] by rw [HE.out]; simp), HB2.out, HQ.out⟩
            case round =>
              obtain ⟨q, a2, c2, es2, hq, HE2, HB5, HQ5⟩ := hrel
              obtain ⟨z1, z2, z3, z4⟩ := HB5.out.cells
              obtain ⟨S, hS⟩ := named (M + q)
              rw [hS.out] at HB5 HQ5 z3 hq
              have hl1 := lenOf9_is z3
              have hXs := HB5.out.size
              by_cases hlq : S < g
              · have hlq2 : (S : Int) < (g : Int) := by omega
                have HQA := Lib.hid (HQ5.out.alloc (.cells #[.slice none 0 0] 51))
                have HBA := Lib.hid (HB5.out.alloc (.cells #[.slice none 0 0] 51))
                have HRD := Lib.hid (one_reads (cv := cvD) wr (none, 0, 0, []) #[.slice none 0 0] 51 rfl)
                go_wp2_with (at_builtin; refine append_gg lf_rowed rfl _ _ rfl X _ S es2 rfl HQA.out.out (some ⟨wr.heap.size, 0, none⟩) 1 1 [(none, 0, 0, [])] rfl (fun e => by cases e) HRD.out (by omega) (by rw [World.size_alloc]; omega) ?_; intro a3 c3 w6 hO hB6 hg6; have hb6 := HBA.out.app HQA.out.out (Nat.le_refl _) hg6; have hq6 := HQA.out.nilMore hO hg6; have HB6 := Lib.hid (hb6.out (.slice a3 (S + 1) c3)); have HQ6 := Lib.hid (hq6.box hb6.2.1 (grownBy_setCell4 w6 Y 0 (.slice a3 (S + 1) c3))); obtain ⟨t1, t2, t3, t4⟩ := hb6.cells; clear hb6 hq6 hO hB6 hg6)
                go_roundw
                case rel =>
                  refine ⟨q + 1, a3, c3, es2 ++ [(none, 0, 0, [])], by have := hS.out; omega, ?_, ?_, ?_⟩
                  · show tbOf (es2 ++ [(none, 0, 0, [])]) = _
                    rw [tb_snoc, HE2.out, List.replicate_succ', List.append_assoc]
                  · rw [← Nat.add_assoc, hS.out]
                    exact HB6.out
                  · rw [← Nat.add_assoc, hS.out]
                    exact HQ6.out
                case measure =>
                  have hl2 := lenOf9_is HB6.out.cells.2.2.1
                  rw [hl1, hl2]
                  omega
              · have hSg : S = g := by omega
                subst hSg
                have hlq2 : ¬ (S : Int) < (S : Int) := by omega
                have HP : Hid (tbOf es2 = padTo T S) := by
                  show tbOf es2 = _
                  rw [HE2.out]
                  unfold padTo
                  rw [hM.out, show q = S - M by have := hS.out; omega]
                obtain ⟨W2, hW2⟩ : ∃ W2 : World, W2 = wr := ⟨wr, rfl⟩
                obtain ⟨Z, hZ⟩ := named W2.heap.size
                obtain ⟨K2, hK2⟩ := named (k + 2)
                have hkk : (k : Int) + 2 = (K2 : Int) := by rw [← hK2.out]; omega
                rw [hK2.out] at HRI HST
                rw [← hW2] at HB5 HQ5 hXs
                go_wp2
                go_loopw [13, 18, 19] (fun b s i wq => ∃ (j : Nat) (a3 : Option Addr) (c3 : Nat) (ys : List En), j ≤ 8 ∧ b = .int .i64 ((K2 : Int) + 16 * (j : Int)) ∧ s = .slice a3 j c3 ∧ i = .int .i64 j ∧ Hid (entsB l K2 c j = some ys) ∧ Hid (LfO wq Z (a3, j, c3, ys)) ∧ Hid (Below Z W2 wq)) (fun _ _ i _ => 8 - (intOf i).toNat)
                case atStart => exact ⟨0, none, 0, [], Nat.zero_le _, (by simp), rfl, rfl, rfl, LfO.none _ _, (by rw [hW2]; exact Below.refl _ _)⟩
                case round =>
                  obtain ⟨j, a3, c3, ys, hj, rfl, rfl, rfl, HEN, HLV, HBZ⟩ := hrel
                  have hXZ : X ≤ Z := by rw [← hZ.out]; exact hXs
                  have hbz : Below W2.heap.size W2 wr := hZ.out.symm ▸ HBZ.out
                  have hbw : Below X w wr := HB5.out.2.2.1.trans (HBZ.out.mono hXZ)
                  have HZW : Hid (Z ≤ wr.heap.size) := Nat.le_trans (Nat.le_of_eq hZ.out.symm) hbz.size
                  have hyl := entsB_len HEN.out
                  have hji : 0 ≤ (j : Int) := by omega
                  by_cases hj8 : j < 8
                  · have hj8i : (j : Int) < 8 := by omega
                    obtain ⟨q0, hq0⟩ := named (K2 + j * 16)
                    obtain ⟨r, hr⟩ := named (q0 + 16)
                    have hqi : (K2 : Int) + 16 * (j : Int) = (q0 : Int) := by rw [← hq0.out]; omega
                    have hqr : (q0 : Int) + 16 = (r : Int) := by rw [← hr.out]; omega
                    have hrl : r ≤ len := by rw [← hr.out, ← hq0.out, ← hK2.out]; omega
                    have hBr := HB.out.later (hX.out.symm ▸ hbw)
                    obtain ⟨a4, hs1, hs2⟩ := slice_mid9 hBr hcap q0 r (by rw [← hr.out]; omega) hrl
                    have hrq : r - q0 = 16 := by rw [← hr.out]; omega
                    rw [hrq] at hs1 hs2
                    have HEG := Lib.hid (refGetEntry_any wr a4 16 (cap - q0) _ c hs2)
                    obtain ⟨cq, hcq⟩ := named (cap - q0)
                    rw [hcq.out] at HEG hs1
                    cases hge : getE (partB l (K2 + j * 16)) c with
                    | none =>
                      have hn : entsB l K2 c 8 = none := by
                        have := ents_stop HEN.out hge (7 - j)
                        rwa [show j + 1 + (7 - j) = 8 by omega] at this
                      have HRU := Lib.hid (HUN.out (HST.out (Or.inl (full_of h130 hn))))
                      have HBW := Lib.hid (HB5.out.later hbz)
                      unfold partB at hge
                      rw [hq0.out] at hge
                      have HGE := Lib.hid hge
                      clear hge hn hs2 hBr hbz hbw HST
                      go_wp2_with (go_at_call 30; (with_reducible refine HEG.out.mono ?_); intro e w4 h; obtain ⟨rfl, g4⟩ := got_no HGE.out h; obtain ⟨y1, y2, y3, y4⟩ := ((HBW.out.later g4).alloc (.cells #[.int .i64 0, .int .i64 0, .int .i64 0, .int .i64 0, .int .u32 0] 47)).cells; have HB5 := Lib.hid (((HBW.out.later g4).alloc (.cells #[.int .i64 0, .int .i64 0, .int .i64 0, .int .i64 0, .int .u32 0] 47)).res (.slice none 0 0)); clear h g4)
                      refine bodyPost_ret (results_cell_two rfl _ _ X 24 #[.slice none 0 0] (0, 0) _ rfl _ _ rfl rfl HB5.out.1 Tryd.underlying24 rfl tbl_size) rfl ?_
                      rw [HRU.out]
                      exact ⟨rfl, hX.out.symm ▸ HB5.out.2.2.1⟩
                    | some x =>
                      obtain ⟨v1, v2, v3, v4, v5⟩ := x
                      have hn := ents_next HEN.out hge
                      have hxo := (entsB_may hb0 hn _ (List.mem_append_right _ (List.mem_singleton.2 rfl))).2
                      have HN := Lib.hid hn
                      have HXO := Lib.hid hxo
                      unfold partB at hge
                      rw [hq0.out] at hge
                      have HGE := Lib.hid hge
                      clear hge hn hxo hs2 hBr hbz hbw HST
                      go_wp2_with (first
                        | (go_at_call 30; (with_reducible refine HEG.out.mono ?_); intro e w4 h; obtain ⟨rfl, g4⟩ := got_yes HGE.out h; have HLA := Lib.hid (((HLV.out.later g4).later ((Below.refl _ _).alloc (Nat.le_refl _) (.cells #[.int .i64 v1, .int .i64 v2, .int .i64 v3, .int .i64 v4, .int .u32 v5] 47))).later ((Below.refl _ _).alloc (Nat.le_refl _) (.cells #[.int .i64 v1, .int .i64 v2, .int .i64 v3, .int .i64 v4, .int .u32 v5] 47))); have HBA := Lib.hid (((HBZ.out.trans (g4.mono HZW.out)).alloc (Nat.le_trans HZW.out g4.size) (.cells #[.int .i64 v1, .int .i64 v2, .int .i64 v3, .int .i64 v4, .int .u32 v5] 47)).alloc (by rw [World.size_alloc]; have := Nat.le_trans HZW.out g4.size; omega) (.cells #[.int .i64 v1, .int .i64 v2, .int .i64 v3, .int .i64 v4, .int .u32 v5] 47)); have hrd := one_reads (cv := enV) (w4.alloc (.cells #[.int .i64 v1, .int .i64 v2, .int .i64 v3, .int .i64 v4, .int .u32 v5] 47)) (v1, v2, v3, v4, v5) #[.int .i64 v1, .int .i64 v2, .int .i64 v3, .int .i64 v4, .int .u32 v5] 47 rfl; rw [World.size_alloc] at hrd; have HRD := Lib.hid hrd; have HZ4 : Hid (Z ≤ w4.heap.size) := Nat.le_trans HZW.out g4.size; clear h g4 hrd)
                        | (at_builtin; refine append_gg en_rowed rfl _ _ rfl Z _ j ys rfl HLA.out.1 (some ⟨w4.heap.size + 1, 0, none⟩) 1 1 [(v1, v2, v3, v4, v5)] rfl (fun e => by cases e) HRD.out (by omega) (by rw [World.size_alloc, World.size_alloc]; have := HZ4.out; omega) ?_; intro a5 c5 w6 hO hB6 hg6; have HL6 : Hid (LfO w6 Z (a5, j + 1, c5, ys ++ [(v1, v2, v3, v4, v5)])) := ⟨hO, fun y hy => (List.mem_append.1 hy).elim (fun h => HLA.out.2 y h) (fun h => by rw [List.mem_singleton] at h; subst h; exact HXO.out)⟩; have HB6 := Lib.hid (HBA.out.trans hB6); clear hO hB6 hg6))
                      go_roundw
                      case rel => exact ⟨j + 1, a5, c5, ys ++ [(v1, v2, v3, v4, v5)], by omega, (by first | go_num | (congr 1; omega)), rfl, by go_num, HN.out, HL6.out, HB6.out⟩
                      case measure => simp [intOf]; omega
                  · have hj9 : j = 8 := by omega
                    subst hj9
                    have HRJ := Lib.hid (HRI.out ys HEN.out)
                    have HBW := Lib.hid (HB5.out.later hbz)
                    have HQW := Lib.hid (HQ5.out.later hbz)
                    have HFR : Hid (∀ x ∈ es2, ∀ b, blkD x = some b → blkD (a3, 8, c3, ys) ≠ some b) := fun x hx b hb hb' => by
                      have h1 := HQ5.out.lt x hx b hb
                      have h2 := (HLV.out.lt hb').1
                      rw [hZ.out] at h1
                      omega
                    obtain ⟨z5, z6, z7, z8⟩ := HBW.out.cells
                    have HQA := Lib.hid (HQW.out.alloc (.cells #[.slice a3 8 c3] 51))
                    have HBA := Lib.hid (HBW.out.alloc (.cells #[.slice a3 8 c3] 51))
                    have HLA := Lib.hid ((HLV.out.mono hXZ).later ((Below.refl _ _).alloc (Nat.le_refl _) (.cells #[.slice a3 8 c3] 51)))
                    have HRD := Lib.hid (one_reads (cv := cvD) wr (a3, 8, c3, ys) #[.slice a3 8 c3] 51 rfl)
                    have hXw := HBW.out.size
                    clear hbz hbw HST
                    go_wp2_with (at_builtin; refine append_gg lf_rowed rfl _ _ rfl X _ S es2 rfl HQA.out.out (some ⟨wr.heap.size, 0, none⟩) 1 1 [(a3, 8, c3, ys)] rfl (fun e => by cases e) HRD.out (by omega) (by rw [World.size_alloc]; omega) ?_; intro a5 c5 w6 hO hB6 hg6; have hb6 := HBA.out.app HQA.out.out (Nat.le_refl _) hg6; have hq6 := (HQA.out.push hO hg6).addEs _ (HLA.out.push HQA.out.out hg6) HFR.out; have HB6 := Lib.hid (hb6.out (.slice a5 (S + 1) c5)); have HQ6 := Lib.hid (hq6.box hb6.2.1 (grownBy_setCell4 w6 Y 0 (.slice a5 (S + 1) c5))); obtain ⟨t1, t2, t3, t4⟩ := hb6.cells; clear hb6 hq6 hO hB6 hg6)
                    go_roundw
                    case rel =>
                      have hTl : (padTo T S ++ [ys]).length = S + 1 := by rw [List.length_append, padTo_len _ _ (by rw [hM.out]; exact hgd1)]; rfl
                      refine ⟨m + 1, k + 130, padTo T S ++ [ys], a5, c5, es2 ++ [(a3, 8, c3, ys)], by omega, (by first | go_num | (congr 1; omega)), (by rw [hTl]; first | go_num | (congr 1; omega)), by go_num, HRJ.out, ?_, ?_, ?_⟩
                      · show tbOf (es2 ++ [(a3, 8, c3, ys)]) = _
                        rw [tb_snoc, HP.out]
                      · rw [hTl]
                        exact HB6.out
                      · rw [hTl]
                        exact HQ6.out
                    case measure => simp [intOf]; omega
          · have HRU := Lib.hid (HUN.out (HST.out (Or.inr (by omega))))
            have HB5 := Lib.hid (HB2.out.res (.slice none 0 0))
            have hgc : (g : Int) < (M : Int) ∨ (¬ (g : Int) < (M : Int) ∧ 512 ≤ (g : Int)) := by omega
            clear HST HMR
            rcases hgc with hgc | ⟨hgc, hgc2⟩
            all_goals
              go_wp2_with (go_at_call 29; (with_reducible refine (HLF.out _ HBL.out).mono ?_); rintro e w5 ⟨rfl, rfl⟩)
              refine bodyPost_ret (results_cell_two rfl _ _ X 24 #[.slice none 0 0] (0, 0) _ rfl _ _ rfl rfl HB5.out.1 Tryd.underlying24 rfl tbl_size) rfl ?_
              rw [HRU.out]
              exact ⟨rfl, hX.out.symm ▸ HB5.out.2.2.1⟩
      · have hmv : m = v := by omega
        subst hmv
        have hm2 : ¬ (m : Int) < (m : Int) := by omega
        have HUI := Lib.hid (HUY.out HR.out)
        have htab := HQ.out.tab (cap := c') HE.out (by omega) (fun lf hlf => by have := (HLE.out lf hlf).1; omega)
        by_cases hR : rightT T n c
        · have HRT := Lib.hid (refRightT (decide_eq_true hR) wr htab)
          have HUV : Hid (readU l p n c = some (T, k)) := by
            show readU l p n c = _
            rw [HUI.out, if_pos hR]
          have HLN : Hid (M ≤ 6000 ∧ ∀ lf ∈ T, lf.length ≤ 1000000) := ⟨by omega, fun lf hlf => by have := (HLE.out lf hlf).1; omega⟩
          clear hR htab
          go_wp2_with (go_at_call 22; (with_reducible refine HRT.out.mono ?_); rintro e w4 ⟨rfl, g4⟩; obtain ⟨y1, y2, y3, y4⟩ := (HB2.out.later g4).cells; have HB5 := Lib.hid ((HB2.out.later g4).res (.slice a' M c')); have HQ5 := Lib.hid ((HQ.out.later g4).box (HB2.out.later g4).1 (grownBy_setCell4 w4 X 0 (.slice a' M c'))); clear g4 HRT)
          refine bodyPost_ret (results_cell_two rfl _ _ X 24 #[.slice a' M c'] (0, 0) _ rfl _ _ rfl rfl HB5.out.1 Tryd.underlying24 rfl tbl_size) rfl ?_
          rw [HUV.out]
          exact ⟨a', M, c', rfl, HQ5.out.tabN HE.out HLN.out.1 HLN.out.2 (Nat.le_of_eq hX.out), hX.out.symm ▸ HB5.out.2.2.1⟩
        · have HRT := Lib.hid (refRightT (decide_eq_false hR) wr htab)
          have HRU : Hid (readU l p n c = none) := by
            show readU l p n c = _
            rw [HUI.out, if_neg hR]
          clear hR htab
          go_wp2_with (go_at_call 22; (with_reducible refine HRT.out.mono ?_); rintro e w4 ⟨rfl, g4⟩; obtain ⟨y1, y2, y3, y4⟩ := (HB2.out.later g4).cells; have HB5 := Lib.hid ((HB2.out.later g4).res (.slice none 0 0)); clear g4 HRT)
          refine bodyPost_ret (results_cell_two rfl _ _ X 24 #[.slice none 0 0] (0, 0) _ rfl _ _ rfl rfl HB5.out.1 Tryd.underlying24 rfl tbl_size) rfl ?_
          rw [HRU.out]
          exact ⟨rfl, hX.out.symm ▸ HB5.out.2.2.1⟩
end Go.Proofs.YtbpngpommgcogaaDoor
