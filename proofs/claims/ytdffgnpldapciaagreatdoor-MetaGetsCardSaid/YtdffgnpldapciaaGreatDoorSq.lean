/-
  What the reference's Same answers (layer 12). Conditions: both metas read.
-/
import Derived.Test.YtdffgnpldapciaaGreatDoorSp
namespace Go.Proofs.YtdffgnpldapciaaGreatDoor
open Go.RowKit
set_option linter.unusedVariables false

/-- Two boxed metas, all else below them as it was. -/
def Bx2 (w0 : World) (cs rs : Array Value) (W : World) : Prop := Blk W w0.heap.size 31 cs ∧ Blk W (w0.heap.size + 1) 31 rs ∧ Below w0.heap.size w0 W
theorem Bx2.first (w : World) (cs rs : Array Value) : Bx2 w cs rs ((w.alloc (.cells cs 31)).alloc (.cells rs 31)) := ⟨(Blk.new w _ _).alloc _, (blk_next9 _ _ _ _ _), ((Below.refl _ _).alloc (Nat.le_refl _) _).alloc (by simp) _⟩
theorem Bx2.later {w0 W W' : World} {cs rs : Array Value} (h : Bx2 w0 cs rs W) (hb : Below W.heap.size W W') : Bx2 w0 cs rs W' := ⟨h.1.later hb, h.2.1.later hb, h.2.2.trans (hb.mono h.2.2.size)⟩
set_option maxRecDepth 100000 in
set_option maxHeartbeats 3200000 in
theorem refSame {w : World} {x y : Mt} {M N : MM} (h1 : MetaD w x M) (h2 : MetaD w y N) {R : Bool} (hR : R = true ↔ M = N) : Calls Tryz.prog 7 #[.agg (mtA M x), .agg (mtA N y)] w fun e w' => e = .returned (.bool R) ∧ Below w.heap.size w w' := by
  obtain ⟨a0, n0, c0, sa, sn, sc, ma, mn, mc, ca, cn, cc⟩ := x
  obtain ⟨c, s, bk, T, S, B, K⟩ := M
  obtain ⟨a0', n0', c0', sa', sn', sc', ma', mn', mc', ca', cn', cc'⟩ := y
  obtain ⟨c', s', bk', T', S', B', K'⟩ := N
  have hS1 := h1.S
  have hS2 := h2.S
  have hl1 := hS1.lens
  have hl2 := hS2.lens
  dsimp only [mtA] at hS1 hS2 hl1 hl2 ⊢
  have HNO : Hid (¬ ((⟨c, s, bk, T, S, B, K⟩ : MM) = ⟨c', s', bk', T', S', B', K'⟩) → R = false) := fun h => by
    cases R with
    | false => rfl
    | true => exact absurd (hR.1 rfl) h
  obtain ⟨bT, hbT⟩ := named (decide (T = T'))
  obtain ⟨bB, hbB⟩ := named (decide (B = B'))
  obtain ⟨bK, hbK⟩ := named (decide (K = K'))
  have HT := Lib.hid (fun W (hb : Below w.heap.size w W) => refTT (h1.T.later hb) (h2.T.later hb) hbT.out)
  have HM := Lib.hid (fun W (hb : Below w.heap.size w W) => refMaps (h1.B.later hb) (h2.B.later hb) hbB.out)
  have HK := Lib.hid (fun W (hb : Below w.heap.size w W) => refInts (h1.K.later hb) (h2.K.later hb) hbK.out)
  dsimp only at HT HM HK
  have HS1 := Lib.hid hS1
  have HS2 := Lib.hid hS2
  have HYES : Hid (c = c' → s = s' → bk = bk' → S = S' → bT = true → bB = true → bK = true → R = true) := fun e1 e2 e3 e4 e5 e6 e7 => hR.2 (by
    have := of_decide_eq_true (hbT.out.trans e5)
    have := of_decide_eq_true (hbB.out.trans e6)
    have := of_decide_eq_true (hbK.out.trans e7)
    subst_vars
    rfl)
  have HBN : Hid ((bT = false → T ≠ T') ∧ (bB = false → B ≠ B') ∧ (bK = false → K ≠ K')) := ⟨fun e => of_decide_eq_false (hbT.out.trans e), fun e => of_decide_eq_false (hbB.out.trans e), fun e => of_decide_eq_false (hbK.out.trans e)⟩
  clear h1 h2 hR hS1 hS2 hbT hbB hbK
  by_cases hc : c = c'
  · subst hc
    by_cases hs : s = s'
    · subst hs
      by_cases hbk : bk = bk'
      · subst hbk
        have hse := str_yes (rfl : bk = bk)
        by_cases hn : sn = sn'
        · subst hn
          have HL1 := Lib.hid hl1
          have hsn1000 := hl1.2
          have HL2 := Lib.hid hl2
          clear hl1 hl2
          cases bT with
          | false =>
            obtain rfl : R = false := HNO.out (fun e => HBN.out.1 rfl (by injection e))
            have HW0 := Lib.hid (Bx2.first w #[.int .i64 c, .int .i64 s, .string bk, .slice a0 n0 c0, .slice sa sn sc, .slice ma mn mc, .slice ca cn cc] #[.int .i64 c, .int .i64 s, .string bk, .slice a0' n0' c0', .slice sa' sn sc', .slice ma' mn' mc', .slice ca' cn' cc'])
            obtain ⟨x0, x1, x2, x3, x4, x5, x6⟩ := cells7 HW0.out.1
            obtain ⟨y0, y1, y2, y3, y4, y5, y6⟩ := cells7 HW0.out.2.1
            clear x0 x1 x2 x3 x4 x5 x6 y0 y1 y2 y3 y4 y5 y6
            go_enter Tryz.func7, Tryz.ntmps7
            go_wp2_with (first
              | (go_at_call 18; refine (HT.out _ HW0.out.2.2).mono ?_; rintro e w1 ⟨rfl, hb⟩; have HW1 := Lib.hid (HW0.out.later hb); obtain ⟨x0, x1, x2, x3, x4, x5, x6⟩ := cells7 HW1.out.1; obtain ⟨y0, y1, y2, y3, y4, y5, y6⟩ := cells7 HW1.out.2.1; clear hb)
              | (go_at_call 19; refine (HM.out _ HW1.out.2.2).mono ?_; rintro e w2 ⟨rfl, hb⟩; have HW2 := Lib.hid (HW1.out.later hb); clear x0 x1 x2 x3 x4 x5 x6 y0 y1 y2 y3 y4 y5 y6; obtain ⟨x0, x1, x2, x3, x4, x5, x6⟩ := cells7 HW2.out.1; obtain ⟨y0, y1, y2, y3, y4, y5, y6⟩ := cells7 HW2.out.2.1; clear hb)
              | (go_at_call 20; refine (HK.out _ HW2.out.2.2).mono ?_; rintro e w3 ⟨rfl, hb⟩; have HW3 := Lib.hid (HW2.out.later hb); clear x0 x1 x2 x3 x4 x5 x6 y0 y1 y2 y3 y4 y5 y6; obtain ⟨x0, x1, x2, x3, x4, x5, x6⟩ := cells7 HW3.out.1; obtain ⟨y0, y1, y2, y3, y4, y5, y6⟩ := cells7 HW3.out.2.1; clear hb))
            go_ret
            exact ⟨rfl, by first | exact HW3.out.2.2 | exact HW2.out.2.2 | exact HW1.out.2.2 | exact HW0.out.2.2⟩
          | true =>
            cases bB with
            | false =>
              obtain rfl : R = false := HNO.out (fun e => HBN.out.2.1 rfl (by injection e))
              have HW0 := Lib.hid (Bx2.first w #[.int .i64 c, .int .i64 s, .string bk, .slice a0 n0 c0, .slice sa sn sc, .slice ma mn mc, .slice ca cn cc] #[.int .i64 c, .int .i64 s, .string bk, .slice a0' n0' c0', .slice sa' sn sc', .slice ma' mn' mc', .slice ca' cn' cc'])
              obtain ⟨x0, x1, x2, x3, x4, x5, x6⟩ := cells7 HW0.out.1
              obtain ⟨y0, y1, y2, y3, y4, y5, y6⟩ := cells7 HW0.out.2.1
              clear x0 x1 x2 x3 x4 x5 x6 y0 y1 y2 y3 y4 y5 y6
              go_enter Tryz.func7, Tryz.ntmps7
              go_wp2_with (first
                | (go_at_call 18; refine (HT.out _ HW0.out.2.2).mono ?_; rintro e w1 ⟨rfl, hb⟩; have HW1 := Lib.hid (HW0.out.later hb); obtain ⟨x0, x1, x2, x3, x4, x5, x6⟩ := cells7 HW1.out.1; obtain ⟨y0, y1, y2, y3, y4, y5, y6⟩ := cells7 HW1.out.2.1; clear hb)
                | (go_at_call 19; refine (HM.out _ HW1.out.2.2).mono ?_; rintro e w2 ⟨rfl, hb⟩; have HW2 := Lib.hid (HW1.out.later hb); clear x0 x1 x2 x3 x4 x5 x6 y0 y1 y2 y3 y4 y5 y6; obtain ⟨x0, x1, x2, x3, x4, x5, x6⟩ := cells7 HW2.out.1; obtain ⟨y0, y1, y2, y3, y4, y5, y6⟩ := cells7 HW2.out.2.1; clear hb)
                | (go_at_call 20; refine (HK.out _ HW2.out.2.2).mono ?_; rintro e w3 ⟨rfl, hb⟩; have HW3 := Lib.hid (HW2.out.later hb); clear x0 x1 x2 x3 x4 x5 x6 y0 y1 y2 y3 y4 y5 y6; obtain ⟨x0, x1, x2, x3, x4, x5, x6⟩ := cells7 HW3.out.1; obtain ⟨y0, y1, y2, y3, y4, y5, y6⟩ := cells7 HW3.out.2.1; clear hb))
              go_ret
              exact ⟨rfl, by first | exact HW3.out.2.2 | exact HW2.out.2.2 | exact HW1.out.2.2 | exact HW0.out.2.2⟩
            | true =>
              cases bK with
              | false =>
                obtain rfl : R = false := HNO.out (fun e => HBN.out.2.2 rfl (by injection e))
                have HW0 := Lib.hid (Bx2.first w #[.int .i64 c, .int .i64 s, .string bk, .slice a0 n0 c0, .slice sa sn sc, .slice ma mn mc, .slice ca cn cc] #[.int .i64 c, .int .i64 s, .string bk, .slice a0' n0' c0', .slice sa' sn sc', .slice ma' mn' mc', .slice ca' cn' cc'])
                obtain ⟨x0, x1, x2, x3, x4, x5, x6⟩ := cells7 HW0.out.1
                obtain ⟨y0, y1, y2, y3, y4, y5, y6⟩ := cells7 HW0.out.2.1
                clear x0 x1 x2 x3 x4 x5 x6 y0 y1 y2 y3 y4 y5 y6
                go_enter Tryz.func7, Tryz.ntmps7
                go_wp2_with (first
                  | (go_at_call 18; refine (HT.out _ HW0.out.2.2).mono ?_; rintro e w1 ⟨rfl, hb⟩; have HW1 := Lib.hid (HW0.out.later hb); obtain ⟨x0, x1, x2, x3, x4, x5, x6⟩ := cells7 HW1.out.1; obtain ⟨y0, y1, y2, y3, y4, y5, y6⟩ := cells7 HW1.out.2.1; clear hb)
                  | (go_at_call 19; refine (HM.out _ HW1.out.2.2).mono ?_; rintro e w2 ⟨rfl, hb⟩; have HW2 := Lib.hid (HW1.out.later hb); clear x0 x1 x2 x3 x4 x5 x6 y0 y1 y2 y3 y4 y5 y6; obtain ⟨x0, x1, x2, x3, x4, x5, x6⟩ := cells7 HW2.out.1; obtain ⟨y0, y1, y2, y3, y4, y5, y6⟩ := cells7 HW2.out.2.1; clear hb)
                  | (go_at_call 20; refine (HK.out _ HW2.out.2.2).mono ?_; rintro e w3 ⟨rfl, hb⟩; have HW3 := Lib.hid (HW2.out.later hb); clear x0 x1 x2 x3 x4 x5 x6 y0 y1 y2 y3 y4 y5 y6; obtain ⟨x0, x1, x2, x3, x4, x5, x6⟩ := cells7 HW3.out.1; obtain ⟨y0, y1, y2, y3, y4, y5, y6⟩ := cells7 HW3.out.2.1; clear hb))
                go_ret
                exact ⟨rfl, by first | exact HW3.out.2.2 | exact HW2.out.2.2 | exact HW1.out.2.2 | exact HW0.out.2.2⟩
              | true =>
                have HYES0 : Hid (S = S' → R = true) := fun e => HYES.out rfl rfl rfl e rfl rfl rfl
                clear HYES
                have HW0 := Lib.hid (Bx2.first w #[.int .i64 c, .int .i64 s, .string bk, .slice a0 n0 c0, .slice sa sn sc, .slice ma mn mc, .slice ca cn cc] #[.int .i64 c, .int .i64 s, .string bk, .slice a0' n0' c0', .slice sa' sn sc', .slice ma' mn' mc', .slice ca' cn' cc'])
                go_enter Tryz.func7, Tryz.ntmps7
                go_wp2_with (first
                  | (go_at_call 18; refine (HT.out _ HW0.out.2.2).mono ?_; rintro e w1 ⟨rfl, hb⟩; have HW1 := Lib.hid (HW0.out.later hb); obtain ⟨x0, x1, x2, x3, x4, x5, x6⟩ := cells7 HW1.out.1; obtain ⟨y0, y1, y2, y3, y4, y5, y6⟩ := cells7 HW1.out.2.1; clear hb)
                  | (go_at_call 19; refine (HM.out _ HW1.out.2.2).mono ?_; rintro e w2 ⟨rfl, hb⟩; have HW2 := Lib.hid (HW1.out.later hb); clear x0 x1 x2 x3 x4 x5 x6 y0 y1 y2 y3 y4 y5 y6; obtain ⟨x0, x1, x2, x3, x4, x5, x6⟩ := cells7 HW2.out.1; obtain ⟨y0, y1, y2, y3, y4, y5, y6⟩ := cells7 HW2.out.2.1; clear hb)
                  | (go_at_call 20; refine (HK.out _ HW2.out.2.2).mono ?_; rintro e w3 ⟨rfl, hb⟩; have HW3 := Lib.hid (HW2.out.later hb); clear x0 x1 x2 x3 x4 x5 x6 y0 y1 y2 y3 y4 y5 y6; obtain ⟨x0, x1, x2, x3, x4, x5, x6⟩ := cells7 HW3.out.1; obtain ⟨y0, y1, y2, y3, y4, y5, y6⟩ := cells7 HW3.out.2.1; clear hb))
                clear x0 x1 x2 x3 x4 x5 x6 y0 y1 y2 y3 y4 y5 y6
                obtain ⟨x0, x1, x2, x3, x4, x5, x6⟩ := cells7 HW3.out.1
                go_loopw [5] (fun i wr => ∃ j : Nat, j ≤ sn ∧ i = .int .i64 j ∧ Hid (Bx2 w #[.int .i64 c, .int .i64 s, .string bk, .slice a0 n0 c0, .slice sa sn sc, .slice ma mn mc, .slice ca cn cc] #[.int .i64 c, .int .i64 s, .string bk, .slice a0' n0' c0', .slice sa' sn sc', .slice ma' mn' mc', .slice ca' cn' cc'] wr) ∧ Hid (∀ k, k < j → S[k]? = S'[k]?)) (fun i _ => sn - (intOf i).toNat)
                case atStart => exact ⟨0, Nat.zero_le _, rfl, HW3.out, fun k hk => by omega⟩
                case round =>
                  clear x0 x1 x2 x3 x4 x5 x6
                  obtain ⟨j, hj, rfl, HWr, HJ⟩ := hrel
                  obtain ⟨_, _, _, _, x4, _, _⟩ := cells7 HWr.out.1
                  obtain ⟨_, _, _, _, y4, _, _⟩ := cells7 HWr.out.2.1
                  by_cases hlt : j < sn
                  · obtain ⟨b, off, nm, sz, al, ll, cl, T1, rfl, q1, hbl, _, u0, u1, u2, hT1⟩ := (HS1.out.later HWr.out.2.2).at j hlt
                    obtain ⟨b', off', nm', sz', al', ll', cl', T2, rfl, q2, hbl', _, v0, v1, v2, hT2⟩ := (HS2.out.later HWr.out.2.2).at j hlt
                    obtain ⟨E, hE⟩ := named (decide (T1 = T2))
                    have HTS : Hid (∀ W, Below wr.heap.size wr W → Calls Tryz.prog 18 #[.agg #[.slice al ll cl], .agg #[.slice al' ll' cl']] W fun e w' => e = .returned (.bool E) ∧ Below wr.heap.size wr w') := fun W hb => (refTT (hT1.later hb) (hT2.later hb) hE.out).mono fun e w' ⟨h1, h2⟩ => ⟨h1, hb.trans (h2.mono hb.size)⟩
                    have HBw : Hid (Below wr.heap.size wr ((wr.alloc (.cells #[.string nm, .int .i64 sz, .slice al ll cl] 54)).alloc (.cells #[.string nm', .int .i64 sz', .slice al' ll' cl'] 54)).drew) := (((Below.refl _ _).alloc (Nat.le_refl _) _).alloc (by simp) _).drew
                    have HBv : Hid (Below wr.heap.size wr ((wr.alloc (.cells #[.string nm', .int .i64 sz', .slice al' ll' cl'] 54)).alloc (.cells #[.string nm, .int .i64 sz, .slice al ll cl] 54)).drew) := (((Below.refl _ _).alloc (Nat.le_refl _) _).alloc (by simp) _).drew
                    have HJY : Hid (nm = nm' → sz = sz' → E = true → ∀ k, k < j + 1 → S[k]? = S'[k]?) := fun e1 e2 e3 k hk => by
                      by_cases e : k = j
                      · rw [e, q1, q2, e1, e2, of_decide_eq_true (hE.out.trans e3)]
                      · exact HJ.out k (by omega)
                    have HJN : Hid (¬ (nm = nm' ∧ sz = sz' ∧ E = true) → R = false) := fun h => HNO.out fun e => h (by
                      have eS : S = S' := by injection e
                      subst eS
                      have := q1.symm.trans q2
                      injection this with this
                      injection this with e1 this
                      injection this with e2 e3
                      exact ⟨e1, e2, by rw [← hE.out]; exact decide_eq_true e3⟩)
                    clear hE hT1 hT2 q1 q2 HNO HYES0
                    by_cases hnm : nm = nm'
                    · have hse2 := str_yes hnm
                      have hsn2 : (nm.toList != nm'.toList) = false := by rw [bne, hse2]; rfl
                      by_cases hsz : sz = sz'
                      · have hsi : (sz == sz') = true := by rw [beq_iff_eq]; exact hsz
                        have hsi2 : (sz != sz') = false := by rw [bne, hsi]; rfl
                        cases E with
                        | true =>
                          have HJ2 := Lib.hid (HJY.out hnm hsz rfl)
                          clear HJY HJN hnm hsz
                          have hx1 : w.heap.size + 1 < wr.heap.size := HWr.out.2.1.lt
                          have hx0 : w.heap.size < wr.heap.size := HWr.out.1.lt
                          go_wp2
                          go_region
                          all_goals
                            clear hx1 hx0 x4 y4 u0 u1 u2 v0 v1 v2
                            go_wp2_with (first
                              | (go_at_call 18; refine (HTS.out _ HBw.out).mono ?_; rintro e w5 ⟨rfl, hb⟩; have HW5 := Lib.hid (HWr.out.later hb); clear hb)
                              | (go_at_call 18; refine (HTS.out _ HBv.out).mono ?_; rintro e w5 ⟨rfl, hb⟩; have HW5 := Lib.hid (HWr.out.later hb); clear hb))
                            go_roundw
                            case rel => exact ⟨j + 1, by omega, by go_num, HW5.out, HJ2.out⟩
                            case measure => simp [intOf]; omega
                        | false =>
                          obtain rfl := HJN.out (fun h => by cases h.2.2)
                          clear HJY HJN hnm hsz
                          have hx1 : w.heap.size + 1 < wr.heap.size := HWr.out.2.1.lt
                          have hx0 : w.heap.size < wr.heap.size := HWr.out.1.lt
                          go_wp2
                          go_region
                          all_goals
                            clear hx1 hx0 x4 y4 u0 u1 u2 v0 v1 v2
                            go_wp2_with (first
                              | (go_at_call 18; refine (HTS.out _ HBw.out).mono ?_; rintro e w5 ⟨rfl, hb⟩; have HW5 := Lib.hid (HWr.out.later hb); clear hb)
                              | (go_at_call 18; refine (HTS.out _ HBv.out).mono ?_; rintro e w5 ⟨rfl, hb⟩; have HW5 := Lib.hid (HWr.out.later hb); clear hb))
                            go_ret
                            exact ⟨rfl, by first | exact HW5.out.2.2 | exact (HWr.out.later HBw.out).2.2 | exact (HWr.out.later HBv.out).2.2⟩
                      · obtain rfl := HJN.out (fun h => hsz h.2.1)
                        have hsi : (sz == sz') = false := by rw [beq_eq_false_iff_ne]; exact hsz
                        have hsi2 : (sz != sz') = true := by rw [bne, hsi]; rfl
                        clear HJY HJN hnm hsz
                        have hx1 : w.heap.size + 1 < wr.heap.size := HWr.out.2.1.lt
                        have hx0 : w.heap.size < wr.heap.size := HWr.out.1.lt
                        go_wp2
                        go_region
                        all_goals
                          clear hx1 hx0 x4 y4 u0 u1 u2 v0 v1 v2
                          go_wp2_with (first
                            | (go_at_call 18; refine (HTS.out _ HBw.out).mono ?_; rintro e w5 ⟨rfl, hb⟩; have HW5 := Lib.hid (HWr.out.later hb); clear hb)
                            | (go_at_call 18; refine (HTS.out _ HBv.out).mono ?_; rintro e w5 ⟨rfl, hb⟩; have HW5 := Lib.hid (HWr.out.later hb); clear hb))
                          go_ret
                          exact ⟨rfl, by first | exact HW5.out.2.2 | exact (HWr.out.later HBw.out).2.2 | exact (HWr.out.later HBv.out).2.2⟩
                    · obtain rfl := HJN.out (fun h => hnm h.1)
                      have hse2 := str_no hnm
                      have hsn2 : (nm.toList != nm'.toList) = true := by rw [bne, hse2]; rfl
                      clear HJY HJN hnm
                      have hx1 : w.heap.size + 1 < wr.heap.size := HWr.out.2.1.lt
                      have hx0 : w.heap.size < wr.heap.size := HWr.out.1.lt
                      go_wp2
                      go_region
                      all_goals
                        clear hx1 hx0 x4 y4 u0 u1 u2 v0 v1 v2
                        go_wp2_with (first
                          | (go_at_call 18; refine (HTS.out _ HBw.out).mono ?_; rintro e w5 ⟨rfl, hb⟩; have HW5 := Lib.hid (HWr.out.later hb); clear hb)
                          | (go_at_call 18; refine (HTS.out _ HBv.out).mono ?_; rintro e w5 ⟨rfl, hb⟩; have HW5 := Lib.hid (HWr.out.later hb); clear hb))
                        go_ret
                        exact ⟨rfl, by first | exact HW5.out.2.2 | exact (HWr.out.later HBw.out).2.2 | exact (HWr.out.later HBv.out).2.2⟩
                  · obtain rfl : j = sn := by omega
                    obtain rfl : R = true := HYES0.out (list_eq_of HL1.out.1 HL2.out.1 HJ.out)
                    go_wp2
                    go_ret
                    exact ⟨rfl, HWr.out.2.2⟩
        · have hne : ((sn : Int) == (sn' : Int)) = false := by rw [beq_eq_false_iff_ne]; omega
          obtain rfl : R = false := HNO.out (fun e => hn (by have e2 : S = S' := (by injection e); have := hl1.1; have := hl2.1; rw [e2] at *; omega))
          have HW0 := Lib.hid (Bx2.first w #[.int .i64 c, .int .i64 s, .string bk, .slice a0 n0 c0, .slice sa sn sc, .slice ma mn mc, .slice ca cn cc] #[.int .i64 c, .int .i64 s, .string bk, .slice a0' n0' c0', .slice sa' sn' sc', .slice ma' mn' mc', .slice ca' cn' cc'])
          obtain ⟨x0, x1, x2, x3, x4, x5, x6⟩ := cells7 HW0.out.1
          obtain ⟨y0, y1, y2, y3, y4, y5, y6⟩ := cells7 HW0.out.2.1
          clear x0 x1 x2 x3 x4 x5 x6 y0 y1 y2 y3 y4 y5 y6
          go_enter Tryz.func7, Tryz.ntmps7
          go_wp2_with (first
            | (go_at_call 18; refine (HT.out _ HW0.out.2.2).mono ?_; rintro e w1 ⟨rfl, hb⟩; have HW1 := Lib.hid (HW0.out.later hb); obtain ⟨x0, x1, x2, x3, x4, x5, x6⟩ := cells7 HW1.out.1; obtain ⟨y0, y1, y2, y3, y4, y5, y6⟩ := cells7 HW1.out.2.1; clear hb)
            | (go_at_call 19; refine (HM.out _ HW1.out.2.2).mono ?_; rintro e w2 ⟨rfl, hb⟩; have HW2 := Lib.hid (HW1.out.later hb); clear x0 x1 x2 x3 x4 x5 x6 y0 y1 y2 y3 y4 y5 y6; obtain ⟨x0, x1, x2, x3, x4, x5, x6⟩ := cells7 HW2.out.1; obtain ⟨y0, y1, y2, y3, y4, y5, y6⟩ := cells7 HW2.out.2.1; clear hb)
            | (go_at_call 20; refine (HK.out _ HW2.out.2.2).mono ?_; rintro e w3 ⟨rfl, hb⟩; have HW3 := Lib.hid (HW2.out.later hb); clear x0 x1 x2 x3 x4 x5 x6 y0 y1 y2 y3 y4 y5 y6; obtain ⟨x0, x1, x2, x3, x4, x5, x6⟩ := cells7 HW3.out.1; obtain ⟨y0, y1, y2, y3, y4, y5, y6⟩ := cells7 HW3.out.2.1; clear hb))
          go_ret
          exact ⟨rfl, by first | exact HW3.out.2.2 | exact HW2.out.2.2 | exact HW1.out.2.2 | exact HW0.out.2.2⟩
      · have hse : (bk.toList == bk'.toList) = false := str_no hbk
        obtain rfl : R = false := HNO.out (fun e => hbk (by injection e))
        have HW0 := Lib.hid (Bx2.first w #[.int .i64 c, .int .i64 s, .string bk, .slice a0 n0 c0, .slice sa sn sc, .slice ma mn mc, .slice ca cn cc] #[.int .i64 c, .int .i64 s, .string bk', .slice a0' n0' c0', .slice sa' sn' sc', .slice ma' mn' mc', .slice ca' cn' cc'])
        obtain ⟨x0, x1, x2, x3, x4, x5, x6⟩ := cells7 HW0.out.1
        obtain ⟨y0, y1, y2, y3, y4, y5, y6⟩ := cells7 HW0.out.2.1
        clear x0 x1 x2 x3 x4 x5 x6 y0 y1 y2 y3 y4 y5 y6
        go_enter Tryz.func7, Tryz.ntmps7
        go_wp2_with (first
          | (go_at_call 18; refine (HT.out _ HW0.out.2.2).mono ?_; rintro e w1 ⟨rfl, hb⟩; have HW1 := Lib.hid (HW0.out.later hb); obtain ⟨x0, x1, x2, x3, x4, x5, x6⟩ := cells7 HW1.out.1; obtain ⟨y0, y1, y2, y3, y4, y5, y6⟩ := cells7 HW1.out.2.1; clear hb)
          | (go_at_call 19; refine (HM.out _ HW1.out.2.2).mono ?_; rintro e w2 ⟨rfl, hb⟩; have HW2 := Lib.hid (HW1.out.later hb); clear x0 x1 x2 x3 x4 x5 x6 y0 y1 y2 y3 y4 y5 y6; obtain ⟨x0, x1, x2, x3, x4, x5, x6⟩ := cells7 HW2.out.1; obtain ⟨y0, y1, y2, y3, y4, y5, y6⟩ := cells7 HW2.out.2.1; clear hb)
          | (go_at_call 20; refine (HK.out _ HW2.out.2.2).mono ?_; rintro e w3 ⟨rfl, hb⟩; have HW3 := Lib.hid (HW2.out.later hb); clear x0 x1 x2 x3 x4 x5 x6 y0 y1 y2 y3 y4 y5 y6; obtain ⟨x0, x1, x2, x3, x4, x5, x6⟩ := cells7 HW3.out.1; obtain ⟨y0, y1, y2, y3, y4, y5, y6⟩ := cells7 HW3.out.2.1; clear hb))
        go_ret
        exact ⟨rfl, by first | exact HW3.out.2.2 | exact HW2.out.2.2 | exact HW1.out.2.2 | exact HW0.out.2.2⟩
    · have hse : (s == s') = false := by rw [beq_eq_false_iff_ne]; exact hs
      obtain rfl : R = false := HNO.out (fun e => hs (by injection e))
      have HW0 := Lib.hid (Bx2.first w #[.int .i64 c, .int .i64 s, .string bk, .slice a0 n0 c0, .slice sa sn sc, .slice ma mn mc, .slice ca cn cc] #[.int .i64 c, .int .i64 s', .string bk', .slice a0' n0' c0', .slice sa' sn' sc', .slice ma' mn' mc', .slice ca' cn' cc'])
      obtain ⟨x0, x1, x2, x3, x4, x5, x6⟩ := cells7 HW0.out.1
      obtain ⟨y0, y1, y2, y3, y4, y5, y6⟩ := cells7 HW0.out.2.1
      clear x0 x1 x2 x3 x4 x5 x6 y0 y1 y2 y3 y4 y5 y6
      go_enter Tryz.func7, Tryz.ntmps7
      go_wp2_with (first
        | (go_at_call 18; refine (HT.out _ HW0.out.2.2).mono ?_; rintro e w1 ⟨rfl, hb⟩; have HW1 := Lib.hid (HW0.out.later hb); obtain ⟨x0, x1, x2, x3, x4, x5, x6⟩ := cells7 HW1.out.1; obtain ⟨y0, y1, y2, y3, y4, y5, y6⟩ := cells7 HW1.out.2.1; clear hb)
        | (go_at_call 19; refine (HM.out _ HW1.out.2.2).mono ?_; rintro e w2 ⟨rfl, hb⟩; have HW2 := Lib.hid (HW1.out.later hb); clear x0 x1 x2 x3 x4 x5 x6 y0 y1 y2 y3 y4 y5 y6; obtain ⟨x0, x1, x2, x3, x4, x5, x6⟩ := cells7 HW2.out.1; obtain ⟨y0, y1, y2, y3, y4, y5, y6⟩ := cells7 HW2.out.2.1; clear hb)
        | (go_at_call 20; refine (HK.out _ HW2.out.2.2).mono ?_; rintro e w3 ⟨rfl, hb⟩; have HW3 := Lib.hid (HW2.out.later hb); clear x0 x1 x2 x3 x4 x5 x6 y0 y1 y2 y3 y4 y5 y6; obtain ⟨x0, x1, x2, x3, x4, x5, x6⟩ := cells7 HW3.out.1; obtain ⟨y0, y1, y2, y3, y4, y5, y6⟩ := cells7 HW3.out.2.1; clear hb))
      go_ret
      exact ⟨rfl, by first | exact HW3.out.2.2 | exact HW2.out.2.2 | exact HW1.out.2.2 | exact HW0.out.2.2⟩
  · have hce : (c == c') = false := by rw [beq_eq_false_iff_ne]; exact hc
    obtain rfl : R = false := HNO.out (fun e => hc (by injection e))
    have HW0 := Lib.hid (Bx2.first w #[.int .i64 c, .int .i64 s, .string bk, .slice a0 n0 c0, .slice sa sn sc, .slice ma mn mc, .slice ca cn cc] #[.int .i64 c', .int .i64 s', .string bk', .slice a0' n0' c0', .slice sa' sn' sc', .slice ma' mn' mc', .slice ca' cn' cc'])
    obtain ⟨x0, x1, x2, x3, x4, x5, x6⟩ := cells7 HW0.out.1
    obtain ⟨y0, y1, y2, y3, y4, y5, y6⟩ := cells7 HW0.out.2.1
    clear x0 x1 x2 x3 x4 x5 x6 y0 y1 y2 y3 y4 y5 y6
    go_enter Tryz.func7, Tryz.ntmps7
    go_wp2_with (first
      | (go_at_call 18; refine (HT.out _ HW0.out.2.2).mono ?_; rintro e w1 ⟨rfl, hb⟩; have HW1 := Lib.hid (HW0.out.later hb); obtain ⟨x0, x1, x2, x3, x4, x5, x6⟩ := cells7 HW1.out.1; obtain ⟨y0, y1, y2, y3, y4, y5, y6⟩ := cells7 HW1.out.2.1; clear hb)
      | (go_at_call 19; refine (HM.out _ HW1.out.2.2).mono ?_; rintro e w2 ⟨rfl, hb⟩; have HW2 := Lib.hid (HW1.out.later hb); clear x0 x1 x2 x3 x4 x5 x6 y0 y1 y2 y3 y4 y5 y6; obtain ⟨x0, x1, x2, x3, x4, x5, x6⟩ := cells7 HW2.out.1; obtain ⟨y0, y1, y2, y3, y4, y5, y6⟩ := cells7 HW2.out.2.1; clear hb)
      | (go_at_call 20; refine (HK.out _ HW2.out.2.2).mono ?_; rintro e w3 ⟨rfl, hb⟩; have HW3 := Lib.hid (HW2.out.later hb); clear x0 x1 x2 x3 x4 x5 x6 y0 y1 y2 y3 y4 y5 y6; obtain ⟨x0, x1, x2, x3, x4, x5, x6⟩ := cells7 HW3.out.1; obtain ⟨y0, y1, y2, y3, y4, y5, y6⟩ := cells7 HW3.out.2.1; clear hb))
    go_ret
    exact ⟨rfl, by first | exact HW3.out.2.2 | exact HW2.out.2.2 | exact HW1.out.2.2 | exact HW0.out.2.2⟩
end Go.Proofs.YtdffgnpldapciaaGreatDoor
