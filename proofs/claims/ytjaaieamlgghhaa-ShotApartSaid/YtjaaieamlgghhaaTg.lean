/-
  Right metas: which metas the reference's Right takes, a meta as at a shot, whether two are the same (layer 12). Conditions: the meta reads.
-/
import Derived.Test.YtjaaieamlgghhaaSp
import Derived.Test.YtjaaieamlgghhaaSv
import Derived.Test.YtjaaieamlgghhaaSy
import Derived.Test.YtjaaieamlgghhaaTa
import Derived.Test.YtjaaieamlgghhaaTc
namespace Go.Proofs.Ytjaaieamlgghhaa
open Go.RowKit
set_option linter.unusedVariables false

/-- Two boxed metas, all else below them as it was. -/
def Bx2 (w0 : World) (cs rs : Array Value) (W : World) : Prop := Blk W w0.heap.size 29 cs ∧ Blk W (w0.heap.size + 1) 29 rs ∧ Below w0.heap.size w0 W
theorem Bx2.first (w : World) (cs rs : Array Value) : Bx2 w cs rs ((w.alloc (.cells cs 29)).alloc (.cells rs 29)) := ⟨(Blk.new w _ _).alloc _, blk_next, ((Below.refl _ _).alloc (Nat.le_refl _) _).alloc (by simp) _⟩
theorem Bx2.later {w0 W W' : World} {cs rs : Array Value} (h : Bx2 w0 cs rs W) (hb : Below W.heap.size W W') : Bx2 w0 cs rs W' := ⟨h.1.later hb, h.2.1.later hb, h.2.2.trans (hb.mono h.2.2.size)⟩
set_option maxRecDepth 100000 in
set_option maxHeartbeats 3200000 in
theorem refSame {w : World} {x y : Mt} {M N : MM} (h1 : MetaD w x M) (h2 : MetaD w y N) {R : Bool} (hR : R = true ↔ M = N) : Calls Try.prog 26 #[.agg (mtA M x), .agg (mtA N y)] w fun e w' => e = .returned (.bool R) ∧ Below w.heap.size w w' := by
  obtain ⟨a0, n0, c0, sa, sn, sc, ma, mn, mc, ca, cn, cc⟩ := x
  obtain ⟨c, s, bk, T, S, B, K⟩ := M
  obtain ⟨a0', n0', c0', sa', sn', sc', ma', mn', mc', ca', cn', cc'⟩ := y
  obtain ⟨c', s', bk', T', S', B', K'⟩ := N
  have hS1 := h1.S
  have hS2 := h2.S
  have hl1 := hS1.lens
  have hl2 := hS2.lens
  dsimp only [mtA] at hS1 hS2 hl1 hl2 ⊢
  have HNO : Hid (¬ ((⟨c, s, bk, T, S, B, K⟩ : MM) = ⟨c', s', bk', T', S', B', K'⟩) → R = false) := fun h => by
    cases R with
    | false => rfl
    | true => exact absurd (hR.1 rfl) h
  obtain ⟨bT, hbT⟩ := named (decide (T = T'))
  obtain ⟨bB, hbB⟩ := named (decide (B = B'))
  obtain ⟨bK, hbK⟩ := named (decide (K = K'))
  have HT := Lib.hid (fun W (hb : Below w.heap.size w W) => refTT (h1.T.later hb) (h2.T.later hb) hbT.out)
  have HM := Lib.hid (fun W (hb : Below w.heap.size w W) => refMaps (h1.B.later hb) (h2.B.later hb) hbB.out)
  have HK := Lib.hid (fun W (hb : Below w.heap.size w W) => refInts (h1.K.later hb) (h2.K.later hb) hbK.out)
  dsimp only at HT HM HK
  have HS1 := Lib.hid hS1
  have HS2 := Lib.hid hS2
  have HYES : Hid (c = c' → s = s' → bk = bk' → S = S' → bT = true → bB = true → bK = true → R = true) := fun e1 e2 e3 e4 e5 e6 e7 => hR.2 (by
    have := of_decide_eq_true (hbT.out.trans e5)
    have := of_decide_eq_true (hbB.out.trans e6)
    have := of_decide_eq_true (hbK.out.trans e7)
    subst_vars
    rfl)
  have HBN : Hid ((bT = false → T ≠ T') ∧ (bB = false → B ≠ B') ∧ (bK = false → K ≠ K')) := ⟨fun e => of_decide_eq_false (hbT.out.trans e), fun e => of_decide_eq_false (hbB.out.trans e), fun e => of_decide_eq_false (hbK.out.trans e)⟩
  clear h1 h2 hR hS1 hS2 hbT hbB hbK
  by_cases hc : c = c'
  · subst hc
    by_cases hs : s = s'
    · subst hs
      by_cases hbk : bk = bk'
      · subst hbk
        have hse := str_yes (rfl : bk = bk)
        by_cases hn : sn = sn'
        · subst hn
          have HL1 := Lib.hid hl1
          have hsn1000 := hl1.2
          have HL2 := Lib.hid hl2
          clear hl1 hl2
          cases bT with
          | false =>
            obtain rfl : R = false := HNO.out (fun e => HBN.out.1 rfl (by injection e))
            have HW0 := Lib.hid (Bx2.first w #[.int .i64 c, .int .i64 s, .string bk, .slice a0 n0 c0, .slice sa sn sc, .slice ma mn mc, .slice ca cn cc] #[.int .i64 c, .int .i64 s, .string bk, .slice a0' n0' c0', .slice sa' sn sc', .slice ma' mn' mc', .slice ca' cn' cc'])
            obtain ⟨x0, x1, x2, x3, x4, x5, x6⟩ := cells7 HW0.out.1
            obtain ⟨y0, y1, y2, y3, y4, y5, y6⟩ := cells7 HW0.out.2.1
            clear x0 x1 x2 x3 x4 x5 x6 y0 y1 y2 y3 y4 y5 y6
            go_enter Try.func26, Try.ntmps26
            go_wp2_with (first
              | (go_at_call 25; refine (HT.out _ HW0.out.2.2).mono ?_; rintro e w1 ⟨rfl, hb⟩; have HW1 := Lib.hid (HW0.out.later hb); obtain ⟨x0, x1, x2, x3, x4, x5, x6⟩ := cells7 HW1.out.1; obtain ⟨y0, y1, y2, y3, y4, y5, y6⟩ := cells7 HW1.out.2.1; clear hb)
              | (go_at_call 42; refine (HM.out _ HW1.out.2.2).mono ?_; rintro e w2 ⟨rfl, hb⟩; have HW2 := Lib.hid (HW1.out.later hb); clear x0 x1 x2 x3 x4 x5 x6 y0 y1 y2 y3 y4 y5 y6; obtain ⟨x0, x1, x2, x3, x4, x5, x6⟩ := cells7 HW2.out.1; obtain ⟨y0, y1, y2, y3, y4, y5, y6⟩ := cells7 HW2.out.2.1; clear hb)
              | (go_at_call 64; refine (HK.out _ HW2.out.2.2).mono ?_; rintro e w3 ⟨rfl, hb⟩; have HW3 := Lib.hid (HW2.out.later hb); clear x0 x1 x2 x3 x4 x5 x6 y0 y1 y2 y3 y4 y5 y6; obtain ⟨x0, x1, x2, x3, x4, x5, x6⟩ := cells7 HW3.out.1; obtain ⟨y0, y1, y2, y3, y4, y5, y6⟩ := cells7 HW3.out.2.1; clear hb))
            go_ret
            exact ⟨rfl, by first | exact HW3.out.2.2 | exact HW2.out.2.2 | exact HW1.out.2.2 | exact HW0.out.2.2⟩
          | true =>
            cases bB with
            | false =>
              obtain rfl : R = false := HNO.out (fun e => HBN.out.2.1 rfl (by injection e))
              have HW0 := Lib.hid (Bx2.first w #[.int .i64 c, .int .i64 s, .string bk, .slice a0 n0 c0, .slice sa sn sc, .slice ma mn mc, .slice ca cn cc] #[.int .i64 c, .int .i64 s, .string bk, .slice a0' n0' c0', .slice sa' sn sc', .slice ma' mn' mc', .slice ca' cn' cc'])
              obtain ⟨x0, x1, x2, x3, x4, x5, x6⟩ := cells7 HW0.out.1
              obtain ⟨y0, y1, y2, y3, y4, y5, y6⟩ := cells7 HW0.out.2.1
              clear x0 x1 x2 x3 x4 x5 x6 y0 y1 y2 y3 y4 y5 y6
              go_enter Try.func26, Try.ntmps26
              go_wp2_with (first
                | (go_at_call 25; refine (HT.out _ HW0.out.2.2).mono ?_; rintro e w1 ⟨rfl, hb⟩; have HW1 := Lib.hid (HW0.out.later hb); obtain ⟨x0, x1, x2, x3, x4, x5, x6⟩ := cells7 HW1.out.1; obtain ⟨y0, y1, y2, y3, y4, y5, y6⟩ := cells7 HW1.out.2.1; clear hb)
                | (go_at_call 42; refine (HM.out _ HW1.out.2.2).mono ?_; rintro e w2 ⟨rfl, hb⟩; have HW2 := Lib.hid (HW1.out.later hb); clear x0 x1 x2 x3 x4 x5 x6 y0 y1 y2 y3 y4 y5 y6; obtain ⟨x0, x1, x2, x3, x4, x5, x6⟩ := cells7 HW2.out.1; obtain ⟨y0, y1, y2, y3, y4, y5, y6⟩ := cells7 HW2.out.2.1; clear hb)
                | (go_at_call 64; refine (HK.out _ HW2.out.2.2).mono ?_; rintro e w3 ⟨rfl, hb⟩; have HW3 := Lib.hid (HW2.out.later hb); clear x0 x1 x2 x3 x4 x5 x6 y0 y1 y2 y3 y4 y5 y6; obtain ⟨x0, x1, x2, x3, x4, x5, x6⟩ := cells7 HW3.out.1; obtain ⟨y0, y1, y2, y3, y4, y5, y6⟩ := cells7 HW3.out.2.1; clear hb))
              go_ret
              exact ⟨rfl, by first | exact HW3.out.2.2 | exact HW2.out.2.2 | exact HW1.out.2.2 | exact HW0.out.2.2⟩
            | true =>
              cases bK with
              | false =>
                obtain rfl : R = false := HNO.out (fun e => HBN.out.2.2 rfl (by injection e))
                have HW0 := Lib.hid (Bx2.first w #[.int .i64 c, .int .i64 s, .string bk, .slice a0 n0 c0, .slice sa sn sc, .slice ma mn mc, .slice ca cn cc] #[.int .i64 c, .int .i64 s, .string bk, .slice a0' n0' c0', .slice sa' sn sc', .slice ma' mn' mc', .slice ca' cn' cc'])
                obtain ⟨x0, x1, x2, x3, x4, x5, x6⟩ := cells7 HW0.out.1
                obtain ⟨y0, y1, y2, y3, y4, y5, y6⟩ := cells7 HW0.out.2.1
                clear x0 x1 x2 x3 x4 x5 x6 y0 y1 y2 y3 y4 y5 y6
                go_enter Try.func26, Try.ntmps26
                go_wp2_with (first
                  | (go_at_call 25; refine (HT.out _ HW0.out.2.2).mono ?_; rintro e w1 ⟨rfl, hb⟩; have HW1 := Lib.hid (HW0.out.later hb); obtain ⟨x0, x1, x2, x3, x4, x5, x6⟩ := cells7 HW1.out.1; obtain ⟨y0, y1, y2, y3, y4, y5, y6⟩ := cells7 HW1.out.2.1; clear hb)
                  | (go_at_call 42; refine (HM.out _ HW1.out.2.2).mono ?_; rintro e w2 ⟨rfl, hb⟩; have HW2 := Lib.hid (HW1.out.later hb); clear x0 x1 x2 x3 x4 x5 x6 y0 y1 y2 y3 y4 y5 y6; obtain ⟨x0, x1, x2, x3, x4, x5, x6⟩ := cells7 HW2.out.1; obtain ⟨y0, y1, y2, y3, y4, y5, y6⟩ := cells7 HW2.out.2.1; clear hb)
                  | (go_at_call 64; refine (HK.out _ HW2.out.2.2).mono ?_; rintro e w3 ⟨rfl, hb⟩; have HW3 := Lib.hid (HW2.out.later hb); clear x0 x1 x2 x3 x4 x5 x6 y0 y1 y2 y3 y4 y5 y6; obtain ⟨x0, x1, x2, x3, x4, x5, x6⟩ := cells7 HW3.out.1; obtain ⟨y0, y1, y2, y3, y4, y5, y6⟩ := cells7 HW3.out.2.1; clear hb))
                go_ret
                exact ⟨rfl, by first | exact HW3.out.2.2 | exact HW2.out.2.2 | exact HW1.out.2.2 | exact HW0.out.2.2⟩
              | true =>
                have HYES0 : Hid (S = S' → R = true) := fun e => HYES.out rfl rfl rfl e rfl rfl rfl
                clear HYES
                have HW0 := Lib.hid (Bx2.first w #[.int .i64 c, .int .i64 s, .string bk, .slice a0 n0 c0, .slice sa sn sc, .slice ma mn mc, .slice ca cn cc] #[.int .i64 c, .int .i64 s, .string bk, .slice a0' n0' c0', .slice sa' sn sc', .slice ma' mn' mc', .slice ca' cn' cc'])
                go_enter Try.func26, Try.ntmps26
                go_wp2_with (first
                  | (go_at_call 25; refine (HT.out _ HW0.out.2.2).mono ?_; rintro e w1 ⟨rfl, hb⟩; have HW1 := Lib.hid (HW0.out.later hb); obtain ⟨x0, x1, x2, x3, x4, x5, x6⟩ := cells7 HW1.out.1; obtain ⟨y0, y1, y2, y3, y4, y5, y6⟩ := cells7 HW1.out.2.1; clear hb)
                  | (go_at_call 42; refine (HM.out _ HW1.out.2.2).mono ?_; rintro e w2 ⟨rfl, hb⟩; have HW2 := Lib.hid (HW1.out.later hb); clear x0 x1 x2 x3 x4 x5 x6 y0 y1 y2 y3 y4 y5 y6; obtain ⟨x0, x1, x2, x3, x4, x5, x6⟩ := cells7 HW2.out.1; obtain ⟨y0, y1, y2, y3, y4, y5, y6⟩ := cells7 HW2.out.2.1; clear hb)
                  | (go_at_call 64; refine (HK.out _ HW2.out.2.2).mono ?_; rintro e w3 ⟨rfl, hb⟩; have HW3 := Lib.hid (HW2.out.later hb); clear x0 x1 x2 x3 x4 x5 x6 y0 y1 y2 y3 y4 y5 y6; obtain ⟨x0, x1, x2, x3, x4, x5, x6⟩ := cells7 HW3.out.1; obtain ⟨y0, y1, y2, y3, y4, y5, y6⟩ := cells7 HW3.out.2.1; clear hb))
                clear x0 x1 x2 x3 x4 x5 x6 y0 y1 y2 y3 y4 y5 y6
                obtain ⟨x0, x1, x2, x3, x4, x5, x6⟩ := cells7 HW3.out.1
                go_loopw [5] (fun i wr => ∃ j : Nat, j ≤ sn ∧ i = .int .i64 j ∧ Hid (Bx2 w #[.int .i64 c, .int .i64 s, .string bk, .slice a0 n0 c0, .slice sa sn sc, .slice ma mn mc, .slice ca cn cc] #[.int .i64 c, .int .i64 s, .string bk, .slice a0' n0' c0', .slice sa' sn sc', .slice ma' mn' mc', .slice ca' cn' cc'] wr) ∧ Hid (∀ k, k < j → S[k]? = S'[k]?)) (fun i _ => sn - (intOf i).toNat)
                case atStart => exact ⟨0, Nat.zero_le _, rfl, HW3.out, fun k hk => by omega⟩
                case round =>
                  clear x0 x1 x2 x3 x4 x5 x6
                  obtain ⟨j, hj, rfl, HWr, HJ⟩ := hrel
                  obtain ⟨_, _, _, _, x4, _, _⟩ := cells7 HWr.out.1
                  obtain ⟨_, _, _, _, y4, _, _⟩ := cells7 HWr.out.2.1
                  by_cases hlt : j < sn
                  · obtain ⟨b, off, nm, sz, al, ll, cl, T1, rfl, q1, hbl, _, u0, u1, u2, hT1⟩ := (HS1.out.later HWr.out.2.2).at j hlt
                    obtain ⟨b', off', nm', sz', al', ll', cl', T2, rfl, q2, hbl', _, v0, v1, v2, hT2⟩ := (HS2.out.later HWr.out.2.2).at j hlt
                    obtain ⟨E, hE⟩ := named (decide (T1 = T2))
                    have HTS : Hid (∀ W, Below wr.heap.size wr W → Calls Try.prog 25 #[.agg #[.slice al ll cl], .agg #[.slice al' ll' cl']] W fun e w' => e = .returned (.bool E) ∧ Below wr.heap.size wr w') := fun W hb => (refTT (hT1.later hb) (hT2.later hb) hE.out).mono fun e w' ⟨h1, h2⟩ => ⟨h1, hb.trans (h2.mono hb.size)⟩
                    have HBw : Hid (Below wr.heap.size wr ((wr.alloc (.cells #[.string nm, .int .i64 sz, .slice al ll cl] 39)).alloc (.cells #[.string nm', .int .i64 sz', .slice al' ll' cl'] 39)).drew) := (((Below.refl _ _).alloc (Nat.le_refl _) _).alloc (by simp) _).drew
                    have HBv : Hid (Below wr.heap.size wr ((wr.alloc (.cells #[.string nm', .int .i64 sz', .slice al' ll' cl'] 39)).alloc (.cells #[.string nm, .int .i64 sz, .slice al ll cl] 39)).drew) := (((Below.refl _ _).alloc (Nat.le_refl _) _).alloc (by simp) _).drew
                    have HJY : Hid (nm = nm' → sz = sz' → E = true → ∀ k, k < j + 1 → S[k]? = S'[k]?) := fun e1 e2 e3 k hk => by
                      by_cases e : k = j
                      · rw [e, q1, q2, e1, e2, of_decide_eq_true (hE.out.trans e3)]
                      · exact HJ.out k (by omega)
                    have HJN : Hid (¬ (nm = nm' ∧ sz = sz' ∧ E = true) → R = false) := fun h => HNO.out fun e => h (by
                      have eS : S = S' := by injection e
                      subst eS
                      have := q1.symm.trans q2
                      injection this with this
                      injection this with e1 this
                      injection this with e2 e3
                      exact ⟨e1, e2, by rw [← hE.out]; exact decide_eq_true e3⟩)
                    clear hE hT1 hT2 q1 q2 HNO HYES0
                    by_cases hnm : nm = nm'
                    · have hse2 := str_yes hnm
                      have hsn2 : (nm.toList != nm'.toList) = false := by rw [bne, hse2]; rfl
                      by_cases hsz : sz = sz'
                      · have hsi : (sz == sz') = true := by rw [beq_iff_eq]; exact hsz
                        have hsi2 : (sz != sz') = false := by rw [bne, hsi]; rfl
                        cases E with
                        | true =>
                          have HJ2 := Lib.hid (HJY.out hnm hsz rfl)
                          clear HJY HJN hnm hsz
                          have hx1 : w.heap.size + 1 < wr.heap.size := HWr.out.2.1.lt
                          have hx0 : w.heap.size < wr.heap.size := HWr.out.1.lt
                          go_wp2
                          go_region
                          all_goals
                            clear hx1 hx0 x4 y4 u0 u1 u2 v0 v1 v2
                            go_wp2_with (first
                              | (go_at_call 25; refine (HTS.out _ HBw.out).mono ?_; rintro e w5 ⟨rfl, hb⟩; have HW5 := Lib.hid (HWr.out.later hb); clear hb)
                              | (go_at_call 25; refine (HTS.out _ HBv.out).mono ?_; rintro e w5 ⟨rfl, hb⟩; have HW5 := Lib.hid (HWr.out.later hb); clear hb))
                            go_roundw
                            case rel => exact ⟨j + 1, by omega, by go_num, HW5.out, HJ2.out⟩
                            case measure => simp [intOf]; omega
                        | false =>
                          obtain rfl := HJN.out (fun h => by cases h.2.2)
                          clear HJY HJN hnm hsz
                          have hx1 : w.heap.size + 1 < wr.heap.size := HWr.out.2.1.lt
                          have hx0 : w.heap.size < wr.heap.size := HWr.out.1.lt
                          go_wp2
                          go_region
                          all_goals
                            clear hx1 hx0 x4 y4 u0 u1 u2 v0 v1 v2
                            go_wp2_with (first
                              | (go_at_call 25; refine (HTS.out _ HBw.out).mono ?_; rintro e w5 ⟨rfl, hb⟩; have HW5 := Lib.hid (HWr.out.later hb); clear hb)
                              | (go_at_call 25; refine (HTS.out _ HBv.out).mono ?_; rintro e w5 ⟨rfl, hb⟩; have HW5 := Lib.hid (HWr.out.later hb); clear hb))
                            go_ret
                            exact ⟨rfl, by first | exact HW5.out.2.2 | exact (HWr.out.later HBw.out).2.2 | exact (HWr.out.later HBv.out).2.2⟩
                      · obtain rfl := HJN.out (fun h => hsz h.2.1)
                        have hsi : (sz == sz') = false := by rw [beq_eq_false_iff_ne]; exact hsz
                        have hsi2 : (sz != sz') = true := by rw [bne, hsi]; rfl
                        clear HJY HJN hnm hsz
                        have hx1 : w.heap.size + 1 < wr.heap.size := HWr.out.2.1.lt
                        have hx0 : w.heap.size < wr.heap.size := HWr.out.1.lt
                        go_wp2
                        go_region
                        all_goals
                          clear hx1 hx0 x4 y4 u0 u1 u2 v0 v1 v2
                          go_wp2_with (first
                            | (go_at_call 25; refine (HTS.out _ HBw.out).mono ?_; rintro e w5 ⟨rfl, hb⟩; have HW5 := Lib.hid (HWr.out.later hb); clear hb)
                            | (go_at_call 25; refine (HTS.out _ HBv.out).mono ?_; rintro e w5 ⟨rfl, hb⟩; have HW5 := Lib.hid (HWr.out.later hb); clear hb))
                          go_ret
                          exact ⟨rfl, by first | exact HW5.out.2.2 | exact (HWr.out.later HBw.out).2.2 | exact (HWr.out.later HBv.out).2.2⟩
                    · obtain rfl := HJN.out (fun h => hnm h.1)
                      have hse2 := str_no hnm
                      have hsn2 : (nm.toList != nm'.toList) = true := by rw [bne, hse2]; rfl
                      clear HJY HJN hnm
                      have hx1 : w.heap.size + 1 < wr.heap.size := HWr.out.2.1.lt
                      have hx0 : w.heap.size < wr.heap.size := HWr.out.1.lt
                      go_wp2
                      go_region
                      all_goals
                        clear hx1 hx0 x4 y4 u0 u1 u2 v0 v1 v2
                        go_wp2_with (first
                          | (go_at_call 25; refine (HTS.out _ HBw.out).mono ?_; rintro e w5 ⟨rfl, hb⟩; have HW5 := Lib.hid (HWr.out.later hb); clear hb)
                          | (go_at_call 25; refine (HTS.out _ HBv.out).mono ?_; rintro e w5 ⟨rfl, hb⟩; have HW5 := Lib.hid (HWr.out.later hb); clear hb))
                        go_ret
                        exact ⟨rfl, by first | exact HW5.out.2.2 | exact (HWr.out.later HBw.out).2.2 | exact (HWr.out.later HBv.out).2.2⟩
                  · obtain rfl : j = sn := by omega
                    obtain rfl : R = true := HYES0.out (list_eq_of HL1.out.1 HL2.out.1 HJ.out)
                    go_wp2
                    go_ret
                    exact ⟨rfl, HWr.out.2.2⟩
        · have hne : ((sn : Int) == (sn' : Int)) = false := by rw [beq_eq_false_iff_ne]; omega
          obtain rfl : R = false := HNO.out (fun e => hn (by have e2 : S = S' := (by injection e); have := hl1.1; have := hl2.1; rw [e2] at *; omega))
          have HW0 := Lib.hid (Bx2.first w #[.int .i64 c, .int .i64 s, .string bk, .slice a0 n0 c0, .slice sa sn sc, .slice ma mn mc, .slice ca cn cc] #[.int .i64 c, .int .i64 s, .string bk, .slice a0' n0' c0', .slice sa' sn' sc', .slice ma' mn' mc', .slice ca' cn' cc'])
          obtain ⟨x0, x1, x2, x3, x4, x5, x6⟩ := cells7 HW0.out.1
          obtain ⟨y0, y1, y2, y3, y4, y5, y6⟩ := cells7 HW0.out.2.1
          clear x0 x1 x2 x3 x4 x5 x6 y0 y1 y2 y3 y4 y5 y6
          go_enter Try.func26, Try.ntmps26
          go_wp2_with (first
            | (go_at_call 25; refine (HT.out _ HW0.out.2.2).mono ?_; rintro e w1 ⟨rfl, hb⟩; have HW1 := Lib.hid (HW0.out.later hb); obtain ⟨x0, x1, x2, x3, x4, x5, x6⟩ := cells7 HW1.out.1; obtain ⟨y0, y1, y2, y3, y4, y5, y6⟩ := cells7 HW1.out.2.1; clear hb)
            | (go_at_call 42; refine (HM.out _ HW1.out.2.2).mono ?_; rintro e w2 ⟨rfl, hb⟩; have HW2 := Lib.hid (HW1.out.later hb); clear x0 x1 x2 x3 x4 x5 x6 y0 y1 y2 y3 y4 y5 y6; obtain ⟨x0, x1, x2, x3, x4, x5, x6⟩ := cells7 HW2.out.1; obtain ⟨y0, y1, y2, y3, y4, y5, y6⟩ := cells7 HW2.out.2.1; clear hb)
            | (go_at_call 64; refine (HK.out _ HW2.out.2.2).mono ?_; rintro e w3 ⟨rfl, hb⟩; have HW3 := Lib.hid (HW2.out.later hb); clear x0 x1 x2 x3 x4 x5 x6 y0 y1 y2 y3 y4 y5 y6; obtain ⟨x0, x1, x2, x3, x4, x5, x6⟩ := cells7 HW3.out.1; obtain ⟨y0, y1, y2, y3, y4, y5, y6⟩ := cells7 HW3.out.2.1; clear hb))
          go_ret
          exact ⟨rfl, by first | exact HW3.out.2.2 | exact HW2.out.2.2 | exact HW1.out.2.2 | exact HW0.out.2.2⟩
      · have hse : (bk.toList == bk'.toList) = false := str_no hbk
        obtain rfl : R = false := HNO.out (fun e => hbk (by injection e))
        have HW0 := Lib.hid (Bx2.first w #[.int .i64 c, .int .i64 s, .string bk, .slice a0 n0 c0, .slice sa sn sc, .slice ma mn mc, .slice ca cn cc] #[.int .i64 c, .int .i64 s, .string bk', .slice a0' n0' c0', .slice sa' sn' sc', .slice ma' mn' mc', .slice ca' cn' cc'])
        obtain ⟨x0, x1, x2, x3, x4, x5, x6⟩ := cells7 HW0.out.1
        obtain ⟨y0, y1, y2, y3, y4, y5, y6⟩ := cells7 HW0.out.2.1
        clear x0 x1 x2 x3 x4 x5 x6 y0 y1 y2 y3 y4 y5 y6
        go_enter Try.func26, Try.ntmps26
        go_wp2_with (first
          | (go_at_call 25; refine (HT.out _ HW0.out.2.2).mono ?_; rintro e w1 ⟨rfl, hb⟩; have HW1 := Lib.hid (HW0.out.later hb); obtain ⟨x0, x1, x2, x3, x4, x5, x6⟩ := cells7 HW1.out.1; obtain ⟨y0, y1, y2, y3, y4, y5, y6⟩ := cells7 HW1.out.2.1; clear hb)
          | (go_at_call 42; refine (HM.out _ HW1.out.2.2).mono ?_; rintro e w2 ⟨rfl, hb⟩; have HW2 := Lib.hid (HW1.out.later hb); clear x0 x1 x2 x3 x4 x5 x6 y0 y1 y2 y3 y4 y5 y6; obtain ⟨x0, x1, x2, x3, x4, x5, x6⟩ := cells7 HW2.out.1; obtain ⟨y0, y1, y2, y3, y4, y5, y6⟩ := cells7 HW2.out.2.1; clear hb)
          | (go_at_call 64; refine (HK.out _ HW2.out.2.2).mono ?_; rintro e w3 ⟨rfl, hb⟩; have HW3 := Lib.hid (HW2.out.later hb); clear x0 x1 x2 x3 x4 x5 x6 y0 y1 y2 y3 y4 y5 y6; obtain ⟨x0, x1, x2, x3, x4, x5, x6⟩ := cells7 HW3.out.1; obtain ⟨y0, y1, y2, y3, y4, y5, y6⟩ := cells7 HW3.out.2.1; clear hb))
        go_ret
        exact ⟨rfl, by first | exact HW3.out.2.2 | exact HW2.out.2.2 | exact HW1.out.2.2 | exact HW0.out.2.2⟩
    · have hse : (s == s') = false := by rw [beq_eq_false_iff_ne]; exact hs
      obtain rfl : R = false := HNO.out (fun e => hs (by injection e))
      have HW0 := Lib.hid (Bx2.first w #[.int .i64 c, .int .i64 s, .string bk, .slice a0 n0 c0, .slice sa sn sc, .slice ma mn mc, .slice ca cn cc] #[.int .i64 c, .int .i64 s', .string bk', .slice a0' n0' c0', .slice sa' sn' sc', .slice ma' mn' mc', .slice ca' cn' cc'])
      obtain ⟨x0, x1, x2, x3, x4, x5, x6⟩ := cells7 HW0.out.1
      obtain ⟨y0, y1, y2, y3, y4, y5, y6⟩ := cells7 HW0.out.2.1
      clear x0 x1 x2 x3 x4 x5 x6 y0 y1 y2 y3 y4 y5 y6
      go_enter Try.func26, Try.ntmps26
      go_wp2_with (first
        | (go_at_call 25; refine (HT.out _ HW0.out.2.2).mono ?_; rintro e w1 ⟨rfl, hb⟩; have HW1 := Lib.hid (HW0.out.later hb); obtain ⟨x0, x1, x2, x3, x4, x5, x6⟩ := cells7 HW1.out.1; obtain ⟨y0, y1, y2, y3, y4, y5, y6⟩ := cells7 HW1.out.2.1; clear hb)
        | (go_at_call 42; refine (HM.out _ HW1.out.2.2).mono ?_; rintro e w2 ⟨rfl, hb⟩; have HW2 := Lib.hid (HW1.out.later hb); clear x0 x1 x2 x3 x4 x5 x6 y0 y1 y2 y3 y4 y5 y6; obtain ⟨x0, x1, x2, x3, x4, x5, x6⟩ := cells7 HW2.out.1; obtain ⟨y0, y1, y2, y3, y4, y5, y6⟩ := cells7 HW2.out.2.1; clear hb)
        | (go_at_call 64; refine (HK.out _ HW2.out.2.2).mono ?_; rintro e w3 ⟨rfl, hb⟩; have HW3 := Lib.hid (HW2.out.later hb); clear x0 x1 x2 x3 x4 x5 x6 y0 y1 y2 y3 y4 y5 y6; obtain ⟨x0, x1, x2, x3, x4, x5, x6⟩ := cells7 HW3.out.1; obtain ⟨y0, y1, y2, y3, y4, y5, y6⟩ := cells7 HW3.out.2.1; clear hb))
      go_ret
      exact ⟨rfl, by first | exact HW3.out.2.2 | exact HW2.out.2.2 | exact HW1.out.2.2 | exact HW0.out.2.2⟩
  · have hce : (c == c') = false := by rw [beq_eq_false_iff_ne]; exact hc
    obtain rfl : R = false := HNO.out (fun e => hc (by injection e))
    have HW0 := Lib.hid (Bx2.first w #[.int .i64 c, .int .i64 s, .string bk, .slice a0 n0 c0, .slice sa sn sc, .slice ma mn mc, .slice ca cn cc] #[.int .i64 c', .int .i64 s', .string bk', .slice a0' n0' c0', .slice sa' sn' sc', .slice ma' mn' mc', .slice ca' cn' cc'])
    obtain ⟨x0, x1, x2, x3, x4, x5, x6⟩ := cells7 HW0.out.1
    obtain ⟨y0, y1, y2, y3, y4, y5, y6⟩ := cells7 HW0.out.2.1
    clear x0 x1 x2 x3 x4 x5 x6 y0 y1 y2 y3 y4 y5 y6
    go_enter Try.func26, Try.ntmps26
    go_wp2_with (first
      | (go_at_call 25; refine (HT.out _ HW0.out.2.2).mono ?_; rintro e w1 ⟨rfl, hb⟩; have HW1 := Lib.hid (HW0.out.later hb); obtain ⟨x0, x1, x2, x3, x4, x5, x6⟩ := cells7 HW1.out.1; obtain ⟨y0, y1, y2, y3, y4, y5, y6⟩ := cells7 HW1.out.2.1; clear hb)
      | (go_at_call 42; refine (HM.out _ HW1.out.2.2).mono ?_; rintro e w2 ⟨rfl, hb⟩; have HW2 := Lib.hid (HW1.out.later hb); clear x0 x1 x2 x3 x4 x5 x6 y0 y1 y2 y3 y4 y5 y6; obtain ⟨x0, x1, x2, x3, x4, x5, x6⟩ := cells7 HW2.out.1; obtain ⟨y0, y1, y2, y3, y4, y5, y6⟩ := cells7 HW2.out.2.1; clear hb)
      | (go_at_call 64; refine (HK.out _ HW2.out.2.2).mono ?_; rintro e w3 ⟨rfl, hb⟩; have HW3 := Lib.hid (HW2.out.later hb); clear x0 x1 x2 x3 x4 x5 x6 y0 y1 y2 y3 y4 y5 y6; obtain ⟨x0, x1, x2, x3, x4, x5, x6⟩ := cells7 HW3.out.1; obtain ⟨y0, y1, y2, y3, y4, y5, y6⟩ := cells7 HW3.out.2.1; clear hb))
    go_ret
    exact ⟨rfl, by first | exact HW3.out.2.2 | exact HW2.out.2.2 | exact HW1.out.2.2 | exact HW0.out.2.2⟩
end Go.Proofs.Ytjaaieamlgghhaa
namespace Go.Proofs.Ytjaaieamlgghhaa
open Go.RowKit
set_option linter.unusedVariables false

section
variable {w0 W W' : World} {L4 lo H : Nat} {cs os : Array Value} {ax : Option Addr} {nx cx : Nat} {T : Tb} {sax : Option Addr} {snx scx : Nat} {ds : List Sh} {max : Option Addr} {mnx mcx : Nat} {B : List BmM} {cax : Option Addr} {cnx ccx : Nat} {K : List Int}
/-- A copy in a box, whatever the box holds. -/
theorem Ad.boxed {w4 : World} (hC : Cp w0 w0.heap.size cs #[.int .i64 0, .int .i64 0, .string ByteArray.empty, .slice none 0 0, .slice none 0 0, .slice none 0 0, .slice none 0 0] w4) {base H0 : Nat} {x : Mt} {M : MM} (h : MetaN w4 base (Iv base H0) (From H0) x M) (hb : w0.heap.size ≤ base) : ∃ ds H, ds.map shM = M.S ∧ x.sn ≤ 1000 ∧ (∀ d ∈ M.S, ShMok d) ∧ ds.length = x.sn ∧ ∀ os, Ad w0 w4.heap.size base H cs os x.a0 x.n0 x.c0 M.T x.sa x.sn x.sc ds x.ma x.mn x.mc M.B x.ca x.cn x.cc M.K (w4.alloc (.cells os 29)) := by
  obtain ⟨_, _, _, hT, ⟨ds, hO, hS, hE, h1k, hSo⟩, hB, hK⟩ := h
  refine ⟨ds, H0, hE, h1k, hSo, hO.2.1, fun os => ?_⟩
  have k := KeepL.later L6 ((Below.refl _ w4).alloc (Nat.le_refl _) (.cells os 29))
  exact ⟨hC.later ((Below.refl _ w4).alloc (Nat.le_refl _) _), Blk.new w4 _ _, hC.size, (hT.mono hb (fun k _ h => h)).keep (by decide) (by decide) k, (hO.monoB hb).keep (L := L6) (by decide) k, fun d hd => ((hS d hd).mono hb (fun k _ h => Or.inr h)).keep (L := L6) (by decide) (by decide) k, (hB.mono hb).keep (by decide) (by decide) k, (hK.mono hb).keep (by decide) k⟩
/-- Another table. -/
theorem Ad.setT (h : Ad w0 L4 lo H cs os ax nx cx T sax snx scx ds max mnx mcx B cax cnx ccx K W) (hb : Below W.heap.size W W') {ta : Option Addr} {ll tc : Nat} {T' : Tb} (ht : TabN W' W.heap.size ta ll tc T') : Ad w0 L4 W.heap.size W'.heap.size cs os ta ll tc T' sax snx scx ds max mnx mcx B cax cnx ccx K W' := by
  have h' := h.later hb
  have k := KeepL.later L6 hb
  exact ⟨h'.cp, h'.ob, h'.far, ht.f.mono h.cp.dat.size (fun k _ h => h), h'.row, fun d hd => ((h.tabs d hd).clip.mono (G := Out W.heap.size W'.heap.size) (Nat.le_refl _) (fun k _ h => Or.inl h.2)).keep (L := L6) (by decide) (by decide) k, h'.B, h'.K⟩
/-- Other bitmaps. -/
theorem Ad.setB (h : Ad w0 L4 lo H cs os ax nx cx T sax snx scx ds max mnx mcx B cax cnx ccx K W) {ma : Option Addr} {mn mc : Nat} {B' : List BmM} (hB : BmsN W w0.heap.size ma mn mc B') : Ad w0 L4 lo H cs os ax nx cx T sax snx scx ds ma mn mc B' cax cnx ccx K W :=
  ⟨h.cp, h.ob, h.far, h.T, h.row, h.tabs, hB, h.K⟩
end
theorem subL_norm (l : List Sp) (s : Sp) : norm (subL l s) = subL l s := norm_of (subL_right l s)
theorem add_absorb (l : List Sp) (s t : Sp) (h1 : t.1 ≤ s.1) (h2 : s.2 ≤ t.2) (h3 : 0 ≤ t.1) (h4 : t.2 ≤ 1073741824) : addL (addL l s) t = addL l t := by
  by_cases ht : mayB t = true
  · refine same_list _ _ (addL_right _ _) (addL_right _ _) fun n => ?_
    rw [addL_in _ _ ht, addL_in _ _ ht, norm_of (addL_right l s)]
    by_cases hs : mayB s = true
    · rw [addL_in _ _ hs]
      constructor
      · rintro ((h | h) | h)
        · exact Or.inl h
        · exact Or.inr (by omega)
        · exact Or.inr h
      · rintro (h | h)
        · exact Or.inl (Or.inl h)
        · exact Or.inr h
    · have e : addL l s = norm l := by unfold addL; rw [if_neg hs]
      rw [e]
  · have e : ∀ m, addL m t = norm m := fun m => by unfold addL; rw [if_neg ht]
    rw [e, e]
    by_cases hs : mayB s = true
    · exfalso
      have h5 := (mayB_iff s).1 hs
      rw [mayB_iff] at ht
      omega
    · have e2 : addL l s = norm l := by unfold addL; rw [if_neg hs]
      rw [e2, norm_of (norm_right l)]
theorem touch_size (B : List BmM) (was now : Int) (h0 : 0 ≤ was) (h1 : now ≤ 1073741824) : (B.map (sizeF was now)).map (touchF (0, now)) = setAll B now := by
  unfold setAll
  rw [List.map_map]
  refine List.map_congr_left fun b _ => ?_
  obtain ⟨nm, on, l⟩ := b
  simp only [Function.comp, touchF, sizeF, setA]
  cases on with
  | false => simp
  | true =>
    by_cases hw : was < now
    · simp [hw, add_absorb (subL l (now, 1073741824)) (was, now) (0, now) h0 (Int.le_refl _) (Int.le_refl _) h1]
    · simp [hw]
set_option maxRecDepth 100000 in
set_option maxHeartbeats 3200000 in
theorem refBack (w : World) (x : Mt) (M : MM) (h : MetaD w x M) (hmi : Mild M) (nm : ByteArray) : Calls Try.prog 20 #[.agg (mtA M x), .string nm] w (GiveM w (backM M nm)) := by
  obtain ⟨RM, hRM⟩ := named (backM M nm)
  rw [hRM.out]
  have HP := Lib.hid (fun W (hb : Below w.heap.size w W) (r : Int) hr => refShot W x M (h.later hb) nm (r := r) hr)
  have HCM := Lib.hid (fun W (hb : Below w.heap.size w W) => refCopy W x M (h.later hb))
  have HD := Lib.hid h
  clear h
  obtain ⟨a0, n0, c0, sa, sn, sc, ma, mn, mc, ca, cn, cc⟩ := x
  obtain ⟨c, s, bk, T, S, B, K⟩ := M
  dsimp only [mtA] at *
  have hl := HD.out.S.lens
  dsimp only at hl
  have hRR := hRM.out
  unfold backM at hRR
  dsimp only at hRR
  rcases fndS_cases nm S with ⟨hr, _⟩ | ⟨i, ⟨n1, sz, T1⟩, hr, hi, hnm, hil, _⟩
  · have HC0 := Lib.hid (Cp.first w #[.int .i64 c, .int .i64 s, .string bk, .slice a0 n0 c0, .slice sa sn sc, .slice ma mn mc, .slice ca cn cc] #[.int .i64 0, .int .i64 0, .string ByteArray.empty, .slice none 0 0, .slice none 0 0, .slice none 0 0, .slice none 0 0])
    rw [if_pos (by rw [hr]; omega)] at hRR
    subst hRR
    have HP1 := Lib.hid (fun W hb => HP.out W hb (-1) hr)
    clear hl hr HP HCM hRM hmi
    go_enter Try.func20, Try.ntmps20
    go_wp2_with (first
      | (go_at_call 52; refine (HP1.out _ HC0.out.dat).mono ?_; rintro e w2 ⟨rfl, hb⟩; have HC2 := Lib.hid (HC0.out.later hb); obtain ⟨p0, p1, p2, p3, p4, p5, p6⟩ := cells7 HC2.out.r; obtain ⟨q0, q1, q2, q3, q4, q5, q6⟩ := free7 HC2.out.r; clear hb))
    have HF := HC2.out.zero
    exact bodyPost_ret (results_cell_tmp rfl _ _ (w.heap.size + 1) 29 #[.int .i64 0, .int .i64 0, .string ByteArray.empty, .slice none 0 0, .slice none 0 0, .slice none 0 0, .slice none 0 0] (0, 0) _ rfl (.int .i64 4) rfl HF.r Try.underlying29 rfl meta_size) rfl (GiveM.zero 4 HF)
  · rw [if_neg (by rw [hr]; omega), hr, Int.toNat_natCast, atS_is hi] at hRR
    dsimp only at hRR hnm
    subst hnm
    obtain ⟨now, hnow⟩ := named (clN sz c)
    obtain ⟨was, hwas⟩ := named (clN s c)
    rw [hnow.out] at hRR
    have hin : i < sn := by omega
    obtain ⟨b, off, n1', sz', al, ll, cl, T', e0, hSi, hb, hok, x0, x1, x2, hT⟩ := HD.out.S.at i hin
    obtain rfl : sa = some ⟨b, off, none⟩ := e0
    rw [hi] at hSi
    cases hSi
    have HC0 := Lib.hid (Cp.first w #[.int .i64 c, .int .i64 s, .string bk, .slice a0 n0 c0, .slice (some ⟨b, off, none⟩) sn sc, .slice ma mn mc, .slice ca cn cc] #[.int .i64 0, .int .i64 0, .string ByteArray.empty, .slice none 0 0, .slice none 0 0, .slice none 0 0, .slice none 0 0])
    have HP1 := Lib.hid (fun W hb => HP.out W hb i hr)
    have di : decide ((i : Int) < 0) = false := decide_eq_false (by omega)
    have hi1000 : i ≤ 1000 := by omega
    have hnb : 0 ≤ now ∧ now ≤ 1073741824 := hnow.out ▸ clN_bd (hmi.S _ (List.mem_of_getElem? hi))
    have hwb : 0 ≤ was ∧ was ≤ 1073741824 := hwas.out ▸ clN_bd hmi.s
    have HNB := Lib.hid hnb
    have HWB' := Lib.hid hwb
    have HMB := Lib.hid hmi.B
    have HXX : Hid (∀ W, Below w.heap.size w W → W.cell? ⟨b, off + i * 3, none⟩ = some (.string n1) ∧ W.cell? ⟨b, off + i * 3 + 1, none⟩ = some (.int .i64 sz) ∧ W.cell? ⟨b, off + i * 3 + 2, none⟩ = some (.slice al ll cl)) := fun W hw => ⟨(hw.cell (p := ⟨b, off + i * 3, none⟩) hb).trans x0, (hw.cell (p := ⟨b, off + i * 3 + 1, none⟩) hb).trans x1, (hw.cell (p := ⟨b, off + i * 3 + 2, none⟩) hb).trans x2⟩
    have HCT := Lib.hid (fun W (hb : Below w.heap.size w W) => copyT W (hT.later hb))
    have HK1 := Lib.hid (fun W => refClusters s c HD.out.hs hmi.c hwas.out W)
    have HK2 := Lib.hid (fun W => refClusters sz c hok.1 hmi.c hnow.out W)
    have HOK := Lib.hid hok.1
    clear hl hr HP hRM hi hil hmi hnb hwb x0 x1 x2 hT hok hb
    go_enter Try.func20, Try.ntmps20
    go_wp2_with (first
      | (go_at_call 52; refine (HP1.out _ HC0.out.dat).mono ?_; rintro e w2 ⟨rfl, hb⟩; have HC2 := Lib.hid (HC0.out.later hb); obtain ⟨x0, x1, x2, x3, x4, x5, x6⟩ := cells7 HC2.out.m; clear hb)
      | (go_at_call 16; refine (HCM.out _ HC2.out.dat).mono ?_; rintro e w4 ⟨⟨ax, nx, cx, sax, snx, scx, max, mnx, mcx, cax, cnx, ccx⟩, H0, rfl, hm, hb⟩; obtain ⟨ds, H, hE, h1k, hSo, hdl, hA⟩ := Ad.boxed (HC2.out.later hb) hm HC2.out.dat.size; dsimp only [mtA] at hE h1k hSo hdl hA ⊢; have HE4 := Lib.hid hE; have HSO := Lib.hid hSo; have HDL := Lib.hid hdl; have HA := Lib.hid (hA #[.int .i64 c, .int .i64 s, .string bk, .slice ax nx cx, .slice sax snx scx, .slice max mnx mcx, .slice cax cnx ccx]); have HA1 := Lib.hid (hA #[.int .i64 c, .int .i64 sz, .string bk, .slice ax nx cx, .slice sax snx scx, .slice max mnx mcx, .slice cax cnx ccx]); obtain ⟨x0', x1', x2', x3', x4', x5', x6'⟩ := cells7 HA.out.cp.m; obtain ⟨y0, y1, y2⟩ := HXX.out _ HA.out.cp.dat; obtain ⟨u0', u1', u2', u3', u4', u5', u6'⟩ := cells7 HA1.out.cp.m; obtain ⟨v0, v1, v2⟩ := HXX.out _ HA1.out.cp.dat; clear hb hm hE hSo hdl hA x0 x1 x2 x3 x4 x5 x6)
      | (go_at_call 55; refine (HCT.out _ HA1.out.cp.dat).mono ?_; rintro e w5 ⟨ta, tc, rfl, ht, hb⟩; have HA5 := Lib.hid (HA1.out.setT hb ht); have HA6 := Lib.hid (HA5.out.store 3 (.slice ta ll tc)); obtain ⟨y0, y1, y2, y3, y4, y5, y6⟩ := cells7 HA5.out.ob; have y3f := HA5.out.ob.free 3; clear ht hb x0' x1' x2' x3' x4' x5' x6' u0' u1' u2' u3' u4' u5' u6'))
    obtain ⟨W6, hW6⟩ := named (w5.setCell ⟨w4.heap.size, 3, none⟩ (.slice ta ll tc))
    rw [hW6.out]
    have HA7 : Hid (Ad w w4.heap.size (w4.alloc (.cells #[.int .i64 c, .int .i64 sz, .string bk, .slice ax nx cx, .slice sax snx scx, .slice max mnx mcx, .slice cax cnx ccx] 29)).heap.size w5.heap.size #[.int .i64 c, .int .i64 s, .string bk, .slice a0 n0 c0, .slice (some ⟨b, off, none⟩) sn sc, .slice ma mn mc, .slice ca cn cc] #[.int .i64 c, .int .i64 sz, .string bk, .slice ta ll tc, .slice sax snx scx, .slice max mnx mcx, .slice cax cnx ccx] ta ll tc T1 sax snx scx ds max mnx mcx B cax cnx ccx K W6) := by rw [← hW6.out]; exact HA6.out
    clear y0 y1 y2 y3 y4 y5 y6 y3f HA6 hW6
    have HKP : Hid (W6.cell? ⟨w.heap.size, 0, none⟩ = some (.int .i64 c) ∧ W6.cell? ⟨w.heap.size, 1, none⟩ = some (.int .i64 s) ∧ W6.cell? ⟨w4.heap.size, 1, none⟩ = some (.int .i64 sz)) := ⟨HA7.out.cp.m.cell 0, HA7.out.cp.m.cell 1, HA7.out.ob.cell 1⟩
    have HKD : Hid (W6.drew.cell? ⟨w.heap.size, 0, none⟩ = some (.int .i64 c) ∧ W6.drew.cell? ⟨w.heap.size, 1, none⟩ = some (.int .i64 s) ∧ W6.drew.cell? ⟨w4.heap.size, 1, none⟩ = some (.int .i64 sz)) := HKP.out
    go_region_held3 (fun W => W.cell? ⟨w.heap.size, 0, none⟩ = some (.int .i64 c) ∧ W.cell? ⟨w.heap.size, 1, none⟩ = some (.int .i64 s) ∧ W.cell? ⟨w4.heap.size, 1, none⟩ = some (.int .i64 sz)) (first | assumption | exact HKP.out | exact HKD.out) (first
      | (go_at_call 62; with_reducible refine (HK1.out _).mono ?_; rintro e w6 ⟨rfl, rfl⟩)
      | (go_at_call 62; with_reducible refine (HK2.out _).mono ?_; rintro e w6 ⟨rfl, rfl⟩))
    have HA8 := Lib.hid (HA7.out.later (Below.refl _ _).drew)
    obtain ⟨W8, hW8⟩ := named W6.drew
    rw [hW8.out] at HA8 ⊢
    clear hW8 HKP HKD HA7
    obtain ⟨y0, y1, y2, y3, y4, y5, y6⟩ := cells7 HA8.out.ob
    have HSZ := Lib.hid (refSize W8 max mnx mcx B HA8.out.B.d (fun b hb => HMB.out b hb) was now HWB'.out HNB.out)
    have HTO := Lib.hid (fun W a1 c1 (hB : BmsD W a1 mnx c1 (B.map (sizeF was now))) => refTouch W a1 mnx c1 _ hB (fun b hb => by
      obtain ⟨b', hb', rfl⟩ := List.mem_map.1 hb
      have h1 := HMB.out b' hb'
      have h2 := subL_len b'.2.2 (now, 1073741824)
      have h3 := addL_len (subL b'.2.2 (now, 1073741824)) (was, now)
      unfold sizeF
      dsimp only
      split <;> omega) 0 now)
    rw [touch_size B was now HWB'.out.1 HNB.out.2] at HTO
    go_wp2_with (first
      | (go_at_call 46; refine HSZ.out.mono ?_; rintro e w9 ⟨a9, c9, rfl, hB, hb⟩; have HA9 := Lib.hid (HA8.out.later hb); have HB9 := Lib.hid hB; clear hB hb)
      | (go_at_call 31; refine (HTO.out _ _ _ HB9.out.d).mono ?_; rintro e w10 ⟨a10, c10, rfl, hB, hb⟩; have HA10 := Lib.hid ((HA9.out.later hb).setB (hB.mono HA9.out.cp.dat.size)); have HA11 := Lib.hid (HA10.out.store 5 (.slice a10 mnx c10)); have hne1 : w.heap.size + 1 ≠ w4.heap.size := (by have := HA10.out.far; omega); have hne2 : w4.heap.size ≠ w.heap.size + 1 := (by have := HA10.out.far; omega); clear y0 y1 y2 y3 y4 y5 y6; obtain ⟨y0, y1, y2, y3, y4, y5, y6⟩ := cells7 HA10.out.ob; have y5f := HA10.out.ob.free 5; obtain ⟨p0, p1, p2, p3, p4, p5, p6⟩ := cells7 HA10.out.cp.r; obtain ⟨q0, q1, q2, q3, q4, q5, q6⟩ := free7 HA10.out.cp.r; clear hB hb))
    subst hRR
    have g7 := grown7 (w10.setCell ⟨w4.heap.size, 5, none⟩ (.slice a10 mnx c10)) (w.heap.size + 1) (.int .i64 c) (.int .i64 sz) (.string bk) (.slice ta ll tc) (.slice sax snx scx) (.slice a10 mnx c10) (.slice cax cnx ccx)
    have r9 := HA11.out.cp.r.set7 (.int .i64 c) (.int .i64 sz) (.string bk) (.slice ta ll tc) (.slice sax snx scx) (.slice a10 mnx c10) (.slice cax cnx ccx)
    exact bodyPost_ret (results_cell_tmp rfl _ _ (w.heap.size + 1) 29 #[.int .i64 c, .int .i64 sz, .string bk, .slice ta ll tc, .slice sax snx scx, .slice a10 mnx c10, .slice cax cnx ccx] (0, 0) _ rfl (.int .i64 0) rfl r9 Try.underlying29 rfl meta_size) rfl (HA11.out.give c sz bk S HD.out.hc HOK.out HD.out.hbk HE4.out h1k HSO.out g7)
end Go.Proofs.Ytjaaieamlgghhaa
namespace Go.Proofs.Ytjaaieamlgghhaa
open Go.RowKit
set_option linter.unusedVariables false

set_option maxRecDepth 20000 in
set_option maxHeartbeats 3200000 in
theorem refRight12 (w : World) (x : Mt) (M : MM) (h : MetaD w x M) (hK6 : x.cn ≤ 65536) : Calls Try.prog 14 #[.agg (mtA M x)] w (RightE (RightMt M) w) := by
  have hKl : M.K.length = x.cn := h.K.1.1
  by_cases hcr : 0 ≤ M.c ∧ M.c ≤ 6
  · by_cases h8 : M.S.length ≤ 8 ∧ M.B.length ≤ 8
    · exact refRight_main w x M h hcr h8.1 h8.2 (by omega)
    · have hno : Hid (RightMt M → false = true) := fun hr => absurd ⟨hr.nS, hr.nB⟩ h8
      obtain ⟨P, hP⟩ := named (RightMt M)
      rw [hP.out] at hno ⊢
      have hsl := h.S.lens
      have hml := h.B.lens
      obtain ⟨a0, n0, c0, sa, sn, sc, ma, mn, mc, ca, cn, cc⟩ := x
      obtain ⟨c, s, bk, T, S, B, K⟩ := M
      obtain ⟨hc, hs, hbk, hT, hS, hB, hK⟩ := h
      dsimp only [mtA] at hc hs hbk hcr h8 hsl hml hK6 hKl ⊢
      have HRT := Lib.hid (RtS.first w #[.int .i64 c, .int .i64 s, .string bk, .slice a0 n0 c0, .slice sa sn sc, .slice ma mn mc, .slice ca cn cc])
      have HSZ := Lib.hid (fun (n : Int) (hn : I64 n) (w : World) => szQ n c hn hcr w)
      have HNB := Lib.hid (fun (w : World) => nmQ bk hbk w)
      have dc1 : decide (c < 0) = false := decide_eq_false (by omega)
      have dc2 : decide (6 < c) = false := decide_eq_false (by omega)
      have dc3 : decide ((65536 : Int) < cn) = false := decide_eq_false (by omega)
      have HI := Lib.hid hs
      have hcs : decide ((8 : Int) < sn) = true ∨ (decide ((8 : Int) < sn) = false ∧ decide ((8 : Int) < mn) = true) := by
        rcases Nat.lt_or_ge 8 sn with h | h
        · exact Or.inl (decide_eq_true (by omega))
        · exact Or.inr ⟨decide_eq_false (by omega), decide_eq_true (by omega)⟩
      have hsn := hsl.2
      have hmn := hml.2
      clear hcr hs hbk hc hT hS hB hK h8 hKl hsl hml hP
      rcases hcs with k1 | ⟨k1, k2⟩
      all_goals
        go_enter Try.func14, Try.ntmps14
        cases he : bk.toList.isEmpty
      all_goals
        go_wp2_with (first
          | (go_at_call 50; refine (HSZ.out _ HI.out _).mono ?_; rintro e w1 ⟨B, rfl, h, hr⟩; have HRT := Lib.hid (HRT.out.later h); obtain ⟨m0, m1, m2, m3, m4, m5, m6⟩ := cells7 HRT.out.box; clear h hr; cases B)
          | (go_at_call 51; refine (HNB.out _).mono ?_; rintro e w2 ⟨B, rfl, h, hr⟩; have HRT := Lib.hid (HRT.out.later h); obtain ⟨m0, m1, m2, m3, m4, m5, m6⟩ := cells7 HRT.out.box; clear h hr; cases B))
      all_goals (go_ret; exact RightE.no rfl HRT.out.below hno.out)
  · have hno : Hid (RightMt M → false = true) := fun hr => absurd hr.c hcr
    obtain ⟨P, hP⟩ := named (RightMt M)
    rw [hP.out] at hno ⊢
    obtain ⟨a0, n0, c0, sa, sn, sc, ma, mn, mc, ca, cn, cc⟩ := x
    obtain ⟨c, s, bk, T, S, B, K⟩ := M
    dsimp only [mtA] at hcr ⊢
    have HB : Hid (Below w.heap.size w (w.alloc (.cells #[.int .i64 c, .int .i64 s, .string bk, .slice a0 n0 c0, .slice sa sn sc, .slice ma mn mc, .slice ca cn cc] 29))) := (Below.refl _ _).alloc (Nat.le_refl _) _
    have hcs : c < 0 ∨ (¬ c < 0 ∧ 6 < c) := by omega
    clear hcr h hKl hK6 hP
    rcases hcs with k1 | ⟨k1, k2⟩
    all_goals
      go_enter Try.func14, Try.ntmps14
      go_wp2
      go_ret
      exact RightE.no rfl HB.out hno.out
end Go.Proofs.Ytjaaieamlgghhaa
namespace Go.Proofs.Ytjaaieamlgghhaa
open Go.RowKit
set_option linter.unusedVariables false

theorem fnd_at {M : MM} (h : RightMt M) {k : Nat} {d : ShM} (hk : M.S[k]? = some d) : fndS d.1 M.S = k := (h.S k d hk).2.1
theorem dropM_at {M : MM} (h : RightMt M) {k : Nat} {d : ShM} (hk : M.S[k]? = some d) : dropM M d.1 = ({ M with S := M.S.take k ++ M.S.drop (k + 1) }, 0) := by
  unfold dropM
  rw [fnd_at h hk, if_neg (by omega)]
  rfl
theorem gone_at {M : MM} (h : RightMt M) {k : Nat} {d : ShM} (hk : M.S[k]? = some d) : fndS d.1 (M.S.take k ++ M.S.drop (k + 1)) = -1 := by
  refine fndS_none fun e he hn => ?_
  rcases List.mem_append.1 he with h1 | h1
  · obtain ⟨i, hi⟩ := List.getElem?_of_mem h1
    have hl := (List.getElem?_eq_some_iff.1 hi).1
    rw [List.length_take] at hl
    rw [List.getElem?_take_of_lt (by omega)] at hi
    have a := fnd_at h hi
    rw [hn, fnd_at h hk] at a
    omega
  · obtain ⟨i, hi⟩ := List.getElem?_of_mem h1
    rw [List.getElem?_drop] at hi
    have a := fnd_at h hi
    rw [hn, fnd_at h hk] at a
    omega
theorem left_at {S : List ShM} {k i : Nat} (hk : k < S.length) (hi : i < S.length - 1) : (S.take k ++ S.drop (k + 1))[i]? = S[if k ≤ i then i + 1 else i]? := by
  by_cases h : k ≤ i
  · rw [if_pos h, List.getElem?_append_right (by rw [List.length_take]; omega), List.getElem?_drop, List.length_take]
    congr 1
    omega
  · rw [if_neg h, List.getElem?_append_left (by rw [List.length_take]; omega), List.getElem?_take_of_lt (by omega)]
end Go.Proofs.Ytjaaieamlgghhaa
namespace Go.Proofs.Ytjaaieamlgghhaa
open Go.RowKit
set_option linter.unusedVariables false

theorem mild_of {M : MM} (h : RightMt M) (hB : ∀ b ∈ M.B, b.2.2.length ≤ 500) : Mild M :=
  ⟨h.c, by have := h.s.2.1; omega, fun d hd => by
    obtain ⟨i, hi⟩ := List.getElem?_of_mem hd
    have := (h.S i d hi).2.2.1.2.1
    omega, fun b hb => by have := hB b hb; omega⟩
theorem addM_z (M : MM) (nm : ByteArray) : I64 (addM M nm).2 := by
  unfold addM I64
  split
  · dsimp only; omega
  · split
    · dsimp only; omega
    · split <;> (dsimp only; omega)
theorem dropM_z (M : MM) (nm : ByteArray) : I64 (dropM M nm).2 := by
  unfold dropM I64
  split <;> (dsimp only; omega)
theorem backM_z (M : MM) (nm : ByteArray) : I64 (backM M nm).2 := by
  unfold backM I64
  split <;> (dsimp only; omega)
theorem sameM {w1 w2 w : World} {x y : Mt} {M : MM} (h1 : MetaD w1 x M) (h2 : MetaD w2 y M) (b1 : Below w1.heap.size w1 w) (b2 : Below w2.heap.size w2 w) : Calls Try.prog 26 #[.agg (mtA M x), .agg (mtA M y)] w fun e w' => e = .returned (.bool true) ∧ Below w.heap.size w w' :=
  refSame (h1.later b1) (h2.later b2) (Iff.intro (fun _ => rfl) (fun _ => rfl))
end Go.Proofs.Ytjaaieamlgghhaa
