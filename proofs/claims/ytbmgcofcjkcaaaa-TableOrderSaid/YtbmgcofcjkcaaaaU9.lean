/-
  What the reference's Cut answers (layer 8). Conditions: the table reads, no more than 6000 leaves; the place is an int.
-/
import Derived.Test.YtbmgcofcjkcaaaaT9
import Derived.Test.YtbmgcofcjkcaaaaC9
namespace Go.Proofs.Ytbmgcofcjkcaaaa
open Go.RowKit
set_option linter.unusedVariables false

/-- The table with nothing from n to i. -/
def CutTo (T T' : Tb) (c : Int) (n i : Nat) : Prop := rightT T' 4096 c ∧ ∀ j, atN T' j = if n ≤ j ∧ j < i then enZ else atN T j
theorem CutTo.first {T : Tb} {c : Int} (h : rightT T 4096 c) (n : Nat) : CutTo T T c n n := ⟨h, fun j => by rw [if_neg (by omega)]⟩
theorem CutTo.skip {T T' : Tb} {c : Int} {n i : Nat} (h : CutTo T T' c n i) (h0 : (atN T' i).1 = 0) (hm : ∀ j, MayE (atN T' j) c) : CutTo T T' c n (i + 1) := by
  refine ⟨h.1, fun j => ?_⟩
  by_cases hj : j = i
  · subst hj
    have e := none_is (hm j) h0
    by_cases h1 : n ≤ j
    · rw [if_pos (by omega), e]
    · rw [if_neg (by omega), h.2 j, if_neg (by omega)]
  · rw [h.2 j]
    by_cases h1 : n ≤ j ∧ j < i
    · rw [if_pos h1, if_pos (by omega)]
    · rw [if_neg h1, if_neg (by omega)]
theorem CutTo.set {T T' : Tb} {c : Int} {n i : Nat} (h : CutTo T T' c n i) (hn : n ≤ i) (hi : i < 4096) : CutTo T (setT T' i enZ) c n (i + 1) := by
  obtain ⟨g1, g2⟩ := setT_at h.1 (none_may h.1.2.1) (i := (i : Int)) (by omega)
  rw [Int.toNat_natCast] at g2
  refine ⟨g1, fun j => ?_⟩
  rw [g2]
  by_cases hj : j = i
  · subst hj
    rw [if_pos rfl, if_pos (by omega)]
  · rw [if_neg hj, h.2 j]
    by_cases h1 : n ≤ j ∧ j < i
    · rw [if_pos h1, if_pos (by omega)]
    · rw [if_neg h1, if_neg (by omega)]
theorem right_may {T : Tb} {c : Int} (h : rightT T 4096 c) (j : Nat) : MayE (atN T j) c := by
  unfold atN
  rcases h.ok (j / 8) with e | ⟨h1, h2⟩
  · rw [e, lfAt_nil]
    exact none_may h.2.1
  · exact h2 _ (Nat.mod_lt _ (by omega))
theorem CutTo.all {T T' : Tb} {c : Int} {n : Int} {i : Nat} (h : CutTo T T' c n.toNat i) (hr : rightT T 4096 c) (hi : T.length * 8 ≤ i ∨ (i = n.toNat ∧ T.length * 8 ≤ n.toNat)) : T' = cutT T n := by
  obtain ⟨g1, g2⟩ := cutT_at hr n
  refine right_ext h.1 g1 fun j => ?_
  rw [h.2, g2]
  have hz : T.length * 8 ≤ j → atN T j = enZ := fun hj => by
    unfold atN
    rw [tbAt_out (by omega), lfAt_nil]
  by_cases h1 : n.toNat ≤ j ∧ j < i
  · rw [if_pos h1, if_neg (by omega)]
  · rw [if_neg h1]
    by_cases h2 : j < n.toNat
    · rw [if_pos h2]
    · rw [if_neg h2]
      exact hz (by omega)
theorem kind9 (v1 v2 v3 v4 v5 : Int) (w : World) : (Instr.field 27 (.agg #[.int .i64 v1, .int .i64 v2, .int .i64 v3, .int .i64 v4, .int .u32 v5]) 0).run Try.prog w = .ok (.int .i64 v1) w := by kernel_rfl
theorem TabN.box {w w' : World} {base len cap : Nat} {a : Option Addr} {T : Tb} (h : TabN w base a len cap T) {Y : Nat} {cs : Array Value} (hY : Blk w Y 24 cs) (hg : w.grownBy w' (some Y)) : TabN w' base a len cap T := by
  obtain ⟨es, h1, h2⟩ := h
  exact ⟨es, h1.box hY hg, h2⟩
theorem BoxC.out {X Y : Nat} {s r o : Value} {w0 W : World} (h : BoxC X Y s r o w0 W) (v : Value) : BoxC X Y s r v w0 (W.setCell ⟨Y, 0, none⟩ v) :=
  ⟨h.1.other (by have := h.2.2.2.2; omega) _, h.2.1.other (by have := h.2.2.2.2; omega) _, h.2.2.1.set 0 v, h.2.2.2.1.setCell (by show X ≤ Y; have := h.2.2.2.2; omega) _, h.2.2.2.2⟩
theorem refAtC {a : Option Addr} {len cap : Nat} {T : Tb} (w : World) (h : Tab w a len cap T) (i : Nat) (hi : i < 1000000) {v1 v2 v3 v4 v5 : Int} (hv : atN T i = (v1, v2, v3, v4, v5)) : Calls Try.prog 26 #[.agg #[.slice a len cap], .int .i64 i] w fun e w' => e = .returned (.agg #[.int .i64 v1, .int .i64 v2, .int .i64 v3, .int .i64 v4, .int .u32 v5]) ∧ Below w.heap.size w w' := by
  obtain ⟨ds, h1, h2, rfl, _⟩ := h
  have := refAt8_any w a len cap ds (i : Int) h1 (by unfold I64; omega)
  rw [atT_nat, hv] at this
  exact this
set_option maxRecDepth 100000 in
set_option maxHeartbeats 3200000 in
theorem refCut9 (w : World) (a : Option Addr) (len cap : Nat) (T : Tb) (n : Int) (h : Tab w a len cap T) (hn : I64 n) :
    Calls Try.prog 15 #[.agg #[.slice a len cap], .int .i64 n] w fun e w' => ∃ (a' : Option Addr) (l' c' : Nat), e = .returned (.agg #[.slice a' l' c']) ∧ TabN w' w.heap.size a' l' c' (cutT T n) ∧ Below w.heap.size w w' := by
  have hls := h.lens
  obtain ⟨ds, hT, hc, rfl, hlen, hll⟩ := h
  have HLS := Lib.hid hls
  have HTR := Lib.hid hT
  have HCP : Hid (∀ W, Below w.heap.size w W → _) := fun W hb => refCopy9 W a len cap ds (hT.later hb) hlen hll
  have hg0 : Below w.heap.size w ((w.alloc (.cells #[.slice a len cap] 24)).alloc (.cells #[.slice none 0 0] 24)) := ((Below.refl _ _).alloc (Nat.le_refl _) _).alloc (by simp) _
  have HG0 := Lib.hid hg0
  have HFB : Hid (∀ w1 a1 c1, Below ((w.alloc (.cells #[.slice a len cap] 24)).alloc (.cells #[.slice none 0 0] 24)).heap.size ((w.alloc (.cells #[.slice a len cap] 24)).alloc (.cells #[.slice none 0 0] 24)) w1 → BoxC w.heap.size w1.heap.size (.slice a len cap) (.slice none 0 0) (.slice a1 len c1) w (w1.alloc (.cells #[.slice a1 len c1] 24))) := fun w1 a1 c1 hb => BoxC.first hb
  have hsz : ((w.alloc (.cells #[.slice a len cap] 24)).alloc (.cells #[.slice none 0 0] 24)).heap.size = w.heap.size + 2 := by rw [World.size_alloc, World.size_alloc]
  have HSZ := Lib.hid hsz
  have ho : EnOk (0, 0, 0, 0, 0) := by unfold EnOk I64; dsimp only; omega
  obtain ⟨N, hNn⟩ := named n.toNat
  have hN64 : (N : Int) ≤ 9223372036854775807 := by
    have h1 := hNn.out
    have h2 := hn.2
    omega
  have hmax : ∀ w : World, (Builtin.max_ #[3, 3] 3 #[.int .i64 n, .int .i64 0]).run Try.prog w = .ok (.int .i64 N) w := fun w => by
    have h1 := hNn.out
    rw [run_max9]
    congr 2
    split <;> omega
  obtain ⟨X, hX⟩ := named w.heap.size
  have hXX := hX.out
  rw [hX.out] at HG0 HCP HFB HSZ ⊢
  clear hg0 hsz hls hc hll
  by_cases hf : fitsT (tbOf ds) enZ
  · have HM := Lib.hid (fun w h => fitsC (a := a) (len := len) (cap := cap) ho (decide_eq_true hf) w h)
    have HO := Lib.hid ho
    clear hT ho
    go_enter Try.func15, Try.ntmps15
    go_wp2_with (first
      | (go_at_call 10; refine (HCP.out _ HG0.out).mono ?_; rintro e w1 ⟨a1, c1, es, rfl, g1, g2, g3⟩; have hb1 := HFB.out w1 a1 c1 g3; rw [HSZ.out] at g2; have HQ1 := Lib.hid (g2.alloc (.cells #[.slice a1 len c1] 24)); have HE1 := Lib.hid g1; have HB1 := Lib.hid hb1; have HT1 := Lib.hid (HTR.out.later (hX.out.symm ▸ hb1.2.2.2.1)); obtain ⟨b1, _, _, _, _⟩ := hb1.cells; clear g1 g2 g3 hb1)
      | (go_at_call 25; (with_reducible refine (HM.out _ HT1.out).mono ?_); rintro e w3 ⟨rfl, g⟩; have HB3 := Lib.hid (HB1.out.later g); have HQ3 := Lib.hid ((HQ1.out.later g).tabN (base' := X + 2) HE1.out HLS.out.2.1 HLS.out.2.2.1 (Nat.le_refl _)); obtain ⟨d1, d2, d3, d4, d5⟩ := (HB1.out.later g).cells; clear g))
    obtain ⟨c0, hr0, _⟩ := id hf
    have h512 : len ≤ 512 := by
      have h1 := hr0.2.2.2.1
      have h2 := HLS.out.1
      omega
    have HR0 := Lib.hid hr0
    obtain ⟨Y, hY⟩ := named w1.heap.size
    have hYY := hY.out
    rw [hY.out] at HB3 ⊢
    go_loopw [6] (fun i wr => ∃ (j : Nat) (a' : Option Addr) (l' c' : Nat) (T' : Tb), i = .int .i64 j ∧ N ≤ j ∧ (j ≤ len * 8 ∨ j = N) ∧ Hid (CutTo (tbOf ds) T' c0 N j) ∧ Hid (BoxC X Y (.slice a len cap) (.slice none 0 0) (.slice a' l' c') w wr) ∧ Hid (TabN wr (X + 2) a' l' c' T')) (fun i _ => len * 8 - (intOf i).toNat)
    case atStart => exact ⟨N, a1, len, c1, tbOf ds, rfl, Nat.le_refl _, Or.inr rfl, CutTo.first HR0.out N, HB3.out, HQ3.out⟩
    case round =>
      obtain ⟨j, a', l', c', T', rfl, hNj, hjl, HCT, HB, HQ⟩ := hrel
      obtain ⟨x1, x2, x3, x4, x5⟩ := HB.out.cells
      have hm8 : wrap64 ((len : Int) * 8) = (len : Int) * 8 := by unfold wrap64; omega
      by_cases hlt : j < len * 8
      · obtain ⟨⟨v1, v2, v3, v4, v5⟩, hv⟩ := named (atN T' j)
        have HA := Lib.hid (fun w h => refAtC (a := a') (len := l') (cap := c') (T := T') w h j (by omega) hv.out)
        have HTB := Lib.hid HQ.out.tab
        by_cases h0 : v1 = 0
        · subst h0
          have HC2 := Lib.hid (HCT.out.skip (by rw [hv.out]) (right_may HCT.out.1))
          have hk9 := fun w => kind9 0 v2 v3 v4 v5 w
          clear hv
          go_wp2_with (go_at_call 26; (with_reducible refine (HA.out _ HTB.out).mono ?_); rintro e w2 ⟨rfl, g⟩; have HB2 := Lib.hid (HB.out.later g); have HQ2 := Lib.hid (HQ.out.later g); clear g)
          go_roundw
          case rel => exact ⟨j + 1, a', l', c', T', by go_num, by omega, by omega, HC2.out, HB2.out, HQ2.out⟩
          case measure => simp [intOf]; omega
        · have HC2 := Lib.hid (HCT.out.set hNj (by omega))
          have HS := Lib.hid (fun w h => refSet9 w a' l' c' T' (j : Int) 0 0 0 0 0 h (by unfold I64; omega) HO.out)
          have hvb : (v1 != 0) = true := by simp [h0]
          have hk9 := fun w => kind9 v1 v2 v3 v4 v5 w
          clear hv
          go_wp2_with (first
            | (go_at_call 26; (with_reducible refine (HA.out _ HTB.out).mono ?_); rintro e w2 ⟨rfl, g⟩; have HB2 := Lib.hid (HB.out.later g); have HQ2 := Lib.hid (HQ.out.later g).tab; obtain ⟨_, _, _, y4, y5⟩ := (HB.out.later g).cells; clear g)
            | (go_at_call 14; refine (HS.out _ HQ2.out).mono ?_; rintro e w3 ⟨a3, l3, c3, rfl, g1, g2⟩; have hb3 := HB2.out.later g2; have HB4 := Lib.hid (hb3.out (.slice a3 l3 c3)); have HQ4 := Lib.hid ((g1.mono (base' := X + 2) (by have := HB2.out.2.2.1.lt; have := HB2.out.2.2.2.2; omega)).box hb3.2.2.1 (grownBy_setCell4 w3 Y 0 (.slice a3 l3 c3))); obtain ⟨_, _, _, z4, z5⟩ := hb3.cells; clear g1 g2 hb3))
          go_roundw
          case rel => exact ⟨j + 1, a3, l3, c3, _, by go_num, by omega, by omega, HC2.out, HB4.out, HQ4.out⟩
          case measure => simp [intOf]; omega
      · have hT' : T' = cutT (tbOf ds) n := by
          refine CutTo.all (i := j) ?_ HR0.out ?_
          · rw [hNn.out]
            exact HCT.out
          · have h1 := hNn.out
            have h2 := HLS.out.1
            omega
        subst hT'
        have HQ4 := Lib.hid ((HQ.out).low (X := X + 1) (by omega) (grownBy_setCell4 wr (X + 1) 0 (.slice a' l' c')))
        have HB4 := Lib.hid (HB.out.res (.slice a' l' c'))
        go_wp2
        refine bodyPost_ret (v := .agg #[.slice a' l' c']) (results_cell_row rfl _ _ (X + 1) 24 #[.slice a' l' c'] (0, 0) _ rfl HB4.out.2.1 Try.underlying24 rfl tbl_size) rfl ⟨a', l', c', rfl, HQ4.out.mono (by omega), HB4.out.2.2.2.1⟩
  · have HM := Lib.hid (fun w h => fitsC (a := a) (len := len) (cap := cap) ho (decide_eq_false hf) w h)
    have he : cutT (tbOf ds) n = tbOf ds := by unfold cutT; rw [if_neg hf]
    rw [he]
    clear hT ho he hf
    go_enter Try.func15, Try.ntmps15
    go_wp2_with (first
      | (go_at_call 10; refine (HCP.out _ HG0.out).mono ?_; rintro e w1 ⟨a1, c1, es, rfl, g1, g2, g3⟩; have hb1 := HFB.out w1 a1 c1 g3; rw [HSZ.out] at g2; have HQ1 := Lib.hid (g2.alloc (.cells #[.slice a1 len c1] 24)); have HE1 := Lib.hid g1; have HB1 := Lib.hid hb1; have HT1 := Lib.hid (HTR.out.later (hX.out.symm ▸ hb1.2.2.2.1)); obtain ⟨b1, _, _, _, _⟩ := hb1.cells; clear g1 g2 g3 hb1)
      | (go_at_call 25; (with_reducible refine (HM.out _ HT1.out).mono ?_); rintro e w3 ⟨rfl, g⟩; have HB3 := Lib.hid ((HB1.out.later g).res (.slice a1 len c1)); have HQ3 := Lib.hid ((HQ1.out.later g).low (X := X + 1) (by omega) (grownBy_setCell4 w3 (X + 1) 0 (.slice a1 len c1))); obtain ⟨d1, d2, d3, d4, d5⟩ := (HB1.out.later g).cells; clear g))
    refine bodyPost_ret (v := .agg #[.slice a1 len c1]) (results_cell_row rfl _ _ (X + 1) 24 #[.slice a1 len c1] (0, 0) _ rfl HB3.out.2.1 Try.underlying24 rfl tbl_size) rfl ⟨a1, len, c1, rfl, HQ3.out.tabN HE1.out HLS.out.2.1 HLS.out.2.2.1 (by omega), HB3.out.2.2.2.1⟩
end Go.Proofs.Ytbmgcofcjkcaaaa
