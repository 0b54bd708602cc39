/-
  Which metas are great (layer 9's own measure). Conditions: a meta that came in.
-/
import Derived.Test.YtipljkegmhclkaaG0
import Derived.Test.YtipljkegmhclkaaD9
namespace Go.Proofs.Ytipljkegmhclkaa
open Go.RowKit
set_option linter.unusedVariables false

def mtC (c s : Int) (bk : ByteArray) (a0 : Option Addr) (n0 c0 : Nat) (sa : Option Addr) (sn sc : Nat) (v5 v6 : Value) : Array Value :=
  #[.int .i64 c, .int .i64 s, .string bk, .slice a0 n0 c0, .slice sa sn sc, v5, v6]
theorem mt_cells {W : World} {M : Nat} {c s : Int} {bk : ByteArray} {a0 : Option Addr} {n0 c0 : Nat} {sa : Option Addr} {sn sc : Nat} {v5 v6 : Value} (h : Blk W M 29 (mtC c s bk a0 n0 c0 sa sn sc v5 v6)) :
    W.cell? ⟨M, 0, none⟩ = some (.int .i64 c) ∧ W.cell? ⟨M, 1, none⟩ = some (.int .i64 s) ∧ W.cell? ⟨M, 2, none⟩ = some (.string bk) ∧ W.cell? ⟨M, 3, none⟩ = some (.slice a0 n0 c0) ∧ W.cell? ⟨M, 4, none⟩ = some (.slice sa sn sc) ∧ W.cell? ⟨M, 5, none⟩ = some v5 ∧ W.cell? ⟨M, 6, none⟩ = some v6 := by
  refine ⟨?_, ?_, ?_, ?_, ?_, ?_, ?_⟩ <;> (rw [h.cell]; rfl)
/-- What is small. -/
structure Small9 (bk : ByteArray) (n0 : Nat) (gT : Nat → Option Addr × Nat × Nat) (sn : Nat) (gs : Nat → ShA) (hh : Nat → Nat → Option Addr × Nat × Nat) (mn : Nat) (gm : Nat → MpA) (cn : Nat) : Prop where
  t : ¬ 6000 < greatN gT n0
  hsn : sn ≤ 20
  hmn : mn ≤ 20
  hcn : cn ≤ 20000
  s : ∀ i, i < sn → ¬ 6000 < greatN (hh i) (gs i).2.2.2.1
  m : ∀ i, i < mn → (gm i).2.2.2.1 ≤ 500
def GreatQ (S : Prop) (w : World) (e : Ending) (w' : World) : Prop := ∃ G : Bool, e = .returned (.bool G) ∧ Below w.heap.size w w' ∧ (G = false → S)
theorem GreatQ.yes {S : Prop} {w w' : World} {e : Ending} (h : e = .returned (.bool true)) (hb : Below w.heap.size w w') : GreatQ S w e w' := ⟨true, h, hb, fun h => by cases h⟩
theorem GreatQ.no {S : Prop} {w w' : World} {e : Ending} (h : e = .returned (.bool false)) (hb : Below w.heap.size w w') (hs : S) : GreatQ S w e w' := ⟨false, h, hb, fun _ => hs⟩
theorem great_is {w : World} {a : Option Addr} {len cap : Nat} {g : Nat → Option Addr × Nat × Nat} (h : OutR w a len g) {R : Bool} (hR : decide (6000 < greatN g len) = R) : Calls Try.prog 23 #[.agg #[.slice a len cap]] w fun e w' => e = .returned (.bool R) ∧ Below w.heap.size w w' := by
  subst hR
  exact great_any w a len cap g h
set_option maxRecDepth 20000 in
set_option maxHeartbeats 3200000 in
theorem greatM_any (w : World) (c s : Int) (bk : ByteArray) (a0 : Option Addr) (n0 c0 : Nat) (sa : Option Addr) (sn sc : Nat) (ma : Option Addr) (mn mc : Nat) (ca : Option Addr) (cn cc : Nat) (gT : Nat → Option Addr × Nat × Nat) (gs : Nat → ShA) (hh : Nat → Nat → Option Addr × Nat × Nat) (gm : Nat → MpA)
    (hT : OutR w a0 n0 gT) (hS : Row3 w sa sn (fun i => .string (gs i).1) (fun i => .int .i64 (gs i).2.1) (fun i => .slice (gs i).2.2.1 (gs i).2.2.2.1 (gs i).2.2.2.2)) (hSh : ∀ i, i < sn → OutR w (gs i).2.2.1 (gs i).2.2.2.1 (hh i))
    (hM : Row3 w ma mn (fun i => .string (gm i).1) (fun i => .bool (gm i).2.1) (fun i => .slice (gm i).2.2.1 (gm i).2.2.2.1 (gm i).2.2.2.2)) (hbk : bk.size ≤ 9223372036854775807) (hcn : cn ≤ 9223372036854775807) (hnm : ∀ i, i < sn → (gs i).1.size ≤ 9223372036854775807) (hnm2 : ∀ i, i < mn → (gm i).1.size ≤ 9223372036854775807) (hml : ∀ i, i < mn → (gm i).2.2.2.1 ≤ 9223372036854775807) :
    Calls Try.prog 5 #[.agg #[.int .i64 c, .int .i64 s, .string bk, .slice a0 n0 c0, .slice sa sn sc, .slice ma mn mc, .slice ca cn cc]] w (GreatQ (Small9 bk n0 gT sn gs hh mn gm cn) w) := by
  have hsl := hS.1
  have hml' := hM.1
  have hb0 : Below w.heap.size w (w.alloc (.cells (mtC c s bk a0 n0 c0 sa sn sc (.slice ma mn mc) (.slice ca cn cc)) 29)) := (Below.refl _ _).alloc (Nat.le_refl _) _
  have HS := Lib.hid hS
  have HSH := Lib.hid hSh
  have HMM := Lib.hid hM
  have HNM := Lib.hid hnm
  have HNM2 := Lib.hid hnm2
  have HML := Lib.hid hml
  have HM : Hid (Blk (w.alloc (.cells (mtC c s bk a0 n0 c0 sa sn sc (.slice ma mn mc) (.slice ca cn cc)) 29)) w.heap.size 29 (mtC c s bk a0 n0 c0 sa sn sc (.slice ma mn mc) (.slice ca cn cc))) := Blk.new _ _ _
  have HB := Lib.hid hb0
  obtain ⟨G, hG⟩ := named (decide (6000 < greatN gT n0))
  have HG := Lib.hid (great_is (cap := c0) (hT.later hb0) hG.out)
  have HLATER : Hid (∀ w1, Below (w.alloc (.cells (mtC c s bk a0 n0 c0 sa sn sc (.slice ma mn mc) (.slice ca cn cc)) 29)).heap.size (w.alloc (.cells (mtC c s bk a0 n0 c0 sa sn sc (.slice ma mn mc) (.slice ca cn cc)) 29)) w1 → Blk w1 w.heap.size 29 (mtC c s bk a0 n0 c0 sa sn sc (.slice ma mn mc) (.slice ca cn cc)) ∧ Below w.heap.size w w1) := fun w1 h => ⟨HM.out.later h, HB.out.trans (h.mono HB.out.size)⟩
  have HGT : Hid (G = false → ¬ 6000 < greatN gT n0) := fun h => by
    have := hG.out
    rw [h, decide_eq_false_iff_not] at this
    exact this
  clear hT hS hSh hM hnm hnm2 hml hb0 hG
  go_enter Try.func5, Try.ntmps5
  cases G with
  | true =>
    go_wp2_with (go_at_call 23; refine HG.out.mono ?_; rintro e w1 ⟨rfl, h⟩; obtain ⟨k1, k2⟩ := HLATER.out _ h; have K2 := Lib.hid k2; clear h k1 k2)
    go_ret
    exact GreatQ.yes rfl K2.out
  | false =>
    have hcs : 20 < sn ∨ (sn ≤ 20 ∧ 20 < mn) ∨ (sn ≤ 20 ∧ mn ≤ 20 ∧ 20000 < cn) ∨ (sn ≤ 20 ∧ mn ≤ 20 ∧ cn ≤ 20000 ∧ 1000 < bk.size) ∨ (sn ≤ 20 ∧ mn ≤ 20 ∧ cn ≤ 20000 ∧ bk.size ≤ 1000) := by omega
    rcases hcs with h1 | ⟨h1, h2⟩ | ⟨h1, h2, h3⟩ | ⟨h1, h2, h3, h4⟩ | ⟨h1, h2, h3, h4⟩
    case inr.inr.inr.inr =>
      go_wp2_with (go_at_call 23; refine HG.out.mono ?_; rintro e w1 ⟨rfl, h⟩; obtain ⟨k1, k2⟩ := HLATER.out _ h; obtain ⟨m0, m1, m2, m3, m4, m5, m6⟩ := mt_cells k1; have K1 := Lib.hid k1; have K2 := Lib.hid k2; clear h k1 k2)
      go_loopw [3] (fun i wr => ∃ j : Nat, j ≤ sn ∧ i = .int .i64 j ∧ Hid (∀ k, k < j → ¬ 6000 < greatN (hh k) (gs k).2.2.2.1) ∧ Hid (Blk wr w.heap.size 29 (mtC c s bk a0 n0 c0 sa sn sc (.slice ma mn mc) (.slice ca cn cc))) ∧ Hid (Below w.heap.size w wr)) (fun i _ => sn - (intOf i).toNat)
      case atStart => exact ⟨0, Nat.zero_le _, rfl, fun k hk => by omega, K1.out, K2.out⟩
      case round =>
        obtain ⟨j, hj, rfl, HGj, HMj, HBj⟩ := hrel
        obtain ⟨m0, m1, m2, m3, m4, m5, m6⟩ := mt_cells HMj.out
        have hml2 := HMj.out.lt
        by_cases hlt : j < sn
        · obtain ⟨b, off, rfl, hb, hc⟩ := (HS.out.later HBj.out).2 (by omega)
          obtain ⟨x1, x2, x3⟩ := hc j hlt
          dsimp only at x1 x2 x3
          have hOut := (HSH.out j hlt).later HBj.out
          have hnmj := HNM.out j hlt
          have HGS : Hid (¬ 6000 < greatN (hh j) (gs j).2.2.2.1 → ∀ k, k < j + 1 → ¬ 6000 < greatN (hh k) (gs k).2.2.2.1) := fun h k hk => by
            by_cases e : k = j
            · rw [e]; exact h
            · exact HGj.out k (by omega)
          obtain ⟨⟨nm, sz, al, ll, cl⟩, hg⟩ := named (gs j)
          rw [hg.out] at x1 x2 x3 hOut hnmj HGS
          dsimp only at x1 x2 x3 hOut hnmj HGS
          obtain ⟨Gj, hGj⟩ := named (decide (6000 < greatN (hh j) ll))
          have HC := Lib.hid (great_is (cap := cl) hOut hGj.out)
          have HLJ : Hid (∀ w1, Below wr.heap.size wr w1 → Blk w1 w.heap.size 29 (mtC c s bk a0 n0 c0 (some ⟨b, off, none⟩) sn sc (.slice ma mn mc) (.slice ca cn cc)) ∧ Below w.heap.size w w1 ∧ w1.cell? ⟨b, off + j * 3, none⟩ = some (.string nm)) := fun w1 h => ⟨HMj.out.later h, HBj.out.trans (h.mono HBj.out.size), (h.cell (p := ⟨b, off + j * 3, none⟩) hb).trans x1⟩
          clear hc hOut
          cases Gj with
          | true =>
            go_wp2_with (go_at_call 23; refine HC.out.mono ?_; rintro e w1 ⟨rfl, h⟩; obtain ⟨k1, k2, k3⟩ := HLJ.out _ h; have K2 := Lib.hid k2; clear h k1 k2)
            go_ret
            exact GreatQ.yes rfl K2.out
          | false =>
            have hno : ¬ 6000 < greatN (hh j) ll := by
              have := hGj.out
              rwa [decide_eq_false_iff_not] at this
            have HG2 := Lib.hid (HGS.out hno)
            clear hno
            by_cases hn : 1000 < nm.size
            · go_wp2_with (go_at_call 23; refine HC.out.mono ?_; rintro e w1 ⟨rfl, h⟩; obtain ⟨k1, k2, k3⟩ := HLJ.out _ h; obtain ⟨q0, q1, q2, q3, q4, q5, q6⟩ := mt_cells k1; have K2 := Lib.hid k2; clear h k1 k2)
              go_ret
              exact GreatQ.yes rfl K2.out
            · go_wp2_with (go_at_call 23; refine HC.out.mono ?_; rintro e w1 ⟨rfl, h⟩; obtain ⟨k1, k2, k3⟩ := HLJ.out _ h; obtain ⟨q0, q1, q2, q3, q4, q5, q6⟩ := mt_cells k1; have K1 := Lib.hid k1; have K2 := Lib.hid k2; clear h k1 k2)
              go_roundw
              case rel => exact ⟨j + 1, by omega, by go_num, HG2.out, K1.out, K2.out⟩
              case measure => simp [intOf]; omega
        · obtain rfl : j = sn := by omega
          have hjj : ¬ j < j := by omega
          go_wp2
          go_loopw [4] (fun i wr => ∃ p : Nat, p ≤ mn ∧ i = .int .i64 p ∧ Hid (∀ k, k < p → (gm k).2.2.2.1 ≤ 500) ∧ Hid (Blk wr w.heap.size 29 (mtC c s bk a0 n0 c0 sa j sc (.slice ma mn mc) (.slice ca cn cc))) ∧ Hid (Below w.heap.size w wr)) (fun i _ => mn - (intOf i).toNat)
          case atStart => exact ⟨0, Nat.zero_le _, rfl, fun k hk => by omega, HMj.out, HBj.out⟩
          case round =>
            obtain ⟨p, hp, rfl, HGp, HMp, HBp⟩ := hrel
            obtain ⟨m0, m1, m2, m3, m4, m5, m6⟩ := mt_cells HMp.out
            have hml3 := HMp.out.lt
            by_cases hlt : p < mn
            · obtain ⟨b, off, rfl, hb, hc⟩ := (HMM.out.later HBp.out).2 (by omega)
              obtain ⟨x1, x2, x3⟩ := hc p hlt
              dsimp only at x1 x2 x3
              have hnmj := HNM2.out p hlt
              have hmlj := HML.out p hlt
              have HGS : Hid ((gm p).2.2.2.1 ≤ 500 → ∀ k, k < p + 1 → (gm k).2.2.2.1 ≤ 500) := fun h k hk => by
                by_cases e : k = p
                · rw [e]; exact h
                · exact HGp.out k (by omega)
              obtain ⟨⟨nm, on, al, ll, cl⟩, hg⟩ := named (gm p)
              rw [hg.out] at x1 x2 x3 hnmj hmlj HGS
              dsimp only at x1 x2 x3 hnmj hmlj HGS
              clear hc
              by_cases hl5 : 500 < ll
              · go_wp2
                go_ret
                exact GreatQ.yes rfl HBp.out
              · have HG2 := Lib.hid (HGS.out (by omega))
                by_cases hn : 1000 < nm.size
                · go_wp2
                  go_ret
                  exact GreatQ.yes rfl HBp.out
                · go_wp2
                  go_roundw
                  case rel => exact ⟨p + 1, by omega, by go_num, HG2.out, HMp.out, HBp.out⟩
                  case measure => simp [intOf]; omega
            · obtain rfl : p = mn := by omega
              go_wp2
              go_ret
              exact GreatQ.no rfl HBp.out ⟨HGT.out (by first | rfl | trivial), h1, h2, h3, HGj.out, HGp.out⟩
    all_goals
      go_wp2_with (go_at_call 23; refine HG.out.mono ?_; rintro e w1 ⟨rfl, h⟩; obtain ⟨k1, k2⟩ := HLATER.out _ h; obtain ⟨m0, m1, m2, m3, m4, m5, m6⟩ := mt_cells k1; have K2 := Lib.hid k2; clear h k1 k2)
      go_ret
      exact GreatQ.yes rfl K2.out
end Go.Proofs.Ytipljkegmhclkaa
