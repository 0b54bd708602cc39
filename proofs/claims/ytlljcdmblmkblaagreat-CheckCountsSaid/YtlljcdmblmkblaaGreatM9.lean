/-
  What the reference's fits and the project's own mayStand answer (layer 8). Conditions: the table reads, no more than 6000 leaves; the entry's fields are numbers of their types.
-/
import Derived.Test.YtlljcdmblmkblaaGreatCk
import Derived.Test.YtlljcdmblmkblaaGreatMb
namespace Go.Proofs.YtlljcdmblmkblaaGreat
open Go.RowKit
set_option linter.unusedVariables false

/-- A boxed table and a boxed entry. -/
def Box2 (X : Nat) (s : Value) (cs : Array Value) (w0 W : World) : Prop := Blk W X 36 #[s] ∧ Blk W (X + 1) 24 cs ∧ Below X w0 W
theorem Box2.first (w : World) (s : Value) (cs : Array Value) : Box2 w.heap.size s cs w ((w.alloc (.cells #[s] 36)).alloc (.cells cs 24)) := ⟨(Blk.new w _ _).alloc _, blk_next9 _ _ _ _ _, ((Below.refl _ _).alloc (Nat.le_refl _) _).alloc (by simp) _⟩
theorem Box2.later {X : Nat} {s : Value} {cs : Array Value} {w0 W W' : World} (h : Box2 X s cs w0 W) (hb : Below W.heap.size W W') : Box2 X s cs w0 W' := ⟨h.1.later hb, h.2.1.later hb, h.2.2.trans (hb.mono (Nat.le_of_lt h.1.lt))⟩
theorem Box2.alloc {X : Nat} {s : Value} {cs : Array Value} {w0 W : World} (h : Box2 X s cs w0 W) (o : Obj) : Box2 X s cs w0 (W.alloc o) := h.later ((Below.refl _ _).alloc (Nat.le_refl _) _)
theorem refRightC {a : Option Addr} {len cap : Nat} {ds : List LfD} {n c : Int} {R : Bool} (hR : decide (rightT (tbOf ds) n c) = R) (w : World) (h : TabR w a len ds) : Calls Tryz.prog 47 #[.agg #[.slice a len cap], .int .i64 n, .int .i64 c] w fun e w' => e = .returned (.bool R) ∧ Below w.heap.size w w' :=
  refRight9_is w a len cap ds n c h R hR
theorem rightC {a : Option Addr} {len cap : Nat} {ds : List LfD} {n c : Int} {R : Bool} (hR : decide (rightT (tbOf ds) n c) = R) (hlen : len ≤ 6000) (w : World) (h : TabR w a len ds) : Calls Tryz.prog 83 #[.agg #[.slice a len cap], .int .i64 n, .int .i64 c] w fun e w' => e = .returned (.bool R) ∧ Below w.heap.size w w' :=
  right9_is w a len cap ds n c h hlen R hR
theorem fits_iff {T : Tb} {e : En} : fitsT T e ↔ ∃ c : Nat, c < 7 ∧ rightT T 4096 c ∧ MayE e c := by
  constructor
  · rintro ⟨c, h1, h2⟩
    have hc := h1.2.1
    refine ⟨c.toNat, by omega, ?_, ?_⟩ <;> rw [show ((c.toNat : Nat) : Int) = c by omega] <;> assumption
  · rintro ⟨c, _, h1, h2⟩
    exact ⟨c, h1, h2⟩
set_option maxRecDepth 100000 in
set_option maxHeartbeats 3200000 in
theorem refFits9 (w : World) (a : Option Addr) (len cap : Nat) (ds : List LfD) (k s n z m : Int) (ho : EnOk (k, s, n, z, m)) (h : TabR w a len ds) (R : Bool) (hR : decide (fitsT (tbOf ds) (k, s, n, z, m)) = R) :
    Calls Tryz.prog 54 #[.agg #[.slice a len cap], .agg #[.int .i64 k, .int .i64 s, .int .i64 n, .int .i64 z, .int .u32 m]] w fun e w' => e = .returned (.bool R) ∧ Below w.heap.size w w' := by
  have HR : Hid (R = true ↔ ∃ c : Nat, c < 7 ∧ rightT (tbOf ds) 4096 c ∧ MayE (k, s, n, z, m) c) := by
    show _ ↔ _
    rw [← hR, decide_eq_true_iff]
    exact fits_iff
  have HT := Lib.hid h
  have HB0 := Lib.hid (Box2.first w (.slice a len cap) #[.int .i64 k, .int .i64 s, .int .i64 n, .int .i64 z, .int .u32 m])
  obtain ⟨X, hX⟩ := named w.heap.size
  have hXX := hX.out
  rw [hX.out] at HB0 ⊢
  clear hR h
  have HO := Lib.hid ho
  clear ho
  go_enter Tryz.func54, Tryz.ntmps54
  go_wp2
  go_loopw [5] (fun i wr => ∃ j : Nat, j ≤ 7 ∧ i = .int .i64 j ∧ Hid (∀ c : Nat, c < j → ¬ (rightT (tbOf ds) 4096 c ∧ MayE (k, s, n, z, m) c)) ∧ Hid (Box2 X (.slice a len cap) #[.int .i64 k, .int .i64 s, .int .i64 n, .int .i64 z, .int .u32 m] w wr)) (fun i _ => 7 - (intOf i).toNat)
  case atStart => exact ⟨0, Nat.zero_le _, rfl, fun k hk => by omega, HB0.out⟩
  case round =>
    obtain ⟨j, hj, rfl, HJ, HB⟩ := hrel
    have b1 := one_cell9 HB.out.1
    obtain ⟨y0, y1, y2, y3, y4⟩ := cells5 HB.out.2.1
    have HTR := Lib.hid (HT.out.later (hX.out.symm ▸ HB.out.2.2))
    by_cases hlt : j < 7
    · by_cases hr : rightT (tbOf ds) 4096 j
      · have HRT := Lib.hid (fun w h => refRightC (a := a) (len := len) (cap := cap) (decide_eq_true hr) w h)
        by_cases hm : MayE (k, s, n, z, m) j
        · have HM := Lib.hid (fun w => rmayC HO.out (decide_eq_true hm) w)
          have hrr : R = true := HR.out.2 ⟨j, hlt, hr, hm⟩
          subst hrr
          clear hr hm
          go_wp2_with (first
            | (go_at_call 47; (with_reducible refine (HRT.out _ HTR.out).mono ?_); rintro e w1 ⟨rfl, g⟩; obtain ⟨z0, z1, z2, z3, z4⟩ := cells5 (HB.out.later g).2.1; have HB1 := Lib.hid (HB.out.later g); clear g)
            | (go_at_call 32; (with_reducible refine (HM.out _).mono ?_); rintro e w2 ⟨rfl, g⟩; have HB2 := Lib.hid (HB1.out.later g); clear g))
          go_ret
          exact ⟨rfl, HB2.out.2.2⟩
        · have HM := Lib.hid (fun w => rmayC HO.out (decide_eq_false hm) w)
          have HJ2 : Hid (∀ c : Nat, c < j + 1 → ¬ (rightT (tbOf ds) 4096 c ∧ MayE (k, s, n, z, m) c)) := fun c hc h => by
            by_cases e : c = j
            · subst e
              exact hm h.2
            · exact HJ.out c (by omega) h
          clear hr hm
          go_wp2_with (first
            | (go_at_call 47; (with_reducible refine (HRT.out _ HTR.out).mono ?_); rintro e w1 ⟨rfl, g⟩; obtain ⟨z0, z1, z2, z3, z4⟩ := cells5 (HB.out.later g).2.1; have HB1 := Lib.hid (HB.out.later g); clear g)
            | (go_at_call 32; (with_reducible refine (HM.out _).mono ?_); rintro e w2 ⟨rfl, g⟩; have HB2 := Lib.hid (HB1.out.later g); clear g))
          go_roundw
          case rel => exact ⟨j + 1, by omega, by go_num, HJ2, HB2.out⟩
          case measure => simp [intOf]; omega
      · have HRT := Lib.hid (fun w h => refRightC (a := a) (len := len) (cap := cap) (decide_eq_false hr) w h)
        have HJ2 : Hid (∀ c : Nat, c < j + 1 → ¬ (rightT (tbOf ds) 4096 c ∧ MayE (k, s, n, z, m) c)) := fun c hc h => by
          by_cases e : c = j
          · subst e
            exact hr h.1
          · exact HJ.out c (by omega) h
        clear hr
        go_wp2_with (go_at_call 47; (with_reducible refine (HRT.out _ HTR.out).mono ?_); rintro e w1 ⟨rfl, g⟩; have HB1 := Lib.hid (HB.out.later g); clear g)
        go_roundw
        case rel => exact ⟨j + 1, by omega, by go_num, HJ2, HB1.out⟩
        case measure => simp [intOf]; omega
    · have hrr : R = false := by
        cases R with
        | false => rfl
        | true =>
          obtain ⟨c, h1, h2⟩ := HR.out.1 rfl
          exact absurd h2 (HJ.out c (by omega))
      subst hrr
      go_wp2
      go_ret
      exact ⟨rfl, HB.out.2.2⟩
end Go.Proofs.YtlljcdmblmkblaaGreat
