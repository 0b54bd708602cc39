/-
  The table's functions as the laws call them, the document's example (layer 8). Conditions: the tables read.
-/
import Derived.Test.YtbmgcofcjkcaaaaU9
import Derived.Test.YtbmgcofcjkcaaaaV9
namespace Go.Proofs.Ytbmgcofcjkcaaaa
open Go.RowKit
set_option linter.unusedVariables false

theorem getT {a : Option Addr} {len cap : Nat} {T : Tb} (w : World) (h : Tab w a len cap T) (i : Int) (hi : I64 i) {v1 v2 v3 v4 v5 : Int} (hv : atT T i = (v1, v2, v3, v4, v5)) : Calls Try.prog 17 #[.agg #[.slice a len cap], .int .i64 i] w fun e w' => e = .returned (.agg #[.int .i64 v1, .int .i64 v2, .int .i64 v3, .int .i64 v4, .int .u32 v5]) ∧ Below w.heap.size w w' := by
  obtain ⟨ds, h1, h2, rfl, _⟩ := h
  have := get9_any w a len cap ds i h1 hi
  rw [hv] at this
  exact this
theorem refAtT {a : Option Addr} {len cap : Nat} {T : Tb} (w : World) (h : Tab w a len cap T) (i : Int) (hi : I64 i) {v1 v2 v3 v4 v5 : Int} (hv : atT T i = (v1, v2, v3, v4, v5)) : Calls Try.prog 26 #[.agg #[.slice a len cap], .int .i64 i] w fun e w' => e = .returned (.agg #[.int .i64 v1, .int .i64 v2, .int .i64 v3, .int .i64 v4, .int .u32 v5]) ∧ Below w.heap.size w w' := by
  obtain ⟨ds, h1, h2, rfl, _⟩ := h
  have := refAt8_any w a len cap ds i h1 hi
  rw [hv] at this
  exact this
theorem rightTT {a : Option Addr} {len cap : Nat} {T : Tb} {n c : Int} {R : Bool} (hR : decide (rightT T n c) = R) (w : World) (h : Tab w a len cap T) : Calls Try.prog 18 #[.agg #[.slice a len cap], .int .i64 n, .int .i64 c] w fun e w' => e = .returned (.bool R) ∧ Below w.heap.size w w' := by
  obtain ⟨ds, h1, h2, rfl, h3, _⟩ := h
  exact right9_is w a len cap ds n c h1 h3 R hR
theorem refRightT {a : Option Addr} {len cap : Nat} {T : Tb} {n c : Int} {R : Bool} (hR : decide (rightT T n c) = R) (w : World) (h : Tab w a len cap T) : Calls Try.prog 32 #[.agg #[.slice a len cap], .int .i64 n, .int .i64 c] w fun e w' => e = .returned (.bool R) ∧ Below w.heap.size w w' := by
  obtain ⟨ds, h1, h2, rfl, h3, _⟩ := h
  exact refRight9_is w a len cap ds n c h1 R hR
theorem tablesT {a1 a2 : Option Addr} {n1 n2 c1 c2 : Nat} {T1 T2 : Tb} {R : Bool} (hR : decide (T1 = T2) = R) (w : World) (h1 : Tab w a1 n1 c1 T1) (h2 : Tab w a2 n2 c2 T2) : Calls Try.prog 13 #[.agg #[.slice a1 n1 c1], .agg #[.slice a2 n2 c2]] w fun e w' => e = .returned (.bool R) ∧ Below w.heap.size w w' := by
  obtain ⟨ds1, k1, _, rfl, _⟩ := h1
  obtain ⟨ds2, k2, _, rfl, _⟩ := h2
  subst hR
  exact refTables_any w a1 a2 n1 n2 c1 c2 ds1 ds2 k1 k2
theorem copyT {a : Option Addr} {len cap : Nat} {T : Tb} (w : World) (h : Tab w a len cap T) : Calls Try.prog 10 #[.agg #[.slice a len cap]] w fun e w' => ∃ (a' : Option Addr) (c' : Nat), e = .returned (.agg #[.slice a' len c']) ∧ TabN w' w.heap.size a' len c' T ∧ Below w.heap.size w w' := by
  have hl := h.lens
  obtain ⟨ds, h1, h2, rfl, h3, h4⟩ := h
  refine (refCopy9 w a len cap ds h1 h3 h4).mono ?_
  rintro e w' ⟨a', c', es, rfl, g1, g2, g3⟩
  exact ⟨a', c', rfl, g2.tabN g1 h3 hl.2.2.1 (Nat.le_refl _), g3⟩
theorem Tab.nil (w : World) : Tab w none 0 0 [] := (TabN.first w 0).tab
/-- The document's example. -/
def exT : Tb := [[], [enZ, (1, 0, 0, 0, 0), enZ, enZ, enZ, enZ, enZ, enZ]]
theorem ex_is : setT [] 9 (1, 0, 0, 0, 0) = exT := by
  have hr : rightT [] 4096 0 := right_nil (by omega)
  have hm : MayE (1, 0, 0, 0, 0) 0 := by decide
  have e : setT [] 9 (1, 0, 0, 0, 0) = setN [] 9 (1, 0, 0, 0, 0) := by
    unfold setT
    rw [if_pos ⟨by omega, 0, hr, hm⟩]
    rfl
  rw [e, ← setG_is hr hm (by omega)]
  decide
theorem TabR.cells2 {w : World} {a : Option Addr} {len : Nat} {ds : List LfD} (h : TabR w a len ds) (i : Nat) (hi : i < len) : ∃ b off al ll cl, a = some ⟨b, off, none⟩ ∧ w.cell? ⟨b, off + i, none⟩ = some (.slice al ll cl) ∧ ll = (tbAt (tbOf ds) i).length := by
  obtain ⟨b, off, al, ll, cl, xs, h1, h2, h3, h4, _⟩ := h.at i hi
  exact ⟨b, off, al, ll, cl, h1, h2, by rw [h4]; exact h3.len.symm⟩
theorem awake9 (w : World) : Calls Try.prog 9 #[] w fun e w' => e = .returned (.bool true) ∧ Below w.heap.size w w' := by
  have ho : EnOk (1, 0, 0, 0, 0) := by unfold EnOk I64; dsimp only; omega
  have HS : Hid (∀ w, Calls Try.prog 11 #[.agg #[.slice none 0 0], .int .i64 9, .agg #[.int .i64 1, .int .i64 0, .int .i64 0, .int .i64 0, .int .u32 0]] w _) := fun w => set9_any w none 0 0 [] 9 1 0 0 0 0 (Tab.nil w) (by unfold I64; omega) ho
  rw [ex_is] at HS
  have H9 := Lib.hid (fun (w : World) (a : Option Addr) (l c : Nat) (h : Tab w a l c exT) => getT w h 9 (by unfold I64; omega) (v1 := 1) (v2 := 0) (v3 := 0) (v4 := 0) (v5 := 0) (by decide))
  have H8 := Lib.hid (fun (w : World) (a : Option Addr) (l c : Nat) (h : Tab w a l c exT) => getT w h 8 (by unfold I64; omega) (v1 := 0) (v2 := 0) (v3 := 0) (v4 := 0) (v5 := 0) (by decide))
  have k1 := fun w => kind9 1 0 0 0 0 w
  have k0 := fun w => kind9 0 0 0 0 0 w
  go_enter Try.func9, Try.ntmps9
  go_wp2_with (first
    | (go_at_call 11; refine (HS.out _).mono ?_; rintro e w1 ⟨a1, l1, c1, rfl, g1, g2⟩; obtain rfl : l1 = 2 := g1.tab.lens.1.symm; have g3 := g1.later ((Below.refl _ _).alloc (Nat.le_refl _) (.cells #[.slice a1 2 c1] 24)); have HT1 := Lib.hid g3.tab; obtain ⟨ds, hr, _, hd, _⟩ := g3.tab; obtain ⟨b, off, al, ll, cl, rfl, hc0, hl0⟩ := hr.cells2 0 (by omega); obtain ⟨b', off', al', ll', cl', e1, hc1, hl1⟩ := hr.cells2 1 (by omega); cases e1; rw [hd] at hl0 hl1; obtain rfl : ll = 0 := hl0; obtain rfl : ll' = 8 := hl1; rw [Nat.add_zero] at hc0; have HB1 := Lib.hid (g2.alloc g2.size (.cells #[.slice (some ⟨b, off, none⟩) 2 c1] 24)); have b1 := one_cell9 (Blk.new w1 24 #[.slice (some ⟨b, off, none⟩) 2 c1]); have HX1 := Lib.hid (Blk.new w1 24 #[.slice (some ⟨b, off, none⟩) 2 c1]); clear g1 g2 g3 hr hd)
    | (go_at_call 17; (with_reducible refine (H9.out _ _ _ _ HT1.out).mono ?_); rintro e w2 ⟨rfl, g⟩; have HT2 := Lib.hid (HT1.out.later g); have HB2 := Lib.hid (HB1.out.trans (g.mono HB1.out.size)); have b2 := one_cell9 (HX1.out.later g); clear g)
    | (go_at_call 17; (with_reducible refine (H8.out _ _ _ _ HT2.out).mono ?_); rintro e w3 ⟨rfl, g⟩; have HB3 := Lib.hid (HB2.out.trans (g.mono HB2.out.size)); clear g))
  go_ret
  exact ⟨rfl, HB3.out⟩
end Go.Proofs.Ytbmgcofcjkcaaaa
