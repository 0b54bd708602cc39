/-
  The table's functions as the laws call them, the document's example (layer 8). Conditions: the tables read.
-/
import Derived.Test.YtbdidgfbonkneaaDoorR9
import Derived.Test.YtbdidgfbonkneaaDoorV9
import Derived.Test.YtbdidgfbonkneaaDoorL9
import Derived.Test.YtbdidgfbonkneaaDoorE9
namespace Go.Proofs.YtbdidgfbonkneaaDoor
open Go.RowKit
set_option linter.unusedVariables false

/-- The table with nothing from n to i. -/
def CutTo (T T' : Tb) (c : Int) (n i : Nat) : Prop := rightT T' 4096 c ∧ ∀ j, atN T' j = if n ≤ j ∧ j < i then enZ else atN T j
theorem CutTo.first {T : Tb} {c : Int} (h : rightT T 4096 c) (n : Nat) : CutTo T T c n n := ⟨h, fun j => by rw [if_neg (by omega)]⟩
theorem CutTo.skip {T T' : Tb} {c : Int} {n i : Nat} (h : CutTo T T' c n i) (h0 : (atN T' i).1 = 0) (hm : ∀ j, MayE (atN T' j) c) : CutTo T T' c n (i + 1) := by
  refine ⟨h.1, fun j => ?_⟩
  by_cases hj : j = i
  · subst hj
    have e := none_is (hm j) h0
    by_cases h1 : n ≤ j
    · rw [if_pos (by omega), e]
    · rw [if_neg (by omega), h.2 j, if_neg (by omega)]
  · rw [h.2 j]
    by_cases h1 : n ≤ j ∧ j < i
    · rw [if_pos h1, if_pos (by omega)]
    · rw [if_neg h1, if_neg (by omega)]
theorem CutTo.set {T T' : Tb} {c : Int} {n i : Nat} (h : CutTo T T' c n i) (hn : n ≤ i) (hi : i < 4096) : CutTo T (setT T' i enZ) c n (i + 1) := by
  obtain ⟨g1, g2⟩ := setT_at h.1 (none_may h.1.2.1) (i := (i : Int)) (by omega)
  rw [Int.toNat_natCast] at g2
  refine ⟨g1, fun j => ?_⟩
  rw [g2]
  by_cases hj : j = i
  · subst hj
    rw [if_pos rfl, if_pos (by omega)]
  · rw [if_neg hj, h.2 j]
    by_cases h1 : n ≤ j ∧ j < i
    · rw [if_pos h1, if_pos (by omega)]
    · rw [if_neg h1, if_neg (by omega)]
theorem right_may {T : Tb} {c : Int} (h : rightT T 4096 c) (j : Nat) : MayE (atN T j) c := by
  unfold atN
  rcases h.ok (j / 8) with e | ⟨h1, h2⟩
  · rw [e, lfAt_nil]
    exact none_may h.2.1
  · exact h2 _ (Nat.mod_lt _ (by omega))
theorem CutTo.all {T T' : Tb} {c : Int} {n : Int} {i : Nat} (h : CutTo T T' c n.toNat i) (hr : rightT T 4096 c) (hi : T.length * 8 ≤ i ∨ (i = n.toNat ∧ T.length * 8 ≤ n.toNat)) : T' = cutT T n := by
  obtain ⟨g1, g2⟩ := cutT_at hr n
  refine right_ext h.1 g1 fun j => ?_
  rw [h.2, g2]
  have hz : T.length * 8 ≤ j → atN T j = enZ := fun hj => by
    unfold atN
    rw [tbAt_out (by omega), lfAt_nil]
  by_cases h1 : n.toNat ≤ j ∧ j < i
  · rw [if_pos h1, if_neg (by omega)]
  · rw [if_neg h1]
    by_cases h2 : j < n.toNat
    · rw [if_pos h2]
    · rw [if_neg h2]
      exact hz (by omega)
theorem kind9 (v1 v2 v3 v4 v5 : Int) (w : World) : (Instr.field 47 (.agg #[.int .i64 v1, .int .i64 v2, .int .i64 v3, .int .i64 v4, .int .u32 v5]) 0).run Tryd.prog w = .ok (.int .i64 v1) w := by kernel_rfl
theorem TabN.box {w w' : World} {base len cap : Nat} {a : Option Addr} {T : Tb} (h : TabN w base a len cap T) {Y : Nat} {cs : Array Value} (hY : Blk w Y 24 cs) (hg : w.grownBy w' (some Y)) : TabN w' base a len cap T := by
  obtain ⟨es, h1, h2⟩ := h
  exact ⟨es, h1.box hY hg, h2⟩
theorem BoxC.out {X Y : Nat} {s r o : Value} {w0 W : World} (h : BoxC X Y s r o w0 W) (v : Value) : BoxC X Y s r v w0 (W.setCell ⟨Y, 0, none⟩ v) :=
  ⟨h.1.other (by have := h.2.2.2.2; omega) _, h.2.1.other (by have := h.2.2.2.2; omega) _, h.2.2.1.set 0 v, h.2.2.2.1.setCell (by show X ≤ Y; have := h.2.2.2.2; omega) _, h.2.2.2.2⟩

theorem getT {a : Option Addr} {len cap : Nat} {T : Tb} (w : World) (h : Tab w a len cap T) (i : Int) (hi : I64 i) {v1 v2 v3 v4 v5 : Int} (hv : atT T i = (v1, v2, v3, v4, v5)) : Calls Tryd.prog 16 #[.agg #[.slice a len cap], .int .i64 i] w fun e w' => e = .returned (.agg #[.int .i64 v1, .int .i64 v2, .int .i64 v3, .int .i64 v4, .int .u32 v5]) ∧ Below w.heap.size w w' := by
  obtain ⟨ds, h1, h2, rfl, _⟩ := h
  have := get9_any w a len cap ds i h1 hi
  rw [hv] at this
  exact this
theorem rightTT {a : Option Addr} {len cap : Nat} {T : Tb} {n c : Int} {R : Bool} (hR : decide (rightT T n c) = R) (w : World) (h : Tab w a len cap T) : Calls Tryd.prog 17 #[.agg #[.slice a len cap], .int .i64 n, .int .i64 c] w fun e w' => e = .returned (.bool R) ∧ Below w.heap.size w w' := by
  obtain ⟨ds, h1, h2, rfl, h3, _⟩ := h
  exact right9_is w a len cap ds n c h1 h3 R hR
theorem refRightT {a : Option Addr} {len cap : Nat} {T : Tb} {n c : Int} {R : Bool} (hR : decide (rightT T n c) = R) (w : World) (h : Tab w a len cap T) : Calls Tryd.prog 22 #[.agg #[.slice a len cap], .int .i64 n, .int .i64 c] w fun e w' => e = .returned (.bool R) ∧ Below w.heap.size w w' := by
  obtain ⟨ds, h1, h2, rfl, h3, _⟩ := h
  exact refRight9_is w a len cap ds n c h1 R hR
theorem tablesT {a1 a2 : Option Addr} {n1 n2 c1 c2 : Nat} {T1 T2 : Tb} {R : Bool} (hR : decide (T1 = T2) = R) (w : World) (h1 : Tab w a1 n1 c1 T1) (h2 : Tab w a2 n2 c2 T2) : Calls Tryd.prog 13 #[.agg #[.slice a1 n1 c1], .agg #[.slice a2 n2 c2]] w fun e w' => e = .returned (.bool R) ∧ Below w.heap.size w w' := by
  obtain ⟨ds1, k1, _, rfl, _⟩ := h1
  obtain ⟨ds2, k2, _, rfl, _⟩ := h2
  subst hR
  exact refTables_any w a1 a2 n1 n2 c1 c2 ds1 ds2 k1 k2
theorem Tab.nil (w : World) : Tab w none 0 0 [] := (TabN.first w 0).tab
/-- The document's example. -/
def exT : Tb := [[], [enZ, (1, 0, 0, 0, 0), enZ, enZ, enZ, enZ, enZ, enZ]]
theorem ex_is : setT [] 9 (1, 0, 0, 0, 0) = exT := by
  have hr : rightT [] 4096 0 := right_nil (by omega)
  have hm : MayE (1, 0, 0, 0, 0) 0 := by decide
  have e : setT [] 9 (1, 0, 0, 0, 0) = setN [] 9 (1, 0, 0, 0, 0) := by
    unfold setT
    rw [if_pos ⟨by omega, 0, hr, hm⟩]
    rfl
  rw [e, ← setG_is hr hm (by omega)]
  decide
theorem TabR.cells2 {w : World} {a : Option Addr} {len : Nat} {ds : List LfD} (h : TabR w a len ds) (i : Nat) (hi : i < len) : ∃ b off al ll cl, a = some ⟨b, off, none⟩ ∧ w.cell? ⟨b, off + i, none⟩ = some (.slice al ll cl) ∧ ll = (tbAt (tbOf ds) i).length := by
  obtain ⟨b, off, al, ll, cl, xs, h1, h2, h3, h4, _⟩ := h.at i hi
  exact ⟨b, off, al, ll, cl, h1, h2, by rw [h4]; exact h3.len.symm⟩
theorem awake9 (w : World) : Calls Tryd.prog 7 #[] w fun e w' => e = .returned (.bool true) ∧ Below w.heap.size w w' := by
  have ho : EnOk (1, 0, 0, 0, 0) := by unfold EnOk I64; dsimp only; omega
  have HS : Hid (∀ w, Calls Tryd.prog 18 #[.agg #[.slice none 0 0], .int .i64 9, .agg #[.int .i64 1, .int .i64 0, .int .i64 0, .int .i64 0, .int .u32 0]] w _) := fun w => set9_any w none 0 0 [] 9 1 0 0 0 0 (Tab.nil w) (by unfold I64; omega) ho
  rw [ex_is] at HS
  have H9 := Lib.hid (fun (w : World) (a : Option Addr) (l c : Nat) (h : Tab w a l c exT) => getT w h 9 (by unfold I64; omega) (v1 := 1) (v2 := 0) (v3 := 0) (v4 := 0) (v5 := 0) (by decide))
  have H8 := Lib.hid (fun (w : World) (a : Option Addr) (l c : Nat) (h : Tab w a l c exT) => getT w h 8 (by unfold I64; omega) (v1 := 0) (v2 := 0) (v3 := 0) (v4 := 0) (v5 := 0) (by decide))
  have k1 := fun w => kind9 1 0 0 0 0 w
  have k0 := fun w => kind9 0 0 0 0 0 w
  go_enter Tryd.func7, Tryd.ntmps7
  go_wp2_with (first
    | (go_at_call 18; refine (HS.out _).mono ?_; rintro e w1 ⟨a1, l1, c1, rfl, g1, g2⟩; obtain rfl : l1 = 2 := g1.tab.lens.1.symm; have g3 := g1.later ((Below.refl _ _).alloc (Nat.le_refl _) (.cells #[.slice a1 2 c1] 24)); have HT1 := Lib.hid g3.tab; obtain ⟨ds, hr, _, hd, _⟩ := g3.tab; obtain ⟨b, off, al, ll, cl, rfl, hc0, hl0⟩ := hr.cells2 0 (by omega); obtain ⟨b', off', al', ll', cl', e1, hc1, hl1⟩ := hr.cells2 1 (by omega); cases e1; rw [hd] at hl0 hl1; obtain rfl : ll = 0 := hl0; obtain rfl : ll' = 8 := hl1; rw [Nat.add_zero] at hc0; have HB1 := Lib.hid (g2.alloc g2.size (.cells #[.slice (some ⟨b, off, none⟩) 2 c1] 24)); have b1 := one_cell9 (Blk.new w1 24 #[.slice (some ⟨b, off, none⟩) 2 c1]); have HX1 := Lib.hid (Blk.new w1 24 #[.slice (some ⟨b, off, none⟩) 2 c1]); clear g1 g2 g3 hr hd)
    | (go_at_call 16; (with_reducible refine (H9.out _ _ _ _ HT1.out).mono ?_); rintro e w2 ⟨rfl, g⟩; have HT2 := Lib.hid (HT1.out.later g); have HB2 := Lib.hid (HB1.out.trans (g.mono HB1.out.size)); have b2 := one_cell9 (HX1.out.later g); clear g)
    | (go_at_call 16; (with_reducible refine (H8.out _ _ _ _ HT2.out).mono ?_); rintro e w3 ⟨rfl, g⟩; have HB3 := Lib.hid (HB2.out.trans (g.mono HB2.out.size)); clear g))
  go_ret
  exact ⟨rfl, HB3.out⟩
end Go.Proofs.YtbdidgfbonkneaaDoor
