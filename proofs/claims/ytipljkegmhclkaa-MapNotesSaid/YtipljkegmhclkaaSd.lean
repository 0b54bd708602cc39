/-
  What the project's copies.Shot answers (package copies). Conditions: what came in reads.
-/
import Derived.Test.YtipljkegmhclkaaSc
namespace Go.Proofs.Ytipljkegmhclkaa
open Go.RowKit
set_option linter.unusedVariables false

/-- Stores of a whole struct into its box. -/
theorem grownTwo {W W1 W2 : World} {r : Option Nat} (h : W.grownBy W1 r) (k : W1.grownBy W2 r) : W.grownBy W2 r :=
  ⟨k.os.trans h.os, k.tape.trans h.tape, k.output.trans h.output, Nat.le_trans h.size k.size, fun b hb hne => (k.block b (Nat.lt_of_lt_of_le hb h.size) hne).trans (h.block b hb hne)⟩
theorem grown3 (W : World) (Y : Nat) (v0 v1 v2 : Value) : W.grownBy (((W.setCell ⟨Y, 0, none⟩ v0).setCell ⟨Y, 1, none⟩ v1).setCell ⟨Y, 2, none⟩ v2) (some Y) :=
  grownTwo (grownTwo (grownBy_setCell4 W Y 0 v0) (grownBy_setCell4 _ Y 1 v1)) (grownBy_setCell4 _ Y 2 v2)
theorem Blk.set3 {W : World} {Y : Nat} {t : TypeId} {a b c : Value} (h : Blk W Y t #[a, b, c]) (v0 v1 v2 : Value) : Blk (((W.setCell ⟨Y, 0, none⟩ v0).setCell ⟨Y, 1, none⟩ v1).setCell ⟨Y, 2, none⟩ v2) Y t #[v0, v1, v2] := ((h.set 0 v0).set 1 v1).set 2 v2
theorem grown7 (W : World) (Y : Nat) (v0 v1 v2 v3 v4 v5 v6 : Value) : W.grownBy (((((((W.setCell ⟨Y, 0, none⟩ v0).setCell ⟨Y, 1, none⟩ v1).setCell ⟨Y, 2, none⟩ v2).setCell ⟨Y, 3, none⟩ v3).setCell ⟨Y, 4, none⟩ v4).setCell ⟨Y, 5, none⟩ v5).setCell ⟨Y, 6, none⟩ v6) (some Y) :=
  grownTwo (grownTwo (grownTwo (grownTwo (grown3 W Y v0 v1 v2) (grownBy_setCell4 _ Y 3 v3)) (grownBy_setCell4 _ Y 4 v4)) (grownBy_setCell4 _ Y 5 v5)) (grownBy_setCell4 _ Y 6 v6)
theorem Blk.set7 {W : World} {Y : Nat} {t : TypeId} {a0 a1 a2 a3 a4 a5 a6 : Value} (h : Blk W Y t #[a0, a1, a2, a3, a4, a5, a6]) (v0 v1 v2 v3 v4 v5 v6 : Value) :
    Blk (((((((W.setCell ⟨Y, 0, none⟩ v0).setCell ⟨Y, 1, none⟩ v1).setCell ⟨Y, 2, none⟩ v2).setCell ⟨Y, 3, none⟩ v3).setCell ⟨Y, 4, none⟩ v4).setCell ⟨Y, 5, none⟩ v5).setCell ⟨Y, 6, none⟩ v6) Y t #[v0, v1, v2, v3, v4, v5, v6] := by
  have h0 : Blk _ Y t #[v0, a1, a2, a3, a4, a5, a6] := h.set 0 v0
  have h1 : Blk _ Y t #[v0, v1, a2, a3, a4, a5, a6] := h0.set 1 v1
  have h2 : Blk _ Y t #[v0, v1, v2, a3, a4, a5, a6] := h1.set 2 v2
  have h3 : Blk _ Y t #[v0, v1, v2, v3, a4, a5, a6] := h2.set 3 v3
  have h4 : Blk _ Y t #[v0, v1, v2, v3, v4, a5, a6] := h3.set 4 v4
  have h5 : Blk _ Y t #[v0, v1, v2, v3, v4, v5, a6] := h4.set 5 v5
  have h6 : Blk _ Y t #[v0, v1, v2, v3, v4, v5, v6] := h5.set 6 v6
  exact h6
theorem belowRow {B : Nat} {a w w' : World} (h : Below B a w) {Y : Nat} (hg : w.grownBy w' (some Y)) (hB : B ≤ Y) (hs : B ≤ w.heap.size) : Below B a w' := h.grown hg hs fun k hk => by cases hk; exact hB
theorem Blk.apart {W W' : World} {B Y : Nat} {t : TypeId} {cs : Array Value} (h : Blk W B t cs) (hg : W.grownBy W' (some Y)) (hne : B ≠ Y) : Blk W' B t cs := h.kept hg (fun e => hne (Option.some.inj e))
theorem blk_next {w : World} {t t' : TypeId} {cs cs' : Array Value} : Blk ((w.alloc (.cells cs t)).alloc (.cells cs' t')) (w.heap.size + 1) t' cs' := by
  have := Blk.new (w.alloc (.cells cs t)) t' cs'
  rwa [World.size_alloc] at this
theorem append_lg {α : Type} {P : Program} {t e : TypeId} {sz bytes : Nat} {cv : α → List Value} (R : Rowed P t e sz bytes cv) {ops : Array Oper} {rest : List Oper} {o : Oper} {a : Act} {w : World} {Q : Exit → Act → World → Prop} (hgd : o.guard = Option.none) (s x : Operand)
    (ho : o.op = .call { callee := .builtin .append, args := #[s, x], argTypes := #[t, t] }) (base : Nat) (v : Value) (n : Nat) (xs : List α) (hs : a.eval s = v) (hown : OwnG cv e sz w base v n xs)
    (ao : Option Addr) (m c : Nat) (l : List α) (hx : a.eval x = .slice ao m c) (hnil : ao = Option.none → c = 0) (hB : Reads cv w ao m l) (hn : n + m ≤ 10000000) (hbase : base ≤ w.heap.size)
    (h : ∀ a' c' w', OwnG cv e sz w' base (.slice a' (n + m) c') (n + m) (xs ++ l) → w.grownBy w' v.ownBlock → ((Value.slice a' (n + m) c').ownBlock = v.ownBlock ∨ (Value.slice a' (n + m) c').ownBlock = some w.heap.size) → wpList P ops Q rest (a.put o.dst (.slice a' (n + m) c')) w') : wpList P ops Q (o :: rest) a w :=
  wpList_plain hgd fun K hK => wp_append_lg R s x ho base v n xs hs hown ao m c l hx hnil hB hn hbase fun a' c' w' h1 h2 h3 => hK _ _ (h a' c' w' h1 h2 h3)
theorem pcopyShot (w : World) (nm : ByteArray) (sz : Int) (al : Option Addr) (ll cl : Nat) (T : Tb) (h : Tab w al ll cl T) : Calls Try.prog 30 #[.agg #[.string nm, .int .i64 sz, .slice al ll cl]] w fun e w' => ∃ (a' : Option Addr) (c' : Nat), e = .returned (.agg #[.string nm, .int .i64 sz, .slice a' ll c']) ∧ TabN w' w.heap.size a' ll c' T ∧ Below w.heap.size w w' := by
  have HT := Lib.hid (fun W (hb : Below w.heap.size w W) => pcopyT W (h.later hb))
  have HX : Hid (Blk ((w.alloc (.cells #[.string nm, .int .i64 sz, .slice al ll cl] 62)).alloc (.cells #[.string ByteArray.empty, .int .i64 0, .slice none 0 0] 62)) w.heap.size 62 #[.string nm, .int .i64 sz, .slice al ll cl]) := (Blk.new w _ _).alloc _
  have HY : Hid (Blk ((w.alloc (.cells #[.string nm, .int .i64 sz, .slice al ll cl] 62)).alloc (.cells #[.string ByteArray.empty, .int .i64 0, .slice none 0 0] 62)) (w.heap.size + 1) 62 #[.string ByteArray.empty, .int .i64 0, .slice none 0 0]) := by
    have := Blk.new (w.alloc (.cells #[.string nm, .int .i64 sz, .slice al ll cl] 62)) 62 #[.string ByteArray.empty, .int .i64 0, .slice none 0 0]
    rwa [World.size_alloc] at this
  have HB : Hid (Below w.heap.size w ((w.alloc (.cells #[.string nm, .int .i64 sz, .slice al ll cl] 62)).alloc (.cells #[.string ByteArray.empty, .int .i64 0, .slice none 0 0] 62))) := ((Below.refl _ _).alloc (Nat.le_refl _) _).alloc (by simp) _
  clear h
  go_enter Try.func30, Try.ntmps30
  go_wp2_with (go_at_call 46; refine (HT.out _ HB.out).mono ?_; rintro e w1 ⟨a1, c1, rfl, ht, hb⟩; have HX1 := Lib.hid (HX.out.later hb); have HY1 := Lib.hid (HY.out.later hb); have HB1 := Lib.hid (HB.out.trans (hb.mono HB.out.size)); have HT1 := Lib.hid ht; obtain ⟨x0, x1, x2⟩ := cells3 HX1.out; obtain ⟨f0, f1, f2⟩ := free3 HX1.out; obtain ⟨y0, y1, y2⟩ := cells3 HY1.out; obtain ⟨g0, g1, g2⟩ := free3 HY1.out; clear hb ht)
  have hl1 := HX1.out.lt
  have k1 := grownBy_setCell4 w1 w.heap.size 2 (.slice a1 ll c1)
  have k2 := grown3 (w1.setCell ⟨w.heap.size, 2, none⟩ (.slice a1 ll c1)) (w.heap.size + 1) (.string nm) (.int .i64 sz) (.slice a1 ll c1)
  have t1 := (HT1.out.mono (base' := w.heap.size) HB.out.size).typed HX1.out (by decide) (by decide) k1
  have t2 := t1.typed (HY1.out.apart k1 (by omega)) (by decide) (by decide) k2
  have b1 := belowRow HB1.out k1 (Nat.le_refl _) (by omega)
  have b2 := belowRow b1 k2 (by omega) (by rw [World.size_setCell]; omega)
  have r2 := (HY1.out.apart k1 (by omega)).set3 (.string nm) (.int .i64 sz) (.slice a1 ll c1)
  exact bodyPost_ret (v := .agg #[.string nm, .int .i64 sz, .slice a1 ll c1]) (results_cell_row rfl _ _ (w.heap.size + 1) 62 #[.string nm, .int .i64 sz, .slice a1 ll c1] (0, 0) _ rfl r2 Try.underlying62 rfl shot_size) rfl ⟨a1, c1, rfl, t2, b2⟩
end Go.Proofs.Ytipljkegmhclkaa
