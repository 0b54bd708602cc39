/-
  What the reference's Copy answers (layer 8). Conditions: the table reads, no more than 6000 leaves.
-/
import Derived.Test.YtipljkegmhclkaaT0
import Derived.Deep.RegionHeld3
namespace Go.Proofs.Ytipljkegmhclkaa
open Go.RowKit
set_option linter.unusedVariables false

theorem TabQ.box {w w' : World} {base len cap : Nat} {a : Option Addr} {ds es : List LfD} (h : TabQ w base a len cap ds es) {Y : Nat} {cs : Array Value} (hY : Blk w Y 24 cs) (hg : w.grownBy w' (some Y)) : TabQ w' base a len cap ds es :=
  h.kept hg (fun k hk e => by cases e; exact hY.not_row (by decide) h.out hk.symm) (fun d hd k hk e => by cases e; exact hY.not_row (by decide) (h.leaf d hd).1 hk.symm)
/-- The boxes of Copy. -/
def BoxK (X : Nat) (s r o : Value) (w0 W : World) : Prop := Blk W X 24 #[s] ∧ Blk W (X + 1) 24 #[r] ∧ Blk W (X + 2) 24 #[o] ∧ Below X w0 W
section
variable {X : Nat} {s r o : Value} {w0 W W' : World}
theorem BoxK.later (h : BoxK X s r o w0 W) (hb : Below W.heap.size W W') : BoxK X s r o w0 W' := ⟨h.1.later hb, h.2.1.later hb, h.2.2.1.later hb, h.2.2.2.trans (hb.mono (Nat.le_of_lt h.1.lt))⟩
theorem BoxK.app (h : BoxK X s r o w0 W) {base n : Nat} {v : Value} {l : List LfD} (hq : OwnG cvD 69 1 W base v n l) (hb : X ≤ base) (hg : W.grownBy W' v.ownBlock) : BoxK X s r o w0 W' :=
  ⟨h.1.kept hg (h.1.not_row (by decide) hq), h.2.1.kept hg (h.2.1.not_row (by decide) hq), h.2.2.1.kept hg (h.2.2.1.not_row (by decide) hq), h.2.2.2.grown hg (Nat.le_of_lt h.1.lt) (fun k hk => Nat.le_trans hb (hq.1.lt k hk).1)⟩
theorem BoxK.out (h : BoxK X s r o w0 W) (v : Value) : BoxK X s r v w0 (W.setCell ⟨X + 2, 0, none⟩ v) :=
  ⟨h.1.other (by omega) _, h.2.1.other (by omega) _, h.2.2.1.set 0 v, h.2.2.2.setCell (by show X ≤ X + 2; omega) _⟩
theorem BoxK.res (h : BoxK X s r o w0 W) (v : Value) : BoxK X s v o w0 (W.setCell ⟨X + 1, 0, none⟩ v) :=
  ⟨h.1.other (by omega) _, h.2.1.set 0 v, h.2.2.1.other (by omega) _, h.2.2.2.setCell (by show X ≤ X + 1; omega) _⟩
theorem BoxK.cells (h : BoxK X s r o w0 W) : W.cell? ⟨X, 0, none⟩ = some s ∧ W.cell? ⟨X + 1, 0, none⟩ = some r ∧ W.frozen? ⟨X + 1, 0, none⟩ = false ∧ W.cell? ⟨X + 1 + 1, 0, none⟩ = some o ∧ W.frozen? ⟨X + 1 + 1, 0, none⟩ = false :=
  ⟨one_cell9 h.1, one_cell9 h.2.1, h.2.1.free 0, one_cell9 h.2.2.1, h.2.2.1.free 0⟩
theorem BoxK.first (w : World) (s r o : Value) : BoxK w.heap.size s r o w (((w.alloc (.cells #[s] 24)).alloc (.cells #[r] 24)).alloc (.cells #[o] 24)) := by
  refine ⟨((Blk.new w _ _).alloc _).alloc _, Blk.alloc (blk_next9 _ _ _ _ _) _, ?_, (((Below.refl _ _).alloc (Nat.le_refl _) _).alloc (by simp) _).alloc (by simp; omega) _⟩
  have := Blk.new ((w.alloc (.cells #[s] 24)).alloc (.cells #[r] 24)) 24 #[o]
  rwa [World.size_alloc, World.size_alloc] at this
end
theorem BoxK.alloc {X : Nat} {s r o : Value} {w0 W : World} (h : BoxK X s r o w0 W) (x : Obj) : BoxK X s r o w0 (W.alloc x) := h.later ((Below.refl _ _).alloc (Nat.le_refl _) _)
/-- 'append([]api.Entry{}, x...)', at one operation. -/
theorem wp_copyleaf9 {o : Oper} {a : Act} {w0 : World} {K : Act → World → Prop} {Q : Exit → Act → World → Prop} (s x : Operand)
    (ho : o.op = .call { callee := .builtin .append, args := #[s, x], argTypes := #[69, 69] }) (base : Nat) (hbase : base ≤ w0.heap.size) (d : LfD) (hd : LfR w0 d) (hl : d.2.1 ≤ 1000000)
    (hs : a.eval s = .slice (some ⟨w0.heap.size, 0, none⟩) 0 0) (hx : a.eval x = .slice d.1 d.2.1 d.2.2.1)
    (h : ∀ (d' : LfD) w', d'.2.1 = d.2.1 ∧ d'.2.2.2 = d.2.2.2 → LfO w' w0.heap.size d' → Below w0.heap.size w0 w' → K (a.put o.dst (.slice d'.1 d.2.1 d'.2.2.1)) w') : o.wp Try.prog a (w0.alloc (.cells #[] 72)) K Q := by
  refine wp_append_lg en_rowed s x ho w0.heap.size _ 0 [] hs (OwnG.made _ _ _ _ _ (Nat.le_refl _)) d.1 d.2.1 d.2.2.1 d.2.2.2 hx hd.2.2.1 (hd.1.later ((Below.refl _ _).alloc (Nat.le_refl _) _)) (by omega) (by simp) ?_
  intro a' c' w' h1 h2 h3
  rw [Nat.zero_add, List.nil_append] at h1
  rw [Nat.zero_add]
  refine h (a', d.2.1, c', d.2.2.2) w' ⟨rfl, rfl⟩ ⟨h1, hd.2.2.2⟩ ?_
  exact ((Below.refl _ _).alloc (Nat.le_refl _) _).grown h2 (by simp) (fun k hk => by simp [Value.ownBlock] at hk; omega)
/-- 'append(t.L, leaf)', at one operation. -/
theorem wp_push9 {o : Oper} {a : Act} {w0 : World} {K : Act → World → Prop} {Q : Exit → Act → World → Prop} (s x : Operand)
    (ho : o.op = .call { callee := .builtin .append, args := #[s, x], argTypes := #[22, 22] }) (base : Nat) {ao : Option Addr} {len c : Nat} {es : List LfD} (hq : TabQ w0 base ao len c es es) {d : LfD} (hd : LfO w0 base d)
    (hnew : ∀ x ∈ es, ∀ b, blkD x = some b → blkD d ≠ some b) (hbase : base ≤ w0.heap.size) (hl : len ≤ 1000000) {l : Nat} (hdl : d.2.1 = l)
    (hs : a.eval s = .slice ao len c) (hx : a.eval x = .slice (some ⟨w0.heap.size, 0, none⟩) 1 1)
    (h : ∀ a' c' w', TabQ w' base a' (len + 1) c' (es ++ [d]) (es ++ [d]) → (w0.alloc (.cells #[.slice d.1 l d.2.2.1] 69)).grownBy w' (Value.slice ao len c).ownBlock → K (a.put o.dst (.slice a' (len + 1) c')) w') : o.wp Try.prog a (w0.alloc (.cells #[.slice d.1 l d.2.2.1] 69)) K Q := by
  subst hdl
  have hqa := hq.alloc (.cells #[.slice d.1 d.2.1 d.2.2.1] 69)
  refine wp_append_lg lf_rowed s x ho base _ len es hs hqa.out (some ⟨w0.heap.size, 0, none⟩) 1 1 [d] hx (fun e => by cases e) (one_reads (cv := cvD) w0 d _ _ rfl) (by omega) (by rw [World.size_alloc]; omega) ?_
  intro a' c' w' h1 h2 h3
  refine h a' c' w' ?_ h2
  have hdk : LfO w' base d := (hd.later ((Below.refl _ _).alloc (Nat.le_refl _) _)).kept h2 fun k hk e => row_apart hqa.out (hd.later ((Below.refl _ _).alloc (Nat.le_refl _) (.cells #[.slice d.1 d.2.1 d.2.2.1] 69))).1 (by decide) k e hk
  exact (hqa.push h1 h2).addEs d hdk hnew
end Go.Proofs.Ytipljkegmhclkaa
