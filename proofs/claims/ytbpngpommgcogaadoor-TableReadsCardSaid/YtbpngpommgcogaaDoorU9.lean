/-
  What the reference's Cut answers (layer 8). Conditions: the table reads, no more than 6000 leaves; the place is an int.
-/
import Derived.Test.YtbpngpommgcogaaDoorT9
import Derived.Test.YtbpngpommgcogaaDoorC9
namespace Go.Proofs.YtbpngpommgcogaaDoor
open Go.RowKit
set_option linter.unusedVariables false

/-- The table with nothing from n to i. -/
def CutTo (T T' : Tb) (c : Int) (n i : Nat) : Prop := rightT T' 4096 c ∧ ∀ j, atN T' j = if n ≤ j ∧ j < i then enZ else atN T j
theorem CutTo.first {T : Tb} {c : Int} (h : rightT T 4096 c) (n : Nat) : CutTo T T c n n := ⟨h, fun j => by rw [if_neg (by omega)]⟩
theorem CutTo.skip {T T' : Tb} {c : Int} {n i : Nat} (h : CutTo T T' c n i) (h0 : (atN T' i).1 = 0) (hm : ∀ j, MayE (atN T' j) c) : CutTo T T' c n (i + 1) := by
  refine ⟨h.1, fun j => ?_⟩
  by_cases hj : j = i
  · subst hj
    have e := none_is (hm j) h0
    by_cases h1 : n ≤ j
    · rw [if_pos (by omega), e]
    · rw [if_neg (by omega), h.2 j, if_neg (by omega)]
  · rw [h.2 j]
    by_cases h1 : n ≤ j ∧ j < i
    · rw [if_pos h1, if_pos (by omega)]
    · rw [if_neg h1, if_neg (by omega)]
theorem CutTo.set {T T' : Tb} {c : Int} {n i : Nat} (h : CutTo T T' c n i) (hn : n ≤ i) (hi : i < 4096) : CutTo T (setT T' i enZ) c n (i + 1) := by
  obtain ⟨g1, g2⟩ := setT_at h.1 (none_may h.1.2.1) (i := (i : Int)) (by omega)
  rw [Int.toNat_natCast] at g2
  refine ⟨g1, fun j => ?_⟩
  rw [g2]
  by_cases hj : j = i
  · subst hj
    rw [if_pos rfl, if_pos (by omega)]
  · rw [if_neg hj, h.2 j]
    by_cases h1 : n ≤ j ∧ j < i
    · rw [if_pos h1, if_pos (by omega)]
    · rw [if_neg h1, if_neg (by omega)]
theorem right_may {T : Tb} {c : Int} (h : rightT T 4096 c) (j : Nat) : MayE (atN T j) c := by
  unfold atN
  rcases h.ok (j / 8) with e | ⟨h1, h2⟩
  · rw [e, lfAt_nil]
    exact none_may h.2.1
  · exact h2 _ (Nat.mod_lt _ (by omega))
theorem CutTo.all {T T' : Tb} {c : Int} {n : Int} {i : Nat} (h : CutTo T T' c n.toNat i) (hr : rightT T 4096 c) (hi : T.length * 8 ≤ i ∨ (i = n.toNat ∧ T.length * 8 ≤ n.toNat)) : T' = cutT T n := by
  obtain ⟨g1, g2⟩ := cutT_at hr n
  refine right_ext h.1 g1 fun j => ?_
  rw [h.2, g2]
  have hz : T.length * 8 ≤ j → atN T j = enZ := fun hj => by
    unfold atN
    rw [tbAt_out (by omega), lfAt_nil]
  by_cases h1 : n.toNat ≤ j ∧ j < i
  · rw [if_pos h1, if_neg (by omega)]
  · rw [if_neg h1]
    by_cases h2 : j < n.toNat
    · rw [if_pos h2]
    · rw [if_neg h2]
      exact hz (by omega)
theorem kind9 (v1 v2 v3 v4 v5 : Int) (w : World) : (Instr.field 47 (.agg #[.int .i64 v1, .int .i64 v2, .int .i64 v3, .int .i64 v4, .int .u32 v5]) 0).run Tryd.prog w = .ok (.int .i64 v1) w := by kernel_rfl
theorem TabN.box {w w' : World} {base len cap : Nat} {a : Option Addr} {T : Tb} (h : TabN w base a len cap T) {Y : Nat} {cs : Array Value} (hY : Blk w Y 24 cs) (hg : w.grownBy w' (some Y)) : TabN w' base a len cap T := by
  obtain ⟨es, h1, h2⟩ := h
  exact ⟨es, h1.box hY hg, h2⟩
theorem BoxC.out {X Y : Nat} {s r o : Value} {w0 W : World} (h : BoxC X Y s r o w0 W) (v : Value) : BoxC X Y s r v w0 (W.setCell ⟨Y, 0, none⟩ v) :=
  ⟨h.1.other (by have := h.2.2.2.2; omega) _, h.2.1.other (by have := h.2.2.2.2; omega) _, h.2.2.1.set 0 v, h.2.2.2.1.setCell (by show X ≤ Y; have := h.2.2.2.2; omega) _, h.2.2.2.2⟩
end Go.Proofs.YtbpngpommgcogaaDoor
