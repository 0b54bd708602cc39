/-
  What TableBack holds: three boxed tables (layer 8). Conditions: the tables read.
-/
import Derived.Test.YtbdidgfbonkneaaDoorD2
import Derived.Test.YtbdidgfbonkneaaDoorX9
import Derived.Test.YtbdidgfbonkneaaDoorP1
import Derived.Deep.RegionHeld3
namespace Go.Proofs.YtbdidgfbonkneaaDoor
open Go.RowKit
set_option linter.unusedVariables false

theorem num9 (n : Int) (w : World) : Calls Tryd.prog 10 #[.int .i64 n] w fun e w' => e = .returned (.int .i64 n) ∧ w = w' := by
  go_enter Tryd.func10, Tryd.ntmps10
  go_wp2
  go_ret
  exact ⟨rfl, rfl⟩
theorem put_right {T : Tb} {c : Int} (hr : rightT T 4096 c) (w : World) (a : Option Addr) (len cap : Nat) (hw : Wid w) (h : Tab w a len cap T) : Calls Tryd.prog 8 #[.agg #[.slice a len cap], .int .i64 c] w (PutPost w (tblB T) 0) := by
  obtain ⟨ds, h1, h2, rfl, h3, _⟩ := h
  exact put9_ok w a len cap ds c h1 h3 hr hw
theorem readU_back {T : Tb} {c : Int} (h : rightT T 4096 c) (ho : ∀ lf ∈ T, ∀ x ∈ lf, EnOk x) (l1 l2 : List Int) : readU (l1 ++ tblB T ++ l2) l1.length 4096 c = some (T, l1.length + (tblB T).length) := by
  have := readT_back h ho l1 l2
  have h2 : 2 ≤ (tblB T).length := by
    unfold tblB
    rw [List.length_append, numB_len]
    omega
  rwa [readT_in (by rw [List.length_append, List.length_append]; omega)] at this
/-- Three boxed tables: what was made, what was read, what was cut. -/
def BK (Y Z V : Nat) (p1 : Option Addr) (n1 c1 : Nat) (p2 : Option Addr) (n2 c2 : Nat) (p3 : Option Addr) (n3 c3 : Nat) (T C : Tb) (w0 W : World) : Prop :=
  Blk W Y 24 #[.slice p1 n1 c1] ∧ Blk W Z 24 #[.slice p2 n2 c2] ∧ Blk W V 24 #[.slice p3 n3 c3] ∧ Tab W p1 n1 c1 T ∧ Tab W p2 n2 c2 T ∧ Tab W p3 n3 c3 C ∧ Below w0.heap.size w0 W
section
variable {Y Z V : Nat} {p1 : Option Addr} {n1 c1 : Nat} {p2 : Option Addr} {n2 c2 : Nat} {p3 : Option Addr} {n3 c3 : Nat} {T C : Tb} {w0 W W' : World}
theorem BK.later (h : BK Y Z V p1 n1 c1 p2 n2 c2 p3 n3 c3 T C w0 W) (hb : Below W.heap.size W W') : BK Y Z V p1 n1 c1 p2 n2 c2 p3 n3 c3 T C w0 W' := ⟨h.1.later hb, h.2.1.later hb, h.2.2.1.later hb, h.2.2.2.1.later hb, h.2.2.2.2.1.later hb, h.2.2.2.2.2.1.later hb, h.2.2.2.2.2.2.trans (hb.mono h.2.2.2.2.2.2.size)⟩
theorem BK.drew (h : BK Y Z V p1 n1 c1 p2 n2 c2 p3 n3 c3 T C w0 W) : BK Y Z V p1 n1 c1 p2 n2 c2 p3 n3 c3 T C w0 W.drew := h.later (Below.refl _ _).drew
theorem BK.S (h : BK Y Z V p1 n1 c1 p2 n2 c2 p3 n3 c3 T C w0 W) : W.cell? ⟨Y, 0, none⟩ = some (.slice p1 n1 c1) ∧ W.cell? ⟨Z, 0, none⟩ = some (.slice p2 n2 c2) ∧ W.cell? ⟨V, 0, none⟩ = some (.slice p3 n3 c3) ∧ BK Y Z V p1 n1 c1 p2 n2 c2 p3 n3 c3 T C w0 W := ⟨one_cell9 h.1, one_cell9 h.2.1, one_cell9 h.2.2.1, h⟩
theorem bk_cut {A B D : Prop} (h : A ∧ B ∧ D ∧ BK Y Z V p1 n1 c1 p2 n2 c2 p3 n3 c3 T C w0 W) {j : Nat} (hj : j < 320) {v1 v2 v3 v4 v5 : Int} (hv : atT C (j : Int) = (v1, v2, v3, v4, v5)) : Calls Tryd.prog 16 #[.agg #[.slice p3 n3 c3], .int .i64 j] W fun e w' => e = .returned (.agg #[.int .i64 v1, .int .i64 v2, .int .i64 v3, .int .i64 v4, .int .u32 v5]) ∧ BK Y Z V p1 n1 c1 p2 n2 c2 p3 n3 c3 T C w0 w' :=
  (getT W h.2.2.2.2.2.2.2.2.1 (j : Int) (by unfold I64; omega) hv).mono fun e w' g => ⟨g.1, h.2.2.2.later g.2⟩
theorem bk_tab {A B D : Prop} (h : A ∧ B ∧ D ∧ BK Y Z V p1 n1 c1 p2 n2 c2 p3 n3 c3 T C w0 W) {j : Nat} (hj : j < 320) {v1 v2 v3 v4 v5 : Int} (hv : atT T (j : Int) = (v1, v2, v3, v4, v5)) : Calls Tryd.prog 16 #[.agg #[.slice p1 n1 c1], .int .i64 j] W fun e w' => e = .returned (.agg #[.int .i64 v1, .int .i64 v2, .int .i64 v3, .int .i64 v4, .int .u32 v5]) ∧ BK Y Z V p1 n1 c1 p2 n2 c2 p3 n3 c3 T C w0 w' :=
  (getT W h.2.2.2.2.2.2.1 (j : Int) (by unfold I64; omega) hv).mono fun e w' g => ⟨g.1, h.2.2.2.later g.2⟩
end
theorem cut_right {T : Tb} {c : Int} (h : rightT T 4096 c) {K : Nat} (hK : K ≤ 4096) : rightT (cutT T (K : Int)) (K : Int) c := by
  have hc := cutT_at h (K : Int)
  refine right_less hc.1 (by omega) fun j hj => ?_
  rw [hc.2, if_neg (by omega)]
  rfl
end Go.Proofs.YtbdidgfbonkneaaDoor
