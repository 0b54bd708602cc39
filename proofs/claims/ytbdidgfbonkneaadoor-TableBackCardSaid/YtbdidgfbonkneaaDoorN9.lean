/-
  What slices.Clone answers at leaves and at slices of leaves (tables). Conditions: what came in reads.
-/
import Derived.Test.YtbdidgfbonkneaaDoorM9
import Derived.Lib.SliceRun
namespace Go.Proofs.YtbdidgfbonkneaaDoor
open Go.RowKit
set_option linter.unusedVariables false

set_option maxHeartbeats 1600000 in
theorem cloneE9 (w : World) (d : LfD) (h : LfR w d) (hlen : d.2.1 ≤ 1000000) : Calls Tryd.prog 49 #[.slice d.1 d.2.1 d.2.2.1] w fun e w' => ∃ d' : LfD, e = .returned (.slice d'.1 d'.2.1 d'.2.2.1) ∧ d'.2.2.2 = d.2.2.2 ∧ LfO w' w.heap.size d' ∧ Below w.heap.size w w' := by
  have q0 : ∀ (w : World) (a : Option Addr) (n c n' c' : Nat), (binOp .eql 51 (.slice a n c) (.slice none n' c')).run Tryd.prog w = .ok (.bool a.isNone) w := fun w a n c n' c' => Lib.run_eql_slice_nil w _ _ a n c n' c' Tryd.underlying51
  obtain ⟨a, len, cap, xs⟩ := d
  obtain ⟨h1, h2, h3, h4⟩ := h
  dsimp only at h1 h2 h3 h4 hlen ⊢
  cases a with
  | none =>
    obtain rfl := h3 rfl
    obtain rfl : len = 0 := by omega
    obtain rfl : xs = [] := List.eq_nil_of_length_eq_zero h1.1
    go_enter Tryd.func49, Tryd.ntmps49
    go_wp2
    go_ret
    first | exact ⟨(none, 0, 0, []), rfl, rfl, LfO.none _ _, Below.refl _ _⟩ | exact ⟨none, 0, 0, [], rfl, rfl, LfO.none _ _, Below.refl _ _⟩ | exact ⟨none, 0, 0, rfl, LfO.none _ _, Below.refl _ _⟩
  | some x =>
    have HX := Lib.hid h1
    have H4 := Lib.hid h4
    obtain ⟨xb, xo, xs'⟩ := x
    clear h1 h4
    go_enter Tryd.func49, Tryd.ntmps49
    go_wp2_with (at_builtin; refine append_g_copy en_rowed rfl _ _ rfl w.heap.size rfl _ len cap xs rfl (fun e => by cases e) HX.out (by omega) (Nat.le_refl _) ?_; intro a1 c1 w1 hO hg; have HO := Lib.hid hO; have HG := Lib.hid hg; clear hO hg)
    go_ret
    exact ⟨(a1, len, c1, xs), rfl, rfl, ⟨HO.out, H4.out⟩, HG.out⟩
set_option maxHeartbeats 1600000 in
theorem cloneL9 (w : World) (a : Option Addr) (len cap : Nat) (ds : List LfD) (h1 : Reads cvD w a len ds) (h2 : len ≤ cap) (h3 : a = none → cap = 0) (hlen : len ≤ 1000000) : Calls Tryd.prog 48 #[.slice a len cap] w fun e w' => ∃ a' c', e = .returned (.slice a' len c') ∧ OwnG cvD 51 1 w' w.heap.size (.slice a' len c') len ds ∧ Below w.heap.size w w' := by
  have q0 : ∀ (w : World) (a : Option Addr) (n c n' c' : Nat), (binOp .eql 22 (.slice a n c) (.slice none n' c')).run Tryd.prog w = .ok (.bool a.isNone) w := fun w a n c n' c' => Lib.run_eql_slice_nil w _ _ a n c n' c' Tryd.underlying22
  cases a with
  | none =>
    obtain rfl := h3 rfl
    obtain rfl : len = 0 := by omega
    obtain rfl : ds = [] := List.eq_nil_of_length_eq_zero h1.1
    go_enter Tryd.func48, Tryd.ntmps48
    go_wp2
    go_ret
    exact ⟨none, 0, rfl, OwnG.none _ _ _ _ _, Below.refl _ _⟩
  | some x =>
    have HX := Lib.hid h1
    obtain ⟨xb, xo, xs'⟩ := x
    clear h1
    go_enter Tryd.func48, Tryd.ntmps48
    go_wp2_with (at_builtin; refine append_g_copy lf_rowed rfl _ _ rfl w.heap.size rfl _ len cap ds rfl (fun e => by cases e) HX.out (by omega) (Nat.le_refl _) ?_; intro a1 c1 w1 hO hg; have HO := Lib.hid hO; have HG := Lib.hid hg; clear hO hg)
    go_ret
    exact ⟨a1, c1, rfl, HO.out, HG.out⟩
end Go.Proofs.YtbdidgfbonkneaaDoor
