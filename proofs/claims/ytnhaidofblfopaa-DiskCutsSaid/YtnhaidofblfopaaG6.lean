/-
  strings.Clone at these numbers (package disk: the name of a new file). Conditions: a short string.
-/
import Derived.Test.YtnhaidofblfopaaW5
import Derived.Shelf.SlGeneric
import Derived.Shelf.Pu.Clone
namespace Go.Proofs.Ytnhaidofblfopaa
open Go.RowKit Go.Shelf
set_option linter.unusedVariables false

def sClone_ren : Go.Shelf.Ren := ⟨fun | 25 => 44 | n => n, fun | 9 => 9 | 3 => 3 | 4 => 4 | 37 => 22 | 0 => 0 | 47 => 103 | 5 => 5 | n => n, fun | n => n⟩
theorem sClone : Go.Proofs.LaysPu.n25 Try.prog sClone_ren := {
  mixed := by kernel_rfl
  f25 := Try.func44.trans (congrArg some (by kernel_rfl))
  t0 := Try.underlying0
  a0 := Try.isAgg0
  z0 := Try.sizeOf0
  v0 := Try.zeroValue0
  i0 := by kernel_rfl
  t3 := Try.underlying3
  a3 := Try.isAgg3
  z3 := Try.sizeOf3
  v3 := Try.zeroValue3
  i3 := by kernel_rfl
  t4 := Try.underlying4
  a4 := Try.isAgg4
  z4 := Try.sizeOf4
  v4 := Try.zeroValue4
  i4 := by kernel_rfl
  t5 := Try.underlying5
  a5 := Try.isAgg5
  z5 := Try.sizeOf5
  v5 := Try.zeroValue5
  i5 := by kernel_rfl
  t9 := Try.underlying9
  a9 := Try.isAgg9
  z9 := Try.sizeOf9
  v9 := Try.zeroValue9
  i9 := by kernel_rfl
  t37 := Try.underlying22
  a37 := Try.isAgg22
  z37 := Try.sizeOf22
  v37 := Try.zeroValue22
  i37 := by kernel_rfl
  t47 := Try.underlying103
  a47 := Try.isAgg103
  z47 := Try.sizeOf103
  v47 := Try.zeroValue103
  i47 := by kernel_rfl }

theorem sclone_any (s : Nm) (w : World) (h : s.size ≤ 16) : Calls Try.prog 27 #[.string s] w fun e w' => e = .returned (.string s) ∧ Below w.heap.size w w' := by
  have hc : Calls Try.prog 44 #[.string s] w fun e w' => e = .returned (.string s) ∧ Below w.heap.size w w' := AnyPu.stringslite_Clone sClone s w (by omega)
  have HC := Lib.hid hc
  clear hc
  go_enter Try.func27, Try.ntmps27
  go_wp2_with (go_at_call 44; refine HC.out.mono ?_; rintro e w1 ⟨rfl, hB⟩)
  go_ret
  exact ⟨rfl, hB⟩
end Go.Proofs.Ytnhaidofblfopaa
