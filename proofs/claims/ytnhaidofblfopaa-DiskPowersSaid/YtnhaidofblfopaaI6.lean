/-
  What the project's own disk answers to Remove and Cut while the power is off (package disk). Conditions: no power.
-/
import Derived.Test.YtnhaidofblfopaaW5
namespace Go.Proofs.Ytnhaidofblfopaa
open Go.RowKit
set_option linter.unusedVariables false

theorem diskRemove_dead {w0 w : World} {p : Addr} {D D' : Dsk} {S : Nat → Prop} (h : Has w0 p D w S) (s : Nm) (E : Int) (he : D.remove s = (E, D')) (hdd : D.dead = true) :
    Calls Try.prog 21 #[.pointer (some p), .string s] w (Gives w0 p D' (.int .i64 E) S w) := by
  obtain ⟨B, room, vF, L, cnt, fails, dead, rfl, rfl, hd, hr⟩ := h.open'
  unfold Dsk.remove at he
  rw [if_pos hdd] at he
  cases he
  obtain rfl : dead = true := hr.deadEq.symm.trans hdd
  have HD := Lib.hid hd
  have HR := Lib.hid hr
  have HH := Lib.hid h
  clear hd hr h
  go_enter Try.func21, Try.ntmps21
  go_wp2_with (go_at_call 26; refine (ready_any HD.out).mono ?_; rintro e w' ⟨rfl, rfl⟩)
  go_ret
  exact HH.out.close' HD.out HR.out (Away.refl _ _) _
theorem diskCut_dead {w0 w : World} {p : Addr} {D D' : Dsk} {S : Nat → Prop} (h : Has w0 p D w S) (s : Nm) (n : Int) (E : Int) (he : D.cut s n = (E, D')) (hdd : D.dead = true) :
    Calls Try.prog 22 #[.pointer (some p), .string s, .int .i64 n] w (Gives w0 p D' (.int .i64 E) S w) := by
  obtain ⟨B, room, vF, L, cnt, fails, dead, rfl, rfl, hd, hr⟩ := h.open'
  unfold Dsk.cut at he
  rw [if_pos hdd] at he
  cases he
  obtain rfl : dead = true := hr.deadEq.symm.trans hdd
  have HD := Lib.hid hd
  have HR := Lib.hid hr
  have HH := Lib.hid h
  clear hd hr h
  go_enter Try.func22, Try.ntmps22
  go_wp2_with (go_at_call 30; refine (open_dead HD.out s).mono ?_; rintro e w' ⟨rfl, rfl⟩)
  go_ret
  exact HH.out.close' HD.out HR.out (Away.refl _ _) _
end Go.Proofs.Ytnhaidofblfopaa
