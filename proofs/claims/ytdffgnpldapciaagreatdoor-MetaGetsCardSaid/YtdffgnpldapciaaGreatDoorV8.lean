/-
  What the row's condition on the table of widths gives: that it reads as it was laid; and a world that meets it. Conditions: none.
-/
import Derived.Test.YtdffgnpldapciaaGreatDoorRows
import Derived.Test.YtdffgnpldapciaaGreatDoorE8
import Derived.ProofKit
import Derived.LaidMore
import Derived.OpenShut
import Derived.MakeChecks
namespace Go.Proofs.YtdffgnpldapciaaGreatDoor
open Go.ChangeShapes Go.WideShapes Go.ChangeAt Go.WideMaps Go.WideElems Go.RowKit
set_option linter.unusedVariables false
set_option maxRecDepth 100000

def laid8 : List (String × DataW Unit) := [("matryoshka/entry.widths", Rows.laid_matryoshka_entry_widths)]
theorem gWidths : Tryz.prog.globalNamed "matryoshka/entry.widths" = some 0 := by kernel_rfl
theorem tWidths : (Tryz.prog.globals[0]?).map (·.type) = some 157 := by kernel_rfl
theorem door_met (os : Os) (args : Array Value) : laidMetH Tryz.prog laid8 ((World.doorLaid Tryz.prog 400 os).forCall (fun _ _ => 0) ⟨#[], args, []⟩).memory :=
  laidMetH_of_parts3 (fuel := 8) (laidMet_of_run' 8 (by kernel_rfl) (by kernel_rfl)) (by kernel_rfl) (by kernel_rfl)
theorem int_at {W : World} {m : Nat} {sp : Nat → Bool} {c : Value} {d : DataW Unit} {pl : List MemPlace} {k : Int} (h : DataW.trod (fun _ => ()) Tryz.prog W 0 sp false m 3 [c] = some (d, pl)) (hd : d = .lit (.int .i64 k)) : c = .int .i64 k := by
  obtain ⟨r, e1, e2, _⟩ := DataW.trod_int Tryz.underlying3 h
  subst hd
  simp at e2
  rw [e2.1]
  simpa using e1
theorem wid_of_laid {W : World} (h : laidMetH Tryz.prog laid8 W) : Wid W := by
  rw [MakeChecks.laidMetH_plain _ _ _ (by kernel_rfl)] at h
  obtain ⟨ps, ⟨g0, t0, cs0, f0, p0, q0, hg0, ht0, hv0, hd0, _, _⟩, _, _⟩ := h
  obtain rfl := Option.some.inj (gWidths.symm.trans hg0)
  obtain rfl := Option.some.inj (tWidths.symm.trans ht0)
  obtain ⟨xs, m1, rfl, hx1, hlen, hn6, hel⟩ := DataW.trod_array Tryz.underlying157 hd0
  have c3 : Tryz.prog.cellsOf 3 = 1 := by kernel_rfl
  have c6 : Tryz.prog.cellsOf 157 = 6 := by kernel_rfl
  rw [c6] at hlen
  have hcell := fun i => World.var?_cell hg0 hv0 i
  obtain ⟨l0⟩ := cs0
  simp only [c3] at hel
  simp only at hlen hel
  match l0, hlen, xs, hn6 with
  | [a, b, c, d, e, f], _, [x0, x1, x2, x3, x4, x5], _ =>
    simp only [Prod.mk.injEq, List.map_cons, List.map_nil, Rows.laid_matryoshka_entry_widths, DataW.agg.injEq, List.cons.injEq] at hx1
    obtain ⟨⟨e0, e1, e2, e3, e4, e5, _⟩, _⟩ := hx1
    have h0 := hel 0 (by decide)
    have h1 := hel 1 (by decide)
    have h2 := hel 2 (by decide)
    have h3 := hel 3 (by decide)
    have h4 := hel 4 (by decide)
    have h5 := hel 5 (by decide)
    obtain rfl := int_at (d := x0.1) (pl := x0.2) h0 e0.symm
    obtain rfl := int_at (d := x1.1) (pl := x1.2) h1 e1.symm
    obtain rfl := int_at (d := x2.1) (pl := x2.2) h2 e2.symm
    obtain rfl := int_at (d := x3.1) (pl := x3.2) h3 e3.symm
    obtain rfl := int_at (d := x4.1) (pl := x4.2) h4 e4.symm
    obtain rfl := int_at (d := x5.1) (pl := x5.2) h5 e5.symm
    exact ⟨hcell 0, hcell 1, hcell 2, hcell 3, hcell 4, hcell 5⟩
end Go.Proofs.YtdffgnpldapciaaGreatDoor
