/-
  An entry that came in as an argument; that the document's example holds ('awake' of layer 7); both sides. Conditions: none.
-/
import Derived.Test.YtondacmkgaabkaaDoorE8
import Derived.Lib.SmallJoins
import Derived.Deep.RegionHeld3
namespace Go.Proofs.YtondacmkgaabkaaDoor
open Go.RowKit Go.ChangeShapes Go.WideShapes
set_option linter.unusedVariables false

theorem five {α : Type} {cs : Array α} (h : cs.size = 5) : ∃ a b c d e, cs = #[a, b, c, d, e] := by
  obtain ⟨l⟩ := cs
  match l, h with
  | [a, b, c, d, e], _ => exact ⟨a, b, c, d, e, rfl⟩
theorem some_at {α : Type} {xs : List α} (i : Nat) (h : i < xs.length) : ∃ y, xs[i]? = some y := ⟨_, List.getElem?_eq_getElem h⟩
theorem entry_open {H : Type} {enc : TypeId × Value → H} {W : World} {r : Reach} {b0 base : Nat} {spare : Nat → Bool} {held : Bool} {v : Value} {d : DataW H} {p : List MemPlace} (hv : Value.okWide Tryd.prog W r b0 24 v) (h : DataW.Trod enc Tryd.prog W base spare held 24 v d p) :
    ∃ k s n z m, v = .agg #[.int .i64 k, .int .i64 s, .int .i64 n, .int .i64 z, .int .u32 m] ∧ EnOk (k, s, n, z, m) := by
  obtain ⟨cs, rfl, hsz⟩ := okWide_struct Tryd.underlying24 hv
  have h5 : cs.size = 5 := hsz.trans (by kernel_rfl)
  obtain ⟨c0, c1, c2, c3, c4, rfl⟩ := five h5
  obtain ⟨fuel, hf⟩ := h
  obtain ⟨xs, q, _, _, _, hlen, hx⟩ := DataW.trod_struct Tryd.underlying24 hf
  have hl : xs.length = 5 := hlen
  have ci : Tryd.prog.cellsOf 3 = 1 := by kernel_rfl
  have cu : Tryd.prog.cellsOf 22 = 1 := by kernel_rfl
  obtain ⟨y0, g0⟩ := some_at (xs := xs) 0 (by omega)
  obtain ⟨y1, g1⟩ := some_at (xs := xs) 1 (by omega)
  obtain ⟨y2, g2⟩ := some_at (xs := xs) 2 (by omega)
  obtain ⟨y3, g3⟩ := some_at (xs := xs) 3 (by omega)
  obtain ⟨y4, g4⟩ := some_at (xs := xs) 4 (by omega)
  have t0 := (hx 0 _ rfl).trans g0
  have t1 := (hx 1 _ rfl).trans g1
  have t2 := (hx 2 _ rfl).trans g2
  have t3 := (hx 3 _ rfl).trans g3
  have t4 := (hx 4 _ rfl).trans g4
  obtain ⟨k, e0, _, w0⟩ := DataW.trod_int Tryd.underlying3 t0
  obtain ⟨s, e1, _, w1⟩ := DataW.trod_int Tryd.underlying3 t1
  obtain ⟨n, e2, _, w2⟩ := DataW.trod_int Tryd.underlying3 t2
  obtain ⟨z, e3, _, w3⟩ := DataW.trod_int Tryd.underlying3 t3
  obtain ⟨m, e4, _, w4⟩ := DataW.trod_int Tryd.underlying22 t4
  obtain rfl : c0 = .int .i64 k := by simpa [Value.cells, ci] using e0
  obtain rfl : c1 = .int .i64 s := by simpa [Value.cells, ci] using e1
  obtain rfl : c2 = .int .i64 n := by simpa [Value.cells, ci] using e2
  obtain rfl : c3 = .int .i64 z := by simpa [Value.cells, ci] using e3
  obtain rfl : c4 = .int .u32 m := by simpa [Value.cells, cu] using e4
  have b0 := bounds_i64 w0
  have b1 := bounds_i64 w1
  have b2 := bounds_i64 w2
  have b3 := bounds_i64 w3
  have b4 := bounds_u32 w4
  refine ⟨k, s, n, z, m, rfl, ?_⟩
  unfold EnOk I64
  dsimp only
  omega
theorem num_any8 (n : Int) (w : World) : Calls Tryd.prog 12 #[.int .i64 n] w fun e w' => e = .returned (.int .i64 n) ∧ w = w' := by
  go_enter Tryd.func12, Tryd.ntmps12
  go_wp2
  go_ret
  exact ⟨rfl, rfl⟩
theorem may8 : MayE (1, 0, 0, 0, 0) 3 := by decide
theorem ok8 : EnOk (1, 0, 0, 0, 0) := by unfold EnOk I64; dsimp only; omega
theorem b8 : enB (1, 0, 0, 0, 0) = [1, 0, 0, 0, 0, 0, 0, 0, 0, 0, 0, 0, 0, 0, 0, 0] := by decide
set_option maxHeartbeats 1600000 in
theorem awake_any8 {w : World} (hw : Wid w) : Calls Tryd.prog 13 #[] w fun e w' => e = .returned (.bool true) ∧ Below w.heap.size w w' := by
  have h1 : ∀ w, Wid w → Calls Tryd.prog 8 #[.agg #[.int .i64 1, .int .i64 0, .int .i64 0, .int .i64 0, .int .u32 0], .int .i64 3] w (PutPost w (enB (1, 0, 0, 0, 0)) 0) := fun w h => entryPut_ok may8 ok8 w h
  rw [b8] at h1
  have HP := Lib.hid h1
  have HN := Lib.hid (fun w => num_any8 0 w)
  clear h1
  go_enter Tryd.func13, Tryd.ntmps13
  go_wp2_with (first
    | (go_at_call 12; go_in)
    | (go_at_call 8; (with_reducible refine (HP.out _ hw).mono ?_); rintro e w1 hp; obtain ⟨a1, c1, rfl, g1, g2, g⟩ := hp.sized (n := 16) rfl; obtain ⟨b, off, rfl⟩ := g1.lies (by omega); have k0 : w1.cell? ⟨b, off, none⟩ = some (.int .u8 1) := g1.cellAt 0 (by omega); have k15 : w1.cell? ⟨b, off + 15, none⟩ = some (.int .u8 0) := g1.cellAt 15 (by omega); have HG := Lib.hid g; clear hp g1 g2 g))
  go_ret
  exact ⟨rfl, HG.out⟩
/-- Both sides' Put answer alike. -/
theorem entry_both {k s n z m c : Int} (ho : EnOk (k, s, n, z, m)) : ∃ (L : List Int) (err : Int),
    (∀ w, Wid w → Calls Tryd.prog 8 #[.agg #[.int .i64 k, .int .i64 s, .int .i64 n, .int .i64 z, .int .u32 m], .int .i64 c] w (PutPost w L err)) ∧
    (∀ w, Calls Tryd.prog 9 #[.agg #[.int .i64 k, .int .i64 s, .int .i64 n, .int .i64 z, .int .u32 m], .int .i64 c] w (PutPost w L err)) := by
  by_cases hm : MayE (k, s, n, z, m) c
  · exact ⟨_, 0, fun w h => entryPut_ok hm ho w h, fun w => refEntry_ok hm ho w⟩
  · exact ⟨[], 1, fun w _ => entryPut_arg hm ho w, fun w => refEntry_arg hm ho w⟩
def gotA (o : Option En) : Array Value := (enV (o.getD enZ)).toArray
def gotE (o : Option En) : Int := if o.isSome then 0 else 3
theorem GotN.at {o : Option En} {w0 w : World} {e : Ending} (h : GotN o w0 e w) {k s n z m err : Int} (hA : gotA o = #[.int .i64 k, .int .i64 s, .int .i64 n, .int .i64 z, .int .u32 m]) (hE : gotE o = err) :
    e = .returned (.tuple #[.agg #[.int .i64 k, .int .i64 s, .int .i64 n, .int .i64 z, .int .u32 m], .int .i64 err]) ∧ Below w0.heap.size w0 w := by
  rw [← hA, ← hE]
  exact h
theorem got_is (o : Option En) : ∃ k s n z m err : Int, gotA o = #[.int .i64 k, .int .i64 s, .int .i64 n, .int .i64 z, .int .u32 m] ∧ gotE o = err ∧ ((o = none ∧ err = 3 ∧ k = 0 ∧ s = 0 ∧ n = 0 ∧ z = 0 ∧ m = 0) ∨ (o = some (k, s, n, z, m) ∧ err = 0)) := by
  cases o with
  | none => exact ⟨0, 0, 0, 0, 0, 3, rfl, rfl, Or.inl ⟨rfl, rfl, rfl, rfl, rfl, rfl, rfl⟩⟩
  | some x => exact ⟨x.1, x.2.1, x.2.2.1, x.2.2.2.1, x.2.2.2.2, 0, rfl, rfl, Or.inr ⟨rfl, rfl⟩⟩
end Go.Proofs.YtondacmkgaabkaaDoor
