/-
  An index that there is not; an entry that came in (layer 11). Conditions: none.
-/
import Derived.Test.YtobnmdjpcmegiaaKp
namespace Go.Proofs.Ytobnmdjpcmegiaa
open Go.RowKit Go.ChangeShapes Go.WideShapes
set_option linter.unusedVariables false

abbrev EnOk (x : En) : Prop := x = x
theorem entry_open {H : Type} {enc : TypeId × Value → H} {W : World} {r : Reach} {b0 base : Nat} {held : Bool} {v : Value} {d : DataW H} {p : List MemPlace} (hv : Value.okWide Try.prog W r b0 35 v) (h : DataW.Trod enc Try.prog W base (fun _ => true) held 35 v d p) :
    ∃ k s n z m, v = .agg #[.int .i64 k, .int .i64 s, .int .i64 n, .int .i64 z, .int .u32 m] ∧ EnOk (k, s, n, z, m) := by
  obtain ⟨cs, rfl, hsz⟩ := okWide_struct Try.underlying35 hv
  have h5 : cs.size = 5 := hsz.trans (by kernel_rfl)
  obtain ⟨fuel, hf⟩ := h
  obtain ⟨⟨k, s, n, z, m⟩, he⟩ := en_of_trod (cs := cs.toList) (by simpa using h5) (by simpa [Value.cells] using hf)
  refine ⟨k, s, n, z, m, ?_, rfl⟩
  have : cs = (enV (k, s, n, z, m)).toArray := by rw [← he]
  rw [this]
  rfl
theorem addN_any (w : World) (b e : Value) (k s m z g : Int) (he : e = .agg #[.int .i64 k, .int .i64 s, .int .i64 m, .int .i64 z, .int .u32 g]) : Calls Try.prog 12 #[.pointer none, b, e] w fun e w' => e = .returned (.tuple #[]) ∧ Below w.heap.size w w' := by
  subst he
  go_enter Try.func12, Try.ntmps12
  go_wp2
  refine bodyPost_ret (results_none rfl _ _ _) rfl ?_
  exact ⟨rfl, (Below.refl _ _).alloc (Nat.le_refl _) _⟩
theorem findN_any (w : World) (b : Value) : Calls Try.prog 13 #[.pointer none, b] w fun e w' => e = .returned (.slice none 0 0) ∧ w' = w := by
  go_enter Try.func13, Try.ntmps13
  go_wp2
  go_ret
  exact ⟨rfl, rfl⟩
theorem forgetN_any (w : World) (k s m z g : Int) : Calls Try.prog 15 #[.pointer none, .agg #[.int .i64 k, .int .i64 s, .int .i64 m, .int .i64 z, .int .u32 g]] w fun e w' => e = .returned (.bool false) ∧ Below w.heap.size w w' := by
  go_enter Try.func15, Try.ntmps15
  go_wp2
  go_ret
  exact ⟨rfl, (Below.refl _ _).alloc (Nat.le_refl _) _⟩
theorem lenN_any (w : World) : Calls Try.prog 14 #[.pointer none] w fun e w' => e = .returned (.int .i64 0) ∧ w' = w := by
  go_enter Try.func14, Try.ntmps14
  go_wp2
  go_ret
  exact ⟨rfl, rfl⟩
theorem copyN_any (w : World) : Calls Try.prog 16 #[.pointer none] w fun e w' => e = .returned (.pointer none) ∧ w' = w := by
  go_enter Try.func16, Try.ntmps16
  go_wp2
  go_ret
  exact ⟨rfl, rfl⟩
end Go.Proofs.Ytobnmdjpcmegiaa
