/-
  The table of widths as the call finds it; what the project's own numbersOf and entryOf answer (package entry). Conditions: none.
-/
import Derived.Test.YtdffgnpldapciaaGreatDoorI8
namespace Go.Proofs.YtdffgnpldapciaaGreatDoor
open Go.RowKit
set_option linter.unusedVariables false

/-- The package's table of widths reads as it was laid. -/
def Wid (w : World) : Prop := w.cell? ⟨0, 0, none⟩ = some (.int .i64 1) ∧ w.cell? ⟨0, 1, none⟩ = some (.int .i64 1) ∧ w.cell? ⟨0, 2, none⟩ = some (.int .i64 2) ∧ w.cell? ⟨0, 3, none⟩ = some (.int .i64 4) ∧ w.cell? ⟨0, 4, none⟩ = some (.int .i64 4) ∧ w.cell? ⟨0, 5, none⟩ = some (.int .i64 4)
theorem Wid.lt {w : World} (h : Wid w) : 0 < w.heap.size := block_lt_of_cell h.1
theorem Wid.below {w w' : World} (h : Wid w) {B : Nat} (hb : Below B w w') (hB : w.heap.size ≤ B) : Wid w' := by
  have hl := Nat.lt_of_lt_of_le h.lt hB
  have hc : ∀ i, w'.cell? ⟨0, i, none⟩ = w.cell? ⟨0, i, none⟩ := fun i => hb.cell (p := ⟨0, i, none⟩) hl
  obtain ⟨h0, h1, h2, h3, h4, h5⟩ := h
  exact ⟨(hc 0).trans h0, (hc 1).trans h1, (hc 2).trans h2, (hc 3).trans h3, (hc 4).trans h4, (hc 5).trans h5⟩
theorem Wid.later {w w' : World} (h : Wid w) (hb : Below w.heap.size w w') : Wid w' := h.below hb (Nat.le_refl _)
theorem Wid.alloc {w : World} (h : Wid w) (o : Obj) : Wid (w.alloc o) := h.later ((Below.refl _ _).alloc (Nat.le_refl _) _)
theorem Wid.drew {w : World} (h : Wid w) : Wid w.drew := h.later (Below.refl _ _).drew
theorem Wid.range {w : World} (h : Wid w) : w.rangeAt 0 0 [.int .i64 1, .int .i64 1, .int .i64 2, .int .i64 4, .int .i64 4, .int .i64 4] := fun j v hj => by
  obtain ⟨h0, h1, h2, h3, h4, h5⟩ := h
  rw [Nat.zero_add]
  match j, hj with
  | 0, hj => cases hj; exact h0
  | 1, hj => cases hj; exact h1
  | 2, hj => cases hj; exact h2
  | 3, hj => cases hj; exact h3
  | 4, hj => cases hj; exact h4
  | 5, hj => cases hj; exact h5
  | j + 6, hj => cases hj
theorem blk_next (w : World) (t t' : TypeId) (cs cs' : Array Value) : ((w.alloc (.cells cs t)).alloc (.cells cs' t')).heap[w.heap.size + 1]? = some (.cells cs' t' (0, 0)) := by
  have := Blk.new (w.alloc (.cells cs t)) t' cs'
  rwa [World.size_alloc] at this
theorem six_size : (Tryz.prog.info? 148).map (·.size) = some 6 := by kernel_rfl
set_option maxHeartbeats 1600000 in
theorem numbersOf_any (k s n z m : Nat) (hk : k < 4294967296) (hs : s < 4294967296) (hn : n < 4294967296) (hz : z < 4294967296) (hm : m < 4294967296) (w : World) : Calls Tryz.prog 104 #[.agg #[.int .i64 k, .int .i64 s, .int .i64 n, .int .i64 z, .int .u32 m]] w fun e w' =>
    e = .returned (.agg #[.int .u64 k, .int .u64 0, .int .u64 n, .int .u64 s, .int .u64 z, .int .u64 m]) ∧ Below w.heap.size w w' := by
  have e0 : IntKind.u64.wrap (k : Int) = k := by rw [IntKind.wrap_u64]; omega
  have e1 : IntKind.u64.wrap (s : Int) = s := by rw [IntKind.wrap_u64]; omega
  have e2 : IntKind.u64.wrap (n : Int) = n := by rw [IntKind.wrap_u64]; omega
  have e3 : IntKind.u64.wrap (z : Int) = z := by rw [IntKind.wrap_u64]; omega
  have e4 : IntKind.u64.wrap (m : Int) = m := by rw [IntKind.wrap_u64]; omega
  have HG : Hid (∀ cs ds, Below w.heap.size w ((w.alloc (.cells cs 91)).alloc (.cells ds 148))) := fun cs ds => ((Below.refl _ _).alloc (Nat.le_refl _) _).alloc (by simp) _
  go_enter Tryz.func104, Tryz.ntmps104
  go_wp2
  refine bodyPost_ret (v := .agg #[.int .u64 k, .int .u64 0, .int .u64 n, .int .u64 s, .int .u64 z, .int .u64 m]) (results_cell_row rfl _ _ (w.heap.size + 1) 148 #[.int .u64 k, .int .u64 0, .int .u64 n, .int .u64 s, .int .u64 z, .int .u64 m] (0, 0) _ rfl ?_ Tryz.underlying148 rfl six_size) rfl ⟨rfl, HG.out _ _⟩
  exact blk_next _ _ _ _ _
set_option maxHeartbeats 1600000 in
theorem entryOf_any (y : Int) (k n s z m : Nat) (hk : k < 4294967296) (hs : s < 4294967296) (hn : n < 4294967296) (hz : z < 4294967296) (hm : m < 4294967296) (w : World) : Calls Tryz.prog 98 #[.agg #[.int .u64 k, .int .u64 y, .int .u64 n, .int .u64 s, .int .u64 z, .int .u64 m]] w fun e w' =>
    e = .returned (.agg #[.int .i64 k, .int .i64 s, .int .i64 n, .int .i64 z, .int .u32 m]) ∧ Below w.heap.size w w' := by
  have e0 : IntKind.i64.wrap (k : Int) = k := by rw [IntKind.wrap_i64]; omega
  have e1 : IntKind.i64.wrap (s : Int) = s := by rw [IntKind.wrap_i64]; omega
  have e2 : IntKind.i64.wrap (n : Int) = n := by rw [IntKind.wrap_i64]; omega
  have e3 : IntKind.i64.wrap (z : Int) = z := by rw [IntKind.wrap_i64]; omega
  have e4 : IntKind.u32.wrap (m : Int) = m := by rw [IntKind.wrap_u32]; omega
  have HG : Hid (∀ cs ds, Below w.heap.size w ((w.alloc (.cells cs 148)).alloc (.cells ds 91))) := fun cs ds => ((Below.refl _ _).alloc (Nat.le_refl _) _).alloc (by simp) _
  go_enter Tryz.func98, Tryz.ntmps98
  go_wp2
  refine bodyPost_ret (v := .agg #[.int .i64 k, .int .i64 s, .int .i64 n, .int .i64 z, .int .u32 m]) (results_cell_row rfl _ _ (w.heap.size + 1) 91 #[.int .i64 k, .int .i64 s, .int .i64 n, .int .i64 z, .int .u32 m] (0, 0) _ rfl ?_ Tryz.underlying91 rfl entry_size) rfl ⟨rfl, HG.out _ _⟩
  exact blk_next _ _ _ _ _
end Go.Proofs.YtdffgnpldapciaaGreatDoor
