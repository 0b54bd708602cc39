/-
  What the project's own part (a slice expression whose panic a deferred closure catches) answers. Conditions: the slice reads as bytes, its length is no greater than its capacity.
-/
import Derived.Test.YtdffgnpldapciaaGreatDoorS2
import Derived.Defers
import Derived.Recover
import Derived.Laws.Pointers
namespace Go.Proofs.YtdffgnpldapciaaGreatDoor
open Go.RowKit

/-- A bound that is out of order: one panic, of the run-time's own type; nothing is written. -/
theorem bounds_panics {α : Type} (k : IntKind) (x y : Int) (code : BoundsCode) (W : World) : ∃ (pv : Value) (W' : World), (boundsPanic (α := α) k x y code).run Tryz.prog W = .halt (.panic (.iface Tryz.prog.rt.boundsError pv)) W' ∧ (W' = W ∨ W' = W.drew) := by
  by_cases hc : k ≠ .u64 ∧ 0 ≤ x ∧ x ≤ 31
  · refine ⟨.agg #[.int .i64 (IntKind.i64.wrap x), .int .i64 y, .bool (W.tape W.drawn (.extern "runtime.boundsError.signed" 2) % 2 == 1), .int .u8 code.toNat], W.drew, ?_, Or.inr rfl⟩
    simp [boundsPanic, Question.forced, Question.cut, runtimePanic, goPanic, hc.1, hc.2.1, hc.2.2]
  · refine ⟨.agg #[.int .i64 (IntKind.i64.wrap x), .int .i64 y, .bool (k != .u64), .int .u8 code.toNat], W, ?_, Or.inl rfl⟩
    have hc' : (k != .u64 && decide (0 ≤ x) && decide (x ≤ 31)) = false := by
      rw [Bool.eq_false_iff]
      intro h
      simp only [Bool.and_eq_true, bne_iff_ne, ne_eq, decide_eq_true_eq] at h
      exact hc ⟨h.1.1, h.1.2, h.2⟩
    simp [boundsPanic, runtimePanic, goPanic, hc']

theorem bound_ok (x : Int) (k y : Nat) (code : BoundsCode) (W : World) (hx : x = (k : Int)) (h : k ≤ y) : (Instr.sliceBound (.int .i64 x) y code).run Tryz.prog W = .ok k W := by
  subst hx
  simp [Instr.sliceBound, asIntOf, h]
theorem bound_out (x : Int) (y : Nat) (code : BoundsCode) (W : World) (h : x < 0 ∨ (y : Int) < x) : (Instr.sliceBound (.int .i64 x) y code).run Tryz.prog W = (boundsPanic .i64 x y code).run Tryz.prog W := by
  have : ¬ (0 ≤ x ∧ x ≤ (y : Int)) := by omega
  simp [Instr.sliceBound, asIntOf, this]

/-- 's[:len(s):len(s)]'. -/
theorem slice_whole {w : World} {a : Option Addr} {len cap : Nat} {l : List Int} (h : Bytes w a len l) (hcap : len ≤ cap) :
    ∃ a' : Option Addr, (∀ w' : World, (Instr.slice 22 (.slice a len cap) none (some (.int .i64 len)) (some (.int .i64 len))).run Tryz.prog w' = .ok (.slice a' len len) w') ∧ Bytes w a' len l := by
  obtain ⟨i0, hi0, _, hz1, _⟩ := info_parts info5
  obtain ⟨h1, h2, h3⟩ := h
  refine ⟨if len = 0 then a else a.map (·.add (0 * 1)), fun w' => ?_, ⟨h1, h2, ?_⟩⟩
  · simp [Instr.slice, Instr.sliceBounds, bound_ok _ len cap _ w' rfl hcap, run_underlying Tryz.underlying22, sizeOf, typeInfo, hi0, go_sem]
  · by_cases hz : len = 0
    · exact Or.inl hz
    · obtain ⟨b, off, rfl, hlt, hc⟩ := h3.resolve_left hz
      refine Or.inr ⟨b, off, ?_, hlt, hc⟩
      rw [if_neg hz]
      simp [Addr.add]

/-- 's[i:k:k]', the bounds in order. -/
theorem slice_part {w : World} {a : Option Addr} {len : Nat} {l : List Int} (h : Bytes w a len l) (p n K : Nat) (hK : K = p + n) (hp : K ≤ len) :
    ∃ a' : Option Addr, (∀ w' : World, (Instr.slice 22 (.slice a len len) (some (.int .i64 p)) (some (.int .i64 K)) (some (.int .i64 K))).run Tryz.prog w' = .ok (.slice a' n n) w') ∧ Bytes w a' n ((l.drop p).take n) := by
  obtain ⟨i0, hi0, _, hz1, _⟩ := info_parts info5
  obtain ⟨h1, h2, h3⟩ := h
  have hsm : Small ((l.drop p).take n) := ⟨by rw [List.length_take, List.length_drop]; have := h2.1; omega, fun c hc => h2.2 c (List.mem_of_mem_drop (List.mem_of_mem_take hc))⟩
  have hln : ((l.drop p).take n).length = n := by rw [List.length_take, List.length_drop]; omega
  have hpK : p ≤ K := by omega
  have hKp : K - p = n := by omega
  refine ⟨if K = p then a else a.map (·.add (p * 1)), fun w' => ?_, ⟨hln, hsm, ?_⟩⟩
  · simp [Instr.slice, Instr.sliceBounds, Instr.sliceBound, asIntOf, run_underlying Tryz.underlying22, sizeOf, typeInfo, hi0, hz1, hp, hpK, hKp, go_sem]
  · by_cases hz : n = 0
    · exact Or.inl hz
    · obtain ⟨b, off, rfl, hlt, hc⟩ := h3.resolve_left (by omega)
      refine Or.inr ⟨b, off + p, ?_, hlt, fun j hj => ?_⟩
      · rw [if_neg (by omega)]
        simp [Addr.add]
      · rw [hln] at hj
        have := hc (p + j) (by omega)
        rw [Nat.add_assoc, this, List.getD_eq_getElem?_getD, List.getD_eq_getElem?_getD, List.getElem?_take, if_pos (by omega), List.getElem?_drop]

/-- 's[i:k:k]', a bound out of order. -/
theorem slice_out (a : Option Addr) (len : Nat) (i k : Int) (W : World) (h : k < 0 ∨ (len : Int) < k ∨ i < 0) :
    ∃ (pv : Value) (W' : World), (Instr.slice 22 (.slice a len len) (some (.int .i64 i)) (some (.int .i64 k)) (some (.int .i64 k))).run Tryz.prog W = .halt (.panic (.iface Tryz.prog.rt.boundsError pv)) W' ∧ (W' = W ∨ W' = W.drew) := by
  by_cases h1 : k < 0 ∨ (len : Int) < k
  · obtain ⟨pv, W', hr, hw⟩ := bounds_panics (α := Nat) .i64 k len .slice3Acap W
    refine ⟨pv, W', ?_, hw⟩
    simp [Instr.slice, Instr.sliceBounds, bound_out _ len _ W h1, hr, run_underlying Tryz.underlying22, go_sem]
  · obtain ⟨m, rfl, hm⟩ : ∃ m : Nat, k = (m : Int) ∧ m ≤ len := ⟨k.toNat, by omega, by omega⟩
    have h2 : i < 0 ∨ (m : Int) < i := by omega
    obtain ⟨pv, W', hr, hw⟩ := bounds_panics (α := Nat) .i64 i m .slice3C W
    refine ⟨pv, W', ?_, hw⟩
    simp [Instr.slice, Instr.sliceBounds, bound_ok _ m len _ W rfl hm, hr, run_underlying Tryz.underlying22, go_sem]
    omega
end Go.Proofs.YtdffgnpldapciaaGreatDoor
