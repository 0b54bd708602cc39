/-
  What the statements of layer 6 need: both sides' Put, Get and Order answer alike; arguments. Conditions: the slices read as bytes.
-/
import Derived.Test.YtpjlnanalielmaaM7
namespace Go.Proofs.Ytpjlnanalielmaa
open Go.RowKit
set_option linter.unusedVariables false

theorem arg_of7 {w : World} {a : Option Addr} {len cap : Nat} {zs : List Int}
    (h : (a = none ∧ len = 0 ∧ cap = 0 ∧ zs = []) ∨ ∃ x, a = some x ∧ len ≤ cap ∧ cap ≤ maxLen ∧ zs.length = cap ∧ (∀ i, i < zs.length → w.cell? (x.add i) = some (.int .u8 (zs.getD i 0))) ∧ ∀ n ∈ zs, (Lit.int .u8 n).wf = true)
    (hlen : len ≤ 20000) : ∃ l, Bytes w a len l ∧ len ≤ cap ∧ (a = none → cap = 0) := by
  refine ⟨_, bytes_of h hlen, ?_, ?_⟩
  · rcases h with ⟨_, rfl, rfl, _⟩ | ⟨x, _, h, _⟩
    · exact Nat.le_refl _
    · exact h
  · rcases h with ⟨_, _, h, _⟩ | ⟨x, h, _⟩
    · exact fun _ => h
    · intro e
      rw [e] at h
      cases h
/-- Both sides' Put answer alike. -/
theorem slot_both {q s c m : Int} (ho : SlOk (q, s, c, m)) : ∃ (L : List Int) (err : Int),
    (∀ w, Calls Try.prog 9 #[.agg #[.int .i64 q, .int .i64 s, .int .i64 c, .int .u32 m]] w (PutPost w L err)) ∧
    (∀ w, Calls Try.prog 10 #[.agg #[.int .i64 q, .int .i64 s, .int .i64 c, .int .u32 m]] w (PutPost w L err)) ∧ L.length ≤ 16 := by
  by_cases hm : May (q, s, c, m)
  · exact ⟨_, 0, fun w => slotPut_ok hm ho w, fun w => refSlot_ok hm ho w, by rw [slB_len]; exact Nat.le_refl _⟩
  · exact ⟨[], 1, fun w => slotPut_arg hm w, fun w => refSlot_arg hm w, by simp⟩
/-- A slot, or noughts, and the error's number. -/
def gotA (o : Option Sl) : Array Value := slA (o.getD slZ)
def gotE (o : Option Sl) : Int := if o.isSome then 0 else 3
theorem GotS.at {o : Option Sl} {w0 w : World} {e : Ending} (h : GotS o w0 e w) {q s c m err : Int} (hA : gotA o = #[.int .i64 q, .int .i64 s, .int .i64 c, .int .u32 m]) (hE : gotE o = err) :
    e = .returned (.tuple #[.agg #[.int .i64 q, .int .i64 s, .int .i64 c, .int .u32 m], .int .i64 err]) ∧ Below w0.heap.size w0 w := by
  rw [← hA, ← hE]
  exact h
theorem got_is (o : Option Sl) : ∃ q s c m err : Int, gotA o = #[.int .i64 q, .int .i64 s, .int .i64 c, .int .u32 m] ∧ gotE o = err ∧ (o.isSome → o = some (q, s, c, m)) := by
  cases o with
  | none => exact ⟨0, 0, 0, 0, 3, rfl, rfl, fun h => by cases h⟩
  | some x => exact ⟨x.1, x.2.1, x.2.2.1, x.2.2.2, 0, rfl, rfl, fun _ => rfl⟩
/-- The project's Order, the length under a name. -/
theorem order_at {w : World} {a1 a2 : Option Addr} {n1 c1 n2 c2 : Nat} {l1 l2 : List Int} (hB1 : Bytes w a1 n1 l1) (hc1 : n1 ≤ c1) (hB2 : Bytes w a2 n2 l2) (hc2 : n2 ≤ c2) {L : List Sl} {K : Nat} (hL : ordS (getS l1) (getS l2) = L) (hK : L.length = K) :
    Calls Try.prog 16 #[.slice a1 n1 c1, .slice a2 n2 c2] w fun e w' => ∃ a c, e = .returned (.slice a K c) ∧ OwnG slV 24 4 w' w.heap.size (.slice a K c) K L ∧ Below w.heap.size w w' :=
  (order_any7 w a1 a2 n1 c1 n2 c2 l1 l2 hB1 hc1 hB2 hc2).mono fun e w' ⟨v, n, k1, k2, k3⟩ => by
    rw [hL] at k2
    obtain rfl : n = K := k2.2.1.symm.trans hK
    obtain ⟨a, c, rfl, _⟩ := k2.shape sl_rowed
    exact ⟨a, c, k1, k2, k3⟩
theorem refOrder_at {w : World} {a1 a2 : Option Addr} {n1 c1 n2 c2 : Nat} {l1 l2 : List Int} (hB1 : Bytes w a1 n1 l1) (hB2 : Bytes w a2 n2 l2) {L : List Sl} {K : Nat} (hL : ordS (getS l1) (getS l2) = L) (hK : L.length = K) :
    Calls Try.prog 17 #[.slice a1 n1 c1, .slice a2 n2 c2] w fun e w' => ∃ a c, e = .returned (.slice a K c) ∧ Reads slV w' a K L ∧ Below w.heap.size w w' :=
  (refOrder_any w a1 a2 n1 c1 n2 c2 l1 l2 hB1 hB2).mono fun e w' ⟨a, n, c, k1, k2, k3⟩ => by
    rw [hL] at k2
    obtain rfl : n = K := k2.1.symm.trans hK
    exact ⟨a, c, k1, k2, k3⟩
end Go.Proofs.Ytpjlnanalielmaa
