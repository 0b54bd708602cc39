/-
  What every layer above 'field' needs: what a Put hands back under its length, structs and arrays as whole rows, results '(struct, errno)', arguments. Conditions: none.
-/
import Derived.Test.YtdffgnpldapciaaGreatDoorR2
import Derived.Test.YtdffgnpldapciaaGreatDoorN7
import Derived.Test.YtdffgnpldapciaaGreatDoorBl
import Derived.Test.YtdffgnpldapciaaGreatDoorS2
import Derived.Deep.WholeRow
import Derived.Deep.MidRow
import Derived.Laws.CopyOwn
import Derived.Laws.CopyRow
import Derived.Laws.Rows
import Derived.Laws.Tables
namespace Go.Proofs.YtdffgnpldapciaaGreatDoor
open Go.RowKit
set_option linter.unusedVariables false

/-- An int. -/
def I64 (x : Int) : Prop := -9223372036854775808 ≤ x ∧ x ≤ 9223372036854775807
theorem PutPost.sized {w0 : World} {l : List Int} {err : Int} {e : Ending} {w : World} (h : PutPost w0 l err e w) {n : Nat} (hn : l.length = n) :
    ∃ a c, e = .returned (.tuple #[.slice a n c, .int .i64 err]) ∧ Bytes w a n l ∧ ((a = none → c = 0) ∧ n ≤ c) ∧ Below w0.heap.size w0 w := by
  subst hn
  exact h
theorem PutPost.of_sized {w0 w : World} {l : List Int} {err : Int} {a : Option Addr} {n c : Nat} (hn : l.length = n) (hB : Bytes w a n l) (hc : (a = none → c = 0) ∧ n ≤ c) (hb : Below w0.heap.size w0 w) : PutPost w0 l err (.returned (.tuple #[.slice a n c, .int .i64 err])) w := by
  subst hn
  exact ⟨a, c, rfl, hB, hc, hb⟩
theorem fitsM {m v : Nat} (hm : m < 8) (h : v < 256 ^ m) : fitsIn m v = true := by
  unfold fitsIn
  have e : 2 ^ (8 * m) = 256 ^ m := by rw [Nat.pow_mul]
  have : v / 2 ^ (8 * m) = 0 := Nat.div_eq_of_lt (by rw [e]; exact h)
  simp [this]
theorem fit4 {v : Nat} (h : v < 4294967296) : Fit64 v := by unfold Fit64; omega
theorem bytes_range {w : World} {b off n : Nat} {l : List Int} (h : Bytes w (some ⟨b, off, none⟩) n l) : w.rangeAt b off (l.map (Value.int .u8)) := fun j v hj => by
  rw [List.getElem?_map] at hj
  have hlt : j < l.length := by
    rcases Nat.lt_or_ge j l.length with h' | h'
    · exact h'
    · rw [List.getElem?_eq_none h'] at hj
      cases hj
  rw [h.cellAt j (by rw [← h.1]; exact hlt), List.getD_eq_getElem?_getD]
  rw [List.getElem?_eq_getElem hlt] at hj ⊢
  simpa using hj
/-- A struct into the block that was made last. -/
theorem store_new7 {P : Program} {ops : Array Oper} {rest : List Oper} {op : Oper} {a : Act} {w : World} {Q : Exit → Act → World → Prop} {t : TypeId} {c : Array Value} (hgd : op.guard = none) (x y : Operand) (ho : op.op = .store t x y) (c' : Array Value)
    (hx : a.eval x = .pointer (some ⟨w.heap.size, 0, none⟩)) (hy : a.eval y = .agg c') (hi : (P.info? t).map (·.size) = some c'.size) (hc : c.size = c'.size) (h1 : c'.all (·.oneCell') = true)
    (h : wpList P ops Q rest (a.put op.dst undef) (w.alloc (.cells c' t))) : wpList P ops Q (op :: rest) a (w.alloc (.cells c t)) := by
  refine wpList_plain hgd fun K' hK => ?_
  unfold Oper.wp execOp
  simp only [ho, hx, hy, run_storeAt_new w t c c' hi hc h1, Sem.run_bind, Result.andThen_ok]
  exact hK _ _ h
theorem results_cell_tmp {P : Program} {fn : Func} {p q : Tmp} {ty : TypeId} (h : fn.results = #[.cell p ty, .tmp q]) (tmps : Array Value) (w : World) (g : Nat) (t : TypeId) (cs : Array Value) (fr : Nat × Nat) (d : TypeDesc)
    (hp : tmps.getD p undef = .pointer (some ⟨g, 0, none⟩)) (v : Value) (hv : tmps.getD q undef = v) (hg : w.heap[g]? = some (.cells cs t fr))
    (hu : P.underlying ty = some d) (hd : (match d with | .struct _ | .array _ _ => true | _ => false) = true) (hi : (P.info? ty).map (·.size) = some cs.size) :
    (results fn tmps).run P w = .ok (.tuple #[.agg cs, v]) w := by
  have hp' : tmps[p]?.getD undef = .pointer (some ⟨g, 0, none⟩) := by simpa using hp
  have hv' : tmps[q]?.getD undef = v := by simpa using hv
  simp [results, h, hp', hv', asAddr, run_loadVar_row w g t ty cs fr d hg hu hd hi]
theorem arg_of7 {w : World} {a : Option Addr} {len cap : Nat} {zs : List Int}
    (h : (a = none ∧ len = 0 ∧ cap = 0 ∧ zs = []) ∨ ∃ x, a = some x ∧ len ≤ cap ∧ cap ≤ maxLen ∧ zs.length = cap ∧ (∀ i, i < zs.length → w.cell? (x.add i) = some (.int .u8 (zs.getD i 0))) ∧ ∀ n ∈ zs, (Lit.int .u8 n).wf = true)
    (hlen : len ≤ 20000) : ∃ l, Bytes w a len l ∧ len ≤ cap ∧ (a = none → cap = 0) := by
  refine ⟨_, bytes_of h hlen, ?_, ?_⟩
  · rcases h with ⟨_, rfl, rfl, _⟩ | ⟨x, _, h, _⟩
    · exact Nat.le_refl _
    · exact h
  · rcases h with ⟨_, _, h, _⟩ | ⟨x, h, _⟩
    · exact fun _ => h
    · intro e
      rw [e] at h
      cases h
end Go.Proofs.YtdffgnpldapciaaGreatDoor
