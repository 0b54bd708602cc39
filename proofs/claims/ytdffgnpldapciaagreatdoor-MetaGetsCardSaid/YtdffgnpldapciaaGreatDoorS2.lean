/-
  Strings and slices of bytes: what '[]byte' to string gives, what 's[i:k]' is, what an append of a string does. Conditions: the slices read as bytes.
-/
import Derived.Test.YtdffgnpldapciaaGreatDoorP2
import Derived.Laws.BytesArg
import Derived.Lib.AppendStr
namespace Go.Proofs.YtdffgnpldapciaaGreatDoor
open Go.RowKit

theorem conv_str {w : World} {a : Option Addr} {n : Nat} {l : List Int} (h : Bytes w a n l) (c : Nat) : (convert 22 9 (.slice a n c)).run Tryz.prog w = .ok (.string (strOfNums l)) w := by
  obtain ⟨rfl, _, h3⟩ := h
  by_cases h0 : l.length = 0
  · obtain rfl : l = [] := List.eq_nil_of_length_eq_zero h0
    show (convert _ _ (.slice a 0 c)).run Tryz.prog w = _
    rw [run_convert_bytes_string w 22 9 5 a 0 c Tryz.underlying22 Tryz.underlying5 Tryz.underlying9]
    cases a with
    | none => rfl
    | some x => rw [run_bytesToString w x 0 c [] (by simp [loadCells, loadCellsFrom])]; rfl
  · obtain ⟨b, off, rfl, _, hc⟩ := h3.resolve_left h0
    exact run_convert_bytes_arg w 22 5 Tryz.underlying22 Tryz.underlying5 b off l.length c l rfl hc 9 Tryz.underlying9

/-- 's[i:k]'. -/
theorem slice_mid {w : World} {a : Option Addr} {len cap : Nat} {l : List Int} (h : Bytes w a len l) (hcap : len ≤ cap) (hnil : a = none → cap = 0) (i k : Nat) (hi : i ≤ k) (hk : k ≤ len) :
    ∃ (a' : Option Addr) (c' : Nat), (∀ w' : World, (Instr.slice 22 (.slice a len cap) (some (.int .i64 i)) (some (.int .i64 k)) none).run Tryz.prog w' = .ok (.slice a' (k - i) c') w') ∧ Bytes w a' (k - i) ((l.drop i).take (k - i)) ∧ (a' = none → c' = 0) := by
  obtain ⟨i0, hi0, _, hz1, _⟩ := info_parts info5
  obtain ⟨h1, h2, h3⟩ := h
  have hsm : Small ((l.drop i).take (k - i)) := ⟨by rw [List.length_take, List.length_drop]; have := h2.1; omega, fun c hc => h2.2 c (List.mem_of_mem_drop (List.mem_of_mem_take hc))⟩
  have hln : ((l.drop i).take (k - i)).length = k - i := by rw [List.length_take, List.length_drop]; omega
  have b1 : k ≤ cap := by omega
  refine ⟨if cap = i then a else a.map (·.add (i * 1)), cap - i, fun w' => ?_, ⟨hln, hsm, ?_⟩, ?_⟩
  · simp [Instr.slice, Instr.sliceBounds, Instr.sliceBound, asIntOf, run_underlying Tryz.underlying22, sizeOf, typeInfo, hi0, hz1, b1, hi, go_sem]
  · by_cases hz : k - i = 0
    · exact Or.inl hz
    · obtain ⟨b, off, rfl, hlt, hc⟩ := h3.resolve_left (by omega)
      refine Or.inr ⟨b, off + i, ?_, hlt, fun j hj => ?_⟩
      · rw [if_neg (by omega)]
        simp [Addr.add]
      · rw [hln] at hj
        have := hc (i + j) (by omega)
        rw [Nat.add_assoc, this, List.getD_eq_getElem?_getD, List.getD_eq_getElem?_getD, List.getElem?_take, if_pos (by omega), List.getElem?_drop]
  · intro e
    by_cases hz : cap = i
    · omega
    · rw [if_neg hz] at e
      have : a = none := by cases a <;> simp_all
      have := hnil this
      omega

/-- 's[:k]'. -/
theorem slice_front {w : World} {a : Option Addr} {len cap : Nat} {l : List Int} (h : Bytes w a len l) (hcap : len ≤ cap) (hnil : a = none → cap = 0) (k : Nat) (hk : k ≤ len) :
    ∃ a' : Option Addr, (∀ w' : World, (Instr.slice 22 (.slice a len cap) none (some (.int .i64 k)) none).run Tryz.prog w' = .ok (.slice a' k cap) w') ∧ Bytes w a' k (l.take k) ∧ (a' = none → cap = 0) := by
  obtain ⟨i0, hi0, _, hz1, _⟩ := info_parts info5
  obtain ⟨h1, h2, h3⟩ := h
  have hln : (l.take k).length = k := by rw [List.length_take]; omega
  have b1 : k ≤ cap := by omega
  refine ⟨if cap = 0 then a else a.map (·.add (0 * 1)), fun w' => ?_, ⟨hln, h2.take k, ?_⟩, ?_⟩
  · simp [Instr.slice, Instr.sliceBounds, Instr.sliceBound, asIntOf, run_underlying Tryz.underlying22, sizeOf, typeInfo, hi0, b1, go_sem]
  · by_cases hz : k = 0
    · exact Or.inl hz
    · obtain ⟨b, off, rfl, hlt, hc⟩ := h3.resolve_left (by omega)
      refine Or.inr ⟨b, off, ?_, hlt, fun j hj => ?_⟩
      · rw [if_neg (by omega)]
        simp [Addr.add]
      · rw [hln] at hj
        rw [hc j (by omega), List.getD_eq_getElem?_getD, List.getD_eq_getElem?_getD, List.getElem?_take, if_pos (by omega)]
  · intro e
    by_cases hz : cap = 0
    · exact hz
    · rw [if_neg hz] at e
      exact hnil (by cases a <;> simp_all)

/-- The bytes of a string. -/
def strB (s : ByteArray) : List Int := s.data.toList.map fun u => (u.toNat : Int)
theorem strB_len (s : ByteArray) : (strB s).length = s.size := by
  unfold strB
  rw [List.length_map, Array.length_toList]
  rfl
theorem strB_bd (s : ByteArray) : ∀ c ∈ strB s, 0 ≤ c ∧ c < 256 := fun c hc => by
  obtain ⟨u, _, rfl⟩ := List.mem_map.1 hc
  have := u.toNat_lt
  omega
theorem strB_back (s : ByteArray) : strOfNums (strB s) = s := by
  obtain ⟨⟨l⟩⟩ := s
  unfold strOfNums strB
  simp [Function.comp_def]
/-- A string behind the bytes. -/
def textB (s : ByteArray) : List Int := numB false 2 s.size ++ strB s
theorem textB_len (s : ByteArray) : (textB s).length = 2 + s.size := by rw [textB, List.length_append, numB_len, strB_len]
theorem strCells_eq (s : ByteArray) : Lib.strCells s = (strB s).map (Value.int .u8) := by
  unfold Lib.strCells strB
  rw [List.map_map]
  rfl
/-- 'append(own, s...)' of a string. -/
theorem append_str {ops : Array Oper} {rest : List Oper} {o : Oper} {a : Act} {w : World} {Q : Exit → Act → World → Prop} (hgd : o.guard = none) (s x : Operand)
    (ho : o.op = .call { callee := .builtin .append, args := #[s, x], argTypes := #[22, 9] }) (base : Nat) (v : Value) (n : Nat) (xs : List Int) (hs : a.eval s = v) (hown : Own w base v n xs)
    (str : ByteArray) (hx : a.eval x = .string str) (hn : n + str.size ≤ 100000000) (hbase : base ≤ w.heap.size)
    (h : ∀ a' c' w', Own w' base (.slice a' (n + str.size) c') (n + str.size) (xs ++ strB str) → Below base w w' → wpList Tryz.prog ops Q rest (a.put o.dst (.slice a' (n + str.size) c')) w') : wpList Tryz.prog ops Q (o :: rest) a w := by
  obtain ⟨i0, hi, hz0, hz1, hz2⟩ := info_parts info5
  have hsm : Small (xs ++ strB str) := ⟨by rw [List.length_append, strB_len, hown.len]; omega, fun c hc => by rcases List.mem_append.1 hc with h' | h'; exact hown.2.2 c h'; exact strB_bd str c h'⟩
  refine Lib.wpList_append_own_string w hgd s x 22 9 ho base 5 i0 Tryz.underlying22 Tryz.underlying9 hi hz0 hz1 hz2 v n (xs.map (Value.int .u8)) hs hown.1 str hx (by unfold maxLen; omega) (by omega) hbase ?_
  intro v' w' h1 h2 _
  rw [strCells_eq, ← List.map_append] at h1
  obtain ⟨a', c', rfl, _, _⟩ := Own.shape ⟨h1, hsm⟩
  exact h a' c' w' ⟨h1, hsm⟩ (hown.below (Below.refl _ _) h2 hbase (Nat.le_refl _))
/-- A literal of two bytes. -/
theorem two_bytes (w : World) (c d : Int) (hc : 0 ≤ c ∧ c < 256) (hd : 0 ≤ d ∧ d < 256) : Bytes (w.alloc (.cells #[.int .u8 c, .int .u8 d] 5)) (some ⟨w.heap.size, 0, none⟩) 2 [c, d] := by
  refine ⟨rfl, ⟨by simp, by simp; omega⟩, Or.inr ⟨w.heap.size, 0, rfl, by simp, fun i hi => ?_⟩⟩
  have : i = 0 ∨ i = 1 := by simp at hi; omega
  rcases this with rfl | rfl <;> simp
theorem numB_two (v : Nat) : numB false 2 v = [(v : Int) % 256, (v : Int) / 256 % 256] := by
  unfold numB byteOf
  simp [List.range_succ]
end Go.Proofs.YtdffgnpldapciaaGreatDoor
