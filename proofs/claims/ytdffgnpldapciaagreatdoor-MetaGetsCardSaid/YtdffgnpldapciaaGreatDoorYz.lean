/-
  What layer 14 needs: boxes of metas, Great, Right, tables read and written, the encoding of a meta (14.1, 14.2). Conditions: stated at each.
-/
import Derived.Test.YtdffgnpldapciaaGreatDoorA8
import Derived.Laws.BitsAllLaws
import Derived.Test.YtdffgnpldapciaaGreatDoorH9
import Derived.Test.YtdffgnpldapciaaGreatDoorF9
import Derived.Laws.CopyRow
import Derived.Test.YtdffgnpldapciaaGreatDoorWz
import Derived.Test.YtdffgnpldapciaaGreatDoorE8
import Derived.Test.YtdffgnpldapciaaGreatDoorT0
import Derived.Test.YtdffgnpldapciaaGreatDoorXz
import Derived.Test.YtdffgnpldapciaaGreatDoorF7
import Derived.Deep.RegionHeld3
import Derived.Recover
import Derived.Test.YtdffgnpldapciaaGreatDoorR2
import Derived.Test.YtdffgnpldapciaaGreatDoorT2
import Derived.Test.YtdffgnpldapciaaGreatDoorD8
namespace Go.Proofs.YtdffgnpldapciaaGreatDoor
open Go.RowKit
set_option linter.unusedVariables false

theorem getTo_digit {l : List Int} (hb : ∀ c ∈ l, 0 ≤ c ∧ c < 256) (m p : Nat) : ∀ i, i ≤ m → ∀ j, j < i → getTo false m p l i / 256 ^ j % 256 = (l.getD (p + (m - i + j)) 0).toNat
  | 0, _, j, hj => by omega
  | i + 1, hi, j, hj => by
    have hd : ∀ k, (l.getD k 0).toNat < 256 := fun k => by
      by_cases hk : k < l.length
      · have := getD_bd hb k hk
        omega
      · rw [List.getD_eq_getElem?_getD, List.getElem?_eq_none (by omega)]
        decide
    show (getTo false m p l i * 256 + (l.getD (p + (m - 1 - i)) 0).toNat) / 256 ^ j % 256 = _
    cases j with
    | zero =>
      have := hd (p + (m - 1 - i))
      rw [show p + (m - (i + 1) + 0) = p + (m - 1 - i) by omega, Nat.pow_zero, Nat.div_one]
      omega
    | succ j =>
      have h1 := hd (p + (m - 1 - i))
      have ih := getTo_digit hb m p i (by omega) j (by omega)
      rw [Nat.pow_succ, Nat.mul_comm (256 ^ j) 256, ← Nat.div_div_eq_div_mul, show (getTo false m p l i * 256 + (l.getD (p + (m - 1 - i)) 0).toNat) / 256 = getTo false m p l i by omega, ih, show p + (m - (i + 1) + (j + 1)) = p + (m - i + j) by omega]
/-- Told and put again. -/
theorem numB_getTo {l : List Int} (hb : ∀ c ∈ l, 0 ≤ c ∧ c < 256) (m p : Nat) (h : p + m ≤ l.length) : numB false m (getTo false m p l m) = (l.drop p).take m := by
  apply List.ext_getElem?
  intro j
  by_cases hj : j < m
  · rw [List.getElem?_take, if_pos hj, List.getElem?_drop]
    have h1 := numB_at false m (getTo false m p l m) j hj
    have h2 := getTo_digit hb m p m (Nat.le_refl _) j hj
    rw [if_neg (by decide)] at h1
    rw [List.getD_eq_getElem?_getD, List.getElem?_eq_getElem (by rw [numB_len]; exact hj)] at h1
    rw [List.getElem?_eq_getElem (by rw [numB_len]; exact hj), List.getElem?_eq_getElem (by omega)]
    congr 1
    refine (show (numB false m (getTo false m p l m))[j]'(by rw [numB_len]; exact hj) = byteOf (getTo false m p l m) j from h1).trans ?_
    unfold byteOf
    rw [show (2 : Nat) ^ (8 * j) = 256 ^ j by rw [Nat.pow_mul], h2, Nat.sub_self, Nat.zero_add]
    have := getD_bd hb (p + j) (by omega)
    rw [List.getD_eq_getElem?_getD, List.getElem?_eq_getElem (by omega)] at this ⊢
    simp only [Option.getD_some] at this ⊢
    omega
  · rw [List.getElem?_eq_none (by rw [numB_len]; omega), List.getElem?_eq_none (by rw [List.length_take]; omega)]
theorem parts16 {l : List Int} (h : l.length = 16) : (l.drop 0).take 1 ++ (l.drop 1).take 1 ++ (l.drop 2).take 2 ++ (l.drop 4).take 4 ++ (l.drop 8).take 4 ++ (l.drop 12).take 4 = l := by
  match l, h with
  | [_, _, _, _, _, _, _, _, _, _, _, _, _, _, _, _], _ => rfl
theorem second {l : List Int} (h : l.length = 16) : (l.drop 1).take 1 = [l.getD 1 0] := by
  match l, h with
  | [_, _, _, _, _, _, _, _, _, _, _, _, _, _, _, _], _ => rfl
theorem enB_enOf {l : List Int} (hl : l.length = 16) (hb : ∀ c ∈ l, 0 ≤ c ∧ c < 256) (h1 : l.getD 1 0 = 0) : enB (enOf l) = l := by
  unfold enB enOf
  dsimp only
  rw [Int.toNat_natCast, Int.toNat_natCast, Int.toNat_natCast, Int.toNat_natCast, Int.toNat_natCast]
  rw [numB_getTo hb 1 0 (by omega), numB_getTo hb 2 2 (by omega), numB_getTo hb 4 4 (by omega), numB_getTo hb 4 8 (by omega), numB_getTo hb 4 12 (by omega)]
  have q : numB false 1 0 = (l.drop 1).take 1 := by rw [second hl, h1]; rfl
  rw [q]
  exact parts16 hl
theorem getE_is {l : List Int} {c : Int} {y : En} (hb : ∀ c ∈ l, 0 ≤ c ∧ c < 256) (h : getE l c = some y) : enB y = l := by
  unfold getE at h
  split at h
  · rename_i h'
    cases h
    exact enB_enOf h'.1 hb h'.2.1
  · cases h
/-- A byte turned. -/
theorem turned {x y : En} {c : Int} {i : Nat} {v : Int} (hi : i < 16) (hv : 0 ≤ v ∧ v < 256) (hne : v ≠ (enB x).getD i 0) (h : getE ((enB x).set i v) c = some y) : y ≠ x := fun e => by
  subst e
  have h1 := getE_is (fun d hd => by
    rcases List.mem_or_eq_of_mem_set hd with h' | rfl
    · exact enB_bd y d h'
    · exact hv) h
  apply hne
  have h2 : (enB y).getD i 0 = ((enB y).set i v).getD i 0 := congrArg (fun l : List Int => l.getD i 0) h1
  rw [h2, List.getD_eq_getElem?_getD, List.getElem?_set_self (by rw [enB_len]; exact hi)]
  rfl
theorem xor_turn {a b : Int} (h1 : 0 ≤ a) (h2 : a < 256) (h3 : 1 ≤ b) (h4 : b < 256) : ∃ v, bits .xor .u8 a b = v ∧ (0 ≤ v ∧ v < 256) ∧ v ≠ a := by
  have hlt : a.toNat ^^^ b.toNat < 256 := Nat.xor_lt_two_pow (n := 8) (by omega) (by omega)
  refine ⟨_, u8_xor a b h1 h2 (by omega) h4, by omega, fun e => ?_⟩
  have e2 : a.toNat ^^^ b.toNat = a.toNat := by omega
  have e3 : a.toNat ^^^ (a.toNat ^^^ b.toNat) = a.toNat ^^^ a.toNat := by rw [e2]
  rw [Nat.xor_self, ← Nat.xor_assoc, Nat.xor_self, Nat.zero_xor] at e3
  omega
end Go.Proofs.YtdffgnpldapciaaGreatDoor
namespace Go.Proofs.YtdffgnpldapciaaGreatDoor
open Go.RowKit
set_option linter.unusedVariables false

theorem run_clear9 {P : Program} (w : World) (t e ty : TypeId) (z : Value) (k : Nat) (ht : P.underlying t = some (.slice e)) (hv : ∀ w, (zeroValue e).run P w = .ok z w) (hz : z.cells.size = k) (h1 : ∀ u ∈ z.cells, u.oneCell' = true) (g o m c : Nat) (cur : Array Value) (hm : 0 < m)
    (hg : w.heap[g]? = some (.cells cur e (0, 0))) (hfit : o + m * k ≤ cur.size) :
    (Builtin.zeroCells z.cells m).toList.length = m * k ∧ (Builtin.clear_ #[t] ty #[.slice (some ⟨g, o, none⟩) m c]).run P w = .ok (.tuple #[]) (w.setRow g (cur.toList.take o ++ (Builtin.zeroCells z.cells m).toList ++ cur.toList.drop (o + (Builtin.zeroCells z.cells m).toList.length)).toArray) := by
  have hl : (Builtin.zeroCells z.cells m).toList.length = m * k := by rw [Array.length_toList, size_zeroCells, hz]
  have hone : ∀ u ∈ (Builtin.zeroCells z.cells m).toList, u.oneCell' = true := fun u hu => by
    simp only [Builtin.zeroCells, Array.toList_map, List.mem_map, Array.mem_toList_iff, Array.mem_range] at hu
    obtain ⟨i, hi, rfl⟩ := hu
    have h0 : 0 < z.cells.size := by
      rcases Nat.eq_zero_or_pos z.cells.size with h | h
      · rw [h, Nat.mul_zero] at hi
        omega
      · exact h
    have hlt := Nat.mod_lt i h0
    rw [getElem!_pos z.cells _ hlt]
    exact h1 _ (Array.getElem_mem hlt)
  refine ⟨hl, ?_⟩
  have hst := run_storeCells_at P g o e (Builtin.zeroCells z.cells m).toList 0 cur w hg (by rw [hl]; simpa using hfit) hone
  simp only [Nat.add_zero] at hst
  obtain ⟨m, rfl⟩ : ∃ q, m = q + 1 := ⟨m - 1, by omega⟩
  simp [Builtin.clear_, run_underlying ht, hv, hst]
theorem run_storeAt_in9 {P : Program} (w : World) (t e : TypeId) (g o : Nat) (cur c' : Array Value) (hg : w.heap[g]? = some (.cells cur e (0, 0))) (hi : (P.info? t).map (·.size) = some c'.size) (hfit : o + c'.toList.length ≤ cur.size) (h1 : ∀ u ∈ c'.toList, u.oneCell' = true) :
    (Instr.storeAt t (.pointer (some ⟨g, o, none⟩)) (.agg c')).run P w = .ok () (w.setRow g (cur.toList.take o ++ c'.toList ++ cur.toList.drop (o + c'.toList.length)).toArray) := by
  have hst := run_storeCells_at P g o e c'.toList 0 cur w hg (by simpa using hfit) h1
  simp only [Nat.add_zero] at hst
  obtain ⟨i, hii, hs⟩ := Option.map_eq_some_iff.1 hi
  simp [Instr.storeAt, Instr.sureAddr, storeVar, sizeOf, typeInfo, hii, hs, Value.cells, Result.andThen, hst]
theorem wpList_store_in9 {P : Program} {ops : Array Oper} {rest : List Oper} {op : Oper} {a : Act} {w : World} {Q : Exit → Act → World → Prop} {t e : TypeId} (hgd : op.guard = none) (x y : Operand) (ho : op.op = .store t x y) (g o : Nat) (cur c' : Array Value)
    (hx : a.eval x = .pointer (some ⟨g, o, none⟩)) (hy : a.eval y = .agg c') (hg : w.heap[g]? = some (.cells cur e (0, 0))) (hi : (P.info? t).map (·.size) = some c'.size) (hfit : o + c'.toList.length ≤ cur.size) (h1 : ∀ u ∈ c'.toList, u.oneCell' = true)
    (h : wpList P ops Q rest (a.put op.dst undef) (w.setRow g (cur.toList.take o ++ c'.toList ++ cur.toList.drop (o + c'.toList.length)).toArray)) : wpList P ops Q (op :: rest) a w := by
  refine wpList_plain hgd fun K' hK => ?_
  unfold Oper.wp execOp
  simp only [ho, hx, hy, run_storeAt_in9 w t e g o cur c' hg hi hfit h1, Sem.run_bind, Result.andThen_ok]
  exact hK _ _ h
theorem flat_set_en : ∀ (xs : List En) (k : Nat) (x : En), k < xs.length → (xs.set k x).flatMap enV = (xs.flatMap enV).take (k * 5) ++ enV x ++ (xs.flatMap enV).drop (k * 5 + (enV x).length)
  | [], k, x, h => absurd h (by simp)
  | y :: r, 0, x, h => by
    rw [List.set_cons_zero, List.flatMap_cons, List.flatMap_cons, Nat.zero_mul, List.take_zero, List.nil_append, Nat.zero_add, enV_len, List.drop_append_of_le_length (by rw [enV_len]; exact Nat.le_refl _), List.drop_eq_nil_of_le (by rw [enV_len]; exact Nat.le_refl _), List.nil_append]
  | y :: r, k + 1, x, h => by
    rw [List.set_cons_succ, List.flatMap_cons, flat_set_en r k x (by simpa using h), List.flatMap_cons, show (k + 1) * 5 = (enV y).length + k * 5 by rw [enV_len]; omega, Nat.add_assoc, List.take_length_add_append, List.drop_length_add_append]
    simp only [List.append_assoc]
theorem LfO.form {w : World} {base : Nat} {d : LfD} (h : LfO w base d) (h0 : 0 < d.2.1) : ∃ b, d.1 = some ⟨b, 0, Option.none⟩ ∧ base ≤ b ∧ b < w.heap.size := by
  obtain ⟨al, ll, cl, xs⟩ := d
  obtain ⟨⟨⟨h1, h2⟩, _⟩, _⟩ := h
  rcases h2 with ⟨_, e⟩ | ⟨g, cap, cur, e, hb, hg, _⟩
  · dsimp only at h0 e
    omega
  · simp only [Value.slice.injEq] at e
    exact ⟨g, e.1, hb, lt_of_block hg⟩
/-- An entry stored into a leaf. -/
theorem LfO.store {w : World} {base : Nat} {d : LfD} (h : LfO w base d) {b : Nat} (hb : d.1 = some ⟨b, 0, Option.none⟩) (k : Nat) (hk : k < d.2.1) (x : En) (hx : EnOk x) :
    ∃ cur, w.heap[b]? = some (.cells cur 91 (0, 0)) ∧ k * 5 + (enV x).length ≤ cur.size ∧
      LfO (w.setRow b (cur.toList.take (k * 5) ++ enV x ++ cur.toList.drop (k * 5 + (enV x).length)).toArray) base (d.1, d.2.1, d.2.2.1, d.2.2.2.set k x) ∧
      w.grownBy (w.setRow b (cur.toList.take (k * 5) ++ enV x ++ cur.toList.drop (k * 5 + (enV x).length)).toArray) (some b) := by
  obtain ⟨al, ll, cl, xs⟩ := d
  obtain ⟨h1, h2⟩ := h
  dsimp only at hb hk h1 h2
  subst hb
  have hl : xs.length = ll := h1.2.1
  obtain ⟨cur, g1, g2, g3, g4⟩ := own_mid enV_len h1 (M' := xs.set k x) (k * 5) (enV x) (by simpa using hl) (flat_set_en xs k x (by omega)) (by rw [enV_len]; omega)
  refine ⟨cur, g1, g2, ⟨g3, fun y hy => ?_⟩, g4⟩
  rcases List.mem_or_eq_of_mem_set hy with hy | rfl
  · exact h2 y hy
  · exact hx
theorem zero_en (m : Nat) : (Builtin.zeroCells (Value.agg (enV enZ).toArray).cells m).toList = (List.replicate m enZ).flatMap enV := by
  induction m with
  | zero => simp [Builtin.zeroCells]
  | succ m ih =>
    rw [List.replicate_succ', List.flatMap_append, ← ih]
    refine List.ext_getElem? fun j => ?_
    have hz : (Value.agg (enV enZ).toArray).cells.size = 5 := rfl
    rw [List.getElem?_append]
    simp only [Builtin.zeroCells, Array.toList_map, Array.toList_range, List.getElem?_map, List.length_map, List.length_range, hz]
    by_cases h1 : j < m * 5
    · rw [if_pos h1]
      rw [List.getElem?_range h1, List.getElem?_range (by omega)]
    · rw [if_neg h1]
      by_cases h2 : j < (m + 1) * 5
      · rw [List.getElem?_range h2]
        obtain ⟨q, rfl⟩ : ∃ q, j = m * 5 + q := ⟨j - m * 5, by omega⟩
        have hq : q < 5 := by omega
        rw [Nat.add_sub_cancel_left]
        have hm : (m * 5 + q) % 5 = q := by omega
        simp only [Option.map_some, hm]
        match q, hq with
        | 0, _ => rfl
        | 1, _ => rfl
        | 2, _ => rfl
        | 3, _ => rfl
        | 4, _ => rfl
      · rw [List.getElem?_eq_none (by simp; omega), List.getElem?_eq_none (by simp [enV]; omega)]
        rfl
theorem made8 : (madeCells (enV enZ).toArray (8 * 5)).toList = (List.replicate 8 enZ).flatMap enV := by kernel_rfl
/-- A leaf made. -/
theorem make9 (w : World) (base : Nat) (hb : base ≤ w.heap.size) : ∃ w', (Instr.makeSlice 88 (.int .i64 8) (.int .i64 8)).run Tryz.prog w = .ok (.slice (some ⟨w.heap.size, 0, none⟩) 8 8) w' ∧ LfO w' base (some ⟨w.heap.size, 0, none⟩, 8, 8, List.replicate 8 enZ) ∧ w.grownBy w' none := by
  have h : (Tryz.prog.info? 91).map (fun i => (i.zero.map (fun z => z.cells.toList), i.size, i.bytes)) = some (some (enV enZ), 5, 40) := by kernel_rfl
  obtain ⟨i, hi, he⟩ := Option.map_eq_some_iff.1 h
  simp only [Prod.mk.injEq] at he
  obtain ⟨z, hz, hzs⟩ := Option.map_eq_some_iff.1 he.1
  obtain ⟨w', h1, h2, h3⟩ := run_makeSlice_full (P := Tryz.prog) w base 88 91 i z 5 Tryz.underlying88 hi hz he.2.1 .i64 .i64 8 (by decide) (by rw [he.2.2]; decide) (by decide) hb
  refine ⟨w', h1, ⟨⟨?_, by simp, by show 8 ≤ 100000000; omega⟩, fun x hx => ?_⟩, h3⟩
  · have e : (madeCells z.cells (8 * 5)).toList = (List.replicate 8 enZ).flatMap enV := by
      have : z.cells = (enV enZ).toArray := by
        rw [← hzs]
      rw [this]
      exact made8
    rw [← e]
    exact h2
  · obtain ⟨_, rfl⟩ := List.mem_replicate.1 hx
    unfold EnOk enZ I64
    dsimp only
    omega
end Go.Proofs.YtdffgnpldapciaaGreatDoor
namespace Go.Proofs.YtdffgnpldapciaaGreatDoor
open Go.RowKit
set_option linter.unusedVariables false

/-- 's[i:k]', its room told. -/
theorem slice_mid9 {w : World} {a : Option Addr} {len cap : Nat} {l : List Int} (h : Bytes w a len l) (hcap : len ≤ cap) (i k : Nat) (hi : i ≤ k) (hk : k ≤ len) :
    ∃ (a' : Option Addr), (∀ w' : World, (Instr.slice 22 (.slice a len cap) (some (.int .i64 i)) (some (.int .i64 k)) none).run Tryz.prog w' = .ok (.slice a' (k - i) (cap - i)) w') ∧ Bytes w a' (k - i) ((l.drop i).take (k - i)) := by
  obtain ⟨i0, hi0, _, hz1, _⟩ := info_parts info5
  obtain ⟨h1, h2, h3⟩ := h
  have hsm : Small ((l.drop i).take (k - i)) := ⟨by rw [List.length_take, List.length_drop]; have := h2.1; omega, fun c hc => h2.2 c (List.mem_of_mem_drop (List.mem_of_mem_take hc))⟩
  have hln : ((l.drop i).take (k - i)).length = k - i := by rw [List.length_take, List.length_drop]; omega
  have b1 : k ≤ cap := by omega
  refine ⟨if cap = i then a else a.map (·.add (i * 1)), fun w' => ?_, ⟨hln, hsm, ?_⟩⟩
  · simp [Instr.slice, Instr.sliceBounds, Instr.sliceBound, asIntOf, run_underlying Tryz.underlying22, sizeOf, typeInfo, hi0, hz1, b1, hi, go_sem]
  · by_cases hz : k - i = 0
    · exact Or.inl hz
    · obtain ⟨b, off, rfl, hlt, hc⟩ := h3.resolve_left (by omega)
      refine Or.inr ⟨b, off + i, ?_, hlt, fun j hj => ?_⟩
      · rw [if_neg (by omega)]
        simp [Addr.add]
      · rw [hln] at hj
        have := hc (i + j) (by omega)
        rw [Nat.add_assoc, this, List.getD_eq_getElem?_getD, List.getD_eq_getElem?_getD, List.getElem?_take, if_pos (by omega), List.getElem?_drop]
theorem set_next9 (xs : List En) (j : Nat) (h : xs.length = j) (hj : j < 8) (x : En) : (xs ++ List.replicate (8 - j) enZ).set j x = (xs ++ [x]) ++ List.replicate (8 - (j + 1)) enZ := by
  obtain ⟨d, hd⟩ : ∃ d, 8 - j = d + 1 := ⟨7 - j, by omega⟩
  rw [hd, show 8 - (j + 1) = d by omega, List.set_append, if_neg (by omega), h, Nat.sub_self, List.replicate_succ, List.set_cons_zero, List.append_assoc]
  rfl
theorem ents_next {l : List Int} {k : Nat} {c : Int} {j : Nat} {xs : List En} {x : En} (h : entsB l k c j = some xs) (hx : getE (partB l (k + j * 16)) c = some x) : entsB l k c (j + 1) = some (xs ++ [x]) := by
  unfold entsB
  rw [h]
  dsimp only
  rw [hx]
theorem ents_stop {l : List Int} {k : Nat} {c : Int} {j : Nat} {xs : List En} (h : entsB l k c j = some xs) (hx : getE (partB l (k + j * 16)) c = none) : ∀ d, entsB l k c (j + 1 + d) = none
  | 0 => by
    show entsB l k c (j + 1) = none
    unfold entsB
    rw [h]
    dsimp only
    rw [hx]
  | d + 1 => by
    show entsB l k c ((j + 1 + d) + 1) = none
    unfold entsB
    rw [ents_stop h hx d]
/-- What readLeaf hands back. -/
def LeafP (o : Option (List En)) (v : Nat) (w0 : World) (e : Ending) (w : World) : Prop := match o with
  | none => e = .returned (.tuple #[.int .i64 0, .slice none 0 0, .int .i64 3]) ∧ Below w0.heap.size w0 w
  | some xs => ∃ g, e = .returned (.tuple #[.int .i64 v, .slice (some ⟨g, 0, none⟩) 8 8, .int .i64 0]) ∧ LfO w w0.heap.size (some ⟨g, 0, none⟩, 8, 8, xs) ∧ Below w0.heap.size w0 w
theorem got_no {o : Option En} (h : o = none) {w0 : World} {e : Ending} {w : World} (hg : GotN o w0 e w) : e = .returned (.tuple #[.agg #[.int .i64 0, .int .i64 0, .int .i64 0, .int .i64 0, .int .u32 0], .int .i64 3]) ∧ Below w0.heap.size w0 w := by
  subst h
  exact hg
theorem got_yes {o : Option En} {v1 v2 v3 v4 v5 : Int} (h : o = some (v1, v2, v3, v4, v5)) {w0 : World} {e : Ending} {w : World} (hg : GotN o w0 e w) : e = .returned (.tuple #[.agg #[.int .i64 v1, .int .i64 v2, .int .i64 v3, .int .i64 v4, .int .u32 v5], .int .i64 0]) ∧ Below w0.heap.size w0 w := by
  subst h
  exact hg
set_option maxRecDepth 100000 in
set_option maxHeartbeats 3200000 in
theorem readLeaf_any (w : World) (a : Option Addr) (len cap p : Nat) (l : List Int) (c : Int) (hB : Bytes w a len l) (hcap : len ≤ cap) (hp : p ≤ len) (hw : Wid w) :
    Calls Tryz.prog 73 #[.slice a len cap, .int .i64 p, .int .i64 c] w (LeafP (if len < p + 130 then none else entsB l (p + 2) c 8) (getTo false 2 p l 2) w) := by
  have hsm : len ≤ 140737488351232 := by rw [← hB.1]; exact hB.2.1.1
  by_cases h130 : len < p + 130
  · rw [if_pos h130]
    have hc : (len : Int) - (p : Int) < 130 := by omega
    clear hB hw
    go_enter Tryz.func73, Tryz.ntmps73
    go_wp2
    go_ret3
    exact ⟨rfl, Below.refl _ _⟩
  · rw [if_neg h130]
    have hc : ¬ (len : Int) - (p : Int) < 130 := by omega
    have hb0 : ∀ x ∈ l, 0 ≤ x ∧ x < 256 := hB.2.1.2
    have hv := small_get hb0 2 p (by omega)
    have HF : Hid (Calls Tryz.prog 48 #[.slice a len cap, .int .i64 p, .int .i64 2, .bool false] w (GetPost w (getTo false 2 p l 2) 0)) := Lib.hid (fieldGet_ok a len cap 2 p l false w hB hcap (by omega) (by omega) (by omega))
    have HB := Lib.hid hB
    have HWD := Lib.hid hw
    have HX0 : Hid (w.heap.size ≤ w.heap.size) := Nat.le_refl _
    obtain ⟨v, hvv⟩ := named (getTo false 2 p l 2)
    rw [hvv.out] at hv HF ⊢
    have hwv : IntKind.i64.wrap (v : Int) = v := by rw [IntKind.wrap_i64]; omega
    obtain ⟨k0, hk0⟩ := named (p + 2)
    have hpk : (p : Int) + 2 = (k0 : Int) := by rw [← hk0.out]; omega
    have hkl : k0 + 128 ≤ len := by rw [← hk0.out]; omega
    rw [hk0.out]
    obtain ⟨X, hX⟩ := named w.heap.size
    have hXX := hX.out
    clear hB hw hvv
    go_enter Tryz.func73, Tryz.ntmps73
    go_wp2_with (go_at_call 48; (with_reducible refine HF.out.mono ?_); rintro e w1 ⟨rfl, g⟩; obtain ⟨w2, hmk, hf1, hf2⟩ := make9 w1 w.heap.size g.size; have HL2 := Lib.hid hf1; have HB2 := Lib.hid (g.trans ((below_of_grown hf2).mono g.size)); obtain ⟨G, hG⟩ := named w1.heap.size; have hGG := hG.out; rw [hG.out] at HL2 hmk; clear g hf1 hf2)
    rw [hX.out] at HL2 HB2
    go_loopw [33] (fun i wr => ∃ (j : Nat) (xs : List En), j ≤ 8 ∧ i = .int .i64 j ∧ Hid (entsB l k0 c j = some xs) ∧ Hid (LfO wr X (some ⟨G, 0, none⟩, 8, 8, xs ++ List.replicate (8 - j) enZ)) ∧ Hid (Below X w wr)) (fun i _ => 8 - (intOf i).toNat)
    case atStart => exact ⟨0, [], Nat.zero_le _, rfl, rfl, HL2.out, HB2.out⟩
    case round =>
      obtain ⟨j, xs, hj, rfl, HE, HL, HB1⟩ := hrel
      by_cases hlt : j < 8
      · obtain ⟨q, hq⟩ := named (k0 + j * 16)
        obtain ⟨r, hr⟩ := named (q + 16)
        have hqi : (k0 : Int) + (j : Int) * 16 = (q : Int) := by rw [← hq.out]; omega
        have hqr : (q : Int) + 16 = (r : Int) := by rw [← hr.out]; omega
        have hrl : r ≤ len := by rw [← hr.out, ← hq.out]; omega
        have hBr := HB.out.later (hX.out.symm ▸ HB1.out)
        obtain ⟨a', hs1, hs2⟩ := slice_mid9 hBr hcap q r (by rw [← hr.out]; omega) hrl
        have hrq : r - q = 16 := by rw [← hr.out]; omega
        rw [hrq] at hs1 hs2
        have HEG := Lib.hid (entryGet_any wr a' 16 (cap - q) _ c hs2 (by have := hr.out; omega) (HWD.out.later (hX.out.symm ▸ HB1.out)))
        obtain ⟨cq, hcq⟩ := named (cap - q)
        rw [hcq.out] at HEG hs1
        have hxl := entsB_len HE.out
        have hji : (j : Int) < 8 ∧ 0 ≤ (j : Int) := by omega
        clear hs2 hBr
        cases hge : getE (partB l (k0 + j * 16)) c with
        | none =>
          have hn : entsB l k0 c 8 = none := by
            have := ents_stop HE.out hge (7 - j)
            rwa [show j + 1 + (7 - j) = 8 by omega] at this
          have HN := Lib.hid hn
          unfold partB at hge
          rw [hq.out] at hge
          have HGE := Lib.hid hge
          clear hge hn
          go_wp2_with (go_at_call 90; (with_reducible refine HEG.out.mono ?_); intro e w4 h; obtain ⟨rfl, g⟩ := got_no HGE.out h; have HB4 := Lib.hid ((HB1.out.trans (g.mono (hX.out ▸ HB1.out.size))).alloc (Nat.le_trans (hX.out ▸ HB1.out.size) g.size) (.cells #[.int .i64 0, .int .i64 0, .int .i64 0, .int .i64 0, .int .u32 0] 91)); clear h g)
          go_ret3
          rw [HN.out]
          exact ⟨rfl, hX.out.symm ▸ HB4.out⟩
        | some x =>
          obtain ⟨v1, v2, v3, v4, v5⟩ := x
          have hn := ents_next HE.out hge
          have hxo := (entsB_may hb0 hn _ (List.mem_append_right _ (List.mem_singleton.2 rfl))).2
          have HN := Lib.hid hn
          have HXO := Lib.hid hxo
          unfold partB at hge
          rw [hq.out] at hge
          have HGE := Lib.hid hge
          clear hge hn hxo
          go_wp2_with (first
            | (go_at_call 90; (with_reducible refine HEG.out.mono ?_); intro e w4 h; obtain ⟨rfl, g⟩ := got_yes HGE.out h; have HB4 := Lib.hid ((HB1.out.trans (g.mono (hX.out ▸ HB1.out.size))).alloc (Nat.le_trans (hX.out ▸ HB1.out.size) g.size) (.cells #[.int .i64 v1, .int .i64 v2, .int .i64 v3, .int .i64 v4, .int .u32 v5] 91)); obtain ⟨cur, k1, k2, k3, k4⟩ := LfO.store (HL.out.later (g.alloc g.size (.cells #[.int .i64 v1, .int .i64 v2, .int .i64 v3, .int .i64 v4, .int .u32 v5] 91))) rfl j hlt (v1, v2, v3, v4, v5) HXO.out; obtain ⟨w6, hw6⟩ := named (World.setRow _ G (cur.toList.take (j * 5) ++ enV (v1, v2, v3, v4, v5) ++ cur.toList.drop (j * 5 + (enV (v1, v2, v3, v4, v5)).length)).toArray); rw [hw6.out] at k3 k4; have HK3 := Lib.hid k3; have HK4 := Lib.hid k4; clear h g k3 k4)
            | (refine wpList_store_in9 rfl (.tmp 57) (.tmp 56) rfl G (j * 5) cur (enV (v1, v2, v3, v4, v5)).toArray (by rfl) (by rfl) k1 entry_size k2 (enV_one _) ?_; rw [hw6.out]))
          go_roundw
          case rel =>
            refine ⟨j + 1, xs ++ [(v1, v2, v3, v4, v5)], by omega, by go_num, HN.out, ?_, ?_⟩
            · have h3 := HK3.out
              rw [set_next9 xs j hxl hlt] at h3
              exact h3
            · exact HB4.out.grown HK4.out (hX.out ▸ HB4.out.size) (fun k hk => by cases hk; exact (HL.out.lt rfl).1)
          case measure => simp [intOf]; omega
      · have hj8 : j = 8 := by omega
        subst hj8
        go_wp2
        go_ret3
        rw [HE.out]
        have h8 : xs ++ List.replicate (8 - 8) enZ = xs := by simp
        refine ⟨G, rfl, ?_, hX.out.symm ▸ HB1.out⟩
        rw [hX.out, ← h8]
        exact HL.out
end Go.Proofs.YtdffgnpldapciaaGreatDoor
namespace Go.Proofs.YtdffgnpldapciaaGreatDoor
open Go.RowKit
set_option linter.unusedVariables false

def lenOf9 (w : World) (Y : Nat) : Nat := match w.cell? ⟨Y, 0, none⟩ with | some (.slice _ l _) => l | _ => 0
theorem lenOf9_is {w : World} {Y l c : Nat} {a : Option Addr} (h : w.cell? ⟨Y, 0, none⟩ = some (.slice a l c)) : lenOf9 w Y = l := by unfold lenOf9; rw [h]
theorem TabQ.box {w w' : World} {base len cap : Nat} {a : Option Addr} {ds es : List LfD} (h : TabQ w base a len cap ds es) {Y : Nat} {cs : Array Value} (hY : Blk w Y 26 cs) (hg : w.grownBy w' (some Y)) : TabQ w' base a len cap ds es :=
  h.kept hg (fun k hk e => by cases e; exact hY.not_row (by decide) h.out hk.symm) (fun d hd k hk e => by cases e; exact hY.not_row (by decide) (h.leaf d hd).1 hk.symm)
theorem TabQ.nilMore {w w' : World} {base len cap : Nat} {a : Option Addr} {es : List LfD} (h : TabQ w base a len cap es es) {a' : Option Addr} {c' : Nat} (hO : OwnG cvD 88 1 w' base (.slice a' (len + 1) c') (len + 1) (es ++ [(none, 0, 0, [])])) (hg : w.grownBy w' (Value.slice a len cap).ownBlock) : TabQ w' base a' (len + 1) c' (es ++ [(none, 0, 0, [])]) (es ++ [(none, 0, 0, [])]) :=
  (h.push hO hg).addEs _ (LfO.none _ _) (fun _ _ _ _ e => by cases e)
/-- What is read at a place that is there. -/
noncomputable def readU (l : List Int) (p : Nat) (n c : Int) : Option (Tb × Nat) := match readI l (p + 2) c (getTo false 2 p l 2) with
  | none => none
  | some (T, k) => if rightT T n c then some (T, k) else none
theorem readT_in {l : List Int} {p : Nat} {n c : Int} (h : p + 2 ≤ l.length) : readT l p n c = readU l p n c := by
  unfold readT
  rw [if_neg (by omega), Int.toNat_natCast]
  rfl
theorem readT_out {l : List Int} {p n c : Int} (h : p < 0 ∨ (l.length : Int) < p + 2) : readT l p n c = none := by
  unfold readT
  rw [if_pos h]
theorem readI_more {l : List Int} {k0 : Nat} {c : Int} {i : Nat} {T : Tb} {k : Nat} (h : readI l k0 c i = some (T, k)) {g : Nat} (hg : getTo false 2 k l 2 = g) (h1 : ¬ l.length < k + 130) (h2 : T.length ≤ g) (h3 : g < 512) {xs : List En} (h4 : entsB l (k + 2) c 8 = some xs) : readI l k0 c (i + 1) = some (padTo T g ++ [xs], k + 130) := by
  unfold readI
  rw [h]
  dsimp only
  rw [hg, if_neg (by omega), h4]
theorem readI_stop {l : List Int} {k0 : Nat} {c : Int} {i : Nat} {T : Tb} {k : Nat} (h : readI l k0 c i = some (T, k)) {v : Nat} (hv : i < v) (h1 : (if l.length < k + 130 then none else entsB l (k + 2) c 8) = none ∨ getTo false 2 k l 2 < T.length ∨ 512 ≤ getTo false 2 k l 2) : readI l k0 c v = none := by
  have h2 : readI l k0 c (i + 1) = none := by
    unfold readI
    rw [h]
    dsimp only
    by_cases hc : l.length < k + 130 ∨ getTo false 2 k l 2 < T.length ∨ 512 ≤ getTo false 2 k l 2
    · rw [if_pos hc]
    · rw [if_neg hc]
      rcases h1 with h1 | h1
      · rw [if_neg (fun h => hc (Or.inl h))] at h1
        rw [h1]
      · exact absurd (Or.inr h1) hc
  have := readI_none h2 (v - (i + 1))
  rwa [show i + 1 + (v - (i + 1)) = v by omega] at this
theorem readU_no {l : List Int} {p : Nat} {n c : Int} {k0 v : Nat} (hk : p + 2 = k0) (hv : getTo false 2 p l 2 = v) (h : readI l k0 c v = none) : readU l p n c = none := by
  unfold readU
  rw [hk, hv, h]
theorem readU_is {l : List Int} {p : Nat} {n c : Int} {k0 v : Nat} (hk : p + 2 = k0) (hv : getTo false 2 p l 2 = v) {T : Tb} {k : Nat} (h : readI l k0 c v = some (T, k)) : readU l p n c = if rightT T n c then some (T, k) else none := by
  unfold readU
  rw [hk, hv, h]
/-- What Read hands back. -/
def ReadP (o : Option (Tb × Nat)) (w0 : World) (e : Ending) (w : World) : Prop := match o with
  | none => e = .returned (.tuple #[.agg #[.slice none 0 0], .int .i64 0, .int .i64 3]) ∧ Below w0.heap.size w0 w
  | some (T, k) => ∃ (a' : Option Addr) (l' c' : Nat), e = .returned (.tuple #[.agg #[.slice a' l' c'], .int .i64 k, .int .i64 0]) ∧ TabN w w0.heap.size a' l' c' T ∧ Below w0.heap.size w0 w
theorem leafP_no {o : Option (List En)} (h : o = none) {v : Nat} {w0 w : World} {e : Ending} (hl : LeafP o v w0 e w) : e = .returned (.tuple #[.int .i64 0, .slice none 0 0, .int .i64 3]) ∧ Below w0.heap.size w0 w := by
  subst h
  exact hl
theorem leafP_yes {o : Option (List En)} {xs : List En} (h : o = some xs) {v : Nat} {w0 w : World} {e : Ending} (hl : LeafP o v w0 e w) : ∃ g, e = .returned (.tuple #[.int .i64 v, .slice (some ⟨g, 0, none⟩) 8 8, .int .i64 0]) ∧ LfO w w0.heap.size (some ⟨g, 0, none⟩, 8, 8, xs) ∧ Below w0.heap.size w0 w := by
  subst h
  exact hl
theorem results_cell_two {P : Program} {fn : Func} {p q r : Tmp} {ty : TypeId} (h : fn.results = #[.cell p ty, .tmp q, .tmp r]) (tmps : Array Value) (w : World) (g : Nat) (t : TypeId) (cs : Array Value) (fr : Nat × Nat) (d : TypeDesc)
    (hp : tmps.getD p undef = .pointer (some ⟨g, 0, none⟩)) (v u : Value) (hv : tmps.getD q undef = v) (hr : tmps.getD r undef = u) (hg : w.heap[g]? = some (.cells cs t fr))
    (hu : P.underlying ty = some d) (hd : (match d with | .struct _ | .array _ _ => true | _ => false) = true) (hi : (P.info? ty).map (·.size) = some cs.size) :
    (results fn tmps).run P w = .ok (.tuple #[.agg cs, v, u]) w := by
  have hp' : tmps[p]?.getD undef = .pointer (some ⟨g, 0, none⟩) := by simpa using hp
  have hv' : tmps[q]?.getD undef = v := by simpa using hv
  have hr' : tmps[r]?.getD undef = u := by simpa using hr
  simp [results, h, hp', hv', hr', asAddr, run_loadVar_row w g t ty cs fr d hg hu hd hi]
/-- The two boxes of Read. -/
def RdB (X Y : Nat) (r o : Value) (w0 W : World) : Prop := Blk W X 26 #[r] ∧ Blk W Y 26 #[o] ∧ Below X w0 W ∧ X < Y
section
variable {X Y : Nat} {r o : Value} {w0 W W' : World}
theorem RdB.later (h : RdB X Y r o w0 W) (hb : Below W.heap.size W W') : RdB X Y r o w0 W' := ⟨h.1.later hb, h.2.1.later hb, h.2.2.1.trans (hb.mono (Nat.le_of_lt h.1.lt)), h.2.2.2⟩
theorem RdB.alloc (h : RdB X Y r o w0 W) (x : Obj) : RdB X Y r o w0 (W.alloc x) := h.later ((Below.refl _ _).alloc (Nat.le_refl _) _)
theorem RdB.out (h : RdB X Y r o w0 W) (v : Value) : RdB X Y r v w0 (W.setCell ⟨Y, 0, none⟩ v) := ⟨h.1.other (by have := h.2.2.2; omega) _, h.2.1.set 0 v, h.2.2.1.setCell (by show X ≤ Y; have := h.2.2.2; omega) _, h.2.2.2⟩
theorem RdB.res (h : RdB X Y r o w0 W) (v : Value) : RdB X Y v o w0 (W.setCell ⟨X, 0, none⟩ v) := ⟨h.1.set 0 v, h.2.1.other (by have := h.2.2.2; omega) _, h.2.2.1.setCell (Nat.le_refl _) _, h.2.2.2⟩
theorem RdB.app (h : RdB X Y r o w0 W) {base n : Nat} {v : Value} {l : List LfD} (hq : OwnG cvD 88 1 W base v n l) (hb : X ≤ base) (hg : W.grownBy W' v.ownBlock) : RdB X Y r o w0 W' :=
  ⟨h.1.kept hg (h.1.not_row (by decide) hq), h.2.1.kept hg (h.2.1.not_row (by decide) hq), h.2.2.1.grown hg (Nat.le_of_lt h.1.lt) (fun k hk => Nat.le_trans hb (hq.1.lt k hk).1), h.2.2.2⟩
theorem RdB.cells (h : RdB X Y r o w0 W) : W.cell? ⟨X, 0, none⟩ = some r ∧ W.frozen? ⟨X, 0, none⟩ = false ∧ W.cell? ⟨Y, 0, none⟩ = some o ∧ W.frozen? ⟨Y, 0, none⟩ = false := ⟨one_cell9 h.1, h.1.free 0, one_cell9 h.2.1, h.2.1.free 0⟩
theorem RdB.size (h : RdB X Y r o w0 W) : X ≤ W.heap.size := Nat.le_of_lt h.1.lt
end
theorem RdB.first {w w1 : World} {r o : Value} (hb : Below (w.alloc (.cells #[r] 26)).heap.size (w.alloc (.cells #[r] 26)) w1) : RdB w.heap.size w1.heap.size r o w (w1.alloc (.cells #[o] 26)) := by
  have hs := hb.size
  rw [World.size_alloc] at hs
  refine ⟨((Blk.new w _ _).later hb).alloc _, Blk.new _ _ _, ?_, by omega⟩
  refine Below.alloc (Below.trans ((Below.refl _ _).alloc (Nat.le_refl _) _) (hb.mono (by rw [World.size_alloc]; omega))) (by omega) _
theorem LfO.box {w w' : World} {base : Nat} {d : LfD} (h : LfO w base d) {Y : Nat} {cs : Array Value} (hY : Blk w Y 26 cs) (hg : w.grownBy w' (some Y)) : LfO w' base d := h.kept hg fun k hk e => by
  cases e
  exact hY.not_row (by decide) h.1 hk.symm
theorem LfO.push {w w' : World} {base base' n : Nat} {d : LfD} {v : Value} {l : List LfD} (h : LfO w base d) (hq : OwnG cvD 88 1 w base' v n l) (hg : w.grownBy w' v.ownBlock) : LfO w' base d := h.kept hg fun k hk e => row_apart hq h.1 (by decide) k e hk
theorem tb_snoc (es : List LfD) (d : LfD) : tbOf (es ++ [d]) = tbOf es ++ [d.2.2.2] := by
  unfold tbOf
  rw [List.map_append]
  rfl
theorem rightTT {a : Option Addr} {len cap : Nat} {T : Tb} {n c : Int} {R : Bool} (hR : decide (rightT T n c) = R) (w : World) (h : Tab w a len cap T) : Calls Tryz.prog 52 #[.agg #[.slice a len cap], .int .i64 n, .int .i64 c] w fun e w' => e = .returned (.bool R) ∧ Below w.heap.size w w' := by
  obtain ⟨ds, h1, h2, rfl, h3, _⟩ := h
  exact right9_is w a len cap ds n c h1 h3 R hR
set_option maxRecDepth 100000 in
set_option maxHeartbeats 3200000 in
theorem read_any (w : World) (a : Option Addr) (len cap p : Nat) (l : List Int) (n c : Int) (hB : Bytes w a len l) (hcap : len ≤ cap) (hp : p + 2 ≤ len) (hw : Wid w) :
    Calls Tryz.prog 50 #[.slice a len cap, .int .i64 p, .int .i64 n, .int .i64 c] w (ReadP (readU l p n c) w) := by
  have hsm : len ≤ 140737488351232 := by rw [← hB.1]; exact hB.2.1.1
  have hb0 : ∀ x ∈ l, 0 ≤ x ∧ x < 256 := hB.2.1.2
  have hll := hB.1
  have hv : getTo false 2 p l 2 < 65536 := getTo_lt hb0 false 2 p 2
  have hal : Below w.heap.size w (w.alloc (.cells #[.slice none 0 0] 26)) := (Below.refl _ _).alloc (Nat.le_refl _) _
  have HF : Hid (Calls Tryz.prog 48 #[.slice a len cap, .int .i64 p, .int .i64 2, .bool false] (w.alloc (.cells #[.slice none 0 0] 26)) (GetPost (w.alloc (.cells #[.slice none 0 0] 26)) (getTo false 2 p l 2) 0)) := Lib.hid (fieldGet_ok a len cap 2 p l false (w.alloc (.cells #[.slice none 0 0] 26)) (hB.later hal) hcap (by omega) (by omega) (by omega))
  have HB := Lib.hid hB
  have HWD := Lib.hid hw
  have HU := Lib.hid (fun (k0 v : Nat) => @readU_no l p n c k0 v)
  have HUS := Lib.hid (fun (k0 v : Nat) => @readU_is l p n c k0 v)
  have HFI : Hid (∀ w1 : World, Below (w.alloc (.cells #[.slice none 0 0] 26)).heap.size (w.alloc (.cells #[.slice none 0 0] 26)) w1 → RdB w.heap.size w1.heap.size (.slice none 0 0) (.slice none 0 0) w (w1.alloc (.cells #[.slice none 0 0] 26))) := fun w1 hb => RdB.first hb
  obtain ⟨v, hvv⟩ := named (getTo false 2 p l 2)
  rw [hvv.out] at hv HF
  have HVV := Lib.hid hvv.out
  obtain ⟨k0, hk0⟩ := named (p + 2)
  have hpk : (p : Int) + 2 = (k0 : Int) := by rw [← hk0.out]; omega
  have HK0 := Lib.hid hk0.out
  have hkl : k0 ≤ len := by rw [← hk0.out]; omega
  have HUN : Hid (readI l k0 c v = none → readU l p n c = none) := HU.out k0 v HK0.out HVV.out
  have HUY : Hid (∀ {T k}, readI l k0 c v = some (T, k) → readU l p n c = if rightT T n c then some (T, k) else none) := fun h => HUS.out k0 v HK0.out HVV.out h
  obtain ⟨X, hX⟩ := named w.heap.size
  have hXX := hX.out
  clear hB hw hvv hal HU HUS
  go_enter Tryz.func50, Tryz.ntmps50
  go_wp2_with (go_at_call 48; (with_reducible refine HF.out.mono ?_); rintro e w1 ⟨rfl, g⟩; have HB1 := Lib.hid (HFI.out w1 g); obtain ⟨Y, hY⟩ := named w1.heap.size; have hYY := hY.out; rw [hY.out, hX.out] at HB1; clear g)
  go_loopw [13, 30] (fun b i wr => ∃ (m k : Nat) (T : Tb) (a' : Option Addr) (c' : Nat) (es : List LfD), m ≤ v ∧ b = .int .i64 k ∧ i = .int .u64 m ∧ Hid (readI l k0 c m = some (T, k)) ∧ Hid (tbOf es = T) ∧ Hid (RdB X Y (.slice none 0 0) (.slice a' T.length c') w wr) ∧ Hid (TabQ wr X a' T.length c' es es)) (fun _ i _ => v - (intOf i).toNat)
  case atStart => exact ⟨0, k0, [], none, 0, [], Nat.zero_le _, rfl, rfl, rfl, rfl, HB1.out, TabQ.first _ _⟩
  case round =>
    obtain ⟨m, k, T, a', c', es, hm, rfl, rfl, HR, HE, HB2, HQ⟩ := hrel
    obtain ⟨x1, x2, x3, x4⟩ := HB2.out.cells
    obtain ⟨-, hk5, hM5, hlens⟩ := readI_at hb0 (by omega) HR.out
    have HLE := Lib.hid hlens
    obtain ⟨M, hM⟩ := named T.length
    rw [hM.out] at HB2 HQ x3 hM5
    clear hlens
    by_cases hlt : m < v
    · have hm2 : (m : Int) < (v : Int) := by omega
      have HLF := Lib.hid (readLeaf_any wr a len cap k l c (HB.out.later (hX.out.symm ▸ HB2.out.2.2.1)) hcap (by omega) (HWD.out.later (hX.out.symm ▸ HB2.out.2.2.1)))
      have hgl : getTo false 2 k l 2 < 65536 := getTo_lt hb0 false 2 k 2
      have HST := Lib.hid (readI_stop HR.out hlt)
      have HMR := Lib.hid (fun g hg => @readI_more l k0 c m T k HR.out g hg)
      rw [hll] at HST
      obtain ⟨g, hg⟩ := named (getTo false 2 k l 2)
      rw [hg.out] at HLF HST hgl
      rw [hM.out] at HST
      cases ho : (if len < k + 130 then none else entsB l (k + 2) c 8) with
      | none =>
        have HO := Lib.hid ho
        have HRU := Lib.hid (HUN.out (HST.out (Or.inl ho)))
        clear ho HST HMR
        go_wp2_with (go_at_call 73; (with_reducible refine HLF.out.mono ?_); intro e w4 h; obtain ⟨rfl, g4⟩ := leafP_no HO.out h; have HB4 := Lib.hid (HB2.out.later g4); obtain ⟨y1, y2, y3, y4⟩ := (HB2.out.later g4).cells; have HB5 := Lib.hid ((HB2.out.later g4).res (.slice none 0 0)); clear h g4 HLF)
        refine bodyPost_ret (results_cell_two rfl _ _ X 26 #[.slice none 0 0] (0, 0) _ rfl _ _ rfl rfl HB5.out.1 Tryz.underlying26 rfl tbl_size) rfl ?_
        rw [HRU.out]
        exact ⟨rfl, hX.out.symm ▸ HB5.out.2.2.1⟩
      | some xs =>
        have HO := Lib.hid ho
        have h1 : ¬ len < k + 130 ∧ entsB l (k + 2) c 8 = some xs := by
          by_cases hc : len < k + 130
          · rw [if_pos hc] at ho
            cases ho
          · rw [if_neg hc] at ho
            exact ⟨hc, ho⟩
        by_cases hgd : M ≤ g ∧ g < 512
        · have hgd2 : (M : Int) ≤ (g : Int) ∧ (g : Int) ≤ 511 := by omega
          have HW := Lib.hid (fun w => within9_is (n := (g : Int)) (a := (M : Int)) (b := 511) (decide_eq_true hgd2) w)
          have HRI := Lib.hid (HMR.out g hg.out (by rw [hll]; exact h1.1) (by rw [hM.out]; exact hgd.1) hgd.2 h1.2)
          have hk1 := h1.1
          have hgd1 := hgd.1
          clear ho HST HMR h1 hgd hgd2
          go_wp2_with (first
            | (go_at_call 73; (with_reducible refine HLF.out.mono ?_); intro e w4 h; obtain ⟨G, rfl, g5, g4⟩ := leafP_yes HO.out h; have HB4 := Lib.hid (HB2.out.later g4); have HQ4 := Lib.hid (HQ.out.later g4); have HL4 := Lib.hid (g5.mono HB2.out.size); have HN4 : Hid (∀ x ∈ es, blkD x ≠ some G) := (fun x hx hb => by have := HQ.out.lt x hx G hb; have := (g5.lt (b := G) rfl).1; omega); obtain ⟨y1, y2, y3, y4⟩ := (HB2.out.later g4).cells; clear h g4 g5 HLF)
            | (go_at_call 74; (with_reducible refine (HW.out _).mono ?_); rintro e w5 ⟨rfl, rfl⟩))
          go_loopw [] (fun wq => ∃ (q : Nat) (a2 : Option Addr) (c2 : Nat) (es2 : List LfD), M + q ≤ g ∧ Hid (tbOf es2 = T ++ List.replicate q []) ∧ Hid (RdB X Y (.slice none 0 0) (.slice a2 (M + q) c2) w wq) ∧ Hid (TabQ wq X a2 (M + q) c2 es2 es2) ∧ Hid (LfO wq X (some ⟨G, 0, none⟩, 8, 8, xs)) ∧ Hid (∀ x ∈ es2, blkD x ≠ some G)) (fun wq => g - lenOf9 wq Y)
          case atStart => exact ⟨0, a', c', es, hgd1, (show tbOf es = T ++ List.replicate 0 [] by rw [HE.out]; simp), HB4.out, HQ4.out, HL4.out, HN4.out⟩
          case round =>
            obtain ⟨q, a2, c2, es2, hq, HE2, HB5, HQ5, HL5, HN5⟩ := hrel
            obtain ⟨z1, z2, z3, z4⟩ := HB5.out.cells
            obtain ⟨S, hS⟩ := named (M + q)
            rw [hS.out] at HB5 HQ5 z3 hq
            have hl1 := lenOf9_is z3
            have hXs := HB5.out.size
            by_cases hlq : S < g
            · have hlq2 : (S : Int) < (g : Int) := by omega
              have HQA := Lib.hid (HQ5.out.alloc (.cells #[.slice none 0 0] 88))
              have HBA := Lib.hid (HB5.out.alloc (.cells #[.slice none 0 0] 88))
              have HLA := Lib.hid (HL5.out.later ((Below.refl _ _).alloc (Nat.le_refl _) (.cells #[.slice none 0 0] 88)))
              have HRD := Lib.hid (one_reads (cv := cvD) wr (none, 0, 0, []) #[.slice none 0 0] 88 rfl)
              go_wp2_with (at_builtin; refine append_gg lf_rowed rfl _ _ rfl X _ S es2 rfl HQA.out.out (some ⟨wr.heap.size, 0, none⟩) 1 1 [(none, 0, 0, [])] rfl (fun e => by cases e) HRD.out (by omega) (by rw [World.size_alloc]; omega) ?_; intro a3 c3 w6 hO hB6 hg6; have hb6 := HBA.out.app HQA.out.out (Nat.le_refl _) hg6; have hq6 := HQA.out.nilMore hO hg6; have hl6 := HLA.out.push HQA.out.out hg6; have HB6 := Lib.hid (hb6.out (.slice a3 (S + 1) c3)); have HQ6 := Lib.hid (hq6.box hb6.2.1 (grownBy_setCell4 w6 Y 0 (.slice a3 (S + 1) c3))); have HL6 := Lib.hid (hl6.box hb6.2.1 (grownBy_setCell4 w6 Y 0 (.slice a3 (S + 1) c3))); obtain ⟨t1, t2, t3, t4⟩ := hb6.cells; clear hb6 hq6 hl6 hO hB6 hg6)
              go_roundw
              case rel =>
                refine ⟨q + 1, a3, c3, es2 ++ [(none, 0, 0, [])], by have := hS.out; omega, ?_, ?_, ?_, HL6.out, ?_⟩
                · show tbOf (es2 ++ [(none, 0, 0, [])]) = _
                  rw [tb_snoc, HE2.out, List.replicate_succ', List.append_assoc]
                · rw [← Nat.add_assoc, hS.out]
                  exact HB6.out
                · rw [← Nat.add_assoc, hS.out]
                  exact HQ6.out
                · exact fun x hx => by
                    rcases List.mem_append.1 hx with hx | hx
                    · exact HN5.out x hx
                    · rw [List.mem_singleton] at hx
                      subst hx
                      exact fun e => by cases e
              case measure =>
                have hl2 := lenOf9_is HB6.out.cells.2.2.1
                rw [hl1, hl2]
                omega
            · have hSg : S = g := by omega
              subst hSg
              have hlq2 : ¬ (S : Int) < (S : Int) := by omega
              have HP : Hid (tbOf es2 = padTo T S) := by
                show tbOf es2 = _
                rw [HE2.out]
                unfold padTo
                rw [hM.out, show q = S - M by have := hS.out; omega]
              have HQA := Lib.hid (HQ5.out.alloc (.cells #[.slice (some ⟨G, 0, none⟩) 8 8] 88))
              have HBA := Lib.hid (HB5.out.alloc (.cells #[.slice (some ⟨G, 0, none⟩) 8 8] 88))
              have HLA := Lib.hid (HL5.out.later ((Below.refl _ _).alloc (Nat.le_refl _) (.cells #[.slice (some ⟨G, 0, none⟩) 8 8] 88)))
              have HRD := Lib.hid (one_reads (cv := cvD) wr (some ⟨G, 0, none⟩, 8, 8, xs) #[.slice (some ⟨G, 0, none⟩) 8 8] 88 rfl)
              go_wp2_with (at_builtin; refine append_gg lf_rowed rfl _ _ rfl X _ S es2 rfl HQA.out.out (some ⟨wr.heap.size, 0, none⟩) 1 1 [(some ⟨G, 0, none⟩, 8, 8, xs)] rfl (fun e => by cases e) HRD.out (by omega) (by rw [World.size_alloc]; omega) ?_; intro a3 c3 w6 hO hB6 hg6; have hb6 := HBA.out.app HQA.out.out (Nat.le_refl _) hg6; have hq6 := (HQA.out.push hO hg6).addEs _ (HLA.out.push HQA.out.out hg6) (fun x hx b hb hb' => by simp only [blkD, Value.ownBlock, Option.some.injEq] at hb'; exact HN5.out x hx (hb'.symm ▸ hb)); have HB6 := Lib.hid (hb6.out (.slice a3 (S + 1) c3)); have HQ6 := Lib.hid (hq6.box hb6.2.1 (grownBy_setCell4 w6 Y 0 (.slice a3 (S + 1) c3))); obtain ⟨t1, t2, t3, t4⟩ := hb6.cells; clear hb6 hq6 hO hB6 hg6)
              go_roundw
              case rel =>
                have hTl : (padTo T S ++ [xs]).length = S + 1 := by rw [List.length_append, padTo_len _ _ (by rw [hM.out]; exact hgd1)]; rfl
                refine ⟨m + 1, k + 130, padTo T S ++ [xs], a3, c3, es2 ++ [(some ⟨G, 0, none⟩, 8, 8, xs)], by omega, by go_num, by go_num, HRI.out, ?_, ?_, ?_⟩
                · show tbOf (es2 ++ [(some ⟨G, 0, none⟩, 8, 8, xs)]) = _
                  rw [tb_snoc, HP.out]
                · rw [hTl]
                  exact HB6.out
                · rw [hTl]
                  exact HQ6.out
              case measure => simp [intOf]; omega
        · have hgd2 : ¬ ((M : Int) ≤ (g : Int) ∧ (g : Int) ≤ 511) := by omega
          have HW := Lib.hid (fun w => within9_is (n := (g : Int)) (a := (M : Int)) (b := 511) (decide_eq_false hgd2) w)
          have HRU := Lib.hid (HUN.out (HST.out (Or.inr (by omega))))
          clear ho HST HMR h1 hgd hgd2
          go_wp2_with (first
            | (go_at_call 73; (with_reducible refine HLF.out.mono ?_); intro e w4 h; obtain ⟨G, rfl, g5, g4⟩ := leafP_yes HO.out h; obtain ⟨y1, y2, y3, y4⟩ := (HB2.out.later g4).cells; have HB5 := Lib.hid ((HB2.out.later g4).res (.slice none 0 0)); clear h g4 g5 HLF)
            | (go_at_call 74; (with_reducible refine (HW.out _).mono ?_); rintro e w5 ⟨rfl, rfl⟩))
          refine bodyPost_ret (results_cell_two rfl _ _ X 26 #[.slice none 0 0] (0, 0) _ rfl _ _ rfl rfl HB5.out.1 Tryz.underlying26 rfl tbl_size) rfl ?_
          rw [HRU.out]
          exact ⟨rfl, hX.out.symm ▸ HB5.out.2.2.1⟩
    · have hmv : m = v := by omega
      subst hmv
      have hm2 : ¬ (m : Int) < (m : Int) := by omega
      have HUI := Lib.hid (HUY.out HR.out)
      have htab := HQ.out.tab (cap := c') HE.out (by omega) (fun lf hlf => by have := (HLE.out lf hlf).1; omega)
      by_cases hR : rightT T n c
      · have HRT := Lib.hid (rightTT (decide_eq_true hR) wr htab)
        have HUV : Hid (readU l p n c = some (T, k)) := by
          show readU l p n c = _
          rw [HUI.out, if_pos hR]
        have HLN : Hid (M ≤ 6000 ∧ ∀ lf ∈ T, lf.length ≤ 1000000) := ⟨by omega, fun lf hlf => by have := (HLE.out lf hlf).1; omega⟩
        clear hR htab
        go_wp2_with (go_at_call 52; (with_reducible refine HRT.out.mono ?_); rintro e w4 ⟨rfl, g4⟩; obtain ⟨y1, y2, y3, y4⟩ := (HB2.out.later g4).cells; have HB5 := Lib.hid ((HB2.out.later g4).res (.slice a' M c')); have HQ5 := Lib.hid ((HQ.out.later g4).box (HB2.out.later g4).1 (grownBy_setCell4 w4 X 0 (.slice a' M c'))); clear g4 HRT)
        refine bodyPost_ret (results_cell_two rfl _ _ X 26 #[.slice a' M c'] (0, 0) _ rfl _ _ rfl rfl HB5.out.1 Tryz.underlying26 rfl tbl_size) rfl ?_
        rw [HUV.out]
        exact ⟨a', M, c', rfl, HQ5.out.tabN HE.out HLN.out.1 HLN.out.2 (Nat.le_of_eq hX.out), hX.out.symm ▸ HB5.out.2.2.1⟩
      · have HRT := Lib.hid (rightTT (decide_eq_false hR) wr htab)
        have HRU : Hid (readU l p n c = none) := by
          show readU l p n c = _
          rw [HUI.out, if_neg hR]
        clear hR htab
        go_wp2_with (go_at_call 52; (with_reducible refine HRT.out.mono ?_); rintro e w4 ⟨rfl, g4⟩; obtain ⟨y1, y2, y3, y4⟩ := (HB2.out.later g4).cells; have HB5 := Lib.hid ((HB2.out.later g4).res (.slice none 0 0)); clear g4 HRT)
        refine bodyPost_ret (results_cell_two rfl _ _ X 26 #[.slice none 0 0] (0, 0) _ rfl _ _ rfl rfl HB5.out.1 Tryz.underlying26 rfl tbl_size) rfl ?_
        rw [HRU.out]
        exact ⟨rfl, hX.out.symm ▸ HB5.out.2.2.1⟩
end Go.Proofs.YtdffgnpldapciaaGreatDoor
namespace Go.Proofs.YtdffgnpldapciaaGreatDoor
open Go.RowKit
set_option linter.unusedVariables false

theorem take_add {α : Type} (l : List α) (i j : Nat) : l.take (i + j) = l.take i ++ (l.drop i).take j := List.take_add
theorem entsB_enc {l : List Int} {k : Nat} {c : Int} (hb : ∀ x ∈ l, 0 ≤ x ∧ x < 256) : ∀ {j : Nat} {xs : List En}, entsB l k c j = some xs → (l.drop k).take (j * 16) = xs.flatMap enB
  | 0, xs, h => by
    simp only [entsB, Option.some.injEq] at h
    subst h
    simp
  | j + 1, xs, h => by
    unfold entsB at h
    cases h1 : entsB l k c j with
    | none => rw [h1] at h; cases h
    | some ys =>
      rw [h1] at h
      dsimp only at h
      cases h2 : getE (partB l (k + j * 16)) c with
      | none => rw [h2] at h; cases h
      | some x =>
        rw [h2] at h
        simp only [Option.some.injEq] at h
        subst h
        have e := getE_is (fun z hz => hb z (by unfold partB at hz; exact List.mem_of_mem_drop (List.mem_of_mem_take hz))) h2
        rw [Nat.succ_mul, take_add, entsB_enc hb h1, List.flatMap_append, List.drop_drop]
        simp only [List.flatMap_cons, List.flatMap_nil, List.append_nil]
        rw [e]
        rfl
theorem body_congr {T T' : Tb} : ∀ i, (∀ j, j < i → tbAt T j = tbAt T' j) → bodyB T i = bodyB T' i ∧ cntT T i = cntT T' i
  | 0, _ => ⟨rfl, rfl⟩
  | i + 1, h => by
    obtain ⟨h1, h2⟩ := body_congr i fun j hj => h j (by omega)
    unfold bodyB cntT
    rw [h i (by omega), h1, h2]
    exact ⟨rfl, rfl⟩
theorem body_stay {T : Tb} {i : Nat} : ∀ d, (∀ j, i ≤ j → j < i + d → tbAt T j = []) → bodyB T (i + d) = bodyB T i ∧ cntT T (i + d) = cntT T i
  | 0, _ => ⟨rfl, rfl⟩
  | d + 1, h => by
    obtain ⟨h1, h2⟩ := body_stay d fun j hj hj2 => h j hj (by omega)
    show (if tbAt T (i + d) = [] then bodyB T (i + d) else _) = _ ∧ (if tbAt T (i + d) = [] then cntT T (i + d) else _) = _
    rw [if_pos (h (i + d) (by omega) (by omega)), if_pos (h (i + d) (by omega) (by omega))]
    exact ⟨h1, h2⟩
theorem tbAt_pad1 (T : Tb) (g : Nat) (xs : List En) (h : T.length ≤ g) (j : Nat) : tbAt (padTo T g ++ [xs]) j = if j < T.length then tbAt T j else if j = g then xs else [] := by
  have hp := padTo_len T g h
  unfold tbAt
  rw [List.getD_eq_getElem?_getD, List.getElem?_append, hp]
  by_cases h1 : j < T.length
  · rw [if_pos h1, if_pos (by omega)]
    unfold padTo
    rw [List.getElem?_append, if_pos h1, List.getD_eq_getElem?_getD]
  · rw [if_neg h1]
    by_cases h2 : j < g
    · rw [if_pos h2, if_neg (by omega)]
      unfold padTo
      rw [List.getElem?_append, if_neg h1, List.getElem?_replicate]
      split <;> rfl
    · rw [if_neg h2]
      by_cases h3 : j = g
      · rw [if_pos h3]
        subst h3
        simp
      · rw [if_neg h3, List.getElem?_eq_none (by simp; omega)]
        rfl
theorem readI_enc {l : List Int} {k0 : Nat} {c : Int} (hb : ∀ x ∈ l, 0 ≤ x ∧ x < 256) (hk0 : k0 ≤ l.length) : ∀ {i : Nat} {T : Tb} {k : Nat}, readI l k0 c i = some (T, k) → (l.drop k0).take (i * 130) = bodyB T T.length ∧ cntT T T.length = i
  | 0, T, k, h => by
    simp only [readI, Option.some.injEq, Prod.mk.injEq] at h
    obtain ⟨rfl, rfl⟩ := h
    simp [bodyB, cntT]
  | i + 1, T, k, h => by
    have h' := h
    unfold readI at h
    cases h1 : readI l k0 c i with
    | none => rw [h1] at h; cases h
    | some p =>
      obtain ⟨T1, k1⟩ := p
      rw [h1] at h
      dsimp only at h
      obtain ⟨e1, e2, _, _⟩ := readI_at hb hk0 h1
      obtain ⟨f1, f2⟩ := readI_enc hb hk0 h1
      split at h
      · cases h
      · rename_i hc
        cases h2 : entsB l (k1 + 2) c 8 with
        | none => rw [h2] at h; cases h
        | some xs =>
          rw [h2] at h
          simp only [Option.some.injEq, Prod.mk.injEq] at h
          obtain ⟨rfl, rfl⟩ := h
          obtain ⟨g, hg⟩ : ∃ g, getTo false 2 k1 l 2 = g := ⟨_, rfl⟩
          have hnum := numB_getTo hb 2 k1 (by omega)
          have hent := entsB_enc hb h2
          have hxl := entsB_len h2
          rw [hg] at hc hnum ⊢
          have hle : T1.length ≤ g := by omega
          have hat := tbAt_pad1 T1 g xs hle
          have hln : (padTo T1 g ++ [xs]).length = g + 1 := by rw [List.length_append, padTo_len T1 g hle]; rfl
          obtain ⟨d, rfl⟩ : ∃ d, g = T1.length + d := ⟨g - T1.length, by omega⟩
          have s1 := body_congr (T := padTo T1 (T1.length + d) ++ [xs]) (T' := T1) T1.length fun j hj => by rw [hat, if_pos hj]
          have s2 := body_stay (T := padTo T1 (T1.length + d) ++ [xs]) (i := T1.length) d fun j hj hj2 => by rw [hat, if_neg (by omega), if_neg (by omega)]
          have hlast : tbAt (padTo T1 (T1.length + d) ++ [xs]) (T1.length + d) = xs := by rw [hat, if_neg (by omega), if_pos rfl]
          have hne : xs ≠ [] := fun e => by rw [e] at hxl; cases hxl
          rw [hln]
          unfold bodyB cntT
          rw [hlast, if_neg hne, if_neg hne, s2.1, s2.2, s1.1, s1.2, f2]
          refine ⟨?_, rfl⟩
          rw [Nat.succ_mul, take_add, f1, List.drop_drop, ← e1]
          unfold leafB
          rw [hnum, ← hent, ← List.drop_drop, ← take_add]
theorem readU_enc {l : List Int} {p : Nat} {n c : Int} (hb : ∀ x ∈ l, 0 ≤ x ∧ x < 256) (hp : p + 2 ≤ l.length) {T : Tb} {k : Nat} (h : readU l p n c = some (T, k)) : l.drop p = tblB T ++ l.drop k ∧ k = p + (tblB T).length ∧ k ≤ l.length ∧ rightT T n c ∧ EnT T := by
  unfold readU at h
  cases h1 : readI l (p + 2) c (getTo false 2 p l 2) with
  | none => rw [h1] at h; cases h
  | some q =>
    obtain ⟨T1, k1⟩ := q
    rw [h1] at h
    dsimp only at h
    split at h
    · rename_i hr
      simp only [Option.some.injEq, Prod.mk.injEq] at h
      obtain ⟨rfl, rfl⟩ := h
      obtain ⟨e1, e2, _, e4⟩ := readI_at hb hp h1
      obtain ⟨f1, f2⟩ := readI_enc hb hp h1
      have hnum := numB_getTo hb 2 p hp
      have htb : tblB T1 = (l.drop p).take (2 + getTo false 2 p l 2 * 130) := by
        unfold tblB
        rw [f2, hnum, ← f1, take_add, List.drop_drop]
      have hlen : (tblB T1).length = 2 + getTo false 2 p l 2 * 130 := by
        rw [htb, List.length_take, List.length_drop]
        omega
      refine ⟨?_, by omega, e2, hr, fun lf hlf => (e4 lf hlf).2⟩
      rw [htb, show k1 = p + (2 + getTo false 2 p l 2 * 130) by omega, ← List.drop_drop, List.take_append_drop]
    · cases h
end Go.Proofs.YtdffgnpldapciaaGreatDoor
namespace Go.Proofs.YtdffgnpldapciaaGreatDoor
open Go.RowKit
set_option linter.unusedVariables false

/-- The panic by which a reader gives up. -/
@[reducible] def upE : Ending := .panicked [{ v := .iface 32 (.int .i64 3), recovered := false }]
theorem insist_yes (w : World) : Calls Tryz.prog 11 #[.bool true] w fun e w' => e = .returned (.tuple #[]) ∧ w' = w := by
  go_enter Tryz.func11, Tryz.ntmps11
  go_wp2
  go_end0
  exact ⟨rfl, rfl⟩
theorem insist_no (w : World) : Calls Tryz.prog 11 #[.bool false] w fun e w' => e = upE ∧ w' = w := by
  go_enter Tryz.func11, Tryz.ntmps11
  go_wp2
  exact ⟨rfl, rfl, rfl⟩
theorem grown_trans {a w w' : World} {row : Option Nat} (h : a.grownBy w row) (k : w.grownBy w' row) : a.grownBy w' row :=
  ⟨k.os.trans h.os, k.tape.trans h.tape, k.output.trans h.output, Nat.le_trans h.size k.size, fun j hj hr => (k.block j (Nat.lt_of_lt_of_le hj h.size) hr).trans (h.block j hj hr)⟩
theorem grown_below {w w' : World} (h : Below w.heap.size w w') (row : Option Nat) : w.grownBy w' row := ⟨h.os, h.tape, h.output, h.size, fun k hk _ => h.block k hk⟩
theorem _root_.Go.World.grownBy.setC {a w : World} {X : Nat} (h : a.grownBy w (some X)) (i : Nat) (v : Value) : a.grownBy (w.setCell ⟨X, i, none⟩ v) (some X) := grown_trans h (grownBy_setCell4 w X i v)
/-- The box of a reader, at a place in the bytes. -/
structure Rdr (w0 w : World) (X : Nat) (a : Option Addr) (n c p : Nat) (l : List Int) : Prop where
  box : Blk w X 44 #[.slice a n c, .int .i64 p]
  b : Below w0.heap.size w0 w
  x : w0.heap.size ≤ X
  hB : Bytes w0 a n l
  le : n ≤ c
  hp : p ≤ n
section
variable {w0 w w' : World} {X n c p : Nat} {a : Option Addr} {l : List Int}
theorem Rdr.later (h : Rdr w0 w X a n c p l) (hb : Below w.heap.size w w') : Rdr w0 w' X a n c p l := ⟨h.box.later hb, h.b.trans (hb.mono h.b.size), h.x, h.hB, h.le, h.hp⟩
theorem Rdr.bytes (h : Rdr w0 w X a n c p l) : Bytes w a n l := h.hB.later h.b
theorem Rdr.cells (h : Rdr w0 w X a n c p l) : w.cell? ⟨X, 0, none⟩ = some (.slice a n c) ∧ w.cell? ⟨X, 1, none⟩ = some (.int .i64 p) ∧ w.frozen? ⟨X, 0, none⟩ = false ∧ w.frozen? ⟨X, 1, none⟩ = false := ⟨by rw [h.box.cell]; rfl, by rw [h.box.cell]; rfl, h.box.free 0, h.box.free 1⟩
/-- The reader goes on. -/
theorem Rdr.put (h : Rdr w0 w X a n c p l) {q : Nat} (hq : q ≤ n) : Rdr w0 (w.setCell ⟨X, 1, none⟩ (.int .i64 q)) X a n c q l :=
  ⟨h.box.set 1 _, h.b.setCell h.x _, h.x, h.hB, h.le, hq⟩
theorem Rdr.kept (h : Rdr w0 w X a n c p l) {row : Option Nat} (hg : w.grownBy w' row) (hr : row ≠ some X) (hl : ∀ k, row = some k → w0.heap.size ≤ k) : Rdr w0 w' X a n c p l :=
  ⟨h.box.kept hg (fun e => hr e.symm), h.b.grown hg h.b.size hl, h.x, h.hB, h.le, h.hp⟩
theorem Rdr.size (h : Rdr w0 w X a n c p l) : n ≤ 140737488351232 ∧ l.length = n ∧ ∀ x ∈ l, 0 ≤ x ∧ x < 256 := ⟨by have := h.hB.small.1; rwa [h.hB.1] at this, h.hB.1, h.hB.small.2⟩
end
/-- What a reading call does: it hands back what it has read and goes on, or gives up. -/
def RdQ (w0 : World) (X : Nat) (a : Option Addr) (n c : Nat) (l : List Int) (P : Value → Nat → World → Prop) (F : Prop) (W : World) (e : Ending) (w' : World) : Prop :=
  W.grownBy w' (some X) ∧ ((∃ v p', e = .returned v ∧ Rdr w0 w' X a n c p' l ∧ P v p' w') ∨ (e = upE ∧ F))
set_option maxHeartbeats 800000 in
theorem rdNumber {w0 w : World} {X : Nat} {a : Option Addr} {n c p : Nat} {l : List Int} (h : Rdr w0 w X a n c p l) (k : Nat) (K : Int) (hk : (k : Int) = K) (h1 : 1 ≤ k) (h4 : k ≤ 4) :
    Calls Tryz.prog 23 #[.pointer (some ⟨X, 0, none⟩), .int .i64 K] w (RdQ w0 X a n c l (fun v p' _ => ∃ x : Nat, v = .int .i64 x ∧ x < 256 ^ k ∧ l.drop p = numB false k x ++ l.drop p') (∀ x r, l.drop p ≠ numB false k x ++ r) w) := by
  obtain ⟨hn, hl, hb⟩ := h.size
  have HY := Lib.hid insist_yes
  have HN := Lib.hid insist_no
  have hpn := h.hp
  have HR := Lib.hid h
  have HKS : Hid (∀ W, Below w.heap.size w W → W.cell? ⟨X, 0, none⟩ = some (.slice a n c) ∧ W.cell? ⟨X, 1, none⟩ = some (.int .i64 p)) := fun W hb => ⟨(h.later hb).cells.1, (h.later hb).cells.2.1⟩
  have HR0 := Lib.hid (Below.refl w.heap.size w)
  have HRD := Lib.hid (Below.refl w.heap.size w).drew
  by_cases hp : p + k ≤ n
  · have HG := Lib.hid (fun W hb' => fieldGet_ok a n c k p l false W (h.later (w' := W) hb').bytes h.le h1 (by omega) hp)
    have hnum := numB_getTo hb k p (by omega)
    have hlt : getTo false k p l k < 256 ^ k := getTo_lt hb false k p k
    have hlt4 : getTo false k p l k < 4294967296 := Nat.lt_of_lt_of_le hlt (by
      have : (256 : Nat) ^ 4 = 4294967296 := by decide
      rw [← this]
      exact Nat.pow_le_pow_right (by omega) h4)
    obtain ⟨v, hv⟩ := named (getTo false k p l k)
    rw [hv.out] at HG hnum hlt hlt4
    have HL : Hid (l.drop p = numB false k v ++ l.drop (p + k)) := by
      rw [Hid, hnum, ← List.drop_drop, List.take_append_drop]
    have HLT := Lib.hid hlt
    have hw : IntKind.i64.wrap (v : Int) = v := IntWalk.i64_in _ (by omega)
    obtain ⟨q, hq⟩ := named (p + k)
    have hw2 : IntKind.i64.wrap ((p : Int) + K) = (q : Int) := by rw [IntWalk.i64_in _ (by omega), ← hq.out]; omega
    have hqn : q ≤ n := by rw [← hq.out]; exact hp
    rw [hk] at HG
    rw [hq.out] at HL
    clear hnum hlt hv h hb
    go_enter Tryz.func23, Tryz.ntmps23
    go_wp2
    go_region_held3 (fun W => W.cell? ⟨X, 0, none⟩ = some (.slice a n c) ∧ W.cell? ⟨X, 1, none⟩ = some (.int .i64 p)) (first | with_reducible exact HKS.out _ HR0.out | with_reducible exact HKS.out _ HRD.out | with_reducible exact HKS.out _ HB1.out) (first | (go_at_call 48; (with_reducible refine (HG.out _ HRD.out).mono ?_); rintro e w1 ⟨rfl, hb⟩; have HB1 := Lib.hid (HRD.out.trans (hb.mono HRD.out.size)); clear hb))
    obtain ⟨c0, c1, f0, f1⟩ := (HR.out.later HB1.out).cells
    go_wp2_with (first
      | (go_at_call 11; (with_reducible refine (HY.out _).mono ?_); rintro e w2 ⟨rfl, hw⟩; obtain rfl := hw.symm))
    go_ret
    exact ⟨(grown_below HB1.out _).setC _ _, Or.inl ⟨_, q, rfl, (HR.out.later HB1.out).put hqn, v, rfl, HLT.out, HL.out⟩⟩
  · have HG := Lib.hid (fun W hb' => fieldGet_range a n c k p l false W (h.later (w' := W) hb').bytes h.le (by unfold In64; omega) h1 (by omega) (Or.inr (by omega)))
    have HF : Hid (∀ x r, l.drop p ≠ numB false k x ++ r) := fun x r e => by
      have := congrArg List.length e
      rw [List.length_append, numB_len, List.length_drop] at this
      omega
    rw [hk] at HG
    clear h hb
    go_enter Tryz.func23, Tryz.ntmps23
    go_wp2
    go_region_held3 (fun W => W.cell? ⟨X, 0, none⟩ = some (.slice a n c) ∧ W.cell? ⟨X, 1, none⟩ = some (.int .i64 p)) (first | with_reducible exact HKS.out _ HR0.out | with_reducible exact HKS.out _ HRD.out | with_reducible exact HKS.out _ HB1.out) (first | (go_at_call 48; (with_reducible refine (HG.out _ HRD.out).mono ?_); rintro e w1 ⟨rfl, hb⟩; have HB1 := Lib.hid (HRD.out.trans (hb.mono HRD.out.size)); clear hb))
    go_wp2_with (first
      | (go_at_call 11; (with_reducible refine (HN.out _).mono ?_); rintro e w2 ⟨rfl, hw⟩; obtain rfl := hw.symm))
    exact ⟨rfl, grown_below HB1.out _, Or.inr ⟨rfl, HF.out⟩⟩
end Go.Proofs.YtdffgnpldapciaaGreatDoor
namespace Go.Proofs.YtdffgnpldapciaaGreatDoor
open Go.RowKit
set_option linter.unusedVariables false

set_option maxRecDepth 100000 in
set_option maxHeartbeats 1600000 in
theorem read_out (w : World) (a : Option Addr) (len cap : Nat) (p : Int) (l : List Int) (n c : Int) (hB : Bytes w a len l) (hcap : len ≤ cap) (hat : In64 p) (h : p < 0 ∨ (len : Int) < p + 2) :
    Calls Tryz.prog 50 #[.slice a len cap, .int .i64 p, .int .i64 n, .int .i64 c] w (ReadP none w) := by
  have hal : Below w.heap.size w (w.alloc (.cells #[.slice none 0 0] 26)) := (Below.refl _ _).alloc (Nat.le_refl _) _
  have HF : Hid (Calls Tryz.prog 48 #[.slice a len cap, .int .i64 p, .int .i64 2, .bool false] (w.alloc (.cells #[.slice none 0 0] 26)) (GetPost (w.alloc (.cells #[.slice none 0 0] 26)) 0 6)) := Lib.hid (fieldGet_range a len cap 2 p l false _ (hB.later hal) hcap hat (by omega) (by omega) h)
  have HX := Lib.hid (Blk.new w 26 #[.slice none 0 0])
  have HAL := Lib.hid hal
  clear hB h hal
  go_enter Tryz.func50, Tryz.ntmps50
  go_wp2_with (go_at_call 48; (with_reducible refine HF.out.mono ?_); rintro e w1 ⟨rfl, g⟩; have HX1 := Lib.hid (HX.out.later g); have x1 := one_cell9 (HX.out.later g); have x2 := (HX.out.later g).free 0; have HX2 := Lib.hid ((HX.out.later g).set 0 (.slice none 0 0)); have HB2 := Lib.hid ((HAL.out.trans (g.mono HAL.out.size)).setCell (Nat.le_refl _) (p := ⟨w.heap.size, 0, none⟩) (.slice none 0 0)); clear g)
  refine bodyPost_ret (results_cell_two rfl _ _ w.heap.size 26 #[.slice none 0 0] (0, 0) _ rfl _ _ rfl rfl HX2.out Tryz.underlying26 rfl tbl_size) rfl ?_
  exact ⟨rfl, HB2.out⟩
theorem str_back {l : List Int} (hl : ∀ c ∈ l, 0 ≤ c ∧ c < 256) : strB (strOfNums l) = l := by
  unfold strB
  rw [strOfNums_data]
  rw [List.map_map]
  conv => rhs; rw [← List.map_id l]
  apply List.map_congr_left
  intro c hc
  have := hl c hc
  simp only [Function.comp, id]
  have e : (UInt8.ofNat c.toNat).toNat = c.toNat := by
    rw [UInt8.toNat_ofNat']
    exact Nat.mod_eq_of_lt (by omega)
  rw [e]
  omega
theorem pow_le4 {k : Nat} (h : k ≤ 4) : (256 : Nat) ^ k ≤ 4294967296 := by
  have : (256 : Nat) ^ 4 = 4294967296 := by decide
  rw [← this]
  exact Nat.pow_le_pow_right (by omega) h
set_option maxHeartbeats 800000 in
theorem rdUpTo {w0 w : World} {X : Nat} {a : Option Addr} {n c p : Nat} {l : List Int} (h : Rdr w0 w X a n c p l) (k : Nat) (K m : Int) (hk : (k : Int) = K) (h1 : 1 ≤ k) (h4 : k ≤ 4) :
    Calls Tryz.prog 51 #[.pointer (some ⟨X, 0, none⟩), .int .i64 m, .int .i64 K] w (RdQ w0 X a n c l (fun v p' _ => ∃ x : Nat, v = .int .i64 x ∧ (x : Int) ≤ m ∧ x < 256 ^ k ∧ l.drop p = numB false k x ++ l.drop p') (∀ (x : Nat) (r : List Int), x < 256 ^ k → (x : Int) ≤ m → l.drop p ≠ numB false k x ++ r) w) := by
  have HY := Lib.hid insist_yes
  have HN := Lib.hid insist_no
  have HR := Lib.hid (rdNumber h k K hk h1 h4)
  have HW := Lib.hid (fun (x : Nat) (R : Bool) (hR : decide (0 ≤ (x : Int) ∧ (x : Int) ≤ m) = R) W => mWithin x 0 m hR W)
  have hp4 := Lib.hid (pow_le4 h4)
  have hk8 : k < 8 := by omega
  clear h hk
  go_enter Tryz.func51, Tryz.ntmps51
  go_wp2_with (go_at_call 23; (with_reducible refine HR.out.mono ?_); rintro e w1 ⟨hg, ⟨v, q, rfl, hq, x, rfl, hx, hL⟩ | ⟨rfl, hF⟩⟩; rotate_left; exact ⟨rfl, hg, Or.inr ⟨rfl, fun x r _ _ => hF x r⟩⟩)
  have HG := Lib.hid hg
  have HQ := Lib.hid hq
  have HL := Lib.hid hL
  have HX := Lib.hid hx
  clear hg hq hL hx
  by_cases hxm : (x : Int) ≤ m
  · have HW1 := Lib.hid (HW.out x true (decide_eq_true ⟨by omega, hxm⟩))
    go_wp2_with (first
      | (go_at_call 29; (with_reducible refine (HW1.out _).mono ?_); rintro e w2 ⟨rfl, hw⟩; obtain rfl := hw.symm)
      | (go_at_call 11; (with_reducible refine (HY.out _).mono ?_); rintro e w2 ⟨rfl, hw⟩; obtain rfl := hw.symm))
    go_ret
    exact ⟨HG.out, Or.inl ⟨_, q, rfl, HQ.out, x, rfl, hxm, HX.out, HL.out⟩⟩
  · have HW1 := Lib.hid (HW.out x false (decide_eq_false (fun h => hxm h.2)))
    go_wp2_with (first
      | (go_at_call 29; (with_reducible refine (HW1.out _).mono ?_); rintro e w2 ⟨rfl, hw⟩; obtain rfl := hw.symm)
      | (go_at_call 11; (with_reducible refine (HN.out _).mono ?_); rintro e w2 ⟨rfl, hw⟩; obtain rfl := hw.symm))
    refine ⟨rfl, HG.out, Or.inr ⟨rfl, fun y r hy hym e => ?_⟩⟩
    have h4 := hp4.out
    have hx := HX.out
    have e2 := (num_tells hk8 hx hy (by omega) (by omega) (HL.out.symm.trans e)).1
    subst e2
    omega
theorem text_at {l : List Int} {p : Nat} (hb : ∀ x ∈ l, 0 ≤ x ∧ x < 256) (h : p + 2 + readN p l ≤ l.length) : (strOfNums ((l.drop (p + 2)).take (readN p l))).size = readN p l ∧ l.drop p = textB (strOfNums ((l.drop (p + 2)).take (readN p l))) ++ l.drop (p + 2 + readN p l) := by
  have hnum := numB_getTo hb 2 p (by omega)
  have hs := str_back (l := (l.drop (p + 2)).take (readN p l)) fun c hc => hb c (List.mem_of_mem_drop (List.mem_of_mem_take hc))
  have hsz : (strOfNums ((l.drop (p + 2)).take (readN p l))).size = readN p l := by
    rw [← strB_len, hs, List.length_take, List.length_drop]
    omega
  refine ⟨hsz, ?_⟩
  unfold textB
  rw [hsz, hs]
  show _ = numB false 2 (getTo false 2 p l 2) ++ _ ++ _
  have e1 : l.drop (p + 2 + readN p l) = ((l.drop p).drop 2).drop (readN p l) := by rw [List.drop_drop, List.drop_drop, Nat.add_assoc]
  have e2 : l.drop (p + 2) = (l.drop p).drop 2 := by rw [List.drop_drop]
  rw [hnum, e1, e2, List.append_assoc, List.take_append_drop, List.take_append_drop]
theorem text_not {l : List Int} {p : Nat} (hp : p ≤ l.length) {s : ByteArray} {r : List Int} (hs : s.size ≤ 65535) (e : l.drop p = textB s ++ r) : p + 2 ≤ l.length ∧ readN p l = s.size ∧ p + 2 + s.size ≤ l.length := by
  have hlen := congrArg List.length e
  rw [List.length_append, textB_len, List.length_drop] at hlen
  have h2 : readN p l = s.size := by
    have e1 : l = l.take p ++ numB false 2 s.size ++ (strB s ++ r) := by
      unfold textB at e
      rw [List.append_assoc] at e
      rw [List.append_assoc, ← e, List.take_append_drop]
    have h1 := readN_text (l.take p) (strB s ++ r) s.size (by omega)
    rw [← e1, List.length_take, Nat.min_eq_left hp] at h1
    exact h1
  omega
set_option maxHeartbeats 800000 in
theorem rdText {w0 w : World} {X : Nat} {a : Option Addr} {n c p : Nat} {l : List Int} (h : Rdr w0 w X a n c p l) :
    Calls Tryz.prog 24 #[.pointer (some ⟨X, 0, none⟩)] w (RdQ w0 X a n c l (fun v p' _ => ∃ s : ByteArray, v = .string s ∧ s.size ≤ 65535 ∧ l.drop p = textB s ++ l.drop p') (∀ s r, s.size ≤ 65535 → l.drop p ≠ textB s ++ r) w) := by
  obtain ⟨hn, hl, hb⟩ := h.size
  have HY := Lib.hid insist_yes
  have HN := Lib.hid insist_no
  have hpn := h.hp
  have HR := Lib.hid h
  have HKS : Hid (∀ W, Below w.heap.size w W → W.cell? ⟨X, 0, none⟩ = some (.slice a n c) ∧ W.cell? ⟨X, 1, none⟩ = some (.int .i64 p)) := fun W hb => ⟨(h.later hb).cells.1, (h.later hb).cells.2.1⟩
  have HR0 := Lib.hid (Below.refl w.heap.size w)
  have HRD := Lib.hid (Below.refl w.heap.size w).drew
  have hrn := readN_lt hb p
  by_cases hp : p + 2 + readN p l ≤ n
  · have HG := Lib.hid (fun W hb' => fieldRead_ok a n c p l W (h.later (w' := W) hb').bytes h.le hp)
    obtain ⟨hsz, hdr⟩ := text_at hb (by omega : p + 2 + readN p l ≤ l.length)
    obtain ⟨q, hq⟩ := named (p + 2 + readN p l)
    have hqn : q ≤ n := by rw [← hq.out]; exact hp
    obtain ⟨s, hs⟩ := named (strOfNums ((l.drop (p + 2)).take (readN p l)))
    rw [hs.out, hq.out] at hdr HG
    rw [hs.out] at hsz
    have HSZ : Hid (s.size ≤ 65535) := by rw [Hid, hsz]; omega
    have HL := Lib.hid hdr
    clear hsz hdr hq hs h hb hrn
    go_enter Tryz.func24, Tryz.ntmps24
    go_wp2
    go_region_held3 (fun W => W.cell? ⟨X, 0, none⟩ = some (.slice a n c) ∧ W.cell? ⟨X, 1, none⟩ = some (.int .i64 p)) (first | with_reducible exact HKS.out _ HR0.out | with_reducible exact HKS.out _ HRD.out | with_reducible exact HKS.out _ HB1.out) (first | (go_at_call 49; (with_reducible refine (HG.out _ HRD.out).mono ?_); rintro e w1 ⟨rfl, hb⟩; have HB1 := Lib.hid (HRD.out.trans (hb.mono HRD.out.size)); clear hb))
    obtain ⟨c0, c1, f0, f1⟩ := (HR.out.later HB1.out).cells
    go_wp2_with (first
      | (go_at_call 11; (with_reducible refine (HY.out _).mono ?_); rintro e w2 ⟨rfl, hw⟩; obtain rfl := hw.symm))
    go_ret
    exact ⟨(grown_below HB1.out _).setC _ _, Or.inl ⟨_, q, rfl, (HR.out.later HB1.out).put hqn, s, rfl, HSZ.out, HL.out⟩⟩
  · have HG : Hid (∀ W, Below w.heap.size w W → Calls Tryz.prog 49 #[.slice a n c, .int .i64 p] W (ReadPost W ByteArray.empty 0 6)) := fun W hb' => by
      by_cases h2 : p + 2 ≤ n
      · exact fieldRead_short a n c p l W (h.later hb').bytes h.le h2 (by omega)
      · exact fieldRead_range a n c p l W (h.later hb').bytes h.le (by unfold In64; omega) (Or.inr (by omega))
    have HF : Hid (∀ s r, s.size ≤ 65535 → l.drop p ≠ textB s ++ r) := fun s r hs e => by
      have := text_not (by omega) hs e
      omega
    clear h hb hrn hp
    go_enter Tryz.func24, Tryz.ntmps24
    go_wp2
    go_region_held3 (fun W => W.cell? ⟨X, 0, none⟩ = some (.slice a n c) ∧ W.cell? ⟨X, 1, none⟩ = some (.int .i64 p)) (first | with_reducible exact HKS.out _ HR0.out | with_reducible exact HKS.out _ HRD.out | with_reducible exact HKS.out _ HB1.out) (first | (go_at_call 49; (with_reducible refine (HG.out _ HRD.out).mono ?_); rintro e w1 ⟨rfl, hb⟩; have HB1 := Lib.hid (HRD.out.trans (hb.mono HRD.out.size)); clear hb))
    go_wp2_with (first
      | (go_at_call 11; (with_reducible refine (HN.out _).mono ?_); rintro e w2 ⟨rfl, hw⟩; obtain rfl := hw.symm))
    exact ⟨rfl, grown_below HB1.out _, Or.inr ⟨rfl, HF.out⟩⟩
end Go.Proofs.YtdffgnpldapciaaGreatDoor
namespace Go.Proofs.YtdffgnpldapciaaGreatDoor
open Go.RowKit
set_option linter.unusedVariables false

theorem read_all (w : World) (a : Option Addr) (len cap p : Nat) (l : List Int) (n c : Int) (hB : Bytes w a len l) (hcap : len ≤ cap) (hp : p ≤ len) (hw : Wid w) :
    Calls Tryz.prog 50 #[.slice a len cap, .int .i64 p, .int .i64 n, .int .i64 c] w (ReadP (if p + 2 ≤ len then readU l p n c else none) w) := by
  by_cases h : p + 2 ≤ len
  · rw [if_pos h]
    exact read_any w a len cap p l n c hB hcap h hw
  · rw [if_neg h]
    have := hB.small.1
    rw [hB.1] at this
    exact read_out w a len cap p l n c hB hcap (by unfold In64; omega) (Or.inr (by omega))
theorem readU_full {T : Tb} {n c : Int} (h : rightT T n c) (ho : EnT T) (l1 l2 : List Int) : readU (l1 ++ tblB T ++ l2) l1.length n c = some (T, l1.length + (tblB T).length) := by
  have h1 := readT_back (rightT_wide h) ho l1 l2
  have hl : l1.length + 2 ≤ (l1 ++ tblB T ++ l2).length := by
    unfold tblB
    simp only [List.length_append, numB_len]
    omega
  rw [readT_in hl] at h1
  unfold readU at h1 ⊢
  cases h2 : readI (l1 ++ tblB T ++ l2) (l1.length + 2) c (getTo false 2 l1.length (l1 ++ tblB T ++ l2) 2) with
  | none => rw [h2] at h1; cases h1
  | some q =>
    obtain ⟨T1, k1⟩ := q
    rw [h2] at h1
    dsimp only at h1 ⊢
    split at h1
    · simp only [Option.some.injEq, Prod.mk.injEq] at h1
      obtain ⟨rfl, rfl⟩ := h1
      rw [if_pos h]
    · cases h1
theorem tab_not {l : List Int} {p : Nat} (hp : p ≤ l.length) {n c : Int} {T : Tb} {r : List Int} (h : rightT T n c) (ho : EnT T) (e : l.drop p = tblB T ++ r) : p + 2 ≤ l.length ∧ readU l p n c = some (T, p + (tblB T).length) := by
  have e1 : l = l.take p ++ tblB T ++ r := by rw [List.append_assoc, ← e, List.take_append_drop]
  have h1 := readU_full h ho (l.take p) r
  rw [← e1, List.length_take, Nat.min_eq_left hp] at h1
  refine ⟨?_, h1⟩
  have hlen := congrArg List.length e
  unfold tblB at hlen
  rw [List.length_append, List.length_append, numB_len, List.length_drop] at hlen
  omega
theorem grown_set {a w : World} {row : Option Nat} {k : Nat} (h : a.grownBy w row) (hk : a.heap.size ≤ k) (i : Nat) (v : Value) : a.grownBy (w.setCell ⟨k, i, none⟩ v) row := by
  have g := grownBy_setCell4 w k i v
  exact ⟨g.os.trans h.os, g.tape.trans h.tape, g.output.trans h.output, Nat.le_trans h.size g.size, fun j hj hr => (g.block j (Nat.lt_of_lt_of_le hj h.size) (fun e => by cases e; omega)).trans (h.block j hj hr)⟩
theorem shr_min (Z C : Nat) (hZ : Z < 65536) : (Z : Int) / 2 ^ min C 64 = (Z : Int) / 2 ^ C := by
  by_cases h : C ≤ 64
  · rw [Nat.min_eq_left h]
  · rw [Nat.min_eq_right (by omega)]
    have h0 : ∀ k, 16 ≤ k → (Z : Int) / 2 ^ k = 0 := fun k hk => by
      have h1 : (2 : Nat) ^ 16 ≤ 2 ^ k := Nat.pow_le_pow_right (by decide) hk
      have h2 : (2 : Nat) ^ 16 = 65536 := by decide
      have h3 : Z / 2 ^ k = 0 := Nat.div_eq_of_lt (Nat.lt_of_lt_of_le hZ (h2 ▸ h1))
      have h4 : ((Z / 2 ^ k : Nat) : Int) = (Z : Int) / 2 ^ k := by rw [Int.natCast_ediv, Int.natCast_pow]; rfl
      rw [← h4, h3]
      rfl
    rw [h0 64 (by decide), h0 C (by omega)]
set_option maxHeartbeats 800000 in
theorem rdTable {w0 w : World} {X : Nat} {a : Option Addr} {n c p : Nat} {l : List Int} (h : Rdr w0 w X a n c p l) (Z C : Nat) (hZ : Z < 65536) (hC : C < 256) (hW : Wid w0) :
    Calls Tryz.prog 25 #[.pointer (some ⟨X, 0, none⟩), .int .i64 Z, .int .i64 C] w (RdQ w0 X a n c l (fun v p' w' => ∃ (a' : Option Addr) (l' c' : Nat) (T : Tb), v = .agg #[.slice a' l' c'] ∧ TabN w' w.heap.size a' l' c' T ∧ rightT T ((Z : Int) / 2 ^ C) C ∧ EnT T ∧ l.drop p = tblB T ++ l.drop p') (∀ (T : Tb) (r : List Int), rightT T ((Z : Int) / 2 ^ C) C → EnT T → l.drop p ≠ tblB T ++ r) w) := by
  obtain ⟨hn, hl, hb⟩ := h.size
  have HY := Lib.hid insist_yes
  have HN := Lib.hid insist_no
  have hpn := h.hp
  have HR := Lib.hid h
  have HKS : Hid (∀ W, Below w.heap.size w W → W.cell? ⟨X, 0, none⟩ = some (.slice a n c) ∧ W.cell? ⟨X, 1, none⟩ = some (.int .i64 p)) := fun W hb => ⟨(h.later hb).cells.1, (h.later hb).cells.2.1⟩
  have HA0 := Lib.hid ((Below.refl w.heap.size w).alloc (Nat.le_refl _) (.cells #[.slice none 0 0] 26))
  have HAD := Lib.hid ((Below.refl w.heap.size w).alloc (Nat.le_refl _) (.cells #[.slice none 0 0] 26)).drew
  have HAA := Lib.hid (HA0.out.alloc HA0.out.size (.cells #[.slice none 0 0] 26))
  have HAAD := Lib.hid (HA0.out.alloc HA0.out.size (.cells #[.slice none 0 0] 26)).drew
  have HTX := Lib.hid (Blk.new w 26 #[.slice none 0 0])
  have HTY : Hid (Blk ((w.alloc (.cells #[.slice none 0 0] 26)).alloc (.cells #[.slice none 0 0] 26)) (w.heap.size + 1) 26 #[.slice none 0 0]) := by
    have := Blk.new (w.alloc (.cells #[.slice none 0 0] 26)) 26 #[.slice none 0 0]
    rwa [World.size_alloc] at this
  have hXlt : X < w.heap.size := h.box.lt
  rw [← shr_min Z C hZ]
  have HG := Lib.hid (fun W hb' => read_all W a n c p l ((Z : Int) / 2 ^ min C 64) C (h.later (w := w) (w' := W) hb').bytes h.le h.hp (hW.later (h.later (w := w) (w' := W) hb').b))
  have HTN := Lib.hid (fun (T : Tb) (r : List Int) (h1 : rightT T ((Z : Int) / 2 ^ min C 64) C) (h2 : EnT T) (e : l.drop p = tblB T ++ r) => tab_not (by omega) h1 h2 e)
  cases ho : (if p + 2 ≤ n then readU l p ((Z : Int) / 2 ^ min C 64) C else none) with
  | none =>
    have HF : Hid (∀ (T : Tb) (r : List Int), rightT T ((Z : Int) / 2 ^ min C 64) C → EnT T → l.drop p ≠ tblB T ++ r) := fun T r h1 h2 e => by
      obtain ⟨k1, k2⟩ := HTN.out T r h1 h2 e
      rw [if_pos (by omega), k2] at ho
      cases ho
    rw [ho] at HG
    clear h hb ho HTN hW
    go_enter Tryz.func25, Tryz.ntmps25
    go_wp2
    go_region_held3 (fun W => W.cell? ⟨X, 0, none⟩ = some (.slice a n c) ∧ W.cell? ⟨X, 1, none⟩ = some (.int .i64 p)) (first | with_reducible exact HKS.out _ HA0.out | with_reducible exact HKS.out _ HAD.out | with_reducible exact HKS.out _ HAA.out | with_reducible exact HKS.out _ HAAD.out | with_reducible exact HKS.out _ HB1.out | with_reducible exact HKS.out _ HB2.out | with_reducible exact HKS.out _ HB3.out) (first | (go_at_call 50; first
      | ((with_reducible refine (HG.out _ HAD.out).mono ?_); rintro e w1 ⟨rfl, hb⟩; have HB1 := Lib.hid (HAD.out.trans (hb.mono HAD.out.size)); have HB2 := Lib.hid (HB1.out.alloc HB1.out.size (.cells #[.slice none 0 0] 26)); have HB3 := HB2; clear hb)
      | ((with_reducible refine (HG.out _ HAAD.out).mono ?_); rintro e w1 ⟨rfl, hb⟩; have hty := (HTY.out.later (Below.refl _ _).drew).later hb; have y0 := one_cell9 hty; have yf := hty.free 0; have HTY1 := Lib.hid hty; clear hty; have HB1 := Lib.hid (HAAD.out.trans (hb.mono HAAD.out.size)); have HB2 := Lib.hid (HB1.out.setCell (Nat.le_succ _) (p := ⟨w.heap.size + 1, 0, none⟩) (.slice none 0 0)); have HB3 := HB2; clear hb)))
    all_goals
      go_wp2_with (first
        | (go_at_call 11; (with_reducible refine (HN.out _).mono ?_); rintro e w2 ⟨rfl, hw⟩; obtain rfl := hw.symm))
      exact ⟨rfl, grown_below HB3.out _, Or.inr ⟨rfl, HF.out⟩⟩
  | some q =>
    obtain ⟨T, q⟩ := q
    have h2 : p + 2 ≤ n := by
      by_cases h2 : p + 2 ≤ n
      · exact h2
      · rw [if_neg h2] at ho; cases ho
    have hu : readU l p ((Z : Int) / 2 ^ min C 64) C = some (T, q) := by rwa [if_pos h2] at ho
    obtain ⟨e1, e2, e3, e4, e5⟩ := readU_enc hb (by omega) hu
    have HL := Lib.hid e1
    have hqn : q ≤ n := by omega
    have HRT := Lib.hid e4
    have HEN := Lib.hid e5
    rw [ho] at HG
    clear h hb ho HTN hW hu e1 e2 e3 e4 e5
    go_enter Tryz.func25, Tryz.ntmps25
    go_wp2
    go_region_held3 (fun W => W.cell? ⟨X, 0, none⟩ = some (.slice a n c) ∧ W.cell? ⟨X, 1, none⟩ = some (.int .i64 p)) (first | with_reducible exact HKS.out _ HA0.out | with_reducible exact HKS.out _ HAD.out | with_reducible exact HKS.out _ HAA.out | with_reducible exact HKS.out _ HAAD.out | with_reducible exact HKS.out _ HB1.out | with_reducible exact HKS.out _ HB2.out | with_reducible exact HKS.out _ HB3.out) (first | (go_at_call 50; first
      | ((with_reducible refine (HG.out _ HAD.out).mono ?_); rintro e w1 ⟨ta, tl, tc, rfl, ht, hb⟩; have HB1 := Lib.hid (HAD.out.trans (hb.mono HAD.out.size)); have HT1 := Lib.hid (ht.mono HAD.out.size); have HB2 := Lib.hid (HB1.out.alloc HB1.out.size (.cells #[.slice none 0 0] 26)); have HB3 := Lib.hid (HB1.out.alloc HB1.out.size (.cells #[.slice ta tl tc] 26)); have HT3 := Lib.hid (HT1.out.later ((Below.refl _ w1).alloc (Nat.le_refl _) (.cells #[.slice ta tl tc] 26))); have HTZ := Lib.hid (Blk.new w1 26 #[.slice ta tl tc]); have HTX3 := Lib.hid (((HTX.out.later (Below.refl _ _).drew).later hb).alloc (.cells #[.slice ta tl tc] 26)); clear hb ht)
      | ((with_reducible refine (HG.out _ HAAD.out).mono ?_); rintro e w1 ⟨ta, tl, tc, rfl, ht, hb⟩; have hty := (HTY.out.later (Below.refl _ _).drew).later hb; have y0 := one_cell9 hty; have yf := hty.free 0; have HTY1 := Lib.hid hty; clear hty; have HB1 := Lib.hid (HAAD.out.trans (hb.mono HAAD.out.size)); have HT1 := Lib.hid (ht.mono HAAD.out.size); have HB2 := Lib.hid (HB1.out.setCell (Nat.le_succ _) (p := ⟨w.heap.size + 1, 0, none⟩) (.slice ta tl tc)); have HB3 := HB2; have HT3 := Lib.hid (HT1.out.typed HTY1.out (by decide) (by decide) (grownBy_setCell4 _ _ 0 (.slice ta tl tc))); have HTZ := Lib.hid (HTY1.out.set 0 (.slice ta tl tc)); have HTX3 := Lib.hid (Blk.other (B' := w.heap.size + 1) (i := 0) (((HTX.out.alloc (.cells #[.slice none 0 0] 26)).later (Below.refl _ _).drew).later hb) (Nat.ne_of_lt (Nat.lt_succ_self _)) (.slice ta tl tc)); clear hb ht)))
    all_goals
      obtain ⟨c0, c1, f0, f1⟩ := (HR.out.later HB3.out).cells
      have t0 := one_cell9 HTZ.out
      have r0 := one_cell9 HTX3.out
      have rf := HTX3.out.free 0
      go_wp2_with (first
        | (go_at_call 11; (with_reducible refine (HY.out _).mono ?_); rintro e w2 ⟨rfl, hw⟩; obtain rfl := hw.symm))
      have hx1 := Blk.other (B' := X) (i := 1) HTX3.out (by omega) (.int .i64 q)
      have hx2 := hx1.set 0 (.slice ta tl tc)
      have hr1 := (HR.out.later HB3.out).put hqn
      have hsz := HB3.out.size
      refine bodyPost_ret (v := .agg #[.slice ta tl tc]) (results_cell_row rfl _ _ w.heap.size 26 #[.slice ta tl tc] (0, 0) _ rfl hx2 Tryz.underlying26 rfl tbl_size) rfl ?_
      exact ⟨grown_set ((grown_below HB3.out _).setC 1 _) (Nat.le_refl _) 0 _, Or.inl ⟨_, q, rfl, hr1.kept (grownBy_setCell4 _ _ 0 _) (fun e => by cases e; omega) (fun k e => by cases e; exact HR.out.b.size), ta, tl, tc, T, rfl, ((HT3.out.typed (HR.out.later HB3.out).box (by decide) (by decide) (grownBy_setCell4 _ _ 1 _)).typed hx1 (by decide) (by decide) (grownBy_setCell4 _ _ 0 _)), HRT.out, HEN.out, HL.out⟩⟩
end Go.Proofs.YtdffgnpldapciaaGreatDoor
namespace Go.Proofs.YtdffgnpldapciaaGreatDoor
open Go.RowKit
set_option linter.unusedVariables false

/-- A shot as it is read. -/
def ShRd (C : Nat) (d : ShM) : Prop := d.1.size ≤ 65535 ∧ (0 ≤ d.2.1 ∧ d.2.1 < 65536) ∧ rightT d.2.2 (d.2.1 / 2 ^ C) C ∧ EnT d.2.2
theorem lt16b {v : Nat} (h : v < 256 ^ 2) : v < 65536 := by
  have e : (256 : Nat) ^ 2 = 65536 := by decide
  omega
theorem sh_late {l : List Int} {p q1 q2 C sz : Nat} {nm : ByteArray} (h1 : nm.size ≤ 65535) (h2 : sz < 65536) (e1 : l.drop p = textB nm ++ l.drop q1) (e2 : l.drop q1 = numB false 2 sz ++ l.drop q2) (hF : ∀ (T : Tb) (r : List Int), rightT T ((sz : Int) / 2 ^ C) C → EnT T → l.drop q2 ≠ tblB T ++ r) {d : ShM} {r : List Int} (hd : ShRd C d) (e : l.drop p = shB d ++ r) : False := by
  obtain ⟨dn, ds, dT⟩ := d
  obtain ⟨k1, k2, k3, k4⟩ := hd
  dsimp only at k1 k2 k3 k4
  unfold shB at e
  simp only [List.append_assoc] at e
  have q1 := text_tells h1 k1 (e1.symm.trans e)
  clear e
  obtain ⟨rfl, e5⟩ := q1
  obtain ⟨e3, e4⟩ := num_tells2 h2 (by omega) (e2.symm.trans e5)
  obtain rfl : ds = (sz : Int) := by omega
  exact hF dT r k3 k4 e4
set_option maxHeartbeats 1600000 in
theorem rdShot {w0 w : World} {X : Nat} {a : Option Addr} {n c p : Nat} {l : List Int} (h : Rdr w0 w X a n c p l) (C : Nat) (hC : C < 256) (hW : Wid w0) :
    Calls Tryz.prog 26 #[.pointer (some ⟨X, 0, none⟩), .int .i64 C] w (RdQ w0 X a n c l (fun v p' w' => ∃ (nm : ByteArray) (sz : Int) (a' : Option Addr) (l' c' : Nat) (T : Tb), v = .agg #[.string nm, .int .i64 sz, .slice a' l' c'] ∧ TabN w' w.heap.size a' l' c' T ∧ ShRd C (nm, sz, T) ∧ l.drop p = shB (nm, sz, T) ++ l.drop p') (∀ (d : ShM) (r : List Int), ShRd C d → l.drop p ≠ shB d ++ r) w) := by
  have HR := Lib.hid h
  have HWD := Lib.hid hW
  have HT := Lib.hid (rdText (h.later ((Below.refl _ w).alloc (Nat.le_refl _) (.cells #[.string ⟨#[]⟩, .int .i64 0, .slice none 0 0] 54))))
  have HX0 := Lib.hid (Blk.new w 54 #[.string ⟨#[]⟩, .int .i64 0, .slice none 0 0])
  have HG0 := Lib.hid (grown_below ((Below.refl _ w).alloc (Nat.le_refl _) (.cells #[.string ⟨#[]⟩, .int .i64 0, .slice none 0 0] 54)) (some X))
  clear h hW
  go_enter Tryz.func26, Tryz.ntmps26
  go_wp2_with (first
    | (go_at_call 24; (with_reducible refine HT.out.mono ?_); rintro e w1 ⟨hg, ⟨v, q1, rfl, hq, nm, rfl, hx, hL⟩ | ⟨rfl, hF⟩⟩; rotate_left; exact ⟨rfl, grown_trans HG0.out hg, Or.inr ⟨rfl, fun d r hd e => hF d.1 (numB false 2 d.2.1.toNat ++ tblB d.2.2 ++ r) hd.1 (by rw [e]; unfold shB; simp only [List.append_assoc])⟩⟩; have HG1 := Lib.hid (grown_trans HG0.out hg); have HR1 := Lib.hid hq; have HNM := Lib.hid hx; have HL1 := Lib.hid hL; have HX1 := Lib.hid (HX0.out.kept hg (fun e => by cases e; have := HR.out.box.lt; omega)); have HN := Lib.hid (rdNumber hq 2 2 rfl (by omega) (by omega)); clear hg hq hx hL)
    | (go_at_call 23; (with_reducible refine HN.out.mono ?_); rintro e w2 ⟨hg, ⟨v, q2, rfl, hq, sz, rfl, hx, hL⟩ | ⟨rfl, hF⟩⟩; rotate_left; exact ⟨rfl, grown_trans HG1.out hg, Or.inr ⟨rfl, fun d r hd e => by unfold shB at e; simp only [List.append_assoc] at e; have e2 := (text_tells HNM.out hd.1 (HL1.out.symm.trans e)).2; exact hF _ _ e2⟩⟩; have HG2 := Lib.hid (grown_trans HG1.out hg); have HR2 := Lib.hid hq; have HSZ := Lib.hid hx; have HL2 := Lib.hid hL; have HX2 := Lib.hid (HX1.out.kept hg (fun e => by cases e; have := HR.out.box.lt; omega)); clear hg hq hx hL)
    | (go_at_call 25; have HA := Lib.hid ((Below.refl w2.heap.size w2).alloc (Nat.le_refl _) (.cells #[.string nm, .int .i64 sz, .slice none 0 0] 54)); have hs6 := lt16b HSZ.out; (with_reducible refine (rdTable (HR2.out.later HA.out) sz C hs6 hC HWD.out).mono ?_); rintro e w3 ⟨hg, ⟨v, q3, rfl, hq, ta, tl, tc, T, rfl, hT, hr, hen, hL⟩ | ⟨rfl, hF⟩⟩; rotate_left; exact ⟨rfl, grown_trans (grown_trans HG2.out (grown_below HA.out _)) hg, Or.inr ⟨rfl, fun d r hd e => sh_late HNM.out hs6 HL1.out HL2.out hF hd e⟩⟩; have HG3 := Lib.hid (grown_trans (grown_trans HG2.out (grown_below HA.out _)) hg); have HR3 := Lib.hid hq; have HT3 := Lib.hid hT; have HRT := Lib.hid hr; have HEN := Lib.hid hen; have HL3 := Lib.hid hL; have hXlt := HR2.out.box.lt; have HX3 := Lib.hid ((HX2.out.later HA.out).kept hg (fun e => by cases e; have := HR.out.box.lt; omega)); have HS3 := Lib.hid ((Blk.new w2 54 #[.string nm, .int .i64 sz, .slice none 0 0]).kept hg (fun e => by cases e; omega)); have hxs : w.heap.size < w2.heap.size := HX2.out.lt; obtain ⟨s0, s1, s2⟩ := cells3 HS3.out; obtain ⟨f0, f1, f2⟩ := free3 HS3.out; obtain ⟨x0, x1, x2⟩ := cells3 HX3.out; obtain ⟨g0, g1, g2⟩ := free3 HX3.out; clear hg hq hT hr hen hL))
  have hxa := Blk.other (B' := w2.heap.size) (i := 2) HX3.out (by omega) (.slice ta tl tc)
  have hxb := hxa.set 0 (.string nm)
  have hxc := hxb.set 1 (.int .i64 sz)
  have hxd := hxc.set 2 (.slice ta tl tc)
  have hw0 : w0.heap.size ≤ w.heap.size := HR.out.b.size
  have hwX : X < w.heap.size := HR.out.box.lt
  have hsz : sz < 65536 := lt16b HSZ.out
  refine bodyPost_ret (v := .agg #[.string nm, .int .i64 sz, .slice ta tl tc]) (results_cell_row rfl _ _ w.heap.size 54 #[.string nm, .int .i64 sz, .slice ta tl tc] (0, 0) _ rfl hxd Tryz.underlying54 rfl shot_size) rfl ?_
  have hr1 := HR3.out.kept (grownBy_setCell4 _ w2.heap.size 2 (.slice ta tl tc)) (fun e => by cases e; omega) (fun k e => by cases e; omega)
  have hr2 := hr1.kept (grownBy_setCell4 _ w.heap.size 0 (.string nm)) (fun e => by cases e; omega) (fun k e => by cases e; omega)
  have hr3 := hr2.kept (grownBy_setCell4 _ w.heap.size 1 (.int .i64 sz)) (fun e => by cases e; omega) (fun k e => by cases e; omega)
  have hr4 := hr3.kept (grownBy_setCell4 _ w.heap.size 2 (.slice ta tl tc)) (fun e => by cases e; omega) (fun k e => by cases e; omega)
  have ht0 := HT3.out.mono (base' := w.heap.size) (by rw [World.size_alloc]; omega)
  have ht1 := ht0.typed HS3.out (by decide) (by decide) (grownBy_setCell4 _ w2.heap.size 2 (.slice ta tl tc))
  have ht2 := ht1.typed hxa (by decide) (by decide) (grownBy_setCell4 _ w.heap.size 0 (.string nm))
  have ht3 := ht2.typed hxb (by decide) (by decide) (grownBy_setCell4 _ w.heap.size 1 (.int .i64 sz))
  have ht4 := ht3.typed hxc (by decide) (by decide) (grownBy_setCell4 _ w.heap.size 2 (.slice ta tl tc))
  refine ⟨grown_set (grown_set (grown_set (grown_set HG3.out (by omega) 2 _) (Nat.le_refl _) 0 _) (Nat.le_refl _) 1 _) (Nat.le_refl _) 2 _, Or.inl ⟨_, q3, rfl, hr4, nm, sz, ta, tl, tc, T, rfl, ht4, ⟨HNM.out, by dsimp only; omega, HRT.out, HEN.out⟩, ?_⟩⟩
  rw [HL1.out, HL2.out, HL3.out]
  unfold shB
  simp only [Int.toNat_natCast, List.append_assoc]
end Go.Proofs.YtdffgnpldapciaaGreatDoor
namespace Go.Proofs.YtdffgnpldapciaaGreatDoor
open Go.RowKit
set_option linter.unusedVariables false

theorem bm_size14 : (Tryz.prog.info? 57).map (·.size) = some 3 := by kernel_rfl
theorem onN_le (b : Bool) : (onN b : Int) ≤ 1 ∧ onN b < 256 ^ 1 := by cases b <;> decide
theorem bm_late1 {l : List Int} {p q1 : Nat} {nm : ByteArray} (h1 : nm.size ≤ 65535) (e1 : l.drop p = textB nm ++ l.drop q1) (hF : ∀ (x : Nat) (r : List Int), x < 256 ^ 1 → (x : Int) ≤ 1 → l.drop q1 ≠ numB false 1 x ++ r) {d : BmM} {r : List Int} (hd : BmT d) (e : l.drop p = bmB d ++ r) : False := by
  obtain ⟨k1, k2, k3⟩ := hd
  unfold bmB at e
  simp only [List.append_assoc] at e
  exact hF _ _ (onN_le _).2 (onN_le _).1 (text_tells h1 k1 (e1.symm.trans e)).2
/-- The spans that are read. -/
theorem bm_late2 {l : List Int} {p q1 q2 on : Nat} {nm : ByteArray} (h1 : nm.size ≤ 65535) (h2 : (on : Int) ≤ 1) (e1 : l.drop p = textB nm ++ l.drop q1) (e2 : l.drop q1 = numB false 1 on ++ l.drop q2) {d : BmM} {r : List Int} (hd : BmT d) (e : l.drop p = bmB d ++ r) : d.1 = nm ∧ onN d.2.1 = on ∧ l.drop q2 = numB false 2 d.2.2.length ++ (d.2.2.flatMap spB ++ r) := by
  obtain ⟨k1, k2, k3⟩ := hd
  unfold bmB at e
  simp only [List.append_assoc] at e
  obtain ⟨a1, a2⟩ := text_tells h1 k1 (e1.symm.trans e)
  obtain ⟨a3, a4⟩ := num_tells1 (by omega) (onN_lt _) (e2.symm.trans a2)
  exact ⟨a1.symm, a3.symm, a4⟩
theorem flat_next {α : Type} (f : α → List Int) (P : α → Prop) (hf : ∀ x y r r', P x → P y → f x ++ r = f y ++ r' → x = y ∧ r = r') {D L : List α} {R r : List Int} (hD : ∀ x ∈ D, P x) (hL : ∀ x ∈ L, P x) (hj : D.length < L.length) (e : D.flatMap f ++ R = L.flatMap f ++ r) : ∃ x r', P x ∧ x ∈ L ∧ R = f x ++ r' := by
  have hs : L = L.take D.length ++ L[D.length] :: L.drop (D.length + 1) := by
    rw [← List.drop_eq_getElem_cons hj, List.take_append_drop]
  rw [hs, List.flatMap_append, List.flatMap_cons, List.append_assoc, List.append_assoc] at e
  have q := flat_tells f P hf D (L.take D.length) _ _ (by rw [List.length_take]; omega) hD (fun x hx => hL x (List.mem_of_mem_take hx)) e
  exact ⟨L[D.length], _, hL _ (List.getElem_mem hj), List.getElem_mem hj, q.2⟩
theorem bm_late3 {l : List Int} {p q1 q2 q3 q on N : Nat} {nm : ByteArray} {D : List Sp} (h1 : nm.size ≤ 65535) (h2 : (on : Int) ≤ 1) (hN : N < 65536) (e1 : l.drop p = textB nm ++ l.drop q1) (e2 : l.drop q1 = numB false 1 on ++ l.drop q2) (e3 : l.drop q2 = numB false 2 N ++ l.drop q3) (e4 : l.drop q3 = D.flatMap spB ++ l.drop q) (hD : ∀ s ∈ D, Two16 s.1 ∧ Two16 s.2) (hj : D.length < N) {d : BmM} {r : List Int} (hd : BmT d) (e : l.drop p = bmB d ++ r) : ∃ (x : Sp) (r' : List Int), (Two16 x.1 ∧ Two16 x.2) ∧ l.drop q = spB x ++ r' := by
  obtain ⟨-, -, e5⟩ := bm_late2 h1 h2 e1 e2 hd e
  obtain ⟨k1, k2, k3⟩ := hd
  obtain ⟨e6, e7⟩ := num_tells2 hN (by omega) (e3.symm.trans e5)
  obtain ⟨x, r', hx, _, hr⟩ := flat_next spB (fun s => Two16 s.1 ∧ Two16 s.2) sp_tells hD k3 (by omega) (e4.symm.trans e7)
  exact ⟨x, r', hx, hr⟩
theorem row_ne {α : Type} {cv : α → List Value} {e : TypeId} {sz : Nat} {w : World} {base n : Nat} {v : Value} {xs : List α} {Y : Nat} {t : TypeId} {cs : Array Value} (hY : Blk w Y t cs) (h : OwnG cv e sz w base v n xs) (ht : t ≠ e) : v.ownBlock ≠ some Y := (hY.not_row ht h).symm
theorem grown_row {a w w' : World} {row row' : Option Nat} (h : a.grownBy w row) (hg : w.grownBy w' row') (hr : ∀ k, row' = some k → a.heap.size ≤ k) : a.grownBy w' row :=
  ⟨hg.os.trans h.os, hg.tape.trans h.tape, hg.output.trans h.output, Nat.le_trans h.size hg.size, fun j hj hne => (hg.block j (Nat.lt_of_lt_of_le hj h.size) (fun e => by have := hr j e.symm; omega)).trans (h.block j hj hne)⟩
theorem rdNum_val {w0 : World} {X n c p : Nat} {a : Option Addr} {l : List Int} (hl : l.length = n) (hb : ∀ x ∈ l, 0 ≤ x ∧ x < 256) (k : Nat) (K : Int) (hk : (k : Int) = K) (h1 : 1 ≤ k) (h4 : k ≤ 4) (hp : p + k ≤ n) :
    ∃ x : Nat, x < 256 ^ k ∧ l.drop p = numB false k x ++ l.drop (p + k) ∧ ∀ w, Rdr w0 w X a n c p l → Calls Tryz.prog 23 #[.pointer (some ⟨X, 0, none⟩), .int .i64 K] w fun e w' => e = .returned (.int .i64 x) ∧ w.grownBy w' (some X) ∧ Rdr w0 w' X a n c (p + k) l := by
  have hnum := numB_getTo hb k p (by omega)
  have hx : getTo false k p l k < 256 ^ k := getTo_lt hb false k p k
  have hL : l.drop p = numB false k (getTo false k p l k) ++ l.drop (p + k) := by rw [hnum, ← List.drop_drop, List.take_append_drop]
  refine ⟨_, hx, hL, fun w h => (rdNumber h k K hk h1 h4).mono ?_⟩
  have h44 := pow_le4 h4
  rintro e w' ⟨hg, ⟨v, p', rfl, hq, x, rfl, hx', hL'⟩ | ⟨rfl, hF⟩⟩
  · have hlen := congrArg List.length hL'
    rw [List.length_append, numB_len, List.length_drop, List.length_drop] at hlen
    have hp' := hq.hp
    obtain rfl : p' = p + k := by omega
    obtain ⟨e2, _⟩ := num_tells (by omega) hx' hx (by omega) (by omega) (hL'.symm.trans hL)
    rw [e2]
    exact ⟨rfl, hg, hq⟩
  · exact absurd hL (hF _ _)
theorem rdNum_no {w0 w : World} {X n c p : Nat} {a : Option Addr} {l : List Int} (h : Rdr w0 w X a n c p l) (k : Nat) (K : Int) (hk : (k : Int) = K) (h1 : 1 ≤ k) (h4 : k ≤ 4) (hp : n < p + k) :
    Calls Tryz.prog 23 #[.pointer (some ⟨X, 0, none⟩), .int .i64 K] w fun e w' => e = upE ∧ w.grownBy w' (some X) := by
  refine (rdNumber h k K hk h1 h4).mono ?_
  rintro e w' ⟨hg, ⟨v, p', rfl, hq, x, rfl, hx', hL'⟩ | ⟨rfl, hF⟩⟩
  · have hlen := congrArg List.length hL'
    rw [List.length_append, numB_len, List.length_drop, List.length_drop, h.hB.1] at hlen
    have hp' := hq.hp
    omega
  · exact ⟨rfl, hg⟩
set_option maxHeartbeats 6400000 in
theorem rdBitmap {w0 w : World} {X : Nat} {a : Option Addr} {n c p : Nat} {l : List Int} (h : Rdr w0 w X a n c p l) :
    Calls Tryz.prog 27 #[.pointer (some ⟨X, 0, none⟩)] w (RdQ w0 X a n c l (fun v p' w' => ∃ (nm : ByteArray) (on : Bool) (a' : Option Addr) (l' c' : Nat) (L : List Sp), v = .agg #[.string nm, .bool on, .slice a' l' c'] ∧ SpN w' w.heap.size a' l' c' L ∧ BmT (nm, on, L) ∧ l.drop p = bmB (nm, on, L) ++ l.drop p') (∀ (d : BmM) (r : List Int), BmT d → l.drop p ≠ bmB d ++ r) w) := by
  have HR := Lib.hid h
  have HT := Lib.hid (rdText (h.later ((Below.refl _ w).alloc (Nat.le_refl _) (.cells #[.string ⟨#[]⟩, .bool false, .slice none 0 0] 57))))
  have HX0 := Lib.hid (Blk.new w 57 #[.string ⟨#[]⟩, .bool false, .slice none 0 0])
  have HG0 := Lib.hid (grown_below ((Below.refl _ w).alloc (Nat.le_refl _) (.cells #[.string ⟨#[]⟩, .bool false, .slice none 0 0] 57)) (some X))
  have hXlt := h.box.lt
  have hw0 : w0.heap.size ≤ w.heap.size := h.b.size
  clear h
  go_enter Tryz.func27, Tryz.ntmps27
  go_wp2_with (first
    | (go_at_call 24; (with_reducible refine HT.out.mono ?_); rintro e w1 ⟨hg, ⟨v, q1, rfl, hq, nm, rfl, hx, hL⟩ | ⟨rfl, hF⟩⟩; rotate_left; exact ⟨rfl, grown_trans HG0.out hg, Or.inr ⟨rfl, fun d r hd e => hF d.1 (numB false 1 (onN d.2.1) ++ numB false 2 d.2.2.length ++ d.2.2.flatMap spB ++ r) hd.1 (by rw [e]; unfold bmB; simp only [List.append_assoc])⟩⟩; have HG1 := Lib.hid (grown_trans HG0.out hg); have HR1 := Lib.hid hq; have HNM := Lib.hid hx; have HL1 := Lib.hid hL; have HX1 := Lib.hid (HX0.out.kept hg (fun e => by cases e; omega)); have HN := Lib.hid (rdUpTo hq 1 1 1 rfl (by omega) (by omega)); clear hg hq hx hL)
    | (go_at_call 51; (with_reducible refine HN.out.mono ?_); rintro e w2 ⟨hg, ⟨v, q2, rfl, hq, on, rfl, h1, hx, hL⟩ | ⟨rfl, hF⟩⟩; rotate_left; exact ⟨rfl, grown_trans HG1.out hg, Or.inr ⟨rfl, fun d r hd e => bm_late1 HNM.out HL1.out hF hd e⟩⟩; have HG2 := Lib.hid (grown_trans HG1.out hg); have HR2 := Lib.hid hq; have HON := Lib.hid h1; have HL2 := Lib.hid hL; have HX2 := Lib.hid (HX1.out.kept hg (fun e => by cases e; omega)); have HN2 := Lib.hid (fun W (hb : Below w2.heap.size w2 W) => rdNumber (hq.later hb) 2 2 rfl (by omega) (by omega)); clear hg hq hx hL h1)
    | (go_at_call 23; have HA := Lib.hid ((Below.refl w2.heap.size w2).alloc (Nat.le_refl _) (.cells #[.string nm, .bool ((on : Int) == 1), .slice none 0 0] 57)); (with_reducible refine (HN2.out _ HA.out).mono ?_); rintro e w3 ⟨hg, ⟨v, q3, rfl, hq, N, rfl, hx, hL⟩ | ⟨rfl, hF⟩⟩; rotate_left; exact ⟨rfl, grown_trans (grown_trans HG2.out (grown_below HA.out _)) hg, Or.inr ⟨rfl, fun d r hd e => hF _ _ (bm_late2 HNM.out HON.out HL1.out HL2.out hd e).2.2⟩⟩; have HG3 := Lib.hid (grown_trans (grown_trans HG2.out (grown_below HA.out _)) hg); have HR3 := Lib.hid hq; have HN6 := Lib.hid (lt16b hx); have HL3 := Lib.hid hL; have HX3 := Lib.hid ((HX2.out.later HA.out).kept hg (fun e => by cases e; omega)); have hX2lt := HR2.out.box.lt; have HS3 := Lib.hid ((Blk.new w2 57 #[.string nm, .bool ((on : Int) == 1), .slice none 0 0]).kept hg (fun e => by cases e; omega)); have hxs : w.heap.size < w2.heap.size := HX2.out.lt; clear hg hq hx hL))
  go_loopw [12] (fun i wr => ∃ (j q : Nat) (aL : Option Addr) (cL : Nat) (D : List Sp), j ≤ N ∧ i = .int .i64 j ∧ Hid (D.length = j ∧ ∀ s ∈ D, Two16 s.1 ∧ Two16 s.2) ∧ Hid (l.drop q3 = D.flatMap spB ++ l.drop q) ∧ Hid (Rdr w0 wr X a n c q l) ∧ Hid (w.grownBy wr (some X)) ∧ Hid (Blk wr w.heap.size 57 #[.string ⟨#[]⟩, .bool false, .slice none 0 0]) ∧ Hid (Blk wr w2.heap.size 57 #[.string nm, .bool ((on : Int) == 1), .slice aL j cL]) ∧ Hid (OwnSp wr (w2.heap.size + 1) (.slice aL j cL) j D)) (fun i _ => N - (intOf i).toNat)
  case atStart => exact ⟨0, q3, none, 0, [], Nat.zero_le _, rfl, ⟨rfl, fun s hs => by cases hs⟩, rfl, HR3.out, HG3.out, HX3.out, HS3.out, OwnG.none _ _ _ _ _⟩
  case round =>
    obtain ⟨j, q, aL, cL, D, hj, rfl, HD, HLq, HR, HG, HX, HS, HO⟩ := hrel
    by_cases hlt : j < N
    · have HRd := Lib.hid (HR.out.later (Below.refl _ _).drew)
      have HGd := Lib.hid (grown_trans HG.out (grown_below (Below.refl wr.heap.size wr).drew _))
      have HXd := Lib.hid (HX.out.later (Below.refl _ _).drew)
      have HSd := Lib.hid (HS.out.later (Below.refl _ _).drew)
      have HOd := Lib.hid (OwnG.kept' HO.out (grown_below (Below.refl wr.heap.size wr).drew none) (fun k hk e => by cases e))
      have HR0 := HR
      obtain ⟨hn, hll, hbb⟩ := HR.out.size
      have hqn := HR.out.hp
      have HNX := Lib.hid (fun (d : BmM) (r : List Int) (hd : BmT d) (e : l.drop p = bmB d ++ r) => bm_late3 HNM.out HON.out HN6.out HL1.out HL2.out HL3.out HLq.out HD.out.2 (by have := HD.out.1; omega) hd e)
      have hDl := HD.out.1
      have hj6 := HN6.out
      obtain ⟨s0, s1, s2⟩ := cells3 HSd.out
      have hi : (j : Int) < (N : Int) := by omega
      by_cases h2 : q + 2 ≤ n
      · obtain ⟨x, hx, hL3', h3⟩ := rdNum_val (w0 := w0) (X := X) (c := c) (a := a) hll hbb 2 2 rfl (by omega) (by omega) h2
        have H3 := Lib.hid h3
        have HL3' := Lib.hid hL3'
        have HXV := Lib.hid hx
        by_cases h4 : q + 2 + 2 ≤ n
        · obtain ⟨y, hy, hL5', h5⟩ := rdNum_val (w0 := w0) (X := X) (c := c) (a := a) hll hbb 2 2 rfl (by omega) (by omega) h4
          have H5 := Lib.hid h5
          have HL5' := Lib.hid hL5'
          have HYV := Lib.hid hy
          clear hx hy hL3' hL5' h3 h5 hll hbb
          go_wp2
          refine wp_region_held_drew (S := fun _ => True) (by kernel_rfl) (True.intro) (fun hHeld => ?_)
          refine wpAnyH_take (i := 0) (oi := _) (v := ?vq1) rfl (by kernel_rfl) (by kernel_rfl) (by kernel_rfl) (fun _ _ _ h => h) (Or.inl ⟨by rfl, ?hyq1⟩) (by assumption) ?restq1
          case hyq1 => (intro wz hSw; (try dsimp only at hSw); go_simp; try with_reducible rfl)
          (try simp only [List.getElem_toArray, List.getElem_cons_zero, Act.put, List.setIfInBounds_toArray, List.set_cons_zero, List.set_cons_succ])
          refine wpAnyH_take (i := 2) (oi := _) (v := ?vq2) rfl (by kernel_rfl) (by kernel_rfl) (by kernel_rfl) (fun _ _ _ h => h) (Or.inl ⟨by rfl, ?hyq2⟩) (by assumption) ?restq2
          case hyq2 => (intro wz hSw; (try dsimp only at hSw); go_simp; try with_reducible rfl)
          (try simp only [List.getElem_toArray, List.getElem_cons_zero, List.getElem_cons_succ, Act.put, List.setIfInBounds_toArray, List.set_cons_zero, List.set_cons_succ])
          refine wpAnyH_take (i := 4) (oi := _) (v := ?vq3) rfl (by kernel_rfl) (by kernel_rfl) (by kernel_rfl) (fun _ _ _ h => h) (Or.inl ⟨by rfl, ?hyq3⟩) (by assumption) ?restq3
          case hyq3 => (intro wz hSw; (try dsimp only at hSw); go_simp; try with_reducible rfl)
          (try simp only [List.getElem_toArray, List.getElem_cons_zero, List.getElem_cons_succ, Act.put, List.setIfInBounds_toArray, List.set_cons_zero, List.set_cons_succ])
          refine wpAnyH_ready (rs := [1, 3]) (by kernel_rfl) (by simp) ?_
          refine (AllReadyH.cons (o := _) rfl (fun K hK => ?_) (AllReadyH.cons (o := _) rfl (fun K hK => ?_) AllReadyH.nil))
          · rw [if_pos (by rfl)]
            go_simp
            refine hK.out _ _ (True.intro) (fun hHeld => ?_)
            clear hK K
            (try simp only [List.getElem_toArray, List.getElem_cons_zero, List.getElem_cons_succ, Act.put, List.setIfInBounds_toArray, List.set_cons_zero, List.set_cons_succ])
            refine wpAnyH_ready (rs := [3]) (by kernel_rfl) (by simp) ?_
            refine (AllReadyH.cons (o := _) rfl (fun K hK => ?_) AllReadyH.nil)
            rw [if_pos (by rfl)]
            go_simp
            (go_at_call 23; (with_reducible refine (H3.out _ HRd.out).mono ?_); rintro e w4 ⟨rfl, g4, hr4⟩; have HR4 := Lib.hid hr4; have HG4 := Lib.hid (grown_trans HGd.out g4); have HX4 := Lib.hid (HXd.out.kept g4 (fun e => by cases e; omega)); have HS4 := Lib.hid (HSd.out.kept g4 (fun e => by cases e; omega)); have HO4 := Lib.hid ((HRd.out.box.off (by decide)).row HOd.out g4); obtain ⟨z0, z1, z2⟩ := cells3 HS4.out; clear g4 hr4)
            (try dsimp only)
            refine hK.out _ _ (True.intro) (fun hHeld => ?_)
            clear hK K
            (try simp only [List.getElem_toArray, List.getElem_cons_zero, List.getElem_cons_succ, Act.put, List.setIfInBounds_toArray, List.set_cons_zero, List.set_cons_succ])
            refine wpAnyH_ready (rs := [5]) (by kernel_rfl) (by simp) ?_
            refine (AllReadyH.cons (o := _) rfl (fun K hK => ?_) AllReadyH.nil)
            rw [if_pos (by rfl)]
            go_simp
            (go_at_call 23; (with_reducible refine (H5.out _ HR4.out).mono ?_); rintro e w5 ⟨rfl, g5, hr5⟩; have HR5 := Lib.hid hr5; have HG5 := Lib.hid (grown_trans HG4.out g5); have HX5 := Lib.hid (HX4.out.kept g5 (fun e => by cases e; omega)); have HS5 := Lib.hid (HS4.out.kept g5 (fun e => by cases e; omega)); have HO5 := Lib.hid ((HR4.out.box.off (by decide)).row HO4.out g5); obtain ⟨v0, v1, v2⟩ := cells3 HS5.out; clear g5 hr5)
            (try dsimp only)
            refine hK.out _ _ (True.intro) (fun hHeld => ?_)
            clear hK K
            (try simp only [List.getElem_toArray, List.getElem_cons_zero, List.getElem_cons_succ, Act.put, List.setIfInBounds_toArray, List.set_cons_zero, List.set_cons_succ])
            refine wpAnyH_take (i := 6) (oi := _) (v := ?vq4) rfl (by kernel_rfl) (by kernel_rfl) (by kernel_rfl) (fun _ _ _ h => h) (Or.inl ⟨by rfl, ?hyq4⟩) (by assumption) ?restq4
            case hyq4 => (intro wz hSw; (try dsimp only at hSw); go_simp; try with_reducible rfl)
            (try simp only [List.getElem_toArray, List.getElem_cons_zero, List.getElem_cons_succ, Act.put, List.setIfInBounds_toArray, List.set_cons_zero, List.set_cons_succ])
            refine wpAnyH_ready (rs := [7]) (by kernel_rfl) (by simp) ?_
            refine (AllReadyH.cons (o := _) rfl (fun K hK => ?_) AllReadyH.nil)
            rw [if_pos (by rfl)]
            go_simp
            have HR6 := Lib.hid (HR5.out.later ((Below.refl _ w5).alloc (Nat.le_refl _) (.cells #[.int .i64 x, .int .i64 y] 59)))
            have HG6 := Lib.hid (grown_trans HG5.out (grown_below ((Below.refl _ w5).alloc (Nat.le_refl _) (.cells #[.int .i64 x, .int .i64 y] 59)) _))
            have HX6 := Lib.hid (HX5.out.alloc (.cells #[.int .i64 x, .int .i64 y] 59))
            have HS6 := Lib.hid (HS5.out.alloc (.cells #[.int .i64 x, .int .i64 y] 59))
            have HO6 := Lib.hid (OwnG.kept' HO5.out (grown_below ((Below.refl _ w5).alloc (Nat.le_refl _) (.cells #[.int .i64 x, .int .i64 y] 59)) none) (fun k hk e => by cases e))
            obtain ⟨t0, t1, t2⟩ := cells3 HS6.out
            refine hK.out _ _ (True.intro) (fun hHeld => ?_)
            clear hK K
            (try simp only [List.getElem_toArray, List.getElem_cons_zero, List.getElem_cons_succ, Act.put, List.setIfInBounds_toArray, List.set_cons_zero, List.set_cons_succ])
            refine wpAnyH_ready (rs := [8]) (by kernel_rfl) (by simp) ?_
            refine (AllReadyH.cons (o := _) rfl (fun K hK => ?_) AllReadyH.nil)
            rw [if_pos (by rfl)]
            refine wp_append_lg sp_rowed (.tmp 15) (.tmp 21) rfl (w2.heap.size + 1) _ j D rfl HO6.out (some ⟨w5.heap.size, 0, none⟩) 1 1 [((x : Int), (y : Int))] rfl (fun e => by cases e) (one_reads w5 ((x : Int), (y : Int)) #[.int .i64 x, .int .i64 y] 59 rfl) (by omega) (Nat.le_trans HS5.out.lt (by simp)) ?_
            intro pa c8 w8 g1 g2 g3
            have HO8 := Lib.hid g1
            have HR8 := Lib.hid (HR6.out.kept g2 (row_ne HR6.out.box HO6.out (by decide)) (fun k hk => by have := (HO6.out.1.lt k hk).1; omega))
            have HG8 := Lib.hid (grown_row HG6.out g2 (fun k hk => by have := (HO6.out.1.lt k hk).1; omega))
            have HX8 := Lib.hid (HX6.out.kept g2 (HX6.out.not_row (by decide) HO6.out))
            have HS8 := Lib.hid (HS6.out.kept g2 (HS6.out.not_row (by decide) HO6.out))
            obtain ⟨y0, y1, y2⟩ := cells3 HS8.out
            have yf := HS8.out.free 2
            clear g1 g2 g3
            (try dsimp only)
            refine hK.out _ _ (True.intro) (fun hHeld => ?_)
            clear hK K
            (try simp only [List.getElem_toArray, List.getElem_cons_zero, List.getElem_cons_succ, Act.put, List.setIfInBounds_toArray, List.set_cons_zero, List.set_cons_succ])
            refine wpAnyH_take (i := 9) (oi := _) (v := ?vq5) rfl (by kernel_rfl) (by kernel_rfl) (by kernel_rfl) (fun _ _ _ h => h) (Or.inl ⟨by rfl, ?hyq5⟩) (by assumption) ?restq5
            case hyq5 => (intro wz hSw; (try dsimp only at hSw); go_simp; try with_reducible rfl)
            (try simp only [List.getElem_toArray, List.getElem_cons_zero, List.getElem_cons_succ, Act.put, List.setIfInBounds_toArray, List.set_cons_zero, List.set_cons_succ])
            refine wpAnyH_ready (rs := [10]) (by kernel_rfl) (by simp) ?_
            refine (AllReadyH.cons (o := _) rfl (fun K hK => ?_) AllReadyH.nil)
            rw [if_pos (by rfl)]
            go_simp
            have HS10 := Lib.hid (HS8.out.set 2 (.slice pa (j + 1) c8))
            refine hK.out _ _ (True.intro) (fun hHeld => ?_)
            clear hK K
            (try simp only [List.getElem_toArray, List.getElem_cons_zero, List.getElem_cons_succ, Act.put, List.setIfInBounds_toArray, List.set_cons_zero, List.set_cons_succ])
            refine wpAnyH_done (by kernel_rfl) ?_ _
            go_wp2
            go_roundw
            case rel =>
              refine ⟨j + 1, q + 2 + 2, pa, c8, D ++ [((x : Int), (y : Int))], by omega, by go_num, ⟨by rw [List.length_append, HD.out.1]; rfl, fun s hs => ?_⟩, ?_, HR8.out.kept (grownBy_setCell4 _ w2.heap.size 2 _) (fun e => by cases e; omega) (fun k e => by cases e; omega), grown_set HG8.out (by omega) 2 _, Blk.other HX8.out (by omega) _, HS10.out, OwnG.kept' HO8.out (grownBy_setCell4 _ w2.heap.size 2 _) (fun k hk e => by cases e; have := (HO8.out.1.lt _ hk).1; omega)⟩
              · rcases List.mem_append.1 hs with hs | hs
                · exact HD.out.2 s hs
                · rw [List.mem_singleton] at hs
                  subst hs
                  unfold Two16
                  have := lt16b HXV.out
                  have := lt16b HYV.out
                  dsimp only
                  omega
              · show _ = _
                rw [HLq.out, HL3'.out, HL5'.out, List.flatMap_append]
                unfold spB
                simp only [List.flatMap_cons, List.flatMap_nil, List.append_nil, Int.toNat_natCast, List.append_assoc]
            case measure => simp [intOf]; omega
          · rw [if_pos (by rfl)]
            go_simp
            (go_at_call 23; (with_reducible refine (H3.out _ HRd.out).mono ?_); rintro e w4 ⟨rfl, g4, hr4⟩; have HR4 := Lib.hid hr4; have HG4 := Lib.hid (grown_trans HGd.out g4); have HX4 := Lib.hid (HXd.out.kept g4 (fun e => by cases e; omega)); have HS4 := Lib.hid (HSd.out.kept g4 (fun e => by cases e; omega)); have HO4 := Lib.hid ((HRd.out.box.off (by decide)).row HOd.out g4); obtain ⟨z0, z1, z2⟩ := cells3 HS4.out; clear g4 hr4)
            (try dsimp only)
            refine hK.out _ _ (True.intro) (fun hHeld => ?_)
            clear hK K
            (try simp only [List.getElem_toArray, List.getElem_cons_zero, List.getElem_cons_succ, Act.put, List.setIfInBounds_toArray, List.set_cons_zero, List.set_cons_succ])
            refine wpAnyH_ready (rs := [1, 5]) (by kernel_rfl) (by simp) ?_
            refine (AllReadyH.cons (o := _) rfl (fun K hK => ?_) (AllReadyH.cons (o := _) rfl (fun K hK => ?_) AllReadyH.nil))
            · rw [if_pos (by rfl)]
              go_simp
              refine hK.out _ _ (True.intro) (fun hHeld => ?_)
              clear hK K
              (try simp only [List.getElem_toArray, List.getElem_cons_zero, List.getElem_cons_succ, Act.put, List.setIfInBounds_toArray, List.set_cons_zero, List.set_cons_succ])
              refine wpAnyH_ready (rs := [5]) (by kernel_rfl) (by simp) ?_
              refine (AllReadyH.cons (o := _) rfl (fun K hK => ?_) AllReadyH.nil)
              rw [if_pos (by rfl)]
              go_simp
              (go_at_call 23; (with_reducible refine (H5.out _ HR4.out).mono ?_); rintro e w5 ⟨rfl, g5, hr5⟩; have HR5 := Lib.hid hr5; have HG5 := Lib.hid (grown_trans HG4.out g5); have HX5 := Lib.hid (HX4.out.kept g5 (fun e => by cases e; omega)); have HS5 := Lib.hid (HS4.out.kept g5 (fun e => by cases e; omega)); have HO5 := Lib.hid ((HR4.out.box.off (by decide)).row HO4.out g5); obtain ⟨v0, v1, v2⟩ := cells3 HS5.out; clear g5 hr5)
              (try dsimp only)
              refine hK.out _ _ (True.intro) (fun hHeld => ?_)
              clear hK K
              (try simp only [List.getElem_toArray, List.getElem_cons_zero, List.getElem_cons_succ, Act.put, List.setIfInBounds_toArray, List.set_cons_zero, List.set_cons_succ])
              refine wpAnyH_take (i := 6) (oi := _) (v := ?vq6) rfl (by kernel_rfl) (by kernel_rfl) (by kernel_rfl) (fun _ _ _ h => h) (Or.inl ⟨by rfl, ?hyq6⟩) (by assumption) ?restq6
              case hyq6 => (intro wz hSw; (try dsimp only at hSw); go_simp; try with_reducible rfl)
              (try simp only [List.getElem_toArray, List.getElem_cons_zero, List.getElem_cons_succ, Act.put, List.setIfInBounds_toArray, List.set_cons_zero, List.set_cons_succ])
              refine wpAnyH_ready (rs := [7]) (by kernel_rfl) (by simp) ?_
              refine (AllReadyH.cons (o := _) rfl (fun K hK => ?_) AllReadyH.nil)
              rw [if_pos (by rfl)]
              go_simp
              have HR6 := Lib.hid (HR5.out.later ((Below.refl _ w5).alloc (Nat.le_refl _) (.cells #[.int .i64 x, .int .i64 y] 59)))
              have HG6 := Lib.hid (grown_trans HG5.out (grown_below ((Below.refl _ w5).alloc (Nat.le_refl _) (.cells #[.int .i64 x, .int .i64 y] 59)) _))
              have HX6 := Lib.hid (HX5.out.alloc (.cells #[.int .i64 x, .int .i64 y] 59))
              have HS6 := Lib.hid (HS5.out.alloc (.cells #[.int .i64 x, .int .i64 y] 59))
              have HO6 := Lib.hid (OwnG.kept' HO5.out (grown_below ((Below.refl _ w5).alloc (Nat.le_refl _) (.cells #[.int .i64 x, .int .i64 y] 59)) none) (fun k hk e => by cases e))
              obtain ⟨t0, t1, t2⟩ := cells3 HS6.out
              refine hK.out _ _ (True.intro) (fun hHeld => ?_)
              clear hK K
              (try simp only [List.getElem_toArray, List.getElem_cons_zero, List.getElem_cons_succ, Act.put, List.setIfInBounds_toArray, List.set_cons_zero, List.set_cons_succ])
              refine wpAnyH_ready (rs := [8]) (by kernel_rfl) (by simp) ?_
              refine (AllReadyH.cons (o := _) rfl (fun K hK => ?_) AllReadyH.nil)
              rw [if_pos (by rfl)]
              refine wp_append_lg sp_rowed (.tmp 15) (.tmp 21) rfl (w2.heap.size + 1) _ j D rfl HO6.out (some ⟨w5.heap.size, 0, none⟩) 1 1 [((x : Int), (y : Int))] rfl (fun e => by cases e) (one_reads w5 ((x : Int), (y : Int)) #[.int .i64 x, .int .i64 y] 59 rfl) (by omega) (Nat.le_trans HS5.out.lt (by simp)) ?_
              intro pa c8 w8 g1 g2 g3
              have HO8 := Lib.hid g1
              have HR8 := Lib.hid (HR6.out.kept g2 (row_ne HR6.out.box HO6.out (by decide)) (fun k hk => by have := (HO6.out.1.lt k hk).1; omega))
              have HG8 := Lib.hid (grown_row HG6.out g2 (fun k hk => by have := (HO6.out.1.lt k hk).1; omega))
              have HX8 := Lib.hid (HX6.out.kept g2 (HX6.out.not_row (by decide) HO6.out))
              have HS8 := Lib.hid (HS6.out.kept g2 (HS6.out.not_row (by decide) HO6.out))
              obtain ⟨y0, y1, y2⟩ := cells3 HS8.out
              have yf := HS8.out.free 2
              clear g1 g2 g3
              (try dsimp only)
              refine hK.out _ _ (True.intro) (fun hHeld => ?_)
              clear hK K
              (try simp only [List.getElem_toArray, List.getElem_cons_zero, List.getElem_cons_succ, Act.put, List.setIfInBounds_toArray, List.set_cons_zero, List.set_cons_succ])
              refine wpAnyH_take (i := 9) (oi := _) (v := ?vq7) rfl (by kernel_rfl) (by kernel_rfl) (by kernel_rfl) (fun _ _ _ h => h) (Or.inl ⟨by rfl, ?hyq7⟩) (by assumption) ?restq7
              case hyq7 => (intro wz hSw; (try dsimp only at hSw); go_simp; try with_reducible rfl)
              (try simp only [List.getElem_toArray, List.getElem_cons_zero, List.getElem_cons_succ, Act.put, List.setIfInBounds_toArray, List.set_cons_zero, List.set_cons_succ])
              refine wpAnyH_ready (rs := [10]) (by kernel_rfl) (by simp) ?_
              refine (AllReadyH.cons (o := _) rfl (fun K hK => ?_) AllReadyH.nil)
              rw [if_pos (by rfl)]
              go_simp
              have HS10 := Lib.hid (HS8.out.set 2 (.slice pa (j + 1) c8))
              refine hK.out _ _ (True.intro) (fun hHeld => ?_)
              clear hK K
              (try simp only [List.getElem_toArray, List.getElem_cons_zero, List.getElem_cons_succ, Act.put, List.setIfInBounds_toArray, List.set_cons_zero, List.set_cons_succ])
              refine wpAnyH_done (by kernel_rfl) ?_ _
              go_wp2
              go_roundw
              case rel =>
                refine ⟨j + 1, q + 2 + 2, pa, c8, D ++ [((x : Int), (y : Int))], by omega, by go_num, ⟨by rw [List.length_append, HD.out.1]; rfl, fun s hs => ?_⟩, ?_, HR8.out.kept (grownBy_setCell4 _ w2.heap.size 2 _) (fun e => by cases e; omega) (fun k e => by cases e; omega), grown_set HG8.out (by omega) 2 _, Blk.other HX8.out (by omega) _, HS10.out, OwnG.kept' HO8.out (grownBy_setCell4 _ w2.heap.size 2 _) (fun k hk e => by cases e; have := (HO8.out.1.lt _ hk).1; omega)⟩
                · rcases List.mem_append.1 hs with hs | hs
                  · exact HD.out.2 s hs
                  · rw [List.mem_singleton] at hs
                    subst hs
                    unfold Two16
                    have := lt16b HXV.out
                    have := lt16b HYV.out
                    dsimp only
                    omega
                · show _ = _
                  rw [HLq.out, HL3'.out, HL5'.out, List.flatMap_append]
                  unfold spB
                  simp only [List.flatMap_cons, List.flatMap_nil, List.append_nil, Int.toNat_natCast, List.append_assoc]
              case measure => simp [intOf]; omega
            · rw [if_pos (by rfl)]
              go_simp
              (go_at_call 23; (with_reducible refine (H5.out _ HR4.out).mono ?_); rintro e w5 ⟨rfl, g5, hr5⟩; have HR5 := Lib.hid hr5; have HG5 := Lib.hid (grown_trans HG4.out g5); have HX5 := Lib.hid (HX4.out.kept g5 (fun e => by cases e; omega)); have HS5 := Lib.hid (HS4.out.kept g5 (fun e => by cases e; omega)); have HO5 := Lib.hid ((HR4.out.box.off (by decide)).row HO4.out g5); obtain ⟨v0, v1, v2⟩ := cells3 HS5.out; clear g5 hr5)
              (try dsimp only)
              refine hK.out _ _ (True.intro) (fun hHeld => ?_)
              clear hK K
              (try simp only [List.getElem_toArray, List.getElem_cons_zero, List.getElem_cons_succ, Act.put, List.setIfInBounds_toArray, List.set_cons_zero, List.set_cons_succ])
              refine wpAnyH_take (i := 6) (oi := _) (v := ?vq8) rfl (by kernel_rfl) (by kernel_rfl) (by kernel_rfl) (fun _ _ _ h => h) (Or.inl ⟨by rfl, ?hyq8⟩) (by assumption) ?restq8
              case hyq8 => (intro wz hSw; (try dsimp only at hSw); go_simp; try with_reducible rfl)
              (try simp only [List.getElem_toArray, List.getElem_cons_zero, List.getElem_cons_succ, Act.put, List.setIfInBounds_toArray, List.set_cons_zero, List.set_cons_succ])
              refine wpAnyH_ready (rs := [1, 7]) (by kernel_rfl) (by simp) ?_
              refine (AllReadyH.cons (o := _) rfl (fun K hK => ?_) (AllReadyH.cons (o := _) rfl (fun K hK => ?_) AllReadyH.nil))
              · rw [if_pos (by rfl)]
                go_simp
                refine hK.out _ _ (True.intro) (fun hHeld => ?_)
                clear hK K
                (try simp only [List.getElem_toArray, List.getElem_cons_zero, List.getElem_cons_succ, Act.put, List.setIfInBounds_toArray, List.set_cons_zero, List.set_cons_succ])
                refine wpAnyH_ready (rs := [7]) (by kernel_rfl) (by simp) ?_
                refine (AllReadyH.cons (o := _) rfl (fun K hK => ?_) AllReadyH.nil)
                rw [if_pos (by rfl)]
                go_simp
                have HR6 := Lib.hid (HR5.out.later ((Below.refl _ w5).alloc (Nat.le_refl _) (.cells #[.int .i64 x, .int .i64 y] 59)))
                have HG6 := Lib.hid (grown_trans HG5.out (grown_below ((Below.refl _ w5).alloc (Nat.le_refl _) (.cells #[.int .i64 x, .int .i64 y] 59)) _))
                have HX6 := Lib.hid (HX5.out.alloc (.cells #[.int .i64 x, .int .i64 y] 59))
                have HS6 := Lib.hid (HS5.out.alloc (.cells #[.int .i64 x, .int .i64 y] 59))
                have HO6 := Lib.hid (OwnG.kept' HO5.out (grown_below ((Below.refl _ w5).alloc (Nat.le_refl _) (.cells #[.int .i64 x, .int .i64 y] 59)) none) (fun k hk e => by cases e))
                obtain ⟨t0, t1, t2⟩ := cells3 HS6.out
                refine hK.out _ _ (True.intro) (fun hHeld => ?_)
                clear hK K
                (try simp only [List.getElem_toArray, List.getElem_cons_zero, List.getElem_cons_succ, Act.put, List.setIfInBounds_toArray, List.set_cons_zero, List.set_cons_succ])
                refine wpAnyH_ready (rs := [8]) (by kernel_rfl) (by simp) ?_
                refine (AllReadyH.cons (o := _) rfl (fun K hK => ?_) AllReadyH.nil)
                rw [if_pos (by rfl)]
                refine wp_append_lg sp_rowed (.tmp 15) (.tmp 21) rfl (w2.heap.size + 1) _ j D rfl HO6.out (some ⟨w5.heap.size, 0, none⟩) 1 1 [((x : Int), (y : Int))] rfl (fun e => by cases e) (one_reads w5 ((x : Int), (y : Int)) #[.int .i64 x, .int .i64 y] 59 rfl) (by omega) (Nat.le_trans HS5.out.lt (by simp)) ?_
                intro pa c8 w8 g1 g2 g3
                have HO8 := Lib.hid g1
                have HR8 := Lib.hid (HR6.out.kept g2 (row_ne HR6.out.box HO6.out (by decide)) (fun k hk => by have := (HO6.out.1.lt k hk).1; omega))
                have HG8 := Lib.hid (grown_row HG6.out g2 (fun k hk => by have := (HO6.out.1.lt k hk).1; omega))
                have HX8 := Lib.hid (HX6.out.kept g2 (HX6.out.not_row (by decide) HO6.out))
                have HS8 := Lib.hid (HS6.out.kept g2 (HS6.out.not_row (by decide) HO6.out))
                obtain ⟨y0, y1, y2⟩ := cells3 HS8.out
                have yf := HS8.out.free 2
                clear g1 g2 g3
                (try dsimp only)
                refine hK.out _ _ (True.intro) (fun hHeld => ?_)
                clear hK K
                (try simp only [List.getElem_toArray, List.getElem_cons_zero, List.getElem_cons_succ, Act.put, List.setIfInBounds_toArray, List.set_cons_zero, List.set_cons_succ])
                refine wpAnyH_take (i := 9) (oi := _) (v := ?vq9) rfl (by kernel_rfl) (by kernel_rfl) (by kernel_rfl) (fun _ _ _ h => h) (Or.inl ⟨by rfl, ?hyq9⟩) (by assumption) ?restq9
                case hyq9 => (intro wz hSw; (try dsimp only at hSw); go_simp; try with_reducible rfl)
                (try simp only [List.getElem_toArray, List.getElem_cons_zero, List.getElem_cons_succ, Act.put, List.setIfInBounds_toArray, List.set_cons_zero, List.set_cons_succ])
                refine wpAnyH_ready (rs := [10]) (by kernel_rfl) (by simp) ?_
                refine (AllReadyH.cons (o := _) rfl (fun K hK => ?_) AllReadyH.nil)
                rw [if_pos (by rfl)]
                go_simp
                have HS10 := Lib.hid (HS8.out.set 2 (.slice pa (j + 1) c8))
                refine hK.out _ _ (True.intro) (fun hHeld => ?_)
                clear hK K
                (try simp only [List.getElem_toArray, List.getElem_cons_zero, List.getElem_cons_succ, Act.put, List.setIfInBounds_toArray, List.set_cons_zero, List.set_cons_succ])
                refine wpAnyH_done (by kernel_rfl) ?_ _
                go_wp2
                go_roundw
                case rel =>
                  refine ⟨j + 1, q + 2 + 2, pa, c8, D ++ [((x : Int), (y : Int))], by omega, by go_num, ⟨by rw [List.length_append, HD.out.1]; rfl, fun s hs => ?_⟩, ?_, HR8.out.kept (grownBy_setCell4 _ w2.heap.size 2 _) (fun e => by cases e; omega) (fun k e => by cases e; omega), grown_set HG8.out (by omega) 2 _, Blk.other HX8.out (by omega) _, HS10.out, OwnG.kept' HO8.out (grownBy_setCell4 _ w2.heap.size 2 _) (fun k hk e => by cases e; have := (HO8.out.1.lt _ hk).1; omega)⟩
                  · rcases List.mem_append.1 hs with hs | hs
                    · exact HD.out.2 s hs
                    · rw [List.mem_singleton] at hs
                      subst hs
                      unfold Two16
                      have := lt16b HXV.out
                      have := lt16b HYV.out
                      dsimp only
                      omega
                  · show _ = _
                    rw [HLq.out, HL3'.out, HL5'.out, List.flatMap_append]
                    unfold spB
                    simp only [List.flatMap_cons, List.flatMap_nil, List.append_nil, Int.toNat_natCast, List.append_assoc]
                case measure => simp [intOf]; omega
              · rw [if_pos (by rfl)]
                go_simp
                have HR6 := Lib.hid (HR5.out.later ((Below.refl _ w5).alloc (Nat.le_refl _) (.cells #[.int .i64 x, .int .i64 y] 59)))
                have HG6 := Lib.hid (grown_trans HG5.out (grown_below ((Below.refl _ w5).alloc (Nat.le_refl _) (.cells #[.int .i64 x, .int .i64 y] 59)) _))
                have HX6 := Lib.hid (HX5.out.alloc (.cells #[.int .i64 x, .int .i64 y] 59))
                have HS6 := Lib.hid (HS5.out.alloc (.cells #[.int .i64 x, .int .i64 y] 59))
                have HO6 := Lib.hid (OwnG.kept' HO5.out (grown_below ((Below.refl _ w5).alloc (Nat.le_refl _) (.cells #[.int .i64 x, .int .i64 y] 59)) none) (fun k hk e => by cases e))
                obtain ⟨t0, t1, t2⟩ := cells3 HS6.out
                refine hK.out _ _ (True.intro) (fun hHeld => ?_)
                clear hK K
                (try simp only [List.getElem_toArray, List.getElem_cons_zero, List.getElem_cons_succ, Act.put, List.setIfInBounds_toArray, List.set_cons_zero, List.set_cons_succ])
                refine wpAnyH_ready (rs := [1]) (by kernel_rfl) (by simp) ?_
                refine (AllReadyH.cons (o := _) rfl (fun K hK => ?_) AllReadyH.nil)
                rw [if_pos (by rfl)]
                go_simp
                refine hK.out _ _ (True.intro) (fun hHeld => ?_)
                clear hK K
                (try simp only [List.getElem_toArray, List.getElem_cons_zero, List.getElem_cons_succ, Act.put, List.setIfInBounds_toArray, List.set_cons_zero, List.set_cons_succ])
                refine wpAnyH_ready (rs := [8]) (by kernel_rfl) (by simp) ?_
                refine (AllReadyH.cons (o := _) rfl (fun K hK => ?_) AllReadyH.nil)
                rw [if_pos (by rfl)]
                refine wp_append_lg sp_rowed (.tmp 15) (.tmp 21) rfl (w2.heap.size + 1) _ j D rfl HO6.out (some ⟨w5.heap.size, 0, none⟩) 1 1 [((x : Int), (y : Int))] rfl (fun e => by cases e) (one_reads w5 ((x : Int), (y : Int)) #[.int .i64 x, .int .i64 y] 59 rfl) (by omega) (Nat.le_trans HS5.out.lt (by simp)) ?_
                intro pa c8 w8 g1 g2 g3
                have HO8 := Lib.hid g1
                have HR8 := Lib.hid (HR6.out.kept g2 (row_ne HR6.out.box HO6.out (by decide)) (fun k hk => by have := (HO6.out.1.lt k hk).1; omega))
                have HG8 := Lib.hid (grown_row HG6.out g2 (fun k hk => by have := (HO6.out.1.lt k hk).1; omega))
                have HX8 := Lib.hid (HX6.out.kept g2 (HX6.out.not_row (by decide) HO6.out))
                have HS8 := Lib.hid (HS6.out.kept g2 (HS6.out.not_row (by decide) HO6.out))
                obtain ⟨y0, y1, y2⟩ := cells3 HS8.out
                have yf := HS8.out.free 2
                clear g1 g2 g3
                (try dsimp only)
                refine hK.out _ _ (True.intro) (fun hHeld => ?_)
                clear hK K
                (try simp only [List.getElem_toArray, List.getElem_cons_zero, List.getElem_cons_succ, Act.put, List.setIfInBounds_toArray, List.set_cons_zero, List.set_cons_succ])
                refine wpAnyH_take (i := 9) (oi := _) (v := ?vq10) rfl (by kernel_rfl) (by kernel_rfl) (by kernel_rfl) (fun _ _ _ h => h) (Or.inl ⟨by rfl, ?hyq10⟩) (by assumption) ?restq10
                case hyq10 => (intro wz hSw; (try dsimp only at hSw); go_simp; try with_reducible rfl)
                (try simp only [List.getElem_toArray, List.getElem_cons_zero, List.getElem_cons_succ, Act.put, List.setIfInBounds_toArray, List.set_cons_zero, List.set_cons_succ])
                refine wpAnyH_ready (rs := [10]) (by kernel_rfl) (by simp) ?_
                refine (AllReadyH.cons (o := _) rfl (fun K hK => ?_) AllReadyH.nil)
                rw [if_pos (by rfl)]
                go_simp
                have HS10 := Lib.hid (HS8.out.set 2 (.slice pa (j + 1) c8))
                refine hK.out _ _ (True.intro) (fun hHeld => ?_)
                clear hK K
                (try simp only [List.getElem_toArray, List.getElem_cons_zero, List.getElem_cons_succ, Act.put, List.setIfInBounds_toArray, List.set_cons_zero, List.set_cons_succ])
                refine wpAnyH_done (by kernel_rfl) ?_ _
                go_wp2
                go_roundw
                case rel =>
                  refine ⟨j + 1, q + 2 + 2, pa, c8, D ++ [((x : Int), (y : Int))], by omega, by go_num, ⟨by rw [List.length_append, HD.out.1]; rfl, fun s hs => ?_⟩, ?_, HR8.out.kept (grownBy_setCell4 _ w2.heap.size 2 _) (fun e => by cases e; omega) (fun k e => by cases e; omega), grown_set HG8.out (by omega) 2 _, Blk.other HX8.out (by omega) _, HS10.out, OwnG.kept' HO8.out (grownBy_setCell4 _ w2.heap.size 2 _) (fun k hk e => by cases e; have := (HO8.out.1.lt _ hk).1; omega)⟩
                  · rcases List.mem_append.1 hs with hs | hs
                    · exact HD.out.2 s hs
                    · rw [List.mem_singleton] at hs
                      subst hs
                      unfold Two16
                      have := lt16b HXV.out
                      have := lt16b HYV.out
                      dsimp only
                      omega
                  · show _ = _
                    rw [HLq.out, HL3'.out, HL5'.out, List.flatMap_append]
                    unfold spB
                    simp only [List.flatMap_cons, List.flatMap_nil, List.append_nil, Int.toNat_natCast, List.append_assoc]
                case measure => simp [intOf]; omega
        · have HF : Hid (∀ (d : BmM) (r : List Int), BmT d → l.drop p ≠ bmB d ++ r) := fun d r hd e => by
            obtain ⟨z, r', _, h⟩ := HNX.out d r hd e
            have := congrArg List.length h
            rw [List.length_append, spB_len, List.length_drop] at this
            omega
          clear hx hL3' h3 hll hbb
          go_wp2
          refine wp_region_held_drew (S := fun _ => True) (by kernel_rfl) (True.intro) (fun hHeld => ?_)
          refine wpAnyH_take (i := 0) (oi := _) (v := ?vqb1) rfl (by kernel_rfl) (by kernel_rfl) (by kernel_rfl) (fun _ _ _ h => h) (Or.inl ⟨by rfl, ?hyqb1⟩) (by assumption) ?restqb1
          case hyqb1 => (intro wz hSw; (try dsimp only at hSw); go_simp; try with_reducible rfl)
          (try simp only [List.getElem_toArray, List.getElem_cons_zero, Act.put, List.setIfInBounds_toArray, List.set_cons_zero, List.set_cons_succ])
          refine wpAnyH_take (i := 2) (oi := _) (v := ?vqb2) rfl (by kernel_rfl) (by kernel_rfl) (by kernel_rfl) (fun _ _ _ h => h) (Or.inl ⟨by rfl, ?hyqb2⟩) (by assumption) ?restqb2
          case hyqb2 => (intro wz hSw; (try dsimp only at hSw); go_simp; try with_reducible rfl)
          (try simp only [List.getElem_toArray, List.getElem_cons_zero, List.getElem_cons_succ, Act.put, List.setIfInBounds_toArray, List.set_cons_zero, List.set_cons_succ])
          refine wpAnyH_take (i := 4) (oi := _) (v := ?vqb3) rfl (by kernel_rfl) (by kernel_rfl) (by kernel_rfl) (fun _ _ _ h => h) (Or.inl ⟨by rfl, ?hyqb3⟩) (by assumption) ?restqb3
          case hyqb3 => (intro wz hSw; (try dsimp only at hSw); go_simp; try with_reducible rfl)
          (try simp only [List.getElem_toArray, List.getElem_cons_zero, List.getElem_cons_succ, Act.put, List.setIfInBounds_toArray, List.set_cons_zero, List.set_cons_succ])
          refine wpAnyH_ready (rs := [1, 3]) (by kernel_rfl) (by simp) ?_
          refine (AllReadyH.cons (o := _) rfl (fun K hK => ?_) (AllReadyH.cons (o := _) rfl (fun K hK => ?_) AllReadyH.nil))
          · rw [if_pos (by rfl)]
            go_simp
            refine hK.out _ _ (True.intro) (fun hHeld => ?_)
            clear hK K
            (try simp only [List.getElem_toArray, List.getElem_cons_zero, List.getElem_cons_succ, Act.put, List.setIfInBounds_toArray, List.set_cons_zero, List.set_cons_succ])
            refine wpAnyH_ready (rs := [3]) (by kernel_rfl) (by simp) ?_
            refine (AllReadyH.cons (o := _) rfl (fun K hK => ?_) AllReadyH.nil)
            rw [if_pos (by rfl)]
            go_simp
            (go_at_call 23; (with_reducible refine (H3.out _ HRd.out).mono ?_); rintro e w4 ⟨rfl, g4, hr4⟩; have HR4 := Lib.hid hr4; have HG4 := Lib.hid (grown_trans HGd.out g4); have HX4 := Lib.hid (HXd.out.kept g4 (fun e => by cases e; omega)); have HS4 := Lib.hid (HSd.out.kept g4 (fun e => by cases e; omega)); have HO4 := Lib.hid ((HRd.out.box.off (by decide)).row HOd.out g4); obtain ⟨z0, z1, z2⟩ := cells3 HS4.out; clear g4 hr4)
            (try dsimp only)
            refine hK.out _ _ (True.intro) (fun hHeld => ?_)
            clear hK K
            (try simp only [List.getElem_toArray, List.getElem_cons_zero, List.getElem_cons_succ, Act.put, List.setIfInBounds_toArray, List.set_cons_zero, List.set_cons_succ])
            refine wpAnyH_ready (rs := [5]) (by kernel_rfl) (by simp) ?_
            refine (AllReadyH.cons (o := _) rfl (fun K hK => ?_) AllReadyH.nil)
            rw [if_pos (by rfl)]
            go_simp
            (go_at_call 23; (with_reducible refine (rdNum_no HR4.out 2 2 rfl (by omega) (by omega) (by omega)).mono ?_); rintro e w5 ⟨rfl, g5⟩)
            exact ⟨rfl, grown_trans HG4.out g5, Or.inr ⟨rfl, HF.out⟩⟩
          · rw [if_pos (by rfl)]
            go_simp
            (go_at_call 23; (with_reducible refine (H3.out _ HRd.out).mono ?_); rintro e w4 ⟨rfl, g4, hr4⟩; have HR4 := Lib.hid hr4; have HG4 := Lib.hid (grown_trans HGd.out g4); have HX4 := Lib.hid (HXd.out.kept g4 (fun e => by cases e; omega)); have HS4 := Lib.hid (HSd.out.kept g4 (fun e => by cases e; omega)); have HO4 := Lib.hid ((HRd.out.box.off (by decide)).row HOd.out g4); obtain ⟨z0, z1, z2⟩ := cells3 HS4.out; clear g4 hr4)
            (try dsimp only)
            refine hK.out _ _ (True.intro) (fun hHeld => ?_)
            clear hK K
            (try simp only [List.getElem_toArray, List.getElem_cons_zero, List.getElem_cons_succ, Act.put, List.setIfInBounds_toArray, List.set_cons_zero, List.set_cons_succ])
            refine wpAnyH_ready (rs := [1, 5]) (by kernel_rfl) (by simp) ?_
            refine (AllReadyH.cons (o := _) rfl (fun K hK => ?_) (AllReadyH.cons (o := _) rfl (fun K hK => ?_) AllReadyH.nil))
            · rw [if_pos (by rfl)]
              go_simp
              refine hK.out _ _ (True.intro) (fun hHeld => ?_)
              clear hK K
              (try simp only [List.getElem_toArray, List.getElem_cons_zero, List.getElem_cons_succ, Act.put, List.setIfInBounds_toArray, List.set_cons_zero, List.set_cons_succ])
              refine wpAnyH_ready (rs := [5]) (by kernel_rfl) (by simp) ?_
              refine (AllReadyH.cons (o := _) rfl (fun K hK => ?_) AllReadyH.nil)
              rw [if_pos (by rfl)]
              go_simp
              (go_at_call 23; (with_reducible refine (rdNum_no HR4.out 2 2 rfl (by omega) (by omega) (by omega)).mono ?_); rintro e w5 ⟨rfl, g5⟩)
              exact ⟨rfl, grown_trans HG4.out g5, Or.inr ⟨rfl, HF.out⟩⟩
            · rw [if_pos (by rfl)]
              go_simp
              (go_at_call 23; (with_reducible refine (rdNum_no HR4.out 2 2 rfl (by omega) (by omega) (by omega)).mono ?_); rintro e w5 ⟨rfl, g5⟩)
              exact ⟨rfl, grown_trans HG4.out g5, Or.inr ⟨rfl, HF.out⟩⟩
      · have HF : Hid (∀ (d : BmM) (r : List Int), BmT d → l.drop p ≠ bmB d ++ r) := fun d r hd e => by
          obtain ⟨z, r', _, h⟩ := HNX.out d r hd e
          have := congrArg List.length h
          rw [List.length_append, spB_len, List.length_drop] at this
          omega
        clear hll hbb
        go_wp2
        refine wp_region_held_drew (S := fun _ => True) (by kernel_rfl) (True.intro) (fun hHeld => ?_)
        refine wpAnyH_take (i := 0) (oi := _) (v := ?vqc1) rfl (by kernel_rfl) (by kernel_rfl) (by kernel_rfl) (fun _ _ _ h => h) (Or.inl ⟨by rfl, ?hyqc1⟩) (by assumption) ?restqc1
        case hyqc1 => (intro wz hSw; (try dsimp only at hSw); go_simp; try with_reducible rfl)
        (try simp only [List.getElem_toArray, List.getElem_cons_zero, Act.put, List.setIfInBounds_toArray, List.set_cons_zero, List.set_cons_succ])
        refine wpAnyH_take (i := 2) (oi := _) (v := ?vqc2) rfl (by kernel_rfl) (by kernel_rfl) (by kernel_rfl) (fun _ _ _ h => h) (Or.inl ⟨by rfl, ?hyqc2⟩) (by assumption) ?restqc2
        case hyqc2 => (intro wz hSw; (try dsimp only at hSw); go_simp; try with_reducible rfl)
        (try simp only [List.getElem_toArray, List.getElem_cons_zero, List.getElem_cons_succ, Act.put, List.setIfInBounds_toArray, List.set_cons_zero, List.set_cons_succ])
        refine wpAnyH_take (i := 4) (oi := _) (v := ?vqc3) rfl (by kernel_rfl) (by kernel_rfl) (by kernel_rfl) (fun _ _ _ h => h) (Or.inl ⟨by rfl, ?hyqc3⟩) (by assumption) ?restqc3
        case hyqc3 => (intro wz hSw; (try dsimp only at hSw); go_simp; try with_reducible rfl)
        (try simp only [List.getElem_toArray, List.getElem_cons_zero, List.getElem_cons_succ, Act.put, List.setIfInBounds_toArray, List.set_cons_zero, List.set_cons_succ])
        refine wpAnyH_ready (rs := [1, 3]) (by kernel_rfl) (by simp) ?_
        refine (AllReadyH.cons (o := _) rfl (fun K hK => ?_) (AllReadyH.cons (o := _) rfl (fun K hK => ?_) AllReadyH.nil))
        · rw [if_pos (by rfl)]
          go_simp
          refine hK.out _ _ (True.intro) (fun hHeld => ?_)
          clear hK K
          (try simp only [List.getElem_toArray, List.getElem_cons_zero, List.getElem_cons_succ, Act.put, List.setIfInBounds_toArray, List.set_cons_zero, List.set_cons_succ])
          refine wpAnyH_ready (rs := [3]) (by kernel_rfl) (by simp) ?_
          refine (AllReadyH.cons (o := _) rfl (fun K hK => ?_) AllReadyH.nil)
          rw [if_pos (by rfl)]
          go_simp
          (go_at_call 23; (with_reducible refine (rdNum_no HRd.out 2 2 rfl (by omega) (by omega) (by omega)).mono ?_); rintro e w4 ⟨rfl, g4⟩)
          exact ⟨rfl, grown_trans HGd.out g4, Or.inr ⟨rfl, HF.out⟩⟩
        · rw [if_pos (by rfl)]
          go_simp
          (go_at_call 23; (with_reducible refine (rdNum_no HRd.out 2 2 rfl (by omega) (by omega) (by omega)).mono ?_); rintro e w4 ⟨rfl, g4⟩)
          exact ⟨rfl, grown_trans HGd.out g4, Or.inr ⟨rfl, HF.out⟩⟩
    · obtain rfl : j = N := by omega
      obtain ⟨s0, s1, s2⟩ := cells3 HS.out
      obtain ⟨x0, x1, x2⟩ := cells3 HX.out
      obtain ⟨g0, g1, g2⟩ := free3 HX.out
      go_wp2
      have hxa := HX.out.set 0 (.string nm)
      have hxb := hxa.set 1 (.bool ((on : Int) == 1))
      have hxc := hxb.set 2 (.slice aL j cL)
      refine bodyPost_ret (v := .agg #[.string nm, .bool ((on : Int) == 1), .slice aL j cL]) (results_cell_row rfl _ _ w.heap.size 57 #[.string nm, .bool ((on : Int) == 1), .slice aL j cL] (0, 0) _ rfl hxc Tryz.underlying57 rfl bm_size14) rfl ?_
      have hr1 := HR.out.kept (grownBy_setCell4 _ w.heap.size 0 (.string nm)) (fun e => by cases e; omega) (fun k e => by cases e; omega)
      have hr2 := hr1.kept (grownBy_setCell4 _ w.heap.size 1 (.bool ((on : Int) == 1))) (fun e => by cases e; omega) (fun k e => by cases e; omega)
      have hr3 := hr2.kept (grownBy_setCell4 _ w.heap.size 2 (.slice aL j cL)) (fun e => by cases e; omega) (fun k e => by cases e; omega)
      have hlo : ∀ k, (Value.slice aL j cL).ownBlock = some k → w2.heap.size + 1 ≤ k := fun k hk => (HO.out.1.lt k hk).1
      have ho1 := OwnG.kept' HO.out (grownBy_setCell4 _ w.heap.size 0 (.string nm)) (fun k hk e => by cases e; have := hlo _ hk; omega)
      have ho2 := OwnG.kept' ho1 (grownBy_setCell4 _ w.heap.size 1 (.bool ((on : Int) == 1))) (fun k hk e => by cases e; have := hlo _ hk; omega)
      have ho3 := OwnG.kept' ho2 (grownBy_setCell4 _ w.heap.size 2 (.slice aL j cL)) (fun k hk e => by cases e; have := hlo _ hk; omega)
      have hj6 := HN6.out
      have hon : onN ((on : Int) == 1) = on := by
        have := HON.out
        have : on = 0 ∨ on = 1 := by omega
        rcases this with rfl | rfl <;> rfl
      refine ⟨grown_set (grown_set (grown_set HG.out (Nat.le_refl _) 0 _) (Nat.le_refl _) 1 _) (Nat.le_refl _) 2 _, Or.inl ⟨_, q, rfl, hr3, nm, (on : Int) == 1, aL, j, cL, D, rfl, ⟨OwnG.monoB ho3 (by omega), by omega, fun s hs => ?_⟩, ⟨HNM.out, ?_, HD.out.2⟩, ?_⟩⟩
      · have := HD.out.2 s hs
        unfold Two16 at this
        constructor <;> (unfold I64; omega)
      · show D.length ≤ 65535
        have := HD.out.1
        omega
      · unfold bmB
        dsimp only
        rw [HL1.out, HL2.out, HL3.out, HLq.out, hon, HD.out.1]
        simp only [List.append_assoc]
end Go.Proofs.YtdffgnpldapciaaGreatDoor
namespace Go.Proofs.YtdffgnpldapciaaGreatDoor
open Go.RowKit
set_option linter.unusedVariables false

theorem run_stop {R : List Int} (h : R ≠ []) : runN R = 65535 ∨ R.drop (runN R) = [] ∨ ∃ y, (R.drop (runN R))[0]? = some y ∧ y ≠ R.headD 0 := by
  cases R with
  | nil => exact absurd rfl h
  | cons x r =>
    by_cases h5 : runN (x :: r) = 65535
    · exact Or.inl h5
    · refine Or.inr ?_
      have e : runN (x :: r) = lead x r + 1 := by
        have h6 : min (lead x r + 1) 65535 ≠ 65535 := h5
        show min (lead x r + 1) 65535 = _
        omega
      rw [e, List.drop_succ_cons]
      have hl : ∀ r : List Int, r.drop (lead x r) = [] ∨ ∃ y, (r.drop (lead x r))[0]? = some y ∧ y ≠ x := by
        intro r
        induction r with
        | nil => exact Or.inl rfl
        | cons z r ih =>
          unfold lead
          split
          · rw [List.drop_succ_cons]
            exact ih
          · rename_i hz
            exact Or.inr ⟨z, rfl, hz⟩
      exact hl r
theorem run_made {len : Nat} {x : Int} {R : List Int} (h1 : 1 ≤ len) (h2 : len ≤ 65535) (hR : R = [] ∨ len = 65535 ∨ ∃ y, R[0]? = some y ∧ y ≠ x) : runsB (List.replicate len x ++ R) = numB false 2 len ++ numB false 2 x.toNat ++ runsB R := by
  have hne : List.replicate len x ++ R ≠ [] := by
    intro e
    have := congrArg List.length e
    simp at this
    omega
  have hlen : (List.replicate len x ++ R).length = len + R.length := by simp
  have hat : ∀ k, k < len → (List.replicate len x ++ R)[k]? = some x := fun k hk => by
    rw [List.getElem?_append_left (by simpa using hk), List.getElem?_replicate, if_pos hk]
  have hr : runN (List.replicate len x ++ R) = len := by
    refine run_is h1 h2 (by omega) hat ?_
    rcases hR with rfl | h | ⟨y, hy, hne⟩
    · exact Or.inl (by simp)
    · exact Or.inr (Or.inl h)
    · refine Or.inr (Or.inr ⟨y, ?_, hne⟩)
      rw [List.getElem?_append_right (by simp)]
      simpa using hy
  have hd : (List.replicate len x ++ R).headD 0 = x := by rw [List.headD_eq_head?_getD, List.head?_eq_getElem?, hat 0 (by omega)]; rfl
  rw [runsB_step hne, hr, hd, List.drop_left' (by simp)]
/-- What follows a run: nothing, another count, or the run was as long as any. -/
def Nx (ρ : Nat) (z : Int) (R : List Int) : Prop := R = [] ∨ ρ = 0 ∨ ρ = 65535 ∨ ∃ y, R[0]? = some y ∧ y ≠ z
theorem nx_made {len : Nat} {x : Int} {R : List Int} (h : Nx len x R) (h1 : 1 ≤ len) : R = [] ∨ len = 65535 ∨ ∃ y, R[0]? = some y ∧ y ≠ x := by
  rcases h with h | h | h | h
  · exact Or.inl h
  · omega
  · exact Or.inr (Or.inl h)
  · exact Or.inr (Or.inr h)
def Bd16 (K : List Int) : Prop := ∀ k ∈ K, 0 ≤ k ∧ k ≤ 65535
/-- What is left to be read of right counts. -/
def Lft (l : List Int) (q1 q T ρ : Nat) (z : Int) (K : List Int) : Prop := ∀ K' r, K'.length = T → Bd16 K' → l.drop q1 = runsB K' ++ r → ∃ R, K' = K ++ R ∧ l.drop q = runsB R ++ r ∧ Nx ρ z R
theorem Lft.next {l : List Int} {q1 q T ρ : Nat} {z : Int} {K K' r : List Int} (h : Lft l q1 q T ρ z K) (hj : K.length < T) (hl : K'.length = T) (hb : Bd16 K') (e : l.drop q1 = runsB K' ++ r) :
    ∃ R, K' = K ++ R ∧ R ≠ [] ∧ R.length = T - K.length ∧ Bd16 R ∧ Nx ρ z R ∧ l.drop q = numB false 2 (runN R) ++ (numB false 2 (R.headD 0).toNat ++ (runsB (R.drop (runN R)) ++ r)) := by
  obtain ⟨R, h1, h2, h3⟩ := h K' r hl hb e
  have hlen := congrArg List.length h1
  rw [List.length_append] at hlen
  have hne : R ≠ [] := fun e => by rw [e] at hlen; simp at hlen; omega
  refine ⟨R, h1, hne, by omega, fun k hk => hb k (by rw [h1]; exact List.mem_append_right _ hk), h3, ?_⟩
  rw [h2, runsB_step hne]
  simp only [List.append_assoc]
theorem Lft.head {R : List Int} (hne : R ≠ []) (hb : Bd16 R) : (0 ≤ R.headD 0 ∧ R.headD 0 ≤ 65535) ∧ R[0]? = some (R.headD 0) := by
  cases R with
  | nil => exact absurd rfl hne
  | cons x r => exact ⟨hb x (by simp), rfl⟩
/-- What was read of right counts is a run of theirs. -/
theorem Lft.is {l : List Int} {q1 q q2 q3 T ρ len x : Nat} {z : Int} {K K' r : List Int} (h : Lft l q1 q T ρ z K) (hj : K.length < T) (hl : K'.length = T) (hb : Bd16 K') (e : l.drop q1 = runsB K' ++ r)
    (hlen : len < 65536) (hx : x < 65536) (e2 : l.drop q = numB false 2 len ++ l.drop q2) (e3 : l.drop q2 = numB false 2 x ++ l.drop q3) :
    ∃ R', K' = K ++ (List.replicate len (x : Int) ++ R') ∧ 1 ≤ len ∧ len ≤ T - K.length ∧ Nx ρ z (List.replicate len (x : Int) ++ R') ∧ Nx len x R' ∧ l.drop q3 = runsB R' ++ r := by
  obtain ⟨R, r1, r2, r3, r4, r5, r6⟩ := h.next hj hl hb e
  have hp := runN_pos r2
  obtain ⟨hh, h0⟩ := Lft.head r2 r4
  have k1 := num_tells2 hlen (by omega) (e2.symm.trans r6)
  obtain ⟨k1, k2⟩ := k1
  have k3 := num_tells2 hx (by omega) (e3.symm.trans k2)
  obtain ⟨k3, k4⟩ := k3
  have hxx : R.headD 0 = (x : Int) := by omega
  have hrep := run_rep r2
  rw [hxx, ← k1] at hrep
  refine ⟨R.drop len, by rw [← hrep]; exact r1, by omega, by omega, by rw [← hrep]; exact r5, ?_, by rw [k4, ← k1]⟩
  have hs := run_stop r2
  rw [hxx, ← k1] at hs
  rcases hs with hs | hs | hs
  · exact Or.inr (Or.inr (Or.inl hs))
  · exact Or.inl hs
  · exact Or.inr (Or.inr (Or.inr hs))
/-- What the reader asks of a run. -/
inductive CntC (len ρ : Nat) (z : Int) (x : Nat) (I : Prop) : Prop
  | none (h : len = 0)
  | same (h0 : 0 < len) (h1 : ρ ≠ 0) (h2 : ρ ≠ 65535) (h3 : z = x) (h4 : I)
  | first (h0 : 0 < len) (h1 : ρ = 0)
  | long (h0 : 0 < len) (h1 : ρ ≠ 0) (h2 : ρ = 65535)
  | other (h0 : 0 < len) (h1 : ρ ≠ 0) (h2 : ρ ≠ 65535) (h3 : z ≠ x) (h4 : I)
theorem cnt_cases (len ρ : Nat) (z : Int) (x : Nat) {I : Prop} (hI : ρ ≠ 0 → I) : CntC len ρ z x I := by
  by_cases h0 : len = 0
  · exact .none h0
  · by_cases h1 : ρ = 0
    · exact .first (by omega) h1
    · by_cases h2 : ρ = 65535
      · exact .long (by omega) h1 h2
      · by_cases h3 : z = x
        · exact .same (by omega) h1 h2 h3 (hI h1)
        · exact .other (by omega) h1 h2 h3 (hI h1)
theorem cb0 {ρ : Nat} (h : ρ ≠ 0) : ((ρ : Int) == 0) = false := by simp [h]
theorem cb5 {ρ : Nat} (h : ρ ≠ 65535) : ((ρ : Int) == 65535) = false := by
  rw [beq_eq_false_iff_ne]
  omega
theorem cbx {z : Int} {x : Nat} (h : z ≠ x) : (z != (x : Int)) = true := by simp [h]
theorem rep_head {len : Nat} {x : Int} (h : 0 < len) (R : List Int) : (List.replicate len x ++ R)[0]? = some x := by
  rw [List.getElem?_append_left (by simpa using h), List.getElem?_replicate, if_pos h]
/-- The last count. -/
theorem cnt_last {w : World} {base j c : Nat} {a : Option Addr} {K : List Int} {z : Int} (h : OwnG ivV 3 1 w base (.slice a j c) j K) (h0 : 0 < j) (hz : K[j - 1]? = some z) :
    ∃ (m b off : Nat), (j : Int) - 1 = (m : Int) ∧ (m : Int) < (j : Int) ∧ a = some ⟨b, off, none⟩ ∧ w.cell? ⟨b, off + m, none⟩ = some (.int .i64 z) := by
  obtain ⟨b, off, e, hc, hk⟩ := iv_cell (h.reads iv_rowed).1 (j - 1) (by omega)
  rw [hz] at hk
  exact ⟨j - 1, b, off, by omega, by omega, e, by rw [hc, Option.some.inj hk]⟩
theorem cnt_bad3 {len ρ x : Nat} {z : Int} {K K' r : List Int} {l : List Int} {q3 T : Nat} (hb : len = 0 ∨ (ρ ≠ 0 ∧ ρ ≠ 65535 ∧ z = x))
    (h : ∃ R', K' = K ++ (List.replicate len (x : Int) ++ R') ∧ 1 ≤ len ∧ len ≤ T - K.length ∧ Nx ρ z (List.replicate len (x : Int) ++ R') ∧ Nx len x R' ∧ l.drop q3 = runsB R' ++ r) : False := by
  obtain ⟨R', h1, h2, h3, h4, h5, h6⟩ := h
  rcases hb with hb | ⟨b1, b2, b3⟩
  · omega
  · obtain ⟨m, rfl⟩ : ∃ m, len = m + 1 := ⟨len - 1, by omega⟩
    rcases h4 with h | h | h | ⟨y, hy, hne⟩
    · cases h
    · exact b1 h
    · exact b2 h
    · rw [List.replicate_succ, List.cons_append] at hy
      simp only [List.getElem?_cons_zero, Option.some.injEq] at hy
      exact hne (hy ▸ b3.symm)
theorem cnt_bad1 {l : List Int} {q T j ρ : Nat} {z : Int} {K K' r : List Int} (hj : K.length = j) (hF : ∀ (x : Nat) (r : List Int), x < 256 ^ 2 → (x : Int) ≤ (T : Int) - (j : Int) → l.drop q ≠ numB false 2 x ++ r)
    (h : ∃ R, K' = K ++ R ∧ R ≠ [] ∧ R.length = T - K.length ∧ Bd16 R ∧ Nx ρ z R ∧ l.drop q = numB false 2 (runN R) ++ (numB false 2 (R.headD 0).toNat ++ (runsB (R.drop (runN R)) ++ r))) : False := by
  obtain ⟨R, r1, r2, r3, r4, r5, r6⟩ := h
  have hp := runN_pos r2
  exact hF _ _ (lt16 (by omega)) (by omega) r6
theorem cnt_bad2 {l : List Int} {q q2 T ρ len : Nat} {z : Int} {K K' r : List Int} (hlen : len < 65536) (e2 : l.drop q = numB false 2 len ++ l.drop q2) (hF : ∀ (x : Nat) (r : List Int), l.drop q2 ≠ numB false 2 x ++ r)
    (h : ∃ R, K' = K ++ R ∧ R ≠ [] ∧ R.length = T - K.length ∧ Bd16 R ∧ Nx ρ z R ∧ l.drop q = numB false 2 (runN R) ++ (numB false 2 (R.headD 0).toNat ++ (runsB (R.drop (runN R)) ++ r))) : False := by
  obtain ⟨R, r1, r2, r3, r4, r5, r6⟩ := h
  have hp := runN_pos r2
  exact hF _ _ (num_tells2 hlen (by omega) (e2.symm.trans r6)).2
set_option maxRecDepth 100000 in
set_option maxHeartbeats 3200000 in
theorem rdCounts {w0 w : World} {X : Nat} {a : Option Addr} {n c p : Nat} {l : List Int} (h : Rdr w0 w X a n c p l) :
    Calls Tryz.prog 28 #[.pointer (some ⟨X, 0, none⟩)] w (RdQ w0 X a n c l (fun v p' w' => ∃ (a' : Option Addr) (l' c' : Nat) (K : List Int), v = .slice a' l' c' ∧ IntsN w' w.heap.size a' l' c' K ∧ K.length ≤ 65536 ∧ (∀ k ∈ K, 0 ≤ k ∧ k ≤ 65535) ∧ l.drop p = cntB K ++ l.drop p') (∀ (K r : List Int), K.length ≤ 65536 → (∀ k ∈ K, 0 ≤ k ∧ k ≤ 65535) → l.drop p ≠ cntB K ++ r) w) := by
  have HR := Lib.hid h
  have HU := Lib.hid (rdUpTo h 4 4 65536 rfl (by omega) (by omega))
  have hXlt := h.box.lt
  have hw0 : w0.heap.size ≤ w.heap.size := h.b.size
  have hp44 : (256 : Nat) ^ 4 = 4294967296 := by decide
  have HP44 := Lib.hid hp44
  have HYs := Lib.hid insist_yes
  have HNs := Lib.hid insist_no
  clear h hp44
  go_enter Tryz.func28, Tryz.ntmps28
  go_wp2_with (first
    | (go_at_call 51; (with_reducible refine HU.out.mono ?_); rintro e w1 ⟨hg, ⟨v, q1, rfl, hq, T, rfl, hx, hx4, hL⟩ | ⟨rfl, hF⟩⟩; rotate_left; exact ⟨rfl, hg, Or.inr ⟨rfl, fun K r hK hb e => hF K.length _ (by have := HP44.out; omega) (by omega) (by rw [e]; unfold cntB; rw [List.append_assoc])⟩⟩; have HG1 := Lib.hid hg; have HR1 := Lib.hid hq; have HT6 := Lib.hid hx; have HL1 := Lib.hid hL; clear hg hq hx hL hx4))
  have HNX : Hid (∀ K r : List Int, K.length ≤ 65536 → Bd16 K → l.drop p = cntB K ++ r → K.length = T ∧ l.drop q1 = runsB K ++ r) := fun K r hK hb e => by
    unfold cntB at e
    rw [List.append_assoc] at e
    have hT6 := HT6.out
    obtain ⟨k1, k2⟩ := num_tells4 (by omega) (by omega) (HL1.out.symm.trans e)
    exact ⟨k1.symm, k2⟩
  go_loopw [4, 5] (fun cv rv wr => ∃ (j q ρ : Nat) (z : Int) (aK : Option Addr) (cK : Nat) (K E : List Int), j ≤ T ∧ ρ ≤ 65535 ∧ cv = .slice aK j cK ∧ rv = .int .i64 ρ ∧ Hid (K.length = j ∧ Bd16 K) ∧ Hid (l.drop q1 = E ++ l.drop q) ∧ Hid (∀ R, Nx ρ z R → runsB (K ++ R) = E ++ runsB R) ∧ Hid (Lft l q1 q T ρ z K) ∧ Hid (ρ ≠ 0 → 0 < j ∧ K[j - 1]? = some z) ∧ Hid (Rdr w0 wr X a n c q l) ∧ Hid (w.grownBy wr (some X)) ∧ Hid (OwnG ivV 3 1 wr w.heap.size (.slice aK j cK) j K)) (fun cv _ _ => T - (match cv with | .slice _ l _ => l | _ => 0))
  case atStart => exact ⟨0, q1, 0, 0, none, 0, [], [], Nat.zero_le _, Nat.zero_le _, rfl, rfl, ⟨rfl, fun k hk => by cases hk⟩, rfl, fun R _ => rfl, fun K' r h1 h2 h3 => ⟨K', rfl, h3, Or.inr (Or.inl rfl)⟩, fun h => absurd rfl h, HR1.out, HG1.out, OwnG.none _ _ _ _ _⟩
  case round =>
    obtain ⟨j, q, ρ, z, aK, cK, K, E, hj, hρ, rfl, rfl, HK, HE, HS, HC, HZ, HR, HG, HO⟩ := hrel
    have hT6 := HT6.out
    by_cases hlt : j < T
    · have HU2 := Lib.hid (rdUpTo HR.out 2 2 ((T : Int) - (j : Int)) rfl (by omega) (by omega))
      have HIS := Lib.hid (fun (K' r : List Int) (h1 : K'.length ≤ 65536) (h2 : Bd16 K') (e : l.drop p = cntB K' ++ r) => HC.out.next (by rw [HK.out.1]; exact hlt) (HNX.out K' r h1 h2 e).1 h2 (HNX.out K' r h1 h2 e).2)
      have hKT : Hid (K.length < T) := by rw [Hid, HK.out.1]; exact hlt
      go_wp2_with (first
        | (go_at_call 51; (with_reducible refine HU2.out.mono ?_); rintro e w2 ⟨hg, ⟨v, q2, rfl, hq, len, rfl, hx, hx4, hL⟩ | ⟨rfl, hF⟩⟩; rotate_left; exact ⟨rfl, grown_trans HG.out hg, Or.inr ⟨rfl, fun K' r h1 h2 e => cnt_bad1 HK.out.1 hF (HIS.out K' r h1 h2 e)⟩⟩; have HG2 := Lib.hid (grown_trans HG.out hg); have HR2 := Lib.hid hq; have hlen : (len : Int) ≤ (T : Int) - (j : Int) := hx; have HLN := Lib.hid (lt16b hx4); have HL2 := Lib.hid hL; have HO2 := Lib.hid ((HR.out.box.off (by decide)).row HO.out hg); have HN2 := Lib.hid (rdNumber hq 2 2 rfl (by omega) (by omega)); clear hg hq hx hL hx4)
        | (go_at_call 23; (with_reducible refine HN2.out.mono ?_); rintro e w3 ⟨hg, ⟨v, q3, rfl, hq, x, rfl, hx4, hL⟩ | ⟨rfl, hF⟩⟩; rotate_left; exact ⟨rfl, grown_trans HG2.out hg, Or.inr ⟨rfl, fun K' r h1 h2 e => cnt_bad2 HLN.out HL2.out hF (HIS.out K' r h1 h2 e)⟩⟩; have HG3 := Lib.hid (grown_trans HG2.out hg); have HR3 := Lib.hid hq; have HXN := Lib.hid (lt16b hx4); have HL3 := Lib.hid hL; have HO3 := Lib.hid ((HR2.out.box.off (by decide)).row HO2.out hg); have HI3 := Lib.hid (fun (K' r : List Int) (h1 : K'.length ≤ 65536) (h2 : Bd16 K') (e : l.drop p = cntB K' ++ r) => HC.out.is hKT.out (HNX.out K' r h1 h2 e).1 h2 (HNX.out K' r h1 h2 e).2 HLN.out HXN.out HL2.out HL3.out); clear hg hq hL hx4; rcases cnt_cases len ρ z x (fun h => cnt_last HO3.out (HZ.out h).1 (HZ.out h).2) with hz | ⟨h0, h1, h2, rfl, ⟨m, b, off, hm, hmj, rfl, hc⟩⟩ | ⟨h0, rfl⟩ | ⟨h0, h1, rfl⟩ | ⟨h0, h1, h2, h3, ⟨m, b, off, hm, hmj, rfl, hc⟩⟩)
        | (go_at_call 11; (try rw [cb0 h1, cb5 h2]); (try rw [cbx h3]); (try simp only [Bool.or_false, Bool.or_true]); first
          | ((with_reducible refine (HNs.out _).mono ?_); rintro e w4 ⟨rfl, hw⟩; obtain rfl := hw.symm; exact ⟨rfl, HG3.out, Or.inr ⟨rfl, fun K' r k1 k2 e => cnt_bad3 (by omega) (HI3.out K' r k1 k2 e)⟩⟩)
          | ((with_reducible refine (HYs.out _).mono ?_); rintro e w4 ⟨rfl, hw⟩; obtain rfl := hw.symm; have HOK := Lib.hid h0)))
      all_goals
        have hj6 : j ≤ 65536 := by omega
        have HS2 : Hid (∀ R, runsB (K ++ (List.replicate len (x : Int) ++ R)) = E ++ runsB (List.replicate len (x : Int) ++ R)) := fun R => HS.out _ (by
          first
            | exact Or.inr (Or.inl rfl)
            | exact Or.inr (Or.inr (Or.inl rfl))
            | exact Or.inr (Or.inr (Or.inr ⟨(x : Int), rep_head HOK.out R, fun e => h3 e.symm⟩)))
        have HC2 : Hid (Lft l q1 q3 T len (x : Int) (K ++ List.replicate len (x : Int))) := fun K' r k1 k2 e => by
          obtain ⟨R', a1, a2, a3, a4, a5, a6⟩ := HC.out.is hKT.out k1 k2 e HLN.out HXN.out HL2.out HL3.out
          exact ⟨R', by rw [a1, List.append_assoc], a6, a5⟩
        have hlen6 := HLN.out
        go_loopw [4, 44] (fun cv iv wq => ∃ (t : Nat) (aK : Option Addr) (cK : Nat), t ≤ len ∧ cv = .slice aK (j + t) cK ∧ iv = .int .i64 t ∧ Hid (Rdr w0 wq X a n c q3 l) ∧ Hid (w.grownBy wq (some X)) ∧ Hid (OwnG ivV 3 1 wq w.heap.size (.slice aK (j + t) cK) (j + t) (K ++ List.replicate t (x : Int)))) (fun _ iv _ => len - (intOf iv).toNat)
        case atStart => exact ⟨0, _, cK, Nat.zero_le _, rfl, rfl, HR3.out, HG3.out, by rw [List.replicate_zero, List.append_nil]; exact HO3.out⟩
        case round =>
          clear HR HR2 HR3 HG HG2 HG3 HO HO2 HO3
          obtain ⟨t, aK, cK, ht, rfl, rfl, HR, HG, HO⟩ := hrel
          have hRX := HR.out.box.lt
          have hsz := HG.out.size
          by_cases hlt2 : t < len
          · obtain ⟨S, hS⟩ := named (j + t)
            rw [hS.out] at HO ⊢
            have hSb : S ≤ 200000 := by rw [← hS.out]; omega
            have HOA := Lib.hid (OwnG.kept' HO.out (grown_below ((Below.refl _ wr).alloc (Nat.le_refl _) (.cells #[.int .i64 x] 3)) none) (fun k hk e => by cases e))
            have HRA := Lib.hid (HR.out.later ((Below.refl _ wr).alloc (Nat.le_refl _) (.cells #[.int .i64 x] 3)))
            have HGA := Lib.hid (grown_trans HG.out (grown_below ((Below.refl _ wr).alloc (Nat.le_refl _) (.cells #[.int .i64 x] 3)) _))
            have HRD := Lib.hid (one_reads (cv := ivV) wr (x : Int) #[.int .i64 x] 3 rfl)
            go_wp2_with (at_builtin; refine append_gg iv_rowed rfl _ _ rfl w.heap.size _ S _ rfl HOA.out (some ⟨wr.heap.size, 0, none⟩) 1 1 [(x : Int)] rfl (fun e => by cases e) HRD.out (by omega) (by rw [World.size_alloc]; omega) ?_; intro a6 c6 w6 hO hB6 hg6; have HO6 := Lib.hid hO; have HR6 := Lib.hid (HRA.out.kept hg6 (row_ne HRA.out.box HOA.out (by decide)) (fun k hk => Nat.le_trans hw0 (HOA.out.1.lt k hk).1)); have HG6 := Lib.hid (grown_row HGA.out hg6 (fun k hk => (HOA.out.1.lt k hk).1)); clear hO hB6 hg6)
            go_roundw
            case rel =>
              refine ⟨t + 1, a6, c6, by omega, by rw [← hS.out, Nat.add_assoc], by go_num, HR6.out, HG6.out, ?_⟩
              rw [← Nat.add_assoc, hS.out, List.replicate_succ', ← List.append_assoc]
              exact HO6.out
            case measure => simp [intOf]; omega
          · obtain rfl : len = t := by omega
            go_wp2
            go_roundw
            case rel =>
              refine ⟨j + len, q3, len, (x : Int), aK, cK, K ++ List.replicate len (x : Int), E ++ numB false 2 len ++ numB false 2 x, by omega, by omega, rfl, rfl, ⟨?_, ?_⟩, ?_, ?_, HC2.out, ?_, HR.out, HG.out, HO.out⟩
              · rw [List.length_append, List.length_replicate, HK.out.1]
              · intro k hk
                rcases List.mem_append.1 hk with hk | hk
                · exact HK.out.2 k hk
                · obtain ⟨_, rfl⟩ := List.mem_replicate.1 hk
                  have := HXN.out
                  omega
              · show _ = _
                rw [HE.out, HL2.out, HL3.out]
                simp only [List.append_assoc]
              · intro R hR
                rw [List.append_assoc, HS2.out R, run_made HOK.out (by omega) (nx_made hR HOK.out), Int.toNat_natCast]
                simp only [List.append_assoc]
              · intro _
                have h0 := HOK.out
                refine ⟨by omega, ?_⟩
                rw [List.getElem?_append_right (by rw [HK.out.1]; omega), HK.out.1, List.getElem?_replicate, if_pos (by omega)]
            case measure =>
              have h0 := HOK.out
              show T - (j + len) < T - j
              omega
    · obtain rfl : j = T := by omega
      go_wp2
      go_ret
      have hK0 := HK.out.1
      have he : l.drop p = cntB K ++ l.drop q := by
        have h1 := HS.out [] (Or.inl rfl)
        have e0 : runsB ([] : List Int) = [] := rfl
        rw [List.append_nil, e0, List.append_nil] at h1
        unfold cntB
        rw [HL1.out, HE.out, h1, hK0, List.append_assoc]
      exact ⟨HG.out, Or.inl ⟨_, q, rfl, HR.out, aK, j, cK, K, rfl, ⟨HO.out, by omega⟩, by omega, HK.out.2, he⟩⟩
end Go.Proofs.YtdffgnpldapciaaGreatDoor
namespace Go.Proofs.YtdffgnpldapciaaGreatDoor
open Go.RowKit
set_option linter.unusedVariables false

/-- What stands behind each part of a meta's bytes. -/
def mR8 (M : MM) (r : List Int) : List Int := M.B.flatMap bmB ++ (cntB M.K ++ r)
def mR7 (M : MM) (r : List Int) : List Int := numB false 1 M.B.length ++ mR8 M r
def mR6 (M : MM) (r : List Int) : List Int := M.S.flatMap shB ++ mR7 M r
def mR5 (M : MM) (r : List Int) : List Int := numB false 1 M.S.length ++ mR6 M r
def mR4 (M : MM) (r : List Int) : List Int := tblB M.T ++ mR5 M r
def mR3 (M : MM) (r : List Int) : List Int := textB M.bk ++ mR4 M r
def mR2 (M : MM) (r : List Int) : List Int := numB false 2 M.s.toNat ++ mR3 M r
theorem mR1 (M : MM) (r : List Int) : encM M ++ r = numB false 1 M.c.toNat ++ mR2 M r := by
  unfold encM mR2 mR3 mR4 mR5 mR6 mR7 mR8
  simp only [List.append_assoc]
/-- A right meta of which these bytes tell. -/
def Mt1 (l : List Int) (p : Nat) (M : MM) (r : List Int) : Prop := (RightMt M ∧ EnM M) ∧ l.drop p = encM M ++ r
theorem Mt1.c {l : List Int} {p q C : Nat} {M : MM} {r : List Int} (h : Mt1 l p M r) (hC : C < 256) (e : l.drop p = numB false 1 C ++ l.drop q) : M.c = (C : Int) ∧ l.drop q = mR2 M r := by
  have h1 := h.2
  rw [mR1] at h1
  have hc := h.1.1.c
  obtain ⟨k1, k2⟩ := num_tells1 hC (by omega) (e.symm.trans h1)
  exact ⟨by omega, k2⟩
theorem Mt1.s {l : List Int} {p q1 q Z : Nat} {M : MM} {r : List Int} (h : Mt1 l p M r) (h1 : l.drop q1 = mR2 M r) (hZ : Z < 65536) (e : l.drop q1 = numB false 2 Z ++ l.drop q) : M.s = (Z : Int) ∧ l.drop q = mR3 M r := by
  have hs := h.1.1.sml.s
  obtain ⟨k1, k2⟩ := num_tells2 hZ (by omega) (e.symm.trans h1)
  exact ⟨by omega, k2⟩
theorem Mt1.bk {l : List Int} {p q1 q : Nat} {bk : ByteArray} {M : MM} {r : List Int} (h : Mt1 l p M r) (h1 : l.drop q1 = mR3 M r) (hb : bk.size ≤ 65535) (e : l.drop q1 = textB bk ++ l.drop q) : M.bk = bk ∧ l.drop q = mR4 M r := by
  have hs := h.1.1.sml.bk
  obtain ⟨k1, k2⟩ := text_tells hb (by omega) (e.symm.trans h1)
  exact ⟨k1.symm, k2⟩
theorem Mt1.T {l : List Int} {p q1 q C Z : Nat} {T : Tb} {M : MM} {r : List Int} (h : Mt1 l p M r) (h1 : l.drop q1 = mR4 M r) (hc : M.c = (C : Int)) (hT : rightT T ((Z : Int) / 2 ^ C) C) (ho : EnT T) (e : l.drop q1 = tblB T ++ l.drop q) : M.T = T ∧ l.drop q = mR5 M r := by
  have hs := rightT_wide h.1.1.T
  rw [hc] at hs
  obtain ⟨k1, k2⟩ := tab_tells (rightT_wide hT) hs ho h.1.2.1 (e.symm.trans h1)
  exact ⟨k1.symm, k2⟩
theorem Mt1.Tr {l : List Int} {p C Z : Nat} {M : MM} {r : List Int} (h : Mt1 l p M r) (hc : M.c = (C : Int)) (hs : M.s = (Z : Int)) : rightT M.T ((Z : Int) / 2 ^ C) C := by
  have h1 := h.1.1.T
  rwa [hc, hs, Int.toNat_natCast] at h1
theorem Mt1.nS {l : List Int} {p q1 q N : Nat} {M : MM} {r : List Int} (h : Mt1 l p M r) (h1 : l.drop q1 = mR5 M r) (hN : N < 256) (e : l.drop q1 = numB false 1 N ++ l.drop q) : M.S.length = N ∧ l.drop q = mR6 M r := by
  have hs := h.1.1.nS
  obtain ⟨k1, k2⟩ := num_tells1 hN (by omega) (e.symm.trans h1)
  exact ⟨k1.symm, k2⟩
theorem Mt1.shRd {l : List Int} {p C : Nat} {M : MM} {r : List Int} (h : Mt1 l p M r) (hc : M.c = (C : Int)) : ∀ d ∈ M.S, ShRd C d := fun d hd => by
  obtain ⟨i, hi⟩ := List.getElem?_of_mem hd
  obtain ⟨q1, _, q3, q4⟩ := h.1.1.S i d hi
  obtain ⟨k1, k2, k3⟩ := h.1.1.sml.S d hd
  rw [hc, Int.toNat_natCast] at q4
  exact ⟨by omega, by omega, q4, h.1.2.2 d hd⟩
theorem ShRd.t {C : Nat} {d : ShM} (h : ShRd C d) : ShT C d := ⟨h.1, h.2.1, rightT_wide h.2.2.1, h.2.2.2⟩
theorem Mt1.S {l : List Int} {p q1 q C : Nat} {M : MM} {r : List Int} {D : List ShM} (h : Mt1 l p M r) (hc : M.c = (C : Int)) (h1 : l.drop q1 = mR6 M r) (hD : ∀ d ∈ D, ShRd C d) (e : l.drop q1 = D.flatMap shB ++ l.drop q) :
    (D.length < M.S.length → ∃ x r', ShRd C x ∧ l.drop q = shB x ++ r') ∧ (D.length = M.S.length → M.S = D ∧ l.drop q = mR7 M r) := by
  have e2 := e.symm.trans h1
  unfold mR6 at e2
  have hS := h.shRd hc
  refine ⟨fun hj => ?_, fun hj => ?_⟩
  · obtain ⟨x, r', hx, hm, hr⟩ := flat_next shB (ShT C) sh_tells (fun d hd => (hD d hd).t) (fun d hd => (hS d hd).t) hj e2
    exact ⟨x, r', hS x hm, hr⟩
  · obtain ⟨k1, k2⟩ := flat_tells shB (ShT C) sh_tells D M.S _ _ hj (fun d hd => (hD d hd).t) (fun d hd => (hS d hd).t) e2
    exact ⟨k1.symm, k2⟩
theorem Mt1.nB {l : List Int} {p q1 q N : Nat} {M : MM} {r : List Int} (h : Mt1 l p M r) (h1 : l.drop q1 = mR7 M r) (hN : N < 256) (e : l.drop q1 = numB false 1 N ++ l.drop q) : M.B.length = N ∧ l.drop q = mR8 M r := by
  have hs := h.1.1.nB
  obtain ⟨k1, k2⟩ := num_tells1 hN (by omega) (e.symm.trans h1)
  exact ⟨k1.symm, k2⟩
theorem Mt1.B {l : List Int} {p q1 q : Nat} {M : MM} {r : List Int} {D : List BmM} (h : Mt1 l p M r) (h1 : l.drop q1 = mR8 M r) (hD : ∀ d ∈ D, BmT d) (e : l.drop q1 = D.flatMap bmB ++ l.drop q) :
    (D.length < M.B.length → ∃ x r', BmT x ∧ l.drop q = bmB x ++ r') ∧ (D.length = M.B.length → M.B = D ∧ l.drop q = cntB M.K ++ r) := by
  have e2 := e.symm.trans h1
  unfold mR8 at e2
  have hB := h.1.1.sml.bmT
  refine ⟨fun hj => ?_, fun hj => ?_⟩
  · obtain ⟨x, r', hx, hm, hr⟩ := flat_next bmB BmT bm_tells hD hB hj e2
    exact ⟨x, r', hx, hr⟩
  · obtain ⟨k1, k2⟩ := flat_tells bmB BmT bm_tells D M.B _ _ hj hD hB e2
    exact ⟨k1.symm, k2⟩
theorem Mt1.K {l : List Int} {p q1 q : Nat} {M : MM} {r K : List Int} (h : Mt1 l p M r) (h1 : l.drop q1 = cntB M.K ++ r) (hK : K.length ≤ 65536) (hb : ∀ k ∈ K, 0 ≤ k ∧ k ≤ 65535) (e : l.drop q1 = cntB K ++ l.drop q) : M.K = K ∧ l.drop q = r := by
  obtain ⟨k1, k2⟩ := cnt_tells hK h.1.1.nK hb h.1.1.K (e.symm.trans h1)
  exact ⟨k1.symm, k2⟩
theorem lt1b {v : Nat} (h : v < 256 ^ 1) : v < 256 := by
  have e : (256 : Nat) ^ 1 = 256 := by decide
  omega
theorem mbk (M : MM) (h : RightMt M) : M.bk.size ≤ 65535 := by
  have := h.sml.bk
  omega
theorem sh_mok {C : Nat} {nm : ByteArray} {sz : Int} {T : Tb} (h : ShRd C (nm, sz, T)) : ShMok (nm, sz, T) := by
  obtain ⟨h1, h2, _⟩ := h
  dsimp only at h1 h2
  exact ⟨by show I64 sz; unfold I64; omega, by show nm.size ≤ 9223372036854775807; omega⟩
theorem bm_ok14 {nm : ByteArray} {on : Bool} {L : List Sp} (h : BmT (nm, on, L)) : nm.size ≤ 9223372036854775807 := by
  have h1 : nm.size ≤ 65535 := h.1
  omega
/-- Whatever blocks. -/
def Any : Nat → Prop := fun _ => True
theorem MetaN.pushS {W W' : World} {base : Nat} {F G : Nat → Prop} {a0 sa ma ca a' : Option Addr} {n0 c0 sn sc mn mc cn cc c' : Nat} {C Z : Int} {bk : ByteArray} {T : Tb} {S : List ShM} {B : List BmM} {K : List Int} {ds : List Sh} {d : Sh}
    (h : MetaN W base F G ⟨a0, n0, c0, sa, sn, sc, ma, mn, mc, ca, cn, cc⟩ ⟨C, Z, bk, T, S, B, K⟩) (hO : OwnG shV 54 3 W base (.slice sa sn sc) sn ds) (hT : ∀ d ∈ ds, TabF W base G d.2.2.1 d.2.2.2.1 d.2.2.2.2.1 (shT d)) (hS : ds.map shM = S) (hn : sn < 1000)
    (hd : TabF W base G d.2.2.1 d.2.2.2.1 d.2.2.2.2.1 (shT d)) (hok : ShMok (shM d)) (hO' : OwnG shV 54 3 W' base (.slice a' (sn + 1) c') (sn + 1) (ds ++ [d])) (hg : W.grownBy W' (Value.slice sa sn sc).ownBlock) :
    MetaN W' base F G ⟨a0, n0, c0, a', sn + 1, c', ma, mn, mc, ca, cn, cc⟩ ⟨C, Z, bk, T, S ++ [shM d], B, K⟩ := by
  have o1 : Off W (Value.slice sa sn sc).ownBlock 88 := hO.off (by decide)
  have o2 : Off W (Value.slice sa sn sc).ownBlock 91 := hO.off (by decide)
  have hm := h.S
  obtain ⟨_, _, _, _, _, hall⟩ := hm
  refine ⟨h.hc, h.hs, h.hbk, o1.tabF o2 h.T hg, ⟨ds ++ [d], hO', fun e he => ?_, by rw [List.map_append, hS]; rfl, by show sn + 1 ≤ 1000; omega, fun e he => ?_⟩, h.B.off (hO.off (by decide)) (hO.off (by decide)) hg, h.K.off (hO.off (by decide)) hg⟩
  · rcases List.mem_append.1 he with he | he
    · exact o1.tabF o2 (hT e he) hg
    · rw [List.mem_singleton] at he
      subst he
      exact o1.tabF o2 hd hg
  · rcases List.mem_append.1 he with he | he
    · exact hall e he
    · rw [List.mem_singleton] at he
      subst he
      exact hok
theorem MetaN.pushB {W W' : World} {base : Nat} {F G : Nat → Prop} {a0 sa ma ca a' : Option Addr} {n0 c0 sn sc mn mc cn cc c' : Nat} {C Z : Int} {bk : ByteArray} {T : Tb} {S : List ShM} {B : List BmM} {K : List Int} {ds : List Bm} {d : Bm}
    (h : MetaN W base F G ⟨a0, n0, c0, sa, sn, sc, ma, mn, mc, ca, cn, cc⟩ ⟨C, Z, bk, T, S, B, K⟩) (hO : OwnG bmV 57 3 W base (.slice ma mn mc) mn ds) (hT : ∀ d ∈ ds, SpN W base d.2.2.1 d.2.2.2.1 d.2.2.2.2.1 (bmL d)) (hS : ds.map bmM = B) (hn : mn < 1000)
    (hd : SpN W base d.2.2.1 d.2.2.2.1 d.2.2.2.2.1 (bmL d)) (hok : d.1.size ≤ 9223372036854775807) (hO' : OwnG bmV 57 3 W' base (.slice a' (mn + 1) c') (mn + 1) (ds ++ [d])) (hg : W.grownBy W' (Value.slice ma mn mc).ownBlock) :
    MetaN W' base F G ⟨a0, n0, c0, sa, sn, sc, a', mn + 1, c', ca, cn, cc⟩ ⟨C, Z, bk, T, S, B ++ [bmM d], K⟩ := by
  have o1 : Off W (Value.slice ma mn mc).ownBlock 59 := hO.off (by decide)
  have hm := h.B
  obtain ⟨_, _, _, _, _, hall⟩ := hm
  refine ⟨h.hc, h.hs, h.hbk, (hO.off (by decide) : Off W _ 88).tabF (hO.off (by decide)) h.T hg, h.S.off (hO.off (by decide)) (hO.off (by decide)) (hO.off (by decide)) hg, ⟨ds ++ [d], hO', fun e he => ?_, by rw [List.map_append, hS]; rfl, by show mn + 1 ≤ 1000; omega, fun e he => ?_⟩, h.K.off (hO.off (by decide)) hg⟩
  · rcases List.mem_append.1 he with he | he
    · exact (hT e he).off o1 hg
    · rw [List.mem_singleton] at he
      subst he
      exact hd.off o1 hg
  · rcases List.mem_append.1 he with he | he
    · exact hall e he
    · rw [List.mem_singleton] at he
      subst he
      exact hok
theorem Blk.off6r {w : World} {Y : Nat} {cs : Array Value} (h : Blk w Y 44 cs) : Off6 w (some Y) := ⟨h.off (by decide), h.off (by decide), h.off (by decide), h.off (by decide), h.off (by decide), h.off (by decide)⟩
theorem MetaN.setK {W : World} {base : Nat} {F G : Nat → Prop} {a0 sa ma ca ca' : Option Addr} {n0 c0 sn sc mn mc cn cc cn' cc' : Nat} {C Z : Int} {bk : ByteArray} {T : Tb} {S : List ShM} {B : List BmM} {K K' : List Int} (h : MetaN W base F G ⟨a0, n0, c0, sa, sn, sc, ma, mn, mc, ca, cn, cc⟩ ⟨C, Z, bk, T, S, B, K⟩) (hK : IntsN W base ca' cn' cc' K') : MetaN W base F G ⟨a0, n0, c0, sa, sn, sc, ma, mn, mc, ca', cn', cc'⟩ ⟨C, Z, bk, T, S, B, K'⟩ := ⟨h.hc, h.hs, h.hbk, h.T, h.S, h.B, hK⟩
theorem MetaN.start {W : World} {base base' : Nat} {a : Option Addr} {l c C Z : Nat} {bk : ByteArray} {T : Tb} (hT : TabN W base' a l c T) (hb : base ≤ base') (hC : C < 256) (hZ : Z < 65536) (hk : bk.size ≤ 65535) :
    MetaN W base Any Any ⟨a, l, c, none, 0, 0, none, 0, 0, none, 0, 0⟩ ⟨C, Z, bk, T, [], [], []⟩ :=
  ⟨by show I64 (C : Int); unfold I64; omega, by show I64 (Z : Int); unfold I64; omega, by show bk.size ≤ 9223372036854775807; omega, hT.f.mono hb (fun k _ _ => trivial), ⟨[], OwnG.none _ _ _ _ _, fun d hd => (by cases hd), rfl, Nat.zero_le _, fun d hd => (by cases hd)⟩, ⟨[], OwnG.none _ _ _ _ _, fun d hd => (by cases hd), rfl, Nat.zero_le _, fun d hd => (by cases hd)⟩, ⟨OwnG.none _ _ _ _ _, Nat.zero_le _⟩⟩
set_option maxRecDepth 100000 in
set_option maxHeartbeats 6400000 in
theorem rdMeta {w0 w : World} {X : Nat} {a : Option Addr} {n c p : Nat} {l : List Int} (h : Rdr w0 w X a n c p l) (hW : Wid w0) :
    Calls Tryz.prog 12 #[.pointer (some ⟨X, 0, none⟩)] w (RdQ w0 X a n c l (fun v p' w' => ∃ (x : Mt) (M : MM), v = .agg (mtA M x) ∧ MetaN w' w.heap.size Any Any x M ∧ EnM M ∧ l.drop p = encM M ++ l.drop p' ∧ ∀ M' r, Mt1 l p M' r → M' = M ∧ l.drop p' = r) (∀ (M : MM) (r : List Int), ¬ Mt1 l p M r) w) := by
  have HR := Lib.hid h
  have HWD := Lib.hid hW
  have hXlt := h.box.lt
  have hw0 : w0.heap.size ≤ w.heap.size := h.b.size
  obtain ⟨hn, hll, hbb⟩ := h.size
  have HZ0 := Lib.hid (Blk.new w 31 #[.int .i64 0, .int .i64 0, .string ⟨#[]⟩, .slice none 0 0, .slice none 0 0, .slice none 0 0, .slice none 0 0])
  have HB0 := Lib.hid ((Below.refl _ w).alloc (Nat.le_refl _) (.cells #[.int .i64 0, .int .i64 0, .string ⟨#[]⟩, .slice none 0 0, .slice none 0 0, .slice none 0 0, .slice none 0 0] 31))
  have HG0 := Lib.hid (grown_below ((Below.refl _ w).alloc (Nat.le_refl _) (.cells #[.int .i64 0, .int .i64 0, .string ⟨#[]⟩, .slice none 0 0, .slice none 0 0, .slice none 0 0, .slice none 0 0] 31)) (some X))
  have HN1 := Lib.hid (rdNumber (h.later ((Below.refl _ w).alloc (Nat.le_refl _) (.cells #[.int .i64 0, .int .i64 0, .string ⟨#[]⟩, .slice none 0 0, .slice none 0 0, .slice none 0 0, .slice none 0 0] 31))) 1 1 rfl (by omega) (by omega))
  clear h hW hll hbb
  go_enter Tryz.func12, Tryz.ntmps12
  go_wp2_with (first
    | (go_at_call 23; (with_reducible refine HN1.out.mono ?_); rintro e w1 ⟨hg, ⟨v, q1, rfl, hq, C, rfl, hx, hL⟩ | ⟨rfl, hF⟩⟩; rotate_left; exact ⟨rfl, grown_trans HG0.out hg, Or.inr ⟨rfl, fun M r hM => hF _ _ (hM.2.trans (mR1 M r))⟩⟩; have HG1 := Lib.hid (grown_trans HG0.out hg); have HR1 := Lib.hid hq; have hC : C < 256 := lt1b hx; have HM1 := Lib.hid (fun M r (hM : Mt1 l p M r) => hM.c hC hL); have HZ1 := Lib.hid (HZ0.out.kept hg (fun e => by cases e; omega)); have HL1 := Lib.hid hL; have HN2 := Lib.hid (rdNumber hq 2 2 rfl (by omega) (by omega)); clear hg hq hx hL HN1)
    | (go_at_call 23; (with_reducible refine HN2.out.mono ?_); rintro e w2 ⟨hg, ⟨v, q2, rfl, hq, Z, rfl, hx, hL⟩ | ⟨rfl, hF⟩⟩; rotate_left; exact ⟨rfl, grown_trans HG1.out hg, Or.inr ⟨rfl, fun M r hM => hF _ _ (HM1.out M r hM).2⟩⟩; have HG2 := Lib.hid (grown_trans HG1.out hg); have HR2 := Lib.hid hq; have hZ : Z < 65536 := lt16b hx; have HM2 := Lib.hid (fun M r (hM : Mt1 l p M r) => hM.s (HM1.out M r hM).2 hZ hL); have HZ2 := Lib.hid (HZ1.out.kept hg (fun e => by cases e; omega)); have HL2 := Lib.hid hL; have HN3 := Lib.hid (rdText hq); clear hg hq hx hL HN2)
    | (go_at_call 24; (with_reducible refine HN3.out.mono ?_); rintro e w3 ⟨hg, ⟨v, q3, rfl, hq, bk, rfl, hx, hL⟩ | ⟨rfl, hF⟩⟩; rotate_left; exact ⟨rfl, grown_trans HG2.out hg, Or.inr ⟨rfl, fun M r hM => hF _ _ (mbk M hM.1.1) (HM2.out M r hM).2⟩⟩; have HG3 := Lib.hid (grown_trans HG2.out hg); have HR3 := Lib.hid hq; have hbk : bk.size ≤ 65535 := hx; have HM3 := Lib.hid (fun M r (hM : Mt1 l p M r) => hM.bk (HM2.out M r hM).2 hbk hL); have HZ3 := Lib.hid (HZ2.out.kept hg (fun e => by cases e; omega)); have HL3 := Lib.hid hL; clear hg hq hx hL HN3)
    | (go_at_call 25; have HA := Lib.hid ((Below.refl w3.heap.size w3).alloc (Nat.le_refl _) (.cells #[.int .i64 C, .int .i64 Z, .string bk, .slice none 0 0, .slice none 0 0, .slice none 0 0, .slice none 0 0] 31)); (with_reducible refine (rdTable (HR3.out.later HA.out) Z C hZ hC HWD.out).mono ?_); rintro e w4 ⟨hg, ⟨v, q4, rfl, hq, ta, tl, tc, T, rfl, hT, hr, hen, hL⟩ | ⟨rfl, hF⟩⟩; rotate_left; exact ⟨rfl, grown_trans (grown_trans HG3.out (grown_below HA.out _)) hg, Or.inr ⟨rfl, fun M r hM => hF _ _ (hM.Tr (HM1.out M r hM).1 (HM2.out M r hM).1) hM.1.2.1 (HM3.out M r hM).2⟩⟩; have hYX : X < w3.heap.size := HR3.out.box.lt; have hYw : w.heap.size < w3.heap.size := HZ3.out.lt; have HY4 := Lib.hid ((Blk.new w3 31 #[.int .i64 C, .int .i64 Z, .string bk, .slice none 0 0, .slice none 0 0, .slice none 0 0, .slice none 0 0]).kept hg (fun e => by cases e; omega)); have HZ4 := Lib.hid ((HZ3.out.later HA.out).kept hg (fun e => by cases e; omega)); have HG5 := Lib.hid (grown_set (grown_trans (grown_trans HG3.out (grown_below HA.out _)) hg) (Nat.le_of_lt hYw) 3 (.slice ta tl tc)); have HR5 := Lib.hid (hq.kept (grownBy_setCell4 _ w3.heap.size 3 (.slice ta tl tc)) (fun e => by cases e; omega) (fun k e => by cases e; omega)); have HZ5 := Lib.hid (Blk.other (B' := w3.heap.size) (i := 3) HZ4.out (Nat.ne_of_lt hYw) (.slice ta tl tc)); have HY5 := Lib.hid (HY4.out.set 3 (.slice ta tl tc)); have HMT := Lib.hid (fun M r (hM : Mt1 l p M r) => hM.T (HM3.out M r hM).2 (HM1.out M r hM).1 hr hen hL); have HMN := Lib.hid (MetaN.start (base := w.heap.size) (hT.typed HY4.out (by decide) (by decide) (grownBy_setCell4 _ _ 3 (.slice ta tl tc))) (Nat.le_trans (Nat.le_of_lt hYw) HA.out.size) hC hZ hbk); have HL4 := Lib.hid hL; have HEN := Lib.hid hen; have HN5 := Lib.hid (rdNumber HR5.out 1 1 rfl (by omega) (by omega)); obtain ⟨y0, y1, y2, y3, y4, y5, y6⟩ := cells7 HY4.out; have yf3 := HY4.out.free 3; clear hg hq hT hr hen hL HY4 HZ4)
    | (go_at_call 23; (with_reducible refine HN5.out.mono ?_); rintro e w6 ⟨hg, ⟨v, q5, rfl, hq, N, rfl, hx, hL⟩ | ⟨rfl, hF⟩⟩; rotate_left; exact ⟨rfl, grown_trans HG5.out hg, Or.inr ⟨rfl, fun M r hM => hF _ _ (HMT.out M r hM).2⟩⟩; have hN : N < 256 := lt1b hx; have HG6 := Lib.hid (grown_trans HG5.out hg); have HR6 := Lib.hid hq; have HMS := Lib.hid (fun M r (hM : Mt1 l p M r) => hM.nS (HMT.out M r hM).2 hN hL); have HZ6 := Lib.hid (HZ5.out.kept hg (fun e => by cases e; omega)); have HY6 := Lib.hid (HY5.out.kept hg (fun e => by cases e; omega)); have HMN6 := Lib.hid (HMN.out.off HR5.out.box.off6r hg); have HL5 := Lib.hid hL; clear y0 y1 y2 y3 y4 y5 y6 yf3 hg hq hx hL))
  go_loopw [20] (fun i wr => ∃ (j q : Nat) (sa : Option Addr) (sc : Nat) (D : List ShM), j ≤ N ∧ i = .int .i64 j ∧ Hid (D.length = j ∧ ∀ d ∈ D, ShRd C d) ∧ Hid (l.drop q5 = D.flatMap shB ++ l.drop q) ∧ Hid (Rdr w0 wr X a n c q l) ∧ Hid (w.grownBy wr (some X)) ∧ Hid (Blk wr w.heap.size 31 #[.int .i64 0, .int .i64 0, .string ⟨#[]⟩, .slice none 0 0, .slice none 0 0, .slice none 0 0, .slice none 0 0]) ∧ Hid (Blk wr w3.heap.size 31 #[.int .i64 C, .int .i64 Z, .string bk, .slice ta tl tc, .slice sa j sc, .slice none 0 0, .slice none 0 0]) ∧ Hid (MetaN wr w.heap.size Any Any ⟨ta, tl, tc, sa, j, sc, none, 0, 0, none, 0, 0⟩ ⟨C, Z, bk, T, D, [], []⟩)) (fun i _ => N - (intOf i).toNat)
  case atStart => exact ⟨0, q5, none, 0, [], Nat.zero_le _, rfl, ⟨rfl, fun d hd => by cases hd⟩, rfl, HR6.out, HG6.out, HZ6.out, HY6.out, HMN6.out⟩
  case round =>
    clear HR1 HR2 HR3 HR5 HR6 HG1 HG2 HG3 HG5 HG6 HZ1 HZ2 HZ3 HZ5 HZ6 HY5 HY6 HMN HMN6
    obtain ⟨j, q, sa, sc, D, hj, rfl, HD, HLq, HR, HG, HZ, HY, HMN⟩ := hrel
    by_cases hlt : j < N
    · have HRd := Lib.hid (HR.out.later (Below.refl _ _).drew)
      have HGd := Lib.hid (grown_trans HG.out (grown_below (Below.refl wr.heap.size wr).drew _))
      have HZd := Lib.hid (HZ.out.later (Below.refl _ _).drew)
      have HYd := Lib.hid (HY.out.later (Below.refl _ _).drew)
      have HMNd := Lib.hid (HMN.out.later (Below.refl _ _).drew)
      have HBAD : Hid ((∀ (d : ShM) (r : List Int), ShRd C d → l.drop q ≠ shB d ++ r) → ∀ M r, ¬ Mt1 l p M r) := fun hF M r hM => by
        obtain ⟨x, r', hx, hr⟩ := (hM.S (HM1.out M r hM).1 (HMS.out M r hM).2 HD.out.2 HLq.out).1 (by rw [HD.out.1, (HMS.out M r hM).1]; exact hlt)
        exact hF x r' hx hr
      obtain ⟨s0, s1, s2, s3, s4, s5, s6⟩ := cells7 HYd.out
      have HKd := Lib.hid s0
      have hi : (j : Int) < (N : Int) := by omega
      go_wp2
      refine wp_region_held_drew (S := fun W => W.cell? ⟨w3.heap.size, 0, none⟩ = some (.int .i64 C)) (by kernel_rfl) (by first | exact HKd.out | exact HK7.out | exact HKa.out | exact HK8.out | exact HK9.out) (fun hHeld => ?_)
      refine wpAnyH_take (i := 0) (oi := _) (v := ?vqs1) rfl (by kernel_rfl) (by kernel_rfl) (by kernel_rfl) (fun _ _ _ h => h) (Or.inl ⟨by rfl, ?hyqs1⟩) (by assumption) ?restqs1
      case hyqs1 => (intro wz hSw; (try dsimp only at hSw); go_simp; try with_reducible rfl)
      (try simp only [List.getElem_toArray, List.getElem_cons_zero, Act.put, List.setIfInBounds_toArray, List.set_cons_zero, List.set_cons_succ])
      refine wpAnyH_take (i := 2) (oi := _) (v := ?vqs2) rfl (by kernel_rfl) (by kernel_rfl) (by kernel_rfl) (fun _ _ _ h => h) (Or.inl ⟨by rfl, ?hyqs2⟩) (by assumption) ?restqs2
      case hyqs2 => (intro wz hSw; (try dsimp only at hSw); go_simp; try with_reducible rfl)
      (try simp only [List.getElem_toArray, List.getElem_cons_zero, List.getElem_cons_succ, Act.put, List.setIfInBounds_toArray, List.set_cons_zero, List.set_cons_succ])
      refine wpAnyH_take (i := 3) (oi := _) (v := ?vqs3) rfl (by kernel_rfl) (by kernel_rfl) (by kernel_rfl) (fun _ _ _ h => h) (Or.inl ⟨by rfl, ?hyqs3⟩) (by assumption) ?restqs3
      case hyqs3 => (intro wz hSw; (try dsimp only at hSw); go_simp; try with_reducible rfl)
      (try simp only [List.getElem_toArray, List.getElem_cons_zero, List.getElem_cons_succ, Act.put, List.setIfInBounds_toArray, List.set_cons_zero, List.set_cons_succ])
      refine wpAnyH_take (i := 4) (oi := _) (v := ?vqs4) rfl (by kernel_rfl) (by kernel_rfl) (by kernel_rfl) (fun _ _ _ h => h) (Or.inl ⟨by rfl, ?hyqs4⟩) (by assumption) ?restqs4
      case hyqs4 => (intro wz hSw; (try dsimp only at hSw); go_simp; try with_reducible rfl)
      (try simp only [List.getElem_toArray, List.getElem_cons_zero, List.getElem_cons_succ, Act.put, List.setIfInBounds_toArray, List.set_cons_zero, List.set_cons_succ])
      refine wpAnyH_ready (rs := [1, 5]) (by kernel_rfl) (by simp) ?_
      refine (AllReadyH.cons (o := _) rfl (fun K hK => ?_) (AllReadyH.cons (o := _) rfl (fun K hK => ?_) AllReadyH.nil))
      · rw [if_pos (by rfl)]
        go_simp
        refine hK.out _ _ (by first | exact HKd.out | exact HK7.out | exact HKa.out | exact HK8.out | exact HK9.out) (fun hHeld => ?_)
        clear hK K
        (try simp only [List.getElem_toArray, List.getElem_cons_zero, List.getElem_cons_succ, Act.put, List.setIfInBounds_toArray, List.set_cons_zero, List.set_cons_succ])
        refine wpAnyH_ready (rs := [5]) (by kernel_rfl) (by simp) ?_
        refine (AllReadyH.cons (o := _) rfl (fun K hK => ?_) AllReadyH.nil)
        rw [if_pos (by rfl)]
        go_simp
        (go_at_call 26; (with_reducible refine (rdShot HRd.out C hC HWD.out).mono ?_); rintro e w7 ⟨hg, ⟨v, q7, rfl, hq, nm, sz, aT, lT, cT, T1, rfl, hT, hsh, hL⟩ | ⟨rfl, hF⟩⟩; rotate_left; exact ⟨rfl, grown_trans HGd.out hg, Or.inr ⟨rfl, fun M r hM => HBAD.out hF M r hM⟩⟩; have HR7 := Lib.hid hq; have HG7 := Lib.hid (grown_trans HGd.out hg); have HZ7 := Lib.hid (HZd.out.kept hg (fun e => by cases e; omega)); have HY7 := Lib.hid (HYd.out.kept hg (fun e => by cases e; omega)); have HMN7 := Lib.hid (HMNd.out.off HRd.out.box.off6r hg); have HT7 := Lib.hid (hT.mono HGd.out.size); have HSH := Lib.hid hsh; have HL7 := Lib.hid hL; obtain ⟨z0, z1, z2, z3, z4, z5, z6⟩ := cells7 HY7.out; have HK7 := Lib.hid z0; clear hg hq hT hsh hL z0 z1 z2 z3 z5 z6)
        (try dsimp only)
        refine hK.out _ _ (by first | exact HKd.out | exact HK7.out | exact HKa.out | exact HK8.out | exact HK9.out) (fun hHeld => ?_)
        clear hK K
        (try simp only [List.getElem_toArray, List.getElem_cons_zero, List.getElem_cons_succ, Act.put, List.setIfInBounds_toArray, List.set_cons_zero, List.set_cons_succ])
        refine wpAnyH_ready (rs := [6]) (by kernel_rfl) (by simp) ?_
        refine (AllReadyH.cons (o := _) rfl (fun K hK => ?_) AllReadyH.nil)
        rw [if_pos (by rfl)]
        go_simp
        have HA := Lib.hid ((Below.refl w7.heap.size w7).alloc (Nat.le_refl _) (.cells #[.string nm, .int .i64 sz, .slice aT lT cT] 54))
        have HRa := Lib.hid (HR7.out.later HA.out)
        have HGa := Lib.hid (grown_trans HG7.out (grown_below HA.out _))
        have HZa := Lib.hid (HZ7.out.alloc (.cells #[.string nm, .int .i64 sz, .slice aT lT cT] 54))
        have HYa := Lib.hid (HY7.out.alloc (.cells #[.string nm, .int .i64 sz, .slice aT lT cT] 54))
        have HMNa := Lib.hid (HMN7.out.later HA.out)
        have HTa := Lib.hid (HT7.out.later HA.out)
        obtain ⟨v0, v1, v2, v3, v4, v5, v6⟩ := cells7 HYa.out
        have HKa := Lib.hid v0
        clear v0 v1 v2 v3 v5 v6
        refine hK.out _ _ (by first | exact HKd.out | exact HK7.out | exact HKa.out | exact HK8.out | exact HK9.out) (fun hHeld => ?_)
        clear hK K
        (try simp only [List.getElem_toArray, List.getElem_cons_zero, List.getElem_cons_succ, Act.put, List.setIfInBounds_toArray, List.set_cons_zero, List.set_cons_succ])
        refine wpAnyH_ready (rs := [7]) (by kernel_rfl) (by simp) ?_
        refine (AllReadyH.cons (o := _) rfl (fun K hK => ?_) AllReadyH.nil)
        rw [if_pos (by rfl)]
        obtain ⟨ds, hO, hTd, hS, hn, hok⟩ := HMNa.out.S
        dsimp only at hO hTd hS hn hok
        have HOa := Lib.hid hO
        refine wp_append_lg sh_rowed (.tmp 23) (.tmp 28) rfl w.heap.size _ j ds rfl HOa.out (some ⟨w7.heap.size, 0, none⟩) 1 1 [(nm, sz, aT, lT, cT, T1)] rfl (fun e => by cases e) (one_reads w7 (nm, sz, aT, lT, cT, T1) #[.string nm, .int .i64 sz, .slice aT lT cT] 54 rfl) (by omega) HGa.out.size ?_
        intro pa c8 w8 g1 g2 g3
        have HMN8 := Lib.hid (MetaN.pushS (d := (nm, sz, aT, lT, cT, T1)) HMNa.out HOa.out hTd hS (by omega) (HTa.out.f.mono (Nat.le_refl _) (fun k _ _ => trivial)) (sh_mok HSH.out) g1 g2)
        have HR8 := Lib.hid (HRa.out.kept g2 (row_ne HRa.out.box HOa.out (by decide)) (fun k hk => Nat.le_trans hw0 (HOa.out.1.lt k hk).1))
        have HG8 := Lib.hid (grown_row HGa.out g2 (fun k hk => (HOa.out.1.lt k hk).1))
        have HZ8 := Lib.hid (HZa.out.kept g2 (HZa.out.not_row (by decide) HOa.out))
        have HY8 := Lib.hid (HYa.out.kept g2 (HYa.out.not_row (by decide) HOa.out))
        obtain ⟨t0, t1, t2, t3, t4, t5, t6⟩ := cells7 HY8.out
        have HK8 := Lib.hid t0
        have tf := HY8.out.free 4
        clear g1 g2 g3 hO hTd hS hn hok t0 t1 t2 t3 t5 t6
        (try dsimp only)
        refine hK.out _ _ (by first | exact HKd.out | exact HK7.out | exact HKa.out | exact HK8.out | exact HK9.out) (fun hHeld => ?_)
        clear hK K
        (try simp only [List.getElem_toArray, List.getElem_cons_zero, List.getElem_cons_succ, Act.put, List.setIfInBounds_toArray, List.set_cons_zero, List.set_cons_succ])
        refine wpAnyH_take (i := 8) (oi := _) (v := ?vqs5) rfl (by kernel_rfl) (by kernel_rfl) (by kernel_rfl) (fun _ _ _ h => h) (Or.inl ⟨by rfl, ?hyqs5⟩) (by assumption) ?restqs5
        case hyqs5 => (intro wz hSw; (try dsimp only at hSw); go_simp; try with_reducible rfl)
        (try simp only [List.getElem_toArray, List.getElem_cons_zero, List.getElem_cons_succ, Act.put, List.setIfInBounds_toArray, List.set_cons_zero, List.set_cons_succ])
        refine wpAnyH_ready (rs := [9]) (by kernel_rfl) (by simp) ?_
        refine (AllReadyH.cons (o := _) rfl (fun K hK => ?_) AllReadyH.nil)
        rw [if_pos (by rfl)]
        go_simp
        have HY9 := Lib.hid (HY8.out.set 4 (.slice pa (j + 1) c8))
        have HK9 := Lib.hid (cells7 HY9.out).1
        refine hK.out _ _ (by first | exact HKd.out | exact HK7.out | exact HKa.out | exact HK8.out | exact HK9.out) (fun hHeld => ?_)
        clear hK K
        (try simp only [List.getElem_toArray, List.getElem_cons_zero, List.getElem_cons_succ, Act.put, List.setIfInBounds_toArray, List.set_cons_zero, List.set_cons_succ])
        refine wpAnyH_done (by kernel_rfl) ?_ _
        go_wp2
        go_roundw
        case rel =>
          refine ⟨j + 1, q7, pa, c8, D ++ [(nm, sz, T1)], by omega, by go_num, ⟨by rw [List.length_append, HD.out.1]; rfl, fun d hd => ?_⟩, ?_, HR8.out.kept (grownBy_setCell4 _ w3.heap.size 4 _) (fun e => by cases e; omega) (fun k e => by cases e; omega), grown_set HG8.out (by omega) 4 _, Blk.other HZ8.out (by omega) _, HY9.out, HMN8.out.box HY8.out 4 _⟩
          · rcases List.mem_append.1 hd with hd | hd
            · exact HD.out.2 d hd
            · rw [List.mem_singleton] at hd
              subst hd
              exact HSH.out
          · show _ = _
            rw [HLq.out, HL7.out, List.flatMap_append]
            simp only [List.flatMap_cons, List.flatMap_nil, List.append_nil, List.append_assoc]
        case measure => simp [intOf]; omega
      · rw [if_pos (by rfl)]
        go_simp
        (go_at_call 26; (with_reducible refine (rdShot HRd.out C hC HWD.out).mono ?_); rintro e w7 ⟨hg, ⟨v, q7, rfl, hq, nm, sz, aT, lT, cT, T1, rfl, hT, hsh, hL⟩ | ⟨rfl, hF⟩⟩; rotate_left; exact ⟨rfl, grown_trans HGd.out hg, Or.inr ⟨rfl, fun M r hM => HBAD.out hF M r hM⟩⟩; have HR7 := Lib.hid hq; have HG7 := Lib.hid (grown_trans HGd.out hg); have HZ7 := Lib.hid (HZd.out.kept hg (fun e => by cases e; omega)); have HY7 := Lib.hid (HYd.out.kept hg (fun e => by cases e; omega)); have HMN7 := Lib.hid (HMNd.out.off HRd.out.box.off6r hg); have HT7 := Lib.hid (hT.mono HGd.out.size); have HSH := Lib.hid hsh; have HL7 := Lib.hid hL; obtain ⟨z0, z1, z2, z3, z4, z5, z6⟩ := cells7 HY7.out; have HK7 := Lib.hid z0; clear hg hq hT hsh hL z0 z1 z2 z3 z5 z6)
        (try dsimp only)
        refine hK.out _ _ (by first | exact HKd.out | exact HK7.out | exact HKa.out | exact HK8.out | exact HK9.out) (fun hHeld => ?_)
        clear hK K
        (try simp only [List.getElem_toArray, List.getElem_cons_zero, List.getElem_cons_succ, Act.put, List.setIfInBounds_toArray, List.set_cons_zero, List.set_cons_succ])
        refine wpAnyH_ready (rs := [1, 6]) (by kernel_rfl) (by simp) ?_
        refine (AllReadyH.cons (o := _) rfl (fun K hK => ?_) (AllReadyH.cons (o := _) rfl (fun K hK => ?_) AllReadyH.nil))
        · rw [if_pos (by rfl)]
          go_simp
          refine hK.out _ _ (by first | exact HKd.out | exact HK7.out | exact HKa.out | exact HK8.out | exact HK9.out) (fun hHeld => ?_)
          clear hK K
          (try simp only [List.getElem_toArray, List.getElem_cons_zero, List.getElem_cons_succ, Act.put, List.setIfInBounds_toArray, List.set_cons_zero, List.set_cons_succ])
          refine wpAnyH_ready (rs := [6]) (by kernel_rfl) (by simp) ?_
          refine (AllReadyH.cons (o := _) rfl (fun K hK => ?_) AllReadyH.nil)
          rw [if_pos (by rfl)]
          go_simp
          have HA := Lib.hid ((Below.refl w7.heap.size w7).alloc (Nat.le_refl _) (.cells #[.string nm, .int .i64 sz, .slice aT lT cT] 54))
          have HRa := Lib.hid (HR7.out.later HA.out)
          have HGa := Lib.hid (grown_trans HG7.out (grown_below HA.out _))
          have HZa := Lib.hid (HZ7.out.alloc (.cells #[.string nm, .int .i64 sz, .slice aT lT cT] 54))
          have HYa := Lib.hid (HY7.out.alloc (.cells #[.string nm, .int .i64 sz, .slice aT lT cT] 54))
          have HMNa := Lib.hid (HMN7.out.later HA.out)
          have HTa := Lib.hid (HT7.out.later HA.out)
          obtain ⟨v0, v1, v2, v3, v4, v5, v6⟩ := cells7 HYa.out
          have HKa := Lib.hid v0
          clear v0 v1 v2 v3 v5 v6
          refine hK.out _ _ (by first | exact HKd.out | exact HK7.out | exact HKa.out | exact HK8.out | exact HK9.out) (fun hHeld => ?_)
          clear hK K
          (try simp only [List.getElem_toArray, List.getElem_cons_zero, List.getElem_cons_succ, Act.put, List.setIfInBounds_toArray, List.set_cons_zero, List.set_cons_succ])
          refine wpAnyH_ready (rs := [7]) (by kernel_rfl) (by simp) ?_
          refine (AllReadyH.cons (o := _) rfl (fun K hK => ?_) AllReadyH.nil)
          rw [if_pos (by rfl)]
          obtain ⟨ds, hO, hTd, hS, hn, hok⟩ := HMNa.out.S
          dsimp only at hO hTd hS hn hok
          have HOa := Lib.hid hO
          refine wp_append_lg sh_rowed (.tmp 23) (.tmp 28) rfl w.heap.size _ j ds rfl HOa.out (some ⟨w7.heap.size, 0, none⟩) 1 1 [(nm, sz, aT, lT, cT, T1)] rfl (fun e => by cases e) (one_reads w7 (nm, sz, aT, lT, cT, T1) #[.string nm, .int .i64 sz, .slice aT lT cT] 54 rfl) (by omega) HGa.out.size ?_
          intro pa c8 w8 g1 g2 g3
          have HMN8 := Lib.hid (MetaN.pushS (d := (nm, sz, aT, lT, cT, T1)) HMNa.out HOa.out hTd hS (by omega) (HTa.out.f.mono (Nat.le_refl _) (fun k _ _ => trivial)) (sh_mok HSH.out) g1 g2)
          have HR8 := Lib.hid (HRa.out.kept g2 (row_ne HRa.out.box HOa.out (by decide)) (fun k hk => Nat.le_trans hw0 (HOa.out.1.lt k hk).1))
          have HG8 := Lib.hid (grown_row HGa.out g2 (fun k hk => (HOa.out.1.lt k hk).1))
          have HZ8 := Lib.hid (HZa.out.kept g2 (HZa.out.not_row (by decide) HOa.out))
          have HY8 := Lib.hid (HYa.out.kept g2 (HYa.out.not_row (by decide) HOa.out))
          obtain ⟨t0, t1, t2, t3, t4, t5, t6⟩ := cells7 HY8.out
          have HK8 := Lib.hid t0
          have tf := HY8.out.free 4
          clear g1 g2 g3 hO hTd hS hn hok t0 t1 t2 t3 t5 t6
          (try dsimp only)
          refine hK.out _ _ (by first | exact HKd.out | exact HK7.out | exact HKa.out | exact HK8.out | exact HK9.out) (fun hHeld => ?_)
          clear hK K
          (try simp only [List.getElem_toArray, List.getElem_cons_zero, List.getElem_cons_succ, Act.put, List.setIfInBounds_toArray, List.set_cons_zero, List.set_cons_succ])
          refine wpAnyH_take (i := 8) (oi := _) (v := ?vqs6) rfl (by kernel_rfl) (by kernel_rfl) (by kernel_rfl) (fun _ _ _ h => h) (Or.inl ⟨by rfl, ?hyqs6⟩) (by assumption) ?restqs6
          case hyqs6 => (intro wz hSw; (try dsimp only at hSw); go_simp; try with_reducible rfl)
          (try simp only [List.getElem_toArray, List.getElem_cons_zero, List.getElem_cons_succ, Act.put, List.setIfInBounds_toArray, List.set_cons_zero, List.set_cons_succ])
          refine wpAnyH_ready (rs := [9]) (by kernel_rfl) (by simp) ?_
          refine (AllReadyH.cons (o := _) rfl (fun K hK => ?_) AllReadyH.nil)
          rw [if_pos (by rfl)]
          go_simp
          have HY9 := Lib.hid (HY8.out.set 4 (.slice pa (j + 1) c8))
          have HK9 := Lib.hid (cells7 HY9.out).1
          refine hK.out _ _ (by first | exact HKd.out | exact HK7.out | exact HKa.out | exact HK8.out | exact HK9.out) (fun hHeld => ?_)
          clear hK K
          (try simp only [List.getElem_toArray, List.getElem_cons_zero, List.getElem_cons_succ, Act.put, List.setIfInBounds_toArray, List.set_cons_zero, List.set_cons_succ])
          refine wpAnyH_done (by kernel_rfl) ?_ _
          go_wp2
          go_roundw
          case rel =>
            refine ⟨j + 1, q7, pa, c8, D ++ [(nm, sz, T1)], by omega, by go_num, ⟨by rw [List.length_append, HD.out.1]; rfl, fun d hd => ?_⟩, ?_, HR8.out.kept (grownBy_setCell4 _ w3.heap.size 4 _) (fun e => by cases e; omega) (fun k e => by cases e; omega), grown_set HG8.out (by omega) 4 _, Blk.other HZ8.out (by omega) _, HY9.out, HMN8.out.box HY8.out 4 _⟩
            · rcases List.mem_append.1 hd with hd | hd
              · exact HD.out.2 d hd
              · rw [List.mem_singleton] at hd
                subst hd
                exact HSH.out
            · show _ = _
              rw [HLq.out, HL7.out, List.flatMap_append]
              simp only [List.flatMap_cons, List.flatMap_nil, List.append_nil, List.append_assoc]
          case measure => simp [intOf]; omega
        · rw [if_pos (by rfl)]
          go_simp
          have HA := Lib.hid ((Below.refl w7.heap.size w7).alloc (Nat.le_refl _) (.cells #[.string nm, .int .i64 sz, .slice aT lT cT] 54))
          have HRa := Lib.hid (HR7.out.later HA.out)
          have HGa := Lib.hid (grown_trans HG7.out (grown_below HA.out _))
          have HZa := Lib.hid (HZ7.out.alloc (.cells #[.string nm, .int .i64 sz, .slice aT lT cT] 54))
          have HYa := Lib.hid (HY7.out.alloc (.cells #[.string nm, .int .i64 sz, .slice aT lT cT] 54))
          have HMNa := Lib.hid (HMN7.out.later HA.out)
          have HTa := Lib.hid (HT7.out.later HA.out)
          obtain ⟨v0, v1, v2, v3, v4, v5, v6⟩ := cells7 HYa.out
          have HKa := Lib.hid v0
          clear v0 v1 v2 v3 v5 v6
          refine hK.out _ _ (by first | exact HKd.out | exact HK7.out | exact HKa.out | exact HK8.out | exact HK9.out) (fun hHeld => ?_)
          clear hK K
          (try simp only [List.getElem_toArray, List.getElem_cons_zero, List.getElem_cons_succ, Act.put, List.setIfInBounds_toArray, List.set_cons_zero, List.set_cons_succ])
          refine wpAnyH_ready (rs := [1]) (by kernel_rfl) (by simp) ?_
          refine (AllReadyH.cons (o := _) rfl (fun K hK => ?_) AllReadyH.nil)
          rw [if_pos (by rfl)]
          go_simp
          refine hK.out _ _ (by first | exact HKd.out | exact HK7.out | exact HKa.out | exact HK8.out | exact HK9.out) (fun hHeld => ?_)
          clear hK K
          (try simp only [List.getElem_toArray, List.getElem_cons_zero, List.getElem_cons_succ, Act.put, List.setIfInBounds_toArray, List.set_cons_zero, List.set_cons_succ])
          refine wpAnyH_ready (rs := [7]) (by kernel_rfl) (by simp) ?_
          refine (AllReadyH.cons (o := _) rfl (fun K hK => ?_) AllReadyH.nil)
          rw [if_pos (by rfl)]
          obtain ⟨ds, hO, hTd, hS, hn, hok⟩ := HMNa.out.S
          dsimp only at hO hTd hS hn hok
          have HOa := Lib.hid hO
          refine wp_append_lg sh_rowed (.tmp 23) (.tmp 28) rfl w.heap.size _ j ds rfl HOa.out (some ⟨w7.heap.size, 0, none⟩) 1 1 [(nm, sz, aT, lT, cT, T1)] rfl (fun e => by cases e) (one_reads w7 (nm, sz, aT, lT, cT, T1) #[.string nm, .int .i64 sz, .slice aT lT cT] 54 rfl) (by omega) HGa.out.size ?_
          intro pa c8 w8 g1 g2 g3
          have HMN8 := Lib.hid (MetaN.pushS (d := (nm, sz, aT, lT, cT, T1)) HMNa.out HOa.out hTd hS (by omega) (HTa.out.f.mono (Nat.le_refl _) (fun k _ _ => trivial)) (sh_mok HSH.out) g1 g2)
          have HR8 := Lib.hid (HRa.out.kept g2 (row_ne HRa.out.box HOa.out (by decide)) (fun k hk => Nat.le_trans hw0 (HOa.out.1.lt k hk).1))
          have HG8 := Lib.hid (grown_row HGa.out g2 (fun k hk => (HOa.out.1.lt k hk).1))
          have HZ8 := Lib.hid (HZa.out.kept g2 (HZa.out.not_row (by decide) HOa.out))
          have HY8 := Lib.hid (HYa.out.kept g2 (HYa.out.not_row (by decide) HOa.out))
          obtain ⟨t0, t1, t2, t3, t4, t5, t6⟩ := cells7 HY8.out
          have HK8 := Lib.hid t0
          have tf := HY8.out.free 4
          clear g1 g2 g3 hO hTd hS hn hok t0 t1 t2 t3 t5 t6
          (try dsimp only)
          refine hK.out _ _ (by first | exact HKd.out | exact HK7.out | exact HKa.out | exact HK8.out | exact HK9.out) (fun hHeld => ?_)
          clear hK K
          (try simp only [List.getElem_toArray, List.getElem_cons_zero, List.getElem_cons_succ, Act.put, List.setIfInBounds_toArray, List.set_cons_zero, List.set_cons_succ])
          refine wpAnyH_take (i := 8) (oi := _) (v := ?vqs7) rfl (by kernel_rfl) (by kernel_rfl) (by kernel_rfl) (fun _ _ _ h => h) (Or.inl ⟨by rfl, ?hyqs7⟩) (by assumption) ?restqs7
          case hyqs7 => (intro wz hSw; (try dsimp only at hSw); go_simp; try with_reducible rfl)
          (try simp only [List.getElem_toArray, List.getElem_cons_zero, List.getElem_cons_succ, Act.put, List.setIfInBounds_toArray, List.set_cons_zero, List.set_cons_succ])
          refine wpAnyH_ready (rs := [9]) (by kernel_rfl) (by simp) ?_
          refine (AllReadyH.cons (o := _) rfl (fun K hK => ?_) AllReadyH.nil)
          rw [if_pos (by rfl)]
          go_simp
          have HY9 := Lib.hid (HY8.out.set 4 (.slice pa (j + 1) c8))
          have HK9 := Lib.hid (cells7 HY9.out).1
          refine hK.out _ _ (by first | exact HKd.out | exact HK7.out | exact HKa.out | exact HK8.out | exact HK9.out) (fun hHeld => ?_)
          clear hK K
          (try simp only [List.getElem_toArray, List.getElem_cons_zero, List.getElem_cons_succ, Act.put, List.setIfInBounds_toArray, List.set_cons_zero, List.set_cons_succ])
          refine wpAnyH_done (by kernel_rfl) ?_ _
          go_wp2
          go_roundw
          case rel =>
            refine ⟨j + 1, q7, pa, c8, D ++ [(nm, sz, T1)], by omega, by go_num, ⟨by rw [List.length_append, HD.out.1]; rfl, fun d hd => ?_⟩, ?_, HR8.out.kept (grownBy_setCell4 _ w3.heap.size 4 _) (fun e => by cases e; omega) (fun k e => by cases e; omega), grown_set HG8.out (by omega) 4 _, Blk.other HZ8.out (by omega) _, HY9.out, HMN8.out.box HY8.out 4 _⟩
            · rcases List.mem_append.1 hd with hd | hd
              · exact HD.out.2 d hd
              · rw [List.mem_singleton] at hd
                subst hd
                exact HSH.out
            · show _ = _
              rw [HLq.out, HL7.out, List.flatMap_append]
              simp only [List.flatMap_cons, List.flatMap_nil, List.append_nil, List.append_assoc]
          case measure => simp [intOf]; omega
    · obtain rfl : j = N := by omega
      have HM7 : Hid (∀ M r, Mt1 l p M r → M.S = D ∧ l.drop q = mR7 M r) := fun M r hM => (hM.S (HM1.out M r hM).1 (HMS.out M r hM).2 HD.out.2 HLq.out).2 (by rw [HD.out.1, (HMS.out M r hM).1])
      have HN7 := Lib.hid (rdNumber HR.out 1 1 rfl (by omega) (by omega))
      go_wp2_with (first
        | (go_at_call 23; (with_reducible refine HN7.out.mono ?_); rintro e w8 ⟨hg, ⟨v, q8, rfl, hq, N2, rfl, hx, hL⟩ | ⟨rfl, hF⟩⟩; rotate_left; exact ⟨rfl, grown_trans HG.out hg, Or.inr ⟨rfl, fun M r hM => hF _ _ (HM7.out M r hM).2⟩⟩; have hN2 : N2 < 256 := lt1b hx; have HG8 := Lib.hid (grown_trans HG.out hg); have HR8 := Lib.hid hq; have HMB := Lib.hid (fun M r (hM : Mt1 l p M r) => hM.nB (HM7.out M r hM).2 hN2 hL); have HZ8 := Lib.hid (HZ.out.kept hg (fun e => by cases e; omega)); have HY8 := Lib.hid (HY.out.kept hg (fun e => by cases e; omega)); have HMN8 := Lib.hid (HMN.out.off HR.out.box.off6r hg); have HL8 := Lib.hid hL; clear hg hq hx hL))
      go_loopw [34] (fun i wr => ∃ (i' q' : Nat) (ma : Option Addr) (mc : Nat) (E : List BmM), i' ≤ N2 ∧ i = .int .i64 i' ∧ Hid (E.length = i' ∧ ∀ d ∈ E, BmT d) ∧ Hid (l.drop q8 = E.flatMap bmB ++ l.drop q') ∧ Hid (Rdr w0 wr X a n c q' l) ∧ Hid (w.grownBy wr (some X)) ∧ Hid (Blk wr w.heap.size 31 #[.int .i64 0, .int .i64 0, .string ⟨#[]⟩, .slice none 0 0, .slice none 0 0, .slice none 0 0, .slice none 0 0]) ∧ Hid (Blk wr w3.heap.size 31 #[.int .i64 C, .int .i64 Z, .string bk, .slice ta tl tc, .slice sa j sc, .slice ma i' mc, .slice none 0 0]) ∧ Hid (MetaN wr w.heap.size Any Any ⟨ta, tl, tc, sa, j, sc, ma, i', mc, none, 0, 0⟩ ⟨C, Z, bk, T, D, E, []⟩)) (fun i _ => N2 - (intOf i).toNat)
      case atStart => exact ⟨0, q8, none, 0, [], Nat.zero_le _, rfl, ⟨rfl, fun d hd => by cases hd⟩, rfl, HR8.out, HG8.out, HZ8.out, HY8.out, HMN8.out⟩
      case round =>
        clear HR HR8 HG HG8 HZ HZ8 HY HY8 HMN HMN8 HN7
        obtain ⟨i, q', ma, mc, E, hi', rfl, HE, HLe, HR, HG, HZ, HY, HMN⟩ := hrel
        by_cases hlt2 : i < N2
        · have HRd := Lib.hid (HR.out.later (Below.refl _ _).drew)
          have HGd := Lib.hid (grown_trans HG.out (grown_below (Below.refl wr.heap.size wr).drew _))
          have HZd := Lib.hid (HZ.out.later (Below.refl _ _).drew)
          have HYd := Lib.hid (HY.out.later (Below.refl _ _).drew)
          have HMNd := Lib.hid (HMN.out.later (Below.refl _ _).drew)
          have HBAD : Hid ((∀ (d : BmM) (r : List Int), BmT d → l.drop q' ≠ bmB d ++ r) → ∀ M r, ¬ Mt1 l p M r) := fun hF M r hM => by
            obtain ⟨x, r', hx, hr⟩ := (hM.B (HMB.out M r hM).2 HE.out.2 HLe.out).1 (by rw [HE.out.1, (HMB.out M r hM).1]; exact hlt2)
            exact hF x r' hx hr
          obtain ⟨s0, s1, s2, s3, s4, s5, s6⟩ := cells7 HYd.out
          have hi : (i : Int) < (N2 : Int) := by omega
          go_wp2
          refine wp_region_held_drew (S := fun _ => True) (by kernel_rfl) (True.intro) (fun hHeld => ?_)
          refine wpAnyH_take (i := 0) (oi := _) (v := ?vqm1) rfl (by kernel_rfl) (by kernel_rfl) (by kernel_rfl) (fun _ _ _ h => h) (Or.inl ⟨by rfl, ?hyqm1⟩) (by assumption) ?restqm1
          case hyqm1 => (intro wz hSw; (try dsimp only at hSw); go_simp; try with_reducible rfl)
          (try simp only [List.getElem_toArray, List.getElem_cons_zero, Act.put, List.setIfInBounds_toArray, List.set_cons_zero, List.set_cons_succ])
          refine wpAnyH_take (i := 2) (oi := _) (v := ?vqm2) rfl (by kernel_rfl) (by kernel_rfl) (by kernel_rfl) (fun _ _ _ h => h) (Or.inl ⟨by rfl, ?hyqm2⟩) (by assumption) ?restqm2
          case hyqm2 => (intro wz hSw; (try dsimp only at hSw); go_simp; try with_reducible rfl)
          (try simp only [List.getElem_toArray, List.getElem_cons_zero, List.getElem_cons_succ, Act.put, List.setIfInBounds_toArray, List.set_cons_zero, List.set_cons_succ])
          refine wpAnyH_ready (rs := [1, 3]) (by kernel_rfl) (by simp) ?_
          refine (AllReadyH.cons (o := _) rfl (fun K hK => ?_) (AllReadyH.cons (o := _) rfl (fun K hK => ?_) AllReadyH.nil))
          · rw [if_pos (by rfl)]
            go_simp
            refine hK.out _ _ (True.intro) (fun hHeld => ?_)
            clear hK K
            (try simp only [List.getElem_toArray, List.getElem_cons_zero, List.getElem_cons_succ, Act.put, List.setIfInBounds_toArray, List.set_cons_zero, List.set_cons_succ])
            refine wpAnyH_ready (rs := [3]) (by kernel_rfl) (by simp) ?_
            refine (AllReadyH.cons (o := _) rfl (fun K hK => ?_) AllReadyH.nil)
            rw [if_pos (by rfl)]
            go_simp
            (go_at_call 27; (with_reducible refine (rdBitmap HRd.out).mono ?_); rintro e w9 ⟨hg, ⟨v, q9, rfl, hq, nm, on, aT, lT, cT, L1, rfl, hT, hsh, hL⟩ | ⟨rfl, hF⟩⟩; rotate_left; exact ⟨rfl, grown_trans HGd.out hg, Or.inr ⟨rfl, fun M r hM => HBAD.out hF M r hM⟩⟩; have HR7 := Lib.hid hq; have HG7 := Lib.hid (grown_trans HGd.out hg); have HZ7 := Lib.hid (HZd.out.kept hg (fun e => by cases e; omega)); have HY7 := Lib.hid (HYd.out.kept hg (fun e => by cases e; omega)); have HMN7 := Lib.hid (HMNd.out.off HRd.out.box.off6r hg); have HT7 := Lib.hid (SpN.mono hT HGd.out.size); have HBT := Lib.hid hsh; have HL9 := Lib.hid hL; obtain ⟨z0, z1, z2, z3, z4, z5, z6⟩ := cells7 HY7.out; clear hg hq hT hsh hL z0 z1 z2 z3 z4 z6)
            (try dsimp only)
            refine hK.out _ _ (True.intro) (fun hHeld => ?_)
            clear hK K
            (try simp only [List.getElem_toArray, List.getElem_cons_zero, List.getElem_cons_succ, Act.put, List.setIfInBounds_toArray, List.set_cons_zero, List.set_cons_succ])
            refine wpAnyH_ready (rs := [4]) (by kernel_rfl) (by simp) ?_
            refine (AllReadyH.cons (o := _) rfl (fun K hK => ?_) AllReadyH.nil)
            rw [if_pos (by rfl)]
            go_simp
            have HA := Lib.hid ((Below.refl w9.heap.size w9).alloc (Nat.le_refl _) (.cells #[.string nm, .bool on, .slice aT lT cT] 57))
            have HRa := Lib.hid (HR7.out.later HA.out)
            have HGa := Lib.hid (grown_trans HG7.out (grown_below HA.out _))
            have HZa := Lib.hid (HZ7.out.alloc (.cells #[.string nm, .bool on, .slice aT lT cT] 57))
            have HYa := Lib.hid (HY7.out.alloc (.cells #[.string nm, .bool on, .slice aT lT cT] 57))
            have HMNa := Lib.hid (HMN7.out.later HA.out)
            have HTa := Lib.hid (SpN.off HT7.out (Off.none _ _) (grown_below HA.out none))
            obtain ⟨v0, v1, v2, v3, v4, v5, v6⟩ := cells7 HYa.out
            clear v0 v1 v2 v3 v4 v6
            refine hK.out _ _ (True.intro) (fun hHeld => ?_)
            clear hK K
            (try simp only [List.getElem_toArray, List.getElem_cons_zero, List.getElem_cons_succ, Act.put, List.setIfInBounds_toArray, List.set_cons_zero, List.set_cons_succ])
            refine wpAnyH_ready (rs := [5]) (by kernel_rfl) (by simp) ?_
            refine (AllReadyH.cons (o := _) rfl (fun K hK => ?_) AllReadyH.nil)
            rw [if_pos (by rfl)]
            obtain ⟨ds, hO, hTd, hS, hn, hok⟩ := HMNa.out.B
            dsimp only at hO hTd hS hn hok
            have HOa := Lib.hid hO
            refine wp_append_lg bm_rowed (.tmp 37) (.tmp 40) rfl w.heap.size _ i ds rfl HOa.out (some ⟨w9.heap.size, 0, none⟩) 1 1 [(nm, on, aT, lT, cT, L1)] rfl (fun e => by cases e) (one_reads w9 (nm, on, aT, lT, cT, L1) #[.string nm, .bool on, .slice aT lT cT] 57 rfl) (by omega) HGa.out.size ?_
            intro pa c8 w10 g1 g2 g3
            have HMN8 := Lib.hid (MetaN.pushB (d := (nm, on, aT, lT, cT, L1)) HMNa.out HOa.out hTd hS (by omega) HTa.out (bm_ok14 HBT.out) g1 g2)
            have HR8 := Lib.hid (HRa.out.kept g2 (row_ne HRa.out.box HOa.out (by decide)) (fun k hk => Nat.le_trans hw0 (HOa.out.1.lt k hk).1))
            have HG8 := Lib.hid (grown_row HGa.out g2 (fun k hk => (HOa.out.1.lt k hk).1))
            have HZ8 := Lib.hid (HZa.out.kept g2 (HZa.out.not_row (by decide) HOa.out))
            have HY8 := Lib.hid (HYa.out.kept g2 (HYa.out.not_row (by decide) HOa.out))
            obtain ⟨t0, t1, t2, t3, t4, t5, t6⟩ := cells7 HY8.out
            have tf := HY8.out.free 5
            clear g1 g2 g3 hO hTd hS hn hok t0 t1 t2 t3 t4 t6
            (try dsimp only)
            refine hK.out _ _ (True.intro) (fun hHeld => ?_)
            clear hK K
            (try simp only [List.getElem_toArray, List.getElem_cons_zero, List.getElem_cons_succ, Act.put, List.setIfInBounds_toArray, List.set_cons_zero, List.set_cons_succ])
            refine wpAnyH_take (i := 6) (oi := _) (v := ?vqm3) rfl (by kernel_rfl) (by kernel_rfl) (by kernel_rfl) (fun _ _ _ h => h) (Or.inl ⟨by rfl, ?hyqm3⟩) (by assumption) ?restqm3
            case hyqm3 => (intro wz hSw; (try dsimp only at hSw); go_simp; try with_reducible rfl)
            (try simp only [List.getElem_toArray, List.getElem_cons_zero, List.getElem_cons_succ, Act.put, List.setIfInBounds_toArray, List.set_cons_zero, List.set_cons_succ])
            refine wpAnyH_ready (rs := [7]) (by kernel_rfl) (by simp) ?_
            refine (AllReadyH.cons (o := _) rfl (fun K hK => ?_) AllReadyH.nil)
            rw [if_pos (by rfl)]
            go_simp
            have HY9 := Lib.hid (HY8.out.set 5 (.slice pa (i + 1) c8))
            refine hK.out _ _ (True.intro) (fun hHeld => ?_)
            clear hK K
            (try simp only [List.getElem_toArray, List.getElem_cons_zero, List.getElem_cons_succ, Act.put, List.setIfInBounds_toArray, List.set_cons_zero, List.set_cons_succ])
            refine wpAnyH_done (by kernel_rfl) ?_ _
            go_wp2
            go_roundw
            case rel =>
              refine ⟨i + 1, q9, pa, c8, E ++ [(nm, on, L1)], by omega, by go_num, ⟨by rw [List.length_append, HE.out.1]; rfl, fun d hd => ?_⟩, ?_, HR8.out.kept (grownBy_setCell4 _ w3.heap.size 5 _) (fun e => by cases e; omega) (fun k e => by cases e; omega), grown_set HG8.out (by omega) 5 _, Blk.other HZ8.out (by omega) _, HY9.out, HMN8.out.box HY8.out 5 _⟩
              · rcases List.mem_append.1 hd with hd | hd
                · exact HE.out.2 d hd
                · rw [List.mem_singleton] at hd
                  subst hd
                  exact HBT.out
              · show _ = _
                rw [HLe.out, HL9.out, List.flatMap_append]
                simp only [List.flatMap_cons, List.flatMap_nil, List.append_nil, List.append_assoc]
            case measure => simp [intOf]; omega
          · rw [if_pos (by rfl)]
            go_simp
            (go_at_call 27; (with_reducible refine (rdBitmap HRd.out).mono ?_); rintro e w9 ⟨hg, ⟨v, q9, rfl, hq, nm, on, aT, lT, cT, L1, rfl, hT, hsh, hL⟩ | ⟨rfl, hF⟩⟩; rotate_left; exact ⟨rfl, grown_trans HGd.out hg, Or.inr ⟨rfl, fun M r hM => HBAD.out hF M r hM⟩⟩; have HR7 := Lib.hid hq; have HG7 := Lib.hid (grown_trans HGd.out hg); have HZ7 := Lib.hid (HZd.out.kept hg (fun e => by cases e; omega)); have HY7 := Lib.hid (HYd.out.kept hg (fun e => by cases e; omega)); have HMN7 := Lib.hid (HMNd.out.off HRd.out.box.off6r hg); have HT7 := Lib.hid (SpN.mono hT HGd.out.size); have HBT := Lib.hid hsh; have HL9 := Lib.hid hL; obtain ⟨z0, z1, z2, z3, z4, z5, z6⟩ := cells7 HY7.out; clear hg hq hT hsh hL z0 z1 z2 z3 z4 z6)
            (try dsimp only)
            refine hK.out _ _ (True.intro) (fun hHeld => ?_)
            clear hK K
            (try simp only [List.getElem_toArray, List.getElem_cons_zero, List.getElem_cons_succ, Act.put, List.setIfInBounds_toArray, List.set_cons_zero, List.set_cons_succ])
            refine wpAnyH_ready (rs := [1, 4]) (by kernel_rfl) (by simp) ?_
            refine (AllReadyH.cons (o := _) rfl (fun K hK => ?_) (AllReadyH.cons (o := _) rfl (fun K hK => ?_) AllReadyH.nil))
            · rw [if_pos (by rfl)]
              go_simp
              refine hK.out _ _ (True.intro) (fun hHeld => ?_)
              clear hK K
              (try simp only [List.getElem_toArray, List.getElem_cons_zero, List.getElem_cons_succ, Act.put, List.setIfInBounds_toArray, List.set_cons_zero, List.set_cons_succ])
              refine wpAnyH_ready (rs := [4]) (by kernel_rfl) (by simp) ?_
              refine (AllReadyH.cons (o := _) rfl (fun K hK => ?_) AllReadyH.nil)
              rw [if_pos (by rfl)]
              go_simp
              have HA := Lib.hid ((Below.refl w9.heap.size w9).alloc (Nat.le_refl _) (.cells #[.string nm, .bool on, .slice aT lT cT] 57))
              have HRa := Lib.hid (HR7.out.later HA.out)
              have HGa := Lib.hid (grown_trans HG7.out (grown_below HA.out _))
              have HZa := Lib.hid (HZ7.out.alloc (.cells #[.string nm, .bool on, .slice aT lT cT] 57))
              have HYa := Lib.hid (HY7.out.alloc (.cells #[.string nm, .bool on, .slice aT lT cT] 57))
              have HMNa := Lib.hid (HMN7.out.later HA.out)
              have HTa := Lib.hid (SpN.off HT7.out (Off.none _ _) (grown_below HA.out none))
              obtain ⟨v0, v1, v2, v3, v4, v5, v6⟩ := cells7 HYa.out
              clear v0 v1 v2 v3 v4 v6
              refine hK.out _ _ (True.intro) (fun hHeld => ?_)
              clear hK K
              (try simp only [List.getElem_toArray, List.getElem_cons_zero, List.getElem_cons_succ, Act.put, List.setIfInBounds_toArray, List.set_cons_zero, List.set_cons_succ])
              refine wpAnyH_ready (rs := [5]) (by kernel_rfl) (by simp) ?_
              refine (AllReadyH.cons (o := _) rfl (fun K hK => ?_) AllReadyH.nil)
              rw [if_pos (by rfl)]
              obtain ⟨ds, hO, hTd, hS, hn, hok⟩ := HMNa.out.B
              dsimp only at hO hTd hS hn hok
              have HOa := Lib.hid hO
              refine wp_append_lg bm_rowed (.tmp 37) (.tmp 40) rfl w.heap.size _ i ds rfl HOa.out (some ⟨w9.heap.size, 0, none⟩) 1 1 [(nm, on, aT, lT, cT, L1)] rfl (fun e => by cases e) (one_reads w9 (nm, on, aT, lT, cT, L1) #[.string nm, .bool on, .slice aT lT cT] 57 rfl) (by omega) HGa.out.size ?_
              intro pa c8 w10 g1 g2 g3
              have HMN8 := Lib.hid (MetaN.pushB (d := (nm, on, aT, lT, cT, L1)) HMNa.out HOa.out hTd hS (by omega) HTa.out (bm_ok14 HBT.out) g1 g2)
              have HR8 := Lib.hid (HRa.out.kept g2 (row_ne HRa.out.box HOa.out (by decide)) (fun k hk => Nat.le_trans hw0 (HOa.out.1.lt k hk).1))
              have HG8 := Lib.hid (grown_row HGa.out g2 (fun k hk => (HOa.out.1.lt k hk).1))
              have HZ8 := Lib.hid (HZa.out.kept g2 (HZa.out.not_row (by decide) HOa.out))
              have HY8 := Lib.hid (HYa.out.kept g2 (HYa.out.not_row (by decide) HOa.out))
              obtain ⟨t0, t1, t2, t3, t4, t5, t6⟩ := cells7 HY8.out
              have tf := HY8.out.free 5
              clear g1 g2 g3 hO hTd hS hn hok t0 t1 t2 t3 t4 t6
              (try dsimp only)
              refine hK.out _ _ (True.intro) (fun hHeld => ?_)
              clear hK K
              (try simp only [List.getElem_toArray, List.getElem_cons_zero, List.getElem_cons_succ, Act.put, List.setIfInBounds_toArray, List.set_cons_zero, List.set_cons_succ])
              refine wpAnyH_take (i := 6) (oi := _) (v := ?vqm4) rfl (by kernel_rfl) (by kernel_rfl) (by kernel_rfl) (fun _ _ _ h => h) (Or.inl ⟨by rfl, ?hyqm4⟩) (by assumption) ?restqm4
              case hyqm4 => (intro wz hSw; (try dsimp only at hSw); go_simp; try with_reducible rfl)
              (try simp only [List.getElem_toArray, List.getElem_cons_zero, List.getElem_cons_succ, Act.put, List.setIfInBounds_toArray, List.set_cons_zero, List.set_cons_succ])
              refine wpAnyH_ready (rs := [7]) (by kernel_rfl) (by simp) ?_
              refine (AllReadyH.cons (o := _) rfl (fun K hK => ?_) AllReadyH.nil)
              rw [if_pos (by rfl)]
              go_simp
              have HY9 := Lib.hid (HY8.out.set 5 (.slice pa (i + 1) c8))
              refine hK.out _ _ (True.intro) (fun hHeld => ?_)
              clear hK K
              (try simp only [List.getElem_toArray, List.getElem_cons_zero, List.getElem_cons_succ, Act.put, List.setIfInBounds_toArray, List.set_cons_zero, List.set_cons_succ])
              refine wpAnyH_done (by kernel_rfl) ?_ _
              go_wp2
              go_roundw
              case rel =>
                refine ⟨i + 1, q9, pa, c8, E ++ [(nm, on, L1)], by omega, by go_num, ⟨by rw [List.length_append, HE.out.1]; rfl, fun d hd => ?_⟩, ?_, HR8.out.kept (grownBy_setCell4 _ w3.heap.size 5 _) (fun e => by cases e; omega) (fun k e => by cases e; omega), grown_set HG8.out (by omega) 5 _, Blk.other HZ8.out (by omega) _, HY9.out, HMN8.out.box HY8.out 5 _⟩
                · rcases List.mem_append.1 hd with hd | hd
                  · exact HE.out.2 d hd
                  · rw [List.mem_singleton] at hd
                    subst hd
                    exact HBT.out
                · show _ = _
                  rw [HLe.out, HL9.out, List.flatMap_append]
                  simp only [List.flatMap_cons, List.flatMap_nil, List.append_nil, List.append_assoc]
              case measure => simp [intOf]; omega
            · rw [if_pos (by rfl)]
              go_simp
              have HA := Lib.hid ((Below.refl w9.heap.size w9).alloc (Nat.le_refl _) (.cells #[.string nm, .bool on, .slice aT lT cT] 57))
              have HRa := Lib.hid (HR7.out.later HA.out)
              have HGa := Lib.hid (grown_trans HG7.out (grown_below HA.out _))
              have HZa := Lib.hid (HZ7.out.alloc (.cells #[.string nm, .bool on, .slice aT lT cT] 57))
              have HYa := Lib.hid (HY7.out.alloc (.cells #[.string nm, .bool on, .slice aT lT cT] 57))
              have HMNa := Lib.hid (HMN7.out.later HA.out)
              have HTa := Lib.hid (SpN.off HT7.out (Off.none _ _) (grown_below HA.out none))
              obtain ⟨v0, v1, v2, v3, v4, v5, v6⟩ := cells7 HYa.out
              clear v0 v1 v2 v3 v4 v6
              refine hK.out _ _ (True.intro) (fun hHeld => ?_)
              clear hK K
              (try simp only [List.getElem_toArray, List.getElem_cons_zero, List.getElem_cons_succ, Act.put, List.setIfInBounds_toArray, List.set_cons_zero, List.set_cons_succ])
              refine wpAnyH_ready (rs := [1]) (by kernel_rfl) (by simp) ?_
              refine (AllReadyH.cons (o := _) rfl (fun K hK => ?_) AllReadyH.nil)
              rw [if_pos (by rfl)]
              go_simp
              refine hK.out _ _ (True.intro) (fun hHeld => ?_)
              clear hK K
              (try simp only [List.getElem_toArray, List.getElem_cons_zero, List.getElem_cons_succ, Act.put, List.setIfInBounds_toArray, List.set_cons_zero, List.set_cons_succ])
              refine wpAnyH_ready (rs := [5]) (by kernel_rfl) (by simp) ?_
              refine (AllReadyH.cons (o := _) rfl (fun K hK => ?_) AllReadyH.nil)
              rw [if_pos (by rfl)]
              obtain ⟨ds, hO, hTd, hS, hn, hok⟩ := HMNa.out.B
              dsimp only at hO hTd hS hn hok
              have HOa := Lib.hid hO
              refine wp_append_lg bm_rowed (.tmp 37) (.tmp 40) rfl w.heap.size _ i ds rfl HOa.out (some ⟨w9.heap.size, 0, none⟩) 1 1 [(nm, on, aT, lT, cT, L1)] rfl (fun e => by cases e) (one_reads w9 (nm, on, aT, lT, cT, L1) #[.string nm, .bool on, .slice aT lT cT] 57 rfl) (by omega) HGa.out.size ?_
              intro pa c8 w10 g1 g2 g3
              have HMN8 := Lib.hid (MetaN.pushB (d := (nm, on, aT, lT, cT, L1)) HMNa.out HOa.out hTd hS (by omega) HTa.out (bm_ok14 HBT.out) g1 g2)
              have HR8 := Lib.hid (HRa.out.kept g2 (row_ne HRa.out.box HOa.out (by decide)) (fun k hk => Nat.le_trans hw0 (HOa.out.1.lt k hk).1))
              have HG8 := Lib.hid (grown_row HGa.out g2 (fun k hk => (HOa.out.1.lt k hk).1))
              have HZ8 := Lib.hid (HZa.out.kept g2 (HZa.out.not_row (by decide) HOa.out))
              have HY8 := Lib.hid (HYa.out.kept g2 (HYa.out.not_row (by decide) HOa.out))
              obtain ⟨t0, t1, t2, t3, t4, t5, t6⟩ := cells7 HY8.out
              have tf := HY8.out.free 5
              clear g1 g2 g3 hO hTd hS hn hok t0 t1 t2 t3 t4 t6
              (try dsimp only)
              refine hK.out _ _ (True.intro) (fun hHeld => ?_)
              clear hK K
              (try simp only [List.getElem_toArray, List.getElem_cons_zero, List.getElem_cons_succ, Act.put, List.setIfInBounds_toArray, List.set_cons_zero, List.set_cons_succ])
              refine wpAnyH_take (i := 6) (oi := _) (v := ?vqm5) rfl (by kernel_rfl) (by kernel_rfl) (by kernel_rfl) (fun _ _ _ h => h) (Or.inl ⟨by rfl, ?hyqm5⟩) (by assumption) ?restqm5
              case hyqm5 => (intro wz hSw; (try dsimp only at hSw); go_simp; try with_reducible rfl)
              (try simp only [List.getElem_toArray, List.getElem_cons_zero, List.getElem_cons_succ, Act.put, List.setIfInBounds_toArray, List.set_cons_zero, List.set_cons_succ])
              refine wpAnyH_ready (rs := [7]) (by kernel_rfl) (by simp) ?_
              refine (AllReadyH.cons (o := _) rfl (fun K hK => ?_) AllReadyH.nil)
              rw [if_pos (by rfl)]
              go_simp
              have HY9 := Lib.hid (HY8.out.set 5 (.slice pa (i + 1) c8))
              refine hK.out _ _ (True.intro) (fun hHeld => ?_)
              clear hK K
              (try simp only [List.getElem_toArray, List.getElem_cons_zero, List.getElem_cons_succ, Act.put, List.setIfInBounds_toArray, List.set_cons_zero, List.set_cons_succ])
              refine wpAnyH_done (by kernel_rfl) ?_ _
              go_wp2
              go_roundw
              case rel =>
                refine ⟨i + 1, q9, pa, c8, E ++ [(nm, on, L1)], by omega, by go_num, ⟨by rw [List.length_append, HE.out.1]; rfl, fun d hd => ?_⟩, ?_, HR8.out.kept (grownBy_setCell4 _ w3.heap.size 5 _) (fun e => by cases e; omega) (fun k e => by cases e; omega), grown_set HG8.out (by omega) 5 _, Blk.other HZ8.out (by omega) _, HY9.out, HMN8.out.box HY8.out 5 _⟩
                · rcases List.mem_append.1 hd with hd | hd
                  · exact HE.out.2 d hd
                  · rw [List.mem_singleton] at hd
                    subst hd
                    exact HBT.out
                · show _ = _
                  rw [HLe.out, HL9.out, List.flatMap_append]
                  simp only [List.flatMap_cons, List.flatMap_nil, List.append_nil, List.append_assoc]
              case measure => simp [intOf]; omega
        · obtain rfl : i = N2 := by omega
          have HM9 : Hid (∀ M r, Mt1 l p M r → M.B = E ∧ l.drop q' = cntB M.K ++ r) := fun M r hM => (hM.B (HMB.out M r hM).2 HE.out.2 HLe.out).2 (by rw [HE.out.1, (HMB.out M r hM).1])
          go_wp2_with (first
            | (go_at_call 28; (with_reducible refine (rdCounts HR.out).mono ?_); rintro e w9 ⟨hg, ⟨v, q9, rfl, hq, aK, lK, cK, K, rfl, hI, hK, hb, hL⟩ | ⟨rfl, hF⟩⟩; rotate_left; exact ⟨rfl, grown_trans HG.out hg, Or.inr ⟨rfl, fun M r hM => hF _ _ hM.1.1.nK hM.1.1.K (HM9.out M r hM).2⟩⟩; have HG9 := Lib.hid (grown_trans HG.out hg); have HR9 := Lib.hid hq; have HMK := Lib.hid (fun M r (hM : Mt1 l p M r) => hM.K (HM9.out M r hM).2 hK hb hL); have HZ9 := Lib.hid (HZ.out.kept hg (fun e => by cases e; omega)); have HY9 := Lib.hid (HY.out.kept hg (fun e => by cases e; omega)); have HMN9 := Lib.hid ((HMN.out.off HR.out.box.off6r hg).setK (hI.mono HG.out.size)); have HL9 := Lib.hid hL; obtain ⟨y0, y1, y2, y3, y4, y5, y6⟩ := cells7 HY9.out; have yf := HY9.out.free 6; obtain ⟨z0, z1, z2, z3, z4, z5, z6⟩ := cells7 HZ9.out; obtain ⟨g0, g1, g2, g3, g4, g5, g6⟩ := free7 HZ9.out; clear hg hq hI hK hb hL))
          have hY := HY9.out
          have hza := Blk.other (B' := w3.heap.size) (i := 6) HZ9.out (by omega) (.slice aK lK cK)
          have hz0 := hza.set 0 (.int .i64 C)
          have hz1 := hz0.set 1 (.int .i64 Z)
          have hz2 := hz1.set 2 (.string bk)
          have hz3 := hz2.set 3 (.slice ta tl tc)
          have hz4 := hz3.set 4 (.slice sa j sc)
          have hz5 := hz4.set 5 (.slice ma i mc)
          have hz6 := hz5.set 6 (.slice aK lK cK)
          refine bodyPost_ret (v := .agg (mtA ⟨C, Z, bk, T, D, E, K⟩ ⟨ta, tl, tc, sa, j, sc, ma, i, mc, aK, lK, cK⟩)) (results_cell_row rfl _ _ w.heap.size 31 (mtA ⟨C, Z, bk, T, D, E, K⟩ ⟨ta, tl, tc, sa, j, sc, ma, i, mc, aK, lK, cK⟩) (0, 0) _ rfl hz6 Tryz.underlying31 rfl meta_size) rfl ?_
          have hm0 := HMN9.out.box hY 6 (.slice aK lK cK)
          have hm1 := hm0.box hza 0 (.int .i64 C)
          have hm2 := hm1.box hz0 1 (.int .i64 Z)
          have hm3 := hm2.box hz1 2 (.string bk)
          have hm4 := hm3.box hz2 3 (.slice ta tl tc)
          have hm5 := hm4.box hz3 4 (.slice sa j sc)
          have hm6 := hm5.box hz4 5 (.slice ma i mc)
          have hm7 := hm6.box hz5 6 (.slice aK lK cK)
          have hwX : X < w.heap.size := hXlt
          have hr0 := HR9.out.kept (grownBy_setCell4 _ w3.heap.size 6 (.slice aK lK cK)) (fun e => by cases e; omega) (fun k e => by cases e; omega)
          have hrk : ∀ {W : World} (k : Nat) (v : Value), Rdr w0 W X a n c q9 l → Rdr w0 (W.setCell ⟨w.heap.size, k, none⟩ v) X a n c q9 l := fun k v h => h.kept (grownBy_setCell4 _ w.heap.size k v) (fun e => by cases e; omega) (fun k e => by cases e; omega)
          have hgk : ∀ {W : World} (k : Nat) (v : Value), w.grownBy W (some X) → w.grownBy (W.setCell ⟨w.heap.size, k, none⟩ v) (some X) := fun k v h => grown_set h (Nat.le_refl _) k v
          refine ⟨hgk 6 _ (hgk 5 _ (hgk 4 _ (hgk 3 _ (hgk 2 _ (hgk 1 _ (hgk 0 _ (grown_set HG9.out (by omega) 6 _))))))), Or.inl ⟨_, q9, rfl, hrk 6 _ (hrk 5 _ (hrk 4 _ (hrk 3 _ (hrk 2 _ (hrk 1 _ (hrk 0 _ hr0)))))), _, _, rfl, hm7, ⟨HEN.out, fun d hd => (HD.out.2 d hd).2.2.2⟩, ?_, fun M' r hM => ?_⟩⟩
          · rw [HL1.out, HL2.out, HL3.out, HL4.out, HL5.out, HLq.out, HL8.out, HLe.out, HL9.out]
            unfold encM
            dsimp only
            rw [HD.out.1, HE.out.1]
            simp only [Int.toNat_natCast, List.append_assoc]
          · obtain ⟨k1, _⟩ := HM1.out M' r hM
            obtain ⟨k2, _⟩ := HM2.out M' r hM
            obtain ⟨k3, _⟩ := HM3.out M' r hM
            obtain ⟨k4, _⟩ := HMT.out M' r hM
            obtain ⟨k5, _⟩ := HM7.out M' r hM
            obtain ⟨k6, _⟩ := HM9.out M' r hM
            obtain ⟨k7, k8⟩ := HMK.out M' r hM
            refine ⟨?_, k8⟩
            obtain ⟨c', s', b', T', S', B', K'⟩ := M'
            dsimp only at k1 k2 k3 k4 k5 k6 k7
            rw [k1, k2, k3, k4, k5, k6, k7]
end Go.Proofs.YtdffgnpldapciaaGreatDoor
namespace Go.Proofs.YtdffgnpldapciaaGreatDoor
open Go.RowKit
set_option linter.unusedVariables false

set_option maxRecDepth 100000 in
set_option maxHeartbeats 3200000 in
theorem caught14 (M E : Nat) (hME : M ≠ E) (u : TypeId) (pv : Value) (older : List PanicEntry) (w : World) (v0 v1 v2 v3 v4 v5 v6 e0 : Value) (hM : Blk w M 31 #[v0, v1, v2, v3, v4, v5, v6]) (hE : Blk w E 32 #[e0]) :
    CallsD Tryz.prog 10 #[.pointer (some ⟨M, 0, none⟩), .pointer (some ⟨E, 0, none⟩)] (.panicking ({ v := .iface u pv, recovered := false } :: older)) w fun e u' w' =>
      e = .returned (.tuple #[]) ∧ u' = .panicking ({ v := .iface u pv, recovered := true } :: older) ∧ Blk w' M 31 (mtA MM0 Mt0) ∧ Blk w' E 32 #[.int .i64 3] ∧ ∀ B, B ≤ M → B ≤ E → Below B w w' := by
  obtain ⟨x0, x1, x2, x3, x4, x5, x6⟩ := cells7 hM
  obtain ⟨f0, f1, f2, f3, f4, f5, f6⟩ := free7 hM
  have y0 := hE.cell 0
  have yf := hE.free 0
  refine callsD_of_wpS Tryz.func10 rfl fun c₀ cs hu => ?_
  apply wpS_seq
  apply wpS_region
  simp [wpOpsS, go_sem, recoverD, hu, Tryz.ntmps10, Exit.thenS]
  refine wpS_cond (t := true) (by simp [Act.eval, Array.replicate]) ?_
  refine wpS_of_wp ?_
  go_wp2
  have hb0 := hM.set 0 (.int .i64 0)
  have hb1 := hb0.set 1 (.int .i64 0)
  have hb2 := hb1.set 2 (.string ⟨#[]⟩)
  have hb3 := hb2.set 3 (.slice none 0 0)
  have hb4 := hb3.set 4 (.slice none 0 0)
  have hb5 := hb4.set 5 (.slice none 0 0)
  have hb6 := hb5.set 6 (.slice none 0 0)
  have hb := Blk.other (B' := E) (i := 0) hb6 hME (.int .i64 3)
  have he0 := Blk.other (B' := M) (i := 0) hE hME.symm (.int .i64 0)
  have he1 := Blk.other (B' := M) (i := 1) he0 hME.symm (.int .i64 0)
  have he2 := Blk.other (B' := M) (i := 2) he1 hME.symm (.string ⟨#[]⟩)
  have he3 := Blk.other (B' := M) (i := 3) he2 hME.symm (.slice none 0 0)
  have he4 := Blk.other (B' := M) (i := 4) he3 hME.symm (.slice none 0 0)
  have he5 := Blk.other (B' := M) (i := 5) he4 hME.symm (.slice none 0 0)
  have he6 := Blk.other (B' := M) (i := 6) he5 hME.symm (.slice none 0 0)
  have he := he6.set 0 (.int .i64 3)
  simp only [bodyPostS, results, Tryz.results10]
  refine ⟨trivial, _, rfl, .tuple #[], by simp [go_sem], rfl, rfl, hb, he, fun B h1 h2 => ?_⟩
  exact ((((((((Below.refl B w).setCell (p := ⟨M, 0, none⟩) h1 _).setCell (p := ⟨M, 1, none⟩) h1 _).setCell (p := ⟨M, 2, none⟩) h1 _).setCell (p := ⟨M, 3, none⟩) h1 _).setCell (p := ⟨M, 4, none⟩) h1 _).setCell (p := ⟨M, 5, none⟩) h1 _).setCell (p := ⟨M, 6, none⟩) h1 _).setCell (p := ⟨E, 0, none⟩) h2 _
theorem idle14 (M E : Nat) (w : World) :
    CallsD Tryz.prog 10 #[.pointer (some ⟨M, 0, none⟩), .pointer (some ⟨E, 0, none⟩)] .returning w fun e u' w' => e = .returned (.tuple #[]) ∧ u' = .returning ∧ w' = w := by
  refine callsD_of_wpS Tryz.func10 rfl fun c₀ cs hu => ?_
  apply wpS_seq
  apply wpS_region
  simp [wpOpsS, go_sem, recoverD, hu, Tryz.ntmps10, Exit.thenS]
  refine wpS_cond (t := false) (by simp [Act.eval, Array.replicate]) ?_
  refine wpS_of_wp ?_
  go_wp2
  simp only [bodyPostS, results, Tryz.results10]
  refine ⟨trivial, .returning, by cases c₀; simp_all, .tuple #[], by simp [go_sem], rfl, rfl, trivial⟩
theorem mt1_of {l : List Int} {M : MM} (h1 : RightMt M) (h2 : EnM M) (e : l = encM M) : Mt1 l 0 M [] := ⟨⟨h1, h2⟩, by rw [List.drop_zero, List.append_nil]; exact e⟩
theorem e_off6 {w : World} {Y : Nat} {cs : Array Value} (h : Blk w Y 32 cs) : Off6 w (some Y) := ⟨h.off (by decide), h.off (by decide), h.off (by decide), h.off (by decide), h.off (by decide), h.off (by decide)⟩
set_option maxRecDepth 100000 in
set_option maxHeartbeats 6400000 in
theorem mGet (w : World) (a : Option Addr) (n c : Nat) (l : List Int) (hB : Bytes w a n l) (hc : n ≤ c) (hW : Wid w) :
    Calls Tryz.prog 5 #[.slice a n c] w fun e w' => Below w.heap.size w w' ∧ ((∃ (x : Mt) (M : MM), (RightMt M ∧ EnM M) ∧ l = encM M ∧ e = .returned (.tuple #[.agg (mtA M x), .int .i64 0]) ∧ MetaN w' w.heap.size Any Any x M) ∨ (e = .returned (.tuple #[.agg (mtA MM0 Mt0), .int .i64 3]) ∧ ∀ M, RightMt M → EnM M → l ≠ encM M)) := by
  have hmf : ∀ (fn : Fn) (first cap : Array Value) (w : World), (Instr.makeFunc fn first cap).run Tryz.prog w = .ok (.func fn first cap) w := fun _ _ _ _ => rfl
  have HY := Lib.hid insist_yes
  have HN := Lib.hid insist_no
  have hnl := hB.small.1
  rw [hB.1] at hnl
  have HB0 : Hid (Below w.heap.size w ((w.alloc (.cells #[.int .i64 0, .int .i64 0, .string ⟨#[]⟩, .slice none 0 0, .slice none 0 0, .slice none 0 0, .slice none 0 0] 31)).alloc (.cells #[.int .i64 0] 32))) := ((Below.refl _ w).alloc (Nat.le_refl _) _).alloc (by simp) _
  have HX0 : Hid (Blk ((w.alloc (.cells #[.int .i64 0, .int .i64 0, .string ⟨#[]⟩, .slice none 0 0, .slice none 0 0, .slice none 0 0, .slice none 0 0] 31)).alloc (.cells #[.int .i64 0] 32)) w.heap.size 31 #[.int .i64 0, .int .i64 0, .string ⟨#[]⟩, .slice none 0 0, .slice none 0 0, .slice none 0 0, .slice none 0 0]) := (Blk.new w _ _).alloc _
  have HE0 : Hid (Blk ((w.alloc (.cells #[.int .i64 0, .int .i64 0, .string ⟨#[]⟩, .slice none 0 0, .slice none 0 0, .slice none 0 0, .slice none 0 0] 31)).alloc (.cells #[.int .i64 0] 32)) (w.heap.size + 1) 32 #[.int .i64 0]) := by
    have := Blk.new (w.alloc (.cells #[.int .i64 0, .int .i64 0, .string ⟨#[]⟩, .slice none 0 0, .slice none 0 0, .slice none 0 0, .slice none 0 0] 31)) 32 #[.int .i64 0]
    rwa [World.size_alloc] at this
  have HB1 : Hid (Below w.heap.size w (((w.alloc (.cells #[.int .i64 0, .int .i64 0, .string ⟨#[]⟩, .slice none 0 0, .slice none 0 0, .slice none 0 0, .slice none 0 0] 31)).alloc (.cells #[.int .i64 0] 32)).alloc (.cells #[.slice a n c, .int .i64 0] 44))) := HB0.out.alloc HB0.out.size _
  have HX1 : Hid (Blk (((w.alloc (.cells #[.int .i64 0, .int .i64 0, .string ⟨#[]⟩, .slice none 0 0, .slice none 0 0, .slice none 0 0, .slice none 0 0] 31)).alloc (.cells #[.int .i64 0] 32)).alloc (.cells #[.slice a n c, .int .i64 0] 44)) w.heap.size 31 #[.int .i64 0, .int .i64 0, .string ⟨#[]⟩, .slice none 0 0, .slice none 0 0, .slice none 0 0, .slice none 0 0]) := HX0.out.alloc _
  have HE1 : Hid (Blk (((w.alloc (.cells #[.int .i64 0, .int .i64 0, .string ⟨#[]⟩, .slice none 0 0, .slice none 0 0, .slice none 0 0, .slice none 0 0] 31)).alloc (.cells #[.int .i64 0] 32)).alloc (.cells #[.slice a n c, .int .i64 0] 44)) (w.heap.size + 1) 32 #[.int .i64 0]) := HE0.out.alloc _
  have HR1 : Hid (Rdr w (((w.alloc (.cells #[.int .i64 0, .int .i64 0, .string ⟨#[]⟩, .slice none 0 0, .slice none 0 0, .slice none 0 0, .slice none 0 0] 31)).alloc (.cells #[.int .i64 0] 32)).alloc (.cells #[.slice a n c, .int .i64 0] 44)) (w.heap.size + 2) a n c 0 l) := by
    refine ⟨?_, HB1.out, by omega, hB, hc, Nat.zero_le _⟩
    have := Blk.new ((w.alloc (.cells #[.int .i64 0, .int .i64 0, .string ⟨#[]⟩, .slice none 0 0, .slice none 0 0, .slice none 0 0, .slice none 0 0] 31)).alloc (.cells #[.int .i64 0] 32)) 44 #[.slice a n c, .int .i64 0]
    rwa [World.size_alloc, World.size_alloc] at this
  by_cases hlen : (n : Int) ≤ 1048576
  · have hd := decide_eq_true hlen
    go_enter_defers Tryz.func5, Tryz.ntmps5
    go_wp2_with (first
      | (go_at_call 11; (try rw [hd]); first | ((with_reducible refine (HY.out _).mono ?_); rintro e w2 ⟨rfl, hw⟩; obtain rfl := hw.symm) | ((with_reducible refine (HN.out _).mono ?_); rintro e w2 ⟨rfl, hw⟩; obtain rfl := hw.symm))
      | (go_at_call 12; (with_reducible refine (rdMeta HR1.out hW).mono ?_); rintro e w3 ⟨hg, ⟨v, q, rfl, hq, ⟨a0, n0, c0, sa, sn, sc, ma, mn, mc, ca, cn, cc⟩, ⟨C, Z, bk, T, S, B, K⟩, rfl, hM, hEN, hL, hU⟩ | ⟨rfl, hF⟩⟩; dsimp only [mtA]; have hx3 := HX1.out.kept hg (fun e => by have := Option.some.inj e; omega); have he3 := HE1.out.kept hg (fun e => by have := Option.some.inj e; omega); have hb3 := HB1.out.grown hg HB1.out.size (fun k e => by have := Option.some.inj e; omega); obtain ⟨x0, x1, x2, x3, x4, x5, x6⟩ := cells7 hx3; obtain ⟨f0, f1, f2, f3, f4, f5, f6⟩ := free7 hx3; have hM := hM.mono (base' := w.heap.size) HB1.out.size (fun k _ h => h) (fun k _ h => h); have hm0 := hM.box hx3 0 (.int .i64 C); have hz0 := hx3.set 0 (.int .i64 C); have hE0 := Blk.other (B' := w.heap.size) (i := 0) he3 (Nat.ne_of_gt (Nat.lt_succ_self _)) (.int .i64 C); have hr0 := hq.kept (grownBy_setCell4 _ w.heap.size 0 (.int .i64 C)) (fun e => by have := Option.some.inj e; omega) (fun k e => Nat.le_of_eq (Option.some.inj e)); have hb30 := hb3.setCell (p := ⟨w.heap.size, 0, none⟩) (Nat.le_refl _) (.int .i64 C); have hm1 := hm0.box hz0 1 (.int .i64 Z); have hz1 := hz0.set 1 (.int .i64 Z); have hE1 := Blk.other (B' := w.heap.size) (i := 1) hE0 (Nat.ne_of_gt (Nat.lt_succ_self _)) (.int .i64 Z); have hr1 := hr0.kept (grownBy_setCell4 _ w.heap.size 1 (.int .i64 Z)) (fun e => by have := Option.some.inj e; omega) (fun k e => Nat.le_of_eq (Option.some.inj e)); have hb31 := hb30.setCell (p := ⟨w.heap.size, 1, none⟩) (Nat.le_refl _) (.int .i64 Z); have hm2 := hm1.box hz1 2 (.string bk); have hz2 := hz1.set 2 (.string bk); have hE2 := Blk.other (B' := w.heap.size) (i := 2) hE1 (Nat.ne_of_gt (Nat.lt_succ_self _)) (.string bk); have hr2 := hr1.kept (grownBy_setCell4 _ w.heap.size 2 (.string bk)) (fun e => by have := Option.some.inj e; omega) (fun k e => Nat.le_of_eq (Option.some.inj e)); have hb32 := hb31.setCell (p := ⟨w.heap.size, 2, none⟩) (Nat.le_refl _) (.string bk); have hm3 := hm2.box hz2 3 (.slice a0 n0 c0); have hz3 := hz2.set 3 (.slice a0 n0 c0); have hE3 := Blk.other (B' := w.heap.size) (i := 3) hE2 (Nat.ne_of_gt (Nat.lt_succ_self _)) (.slice a0 n0 c0); have hr3 := hr2.kept (grownBy_setCell4 _ w.heap.size 3 (.slice a0 n0 c0)) (fun e => by have := Option.some.inj e; omega) (fun k e => Nat.le_of_eq (Option.some.inj e)); have hb33 := hb32.setCell (p := ⟨w.heap.size, 3, none⟩) (Nat.le_refl _) (.slice a0 n0 c0); have hm4 := hm3.box hz3 4 (.slice sa sn sc); have hz4 := hz3.set 4 (.slice sa sn sc); have hE4 := Blk.other (B' := w.heap.size) (i := 4) hE3 (Nat.ne_of_gt (Nat.lt_succ_self _)) (.slice sa sn sc); have hr4 := hr3.kept (grownBy_setCell4 _ w.heap.size 4 (.slice sa sn sc)) (fun e => by have := Option.some.inj e; omega) (fun k e => Nat.le_of_eq (Option.some.inj e)); have hb34 := hb33.setCell (p := ⟨w.heap.size, 4, none⟩) (Nat.le_refl _) (.slice sa sn sc); have hm5 := hm4.box hz4 5 (.slice ma mn mc); have hz5 := hz4.set 5 (.slice ma mn mc); have hE5 := Blk.other (B' := w.heap.size) (i := 5) hE4 (Nat.ne_of_gt (Nat.lt_succ_self _)) (.slice ma mn mc); have hr5 := hr4.kept (grownBy_setCell4 _ w.heap.size 5 (.slice ma mn mc)) (fun e => by have := Option.some.inj e; omega) (fun k e => Nat.le_of_eq (Option.some.inj e)); have hb35 := hb34.setCell (p := ⟨w.heap.size, 5, none⟩) (Nat.le_refl _) (.slice ma mn mc); have hm6 := hm5.box hz5 6 (.slice ca cn cc); have hz6 := hz5.set 6 (.slice ca cn cc); have hE6 := Blk.other (B' := w.heap.size) (i := 6) hE5 (Nat.ne_of_gt (Nat.lt_succ_self _)) (.slice ca cn cc); have hr6 := hr5.kept (grownBy_setCell4 _ w.heap.size 6 (.slice ca cn cc)) (fun e => by have := Option.some.inj e; omega) (fun k e => Nat.le_of_eq (Option.some.inj e)); have hb36 := hb35.setCell (p := ⟨w.heap.size, 6, none⟩) (Nat.le_refl _) (.slice ca cn cc); have HM4 := Lib.hid hm6; have HZ4 := Lib.hid hz6; have HE4 := Lib.hid hE6; have HR4 := Lib.hid hr6; have HB4 := Lib.hid hb36; have HL4 := Lib.hid hL; have HU4 := Lib.hid hU; have HEN := Lib.hid hEN; obtain ⟨r0, r1, rf0, rf1⟩ := hr6.cells; clear hm0 hm1 hm2 hm3 hm4 hm5 hm6 hz0 hz1 hz2 hz3 hz4 hz5 hz6 hE0 hE1 hE2 hE3 hE4 hE5 hE6 hr0 hr1 hr2 hr3 hr4 hr5 hr6 hb30 hb31 hb32 hb33 hb34 hb35 hb36 hM hEN hL hU hx3 he3 hq hg hb3; by_cases hqn : (q : Int) = (n : Int))
      | (go_at_call 13; have HRT := mRight _ _ _ HM4.out.d; dsimp only [mtA] at HRT; (with_reducible refine HRT.mono ?_); rintro e w5 ⟨G, rfl, hb, hr⟩; have HM5 := Lib.hid (HM4.out.later hb); have HZ5 := Lib.hid (HZ4.out.later hb); have HE5 := Lib.hid (HE4.out.later hb); have HB5 := Lib.hid (HB4.out.trans (hb.mono HB4.out.size)); have HRR := Lib.hid hr; clear x0 x1 x2 x3 x4 x5 x6 f0 f1 f2 f3 f4 f5 f6 hb hr HRT; obtain ⟨x0, x1, x2, x3, x4, x5, x6⟩ := cells7 HZ5.out; obtain ⟨f0, f1, f2, f3, f4, f5, f6⟩ := free7 HZ5.out; have ye := HE5.out.cell 0; have yf := HE5.out.free 0; cases G))
    · refine leaves_cons (f := 10) (args := #[.pointer (some ⟨w.heap.size, 0, none⟩), .pointer (some ⟨w.heap.size + 1, 0, none⟩)]) (by simp) (by simp [go_sem]) ?_
      refine (caught14 w.heap.size (w.heap.size + 1) (Nat.ne_of_lt (Nat.lt_succ_self _)) _ _ _ _ _ _ _ _ _ _ _ _ HZ5.out HE5.out).mono ?_
      rintro e u' w'' ⟨rfl, rfl, hm, he, hbl⟩
      obtain ⟨h0, h1, h2, h3, h4, h5, h6⟩ := cells7 (show Blk w'' w.heap.size 31 #[.int .i64 0, .int .i64 0, .string ⟨#[]⟩, .slice none 0 0, .slice none 0 0, .slice none 0 0, .slice none 0 0] from hm)
      have e0 : w''.cell? ⟨w.heap.size + 1, 0, none⟩ = some (.int .i64 3) := he.cell 0
      have HFIN : Hid (Below w.heap.size w w'') := HB5.out.trans (hbl w.heap.size (Nat.le_refl _) (by omega))
      simp [Leaves, settle, results, Tryz.results5, go_sem, h0, h1, h2, h3, h4, h5, h6, e0]
      exact ⟨HFIN.out, rfl, fun M' k1 k2 e => absurd ((HU4.out M' [] (mt1_of k1 k2 e)).1) (fun h => by have := HRR.out.2 (h ▸ k1); cases this)⟩
    · refine leaves_cons (f := 10) (args := #[.pointer (some ⟨w.heap.size, 0, none⟩), .pointer (some ⟨w.heap.size + 1, 0, none⟩)]) (by simp) (by simp [go_sem]) ?_
      refine (idle14 w.heap.size (w.heap.size + 1) _).mono ?_
      rintro e u' w'' ⟨rfl, rfl, rfl⟩
      have hlit : Blk w5 w.heap.size 31 #[.int .i64 C, .int .i64 Z, .string bk, .slice a0 n0 c0, .slice sa sn sc, .slice ma mn mc, .slice ca cn cc] := HZ5.out
      have hz0 := (hlit).set 0 (.int .i64 C)
      have hm0 := MetaN.box HM5.out hlit 0 (.int .i64 C)
      have he0 := Blk.other (B' := w.heap.size) (i := 0) HE5.out (Nat.ne_of_gt (Nat.lt_succ_self _)) (.int .i64 C)
      have hb0 := Below.setCell HB5.out (p := ⟨w.heap.size, 0, none⟩) (Nat.le_refl _) (.int .i64 C)
      have hz1 := (hz0).set 1 (.int .i64 Z)
      have hm1 := MetaN.box hm0 hz0 1 (.int .i64 Z)
      have he1 := Blk.other (B' := w.heap.size) (i := 1) he0 (Nat.ne_of_gt (Nat.lt_succ_self _)) (.int .i64 Z)
      have hb1 := Below.setCell hb0 (p := ⟨w.heap.size, 1, none⟩) (Nat.le_refl _) (.int .i64 Z)
      have hz2 := (hz1).set 2 (.string bk)
      have hm2 := MetaN.box hm1 hz1 2 (.string bk)
      have he2 := Blk.other (B' := w.heap.size) (i := 2) he1 (Nat.ne_of_gt (Nat.lt_succ_self _)) (.string bk)
      have hb2 := Below.setCell hb1 (p := ⟨w.heap.size, 2, none⟩) (Nat.le_refl _) (.string bk)
      have hz3 := (hz2).set 3 (.slice a0 n0 c0)
      have hm3 := MetaN.box hm2 hz2 3 (.slice a0 n0 c0)
      have he3 := Blk.other (B' := w.heap.size) (i := 3) he2 (Nat.ne_of_gt (Nat.lt_succ_self _)) (.slice a0 n0 c0)
      have hb3 := Below.setCell hb2 (p := ⟨w.heap.size, 3, none⟩) (Nat.le_refl _) (.slice a0 n0 c0)
      have hz4 := (hz3).set 4 (.slice sa sn sc)
      have hm4 := MetaN.box hm3 hz3 4 (.slice sa sn sc)
      have he4 := Blk.other (B' := w.heap.size) (i := 4) he3 (Nat.ne_of_gt (Nat.lt_succ_self _)) (.slice sa sn sc)
      have hb4 := Below.setCell hb3 (p := ⟨w.heap.size, 4, none⟩) (Nat.le_refl _) (.slice sa sn sc)
      have hz5 := (hz4).set 5 (.slice ma mn mc)
      have hm5 := MetaN.box hm4 hz4 5 (.slice ma mn mc)
      have he5 := Blk.other (B' := w.heap.size) (i := 5) he4 (Nat.ne_of_gt (Nat.lt_succ_self _)) (.slice ma mn mc)
      have hb5 := Below.setCell hb4 (p := ⟨w.heap.size, 5, none⟩) (Nat.le_refl _) (.slice ma mn mc)
      have hz6 := (hz5).set 6 (.slice ca cn cc)
      have hm6 := MetaN.box hm5 hz5 6 (.slice ca cn cc)
      have he6 := Blk.other (B' := w.heap.size) (i := 6) he5 (Nat.ne_of_gt (Nat.lt_succ_self _)) (.slice ca cn cc)
      have hb6 := Below.setCell hb5 (p := ⟨w.heap.size, 6, none⟩) (Nat.le_refl _) (.slice ca cn cc)
      have hzf := Blk.other (B' := w.heap.size + 1) (i := 0) hz6 (Nat.ne_of_lt (Nat.lt_succ_self _)) (.int .i64 0)
      have hef := he6.set 0 (.int .i64 0)
      have hbf := Below.setCell hb6 (p := ⟨w.heap.size + 1, 0, none⟩) (Nat.le_succ _) (.int .i64 0)
      have hmf := hm6.off (e_off6 he6) (grownBy_setCell4 _ _ 0 (.int .i64 0))
      have HFIN := Lib.hid hbf
      have HMF := Lib.hid hmf
      obtain ⟨W6, hW6⟩ : ∃ W, W = ((((((((w5.setCell ⟨w.heap.size, 0, none⟩ (.int .i64 C)).setCell ⟨w.heap.size, 1, none⟩ (.int .i64 Z)).setCell ⟨w.heap.size, 2, none⟩ (.string bk)).setCell ⟨w.heap.size, 3, none⟩ (.slice a0 n0 c0)).setCell ⟨w.heap.size, 4, none⟩ (.slice sa sn sc)).setCell ⟨w.heap.size, 5, none⟩ (.slice ma mn mc)).setCell ⟨w.heap.size, 6, none⟩ (.slice ca cn cc)).setCell ⟨w.heap.size + 1, 0, none⟩ (.int .i64 0)) := ⟨_, rfl⟩
      rw [← hW6] at hzf hef HFIN HMF ⊢
      obtain ⟨h0, h1, h2, h3, h4, h5, h6⟩ := cells7 (show Blk W6 w.heap.size 31 #[.int .i64 C, .int .i64 Z, .string bk, .slice a0 n0 c0, .slice sa sn sc, .slice ma mn mc, .slice ca cn cc] from hzf)
      have e0 : W6.cell? ⟨w.heap.size + 1, 0, none⟩ = some (.int .i64 0) := hef.cell 0
      clear hzf hef hbf hmf hz0 hz1 hz2 hz3 hz4 hz5 hz6 hm0 hm1 hm2 hm3 hm4 hm5 hm6 he0 he1 he2 he3 he4 he5 he6 hb0 hb1 hb2 hb3 hb4 hb5 hb6 hW6
      simp [Leaves, settle, results, Tryz.results5, go_sem, h0, h1, h2, h3, h4, h5, h6, e0]
      refine ⟨HFIN.out, ⟨a0, n0, c0, sa, sn, sc, ma, mn, mc, ca, cn, cc⟩, ⟨C, Z, bk, T, S, B, K⟩, ⟨HRR.out.1 (by first | rfl | trivial), HEN.out⟩, ?_, rfl, HMF.out⟩
      have hq2 : q = n := by omega
      have h9 := HL4.out
      rw [List.drop_zero, hq2, List.drop_of_length_le (by rw [hB.1]; exact Nat.le_refl _), List.append_nil] at h9
      exact h9
    · refine leaves_cons (f := 10) (args := #[.pointer (some ⟨w.heap.size, 0, none⟩), .pointer (some ⟨w.heap.size + 1, 0, none⟩)]) (by simp) (by simp [go_sem]) ?_
      refine (caught14 w.heap.size (w.heap.size + 1) (Nat.ne_of_lt (Nat.lt_succ_self _)) _ _ _ _ _ _ _ _ _ _ _ _ HZ4.out HE4.out).mono ?_
      rintro e u' w'' ⟨rfl, rfl, hm, he, hbl⟩
      obtain ⟨h0, h1, h2, h3, h4, h5, h6⟩ := cells7 (show Blk w'' w.heap.size 31 #[.int .i64 0, .int .i64 0, .string ⟨#[]⟩, .slice none 0 0, .slice none 0 0, .slice none 0 0, .slice none 0 0] from hm)
      have e0 : w''.cell? ⟨w.heap.size + 1, 0, none⟩ = some (.int .i64 3) := he.cell 0
      have HFIN : Hid (Below w.heap.size w w'') := HB4.out.trans (hbl w.heap.size (Nat.le_refl _) (by omega))
      simp [Leaves, settle, results, Tryz.results5, go_sem, h0, h1, h2, h3, h4, h5, h6, e0]
      exact ⟨HFIN.out, rfl, fun M' k1 k2 e => by have h1 := (HU4.out M' [] (mt1_of k1 k2 e)).2; have h2 := HR4.out.hp; have h3 := congrArg List.length h1; rw [List.length_drop, hB.1] at h3; simp only [List.length_nil] at h3; omega⟩
    · have hx3 := Lib.hid (HX1.out.kept hg (fun e => by have := Option.some.inj e; omega))
      have HX3 := hx3
      have HE3 := Lib.hid (HE1.out.kept hg (fun e => by have := Option.some.inj e; omega))
      have HB3 := Lib.hid (HB1.out.grown hg HB1.out.size (fun k e => by have := Option.some.inj e; omega))
      have HFD := Lib.hid hF
      clear hF hg hx3
      refine leaves_cons (f := 10) (args := #[.pointer (some ⟨w.heap.size, 0, none⟩), .pointer (some ⟨w.heap.size + 1, 0, none⟩)]) (by simp) (by simp [go_sem]) ?_
      refine (caught14 w.heap.size (w.heap.size + 1) (Nat.ne_of_lt (Nat.lt_succ_self _)) _ _ _ _ _ _ _ _ _ _ _ _ HX3.out HE3.out).mono ?_
      rintro e u' w'' ⟨rfl, rfl, hm, he, hbl⟩
      obtain ⟨h0, h1, h2, h3, h4, h5, h6⟩ := cells7 (show Blk w'' w.heap.size 31 #[.int .i64 0, .int .i64 0, .string ⟨#[]⟩, .slice none 0 0, .slice none 0 0, .slice none 0 0, .slice none 0 0] from hm)
      have e0 : w''.cell? ⟨w.heap.size + 1, 0, none⟩ = some (.int .i64 3) := he.cell 0
      have HFIN : Hid (Below w.heap.size w w'') := HB3.out.trans (hbl w.heap.size (Nat.le_refl _) (by omega))
      simp [Leaves, settle, results, Tryz.results5, go_sem, h0, h1, h2, h3, h4, h5, h6, e0]
      exact ⟨HFIN.out, rfl, fun M' k1 k2 e => HFD.out M' [] (mt1_of k1 k2 e)⟩
  · have hd := decide_eq_false hlen
    go_enter_defers Tryz.func5, Tryz.ntmps5
    go_wp2_with (first
      | (go_at_call 11; (try rw [hd]); (with_reducible refine (HN.out _).mono ?_); rintro e w2 ⟨rfl, hw⟩; obtain rfl := hw.symm))
    refine leaves_cons (f := 10) (args := #[.pointer (some ⟨w.heap.size, 0, none⟩), .pointer (some ⟨w.heap.size + 1, 0, none⟩)]) (by simp) (by simp [go_sem]) ?_
    refine (caught14 w.heap.size (w.heap.size + 1) (Nat.ne_of_lt (Nat.lt_succ_self _)) _ _ _ _ _ _ _ _ _ _ _ _ HX0.out HE0.out).mono ?_
    rintro e u' w'' ⟨rfl, rfl, hm, he, hbl⟩
    obtain ⟨h0, h1, h2, h3, h4, h5, h6⟩ := cells7 (show Blk w'' w.heap.size 31 #[.int .i64 0, .int .i64 0, .string ⟨#[]⟩, .slice none 0 0, .slice none 0 0, .slice none 0 0, .slice none 0 0] from hm)
    have e0 : w''.cell? ⟨w.heap.size + 1, 0, none⟩ = some (.int .i64 3) := he.cell 0
    have HFIN : Hid (Below w.heap.size w w'') := HB0.out.trans (hbl w.heap.size (Nat.le_refl _) (by omega))
    simp [Leaves, settle, results, Tryz.results5, go_sem, h0, h1, h2, h3, h4, h5, h6, e0]
    exact ⟨HFIN.out, rfl, fun M' k1 k2 e => by have h1 := encM_len k1.sml; rw [← e, hB.1] at h1; omega⟩
end Go.Proofs.YtdffgnpldapciaaGreatDoor
namespace Go.Proofs.YtdffgnpldapciaaGreatDoor
open Go.RowKit
set_option linter.unusedVariables false

/-- The box of the reference's reader, at a place in the bytes. -/
structure RdR (w0 w : World) (X : Nat) (a : Option Addr) (n c p : Nat) (bad : Bool) (l : List Int) : Prop where
  box : Blk w X 49 #[.slice a n c, .int .i64 p, .bool bad]
  b : Below w0.heap.size w0 w
  x : w0.heap.size ≤ X
  hB : Bytes w0 a n l
  le : n ≤ c
  nil : a = none → c = 0
  hp : p ≤ n
section
variable {w0 w w' : World} {X n c p : Nat} {a : Option Addr} {bad : Bool} {l : List Int}
theorem RdR.later (h : RdR w0 w X a n c p bad l) (hb : Below w.heap.size w w') : RdR w0 w' X a n c p bad l := ⟨h.box.later hb, h.b.trans (hb.mono h.b.size), h.x, h.hB, h.le, h.nil, h.hp⟩
theorem RdR.bytes (h : RdR w0 w X a n c p bad l) : Bytes w a n l := h.hB.later h.b
theorem RdR.cells (h : RdR w0 w X a n c p bad l) : w.cell? ⟨X, 0, none⟩ = some (.slice a n c) ∧ w.cell? ⟨X, 1, none⟩ = some (.int .i64 p) ∧ w.cell? ⟨X, 2, none⟩ = some (.bool bad) ∧ w.frozen? ⟨X, 1, none⟩ = false ∧ w.frozen? ⟨X, 2, none⟩ = false := ⟨by rw [h.box.cell]; rfl, by rw [h.box.cell]; rfl, by rw [h.box.cell]; rfl, h.box.free 1, h.box.free 2⟩
theorem RdR.put (h : RdR w0 w X a n c p bad l) {q : Nat} (hq : q ≤ n) : RdR w0 (w.setCell ⟨X, 1, none⟩ (.int .i64 q)) X a n c q bad l :=
  ⟨h.box.set 1 _, h.b.setCell h.x _, h.x, h.hB, h.le, h.nil, hq⟩
theorem RdR.spoil (h : RdR w0 w X a n c p bad l) : RdR w0 (w.setCell ⟨X, 2, none⟩ (.bool true)) X a n c p true l :=
  ⟨h.box.set 2 _, h.b.setCell h.x _, h.x, h.hB, h.le, h.nil, h.hp⟩
theorem RdR.kept (h : RdR w0 w X a n c p bad l) {row : Option Nat} (hg : w.grownBy w' row) (hr : row ≠ some X) (hl : ∀ k, row = some k → w0.heap.size ≤ k) : RdR w0 w' X a n c p bad l :=
  ⟨h.box.kept hg (fun e => hr e.symm), h.b.grown hg h.b.size hl, h.x, h.hB, h.le, h.nil, h.hp⟩
theorem RdR.size (h : RdR w0 w X a n c p bad l) : n ≤ 140737488351232 ∧ l.length = n ∧ ∀ x ∈ l, 0 ≤ x ∧ x < 256 := ⟨by have := h.hB.small.1; rwa [h.hB.1] at this, h.hB.1, h.hB.small.2⟩
theorem RdR.first {w : World} {a : Option Addr} {n c : Nat} {l : List Int} (hB : Bytes w a n l) (hc : n ≤ c) (hn : a = none → c = 0) : RdR w (w.alloc (.cells #[.slice a n c, .int .i64 0, .bool false] 49)) w.heap.size a n c 0 false l :=
  ⟨Blk.new w _ _, (Below.refl _ _).alloc (Nat.le_refl _) _, Nat.le_refl _, hB, hc, hn, Nat.zero_le _⟩
end
/-- What a reading call of the reference's does: it always hands something back; once bad, always bad. -/
def RrQ (w0 : World) (X : Nat) (a : Option Addr) (n c : Nat) (l : List Int) (bad : Bool) (P : Value → Nat → Bool → World → Prop) (W : World) (e : Ending) (w' : World) : Prop :=
  ∃ v p' bad', e = .returned v ∧ RdR w0 w' X a n c p' bad' l ∧ W.grownBy w' (some X) ∧ (bad = true → bad' = true) ∧ P v p' bad' w'
set_option maxHeartbeats 1600000 in
theorem refNum12 {w0 w : World} {X : Nat} {a : Option Addr} {n c p : Nat} {bad : Bool} {l : List Int} (h : RdR w0 w X a n c p bad l) (k : Nat) (K : Int) (hk : (k : Int) = K) (h1 : 1 ≤ k) (h4 : k ≤ 4) :
    Calls Tryz.prog 14 #[.pointer (some ⟨X, 0, none⟩), .int .i64 K] w (RrQ w0 X a n c l bad (fun v p' bad' _ => ∃ x : Nat, v = .int .i64 x ∧ x < 256 ^ k ∧ ∀ y r, y < 256 ^ k → bad = false → l.drop p = numB false k y ++ r → bad' = false ∧ x = y ∧ l.drop p' = r) w) := by
  obtain ⟨hn, hl, hb⟩ := h.size
  have hpn := h.hp
  have HR := Lib.hid h
  have HKS : Hid (∀ W, Below w.heap.size w W → W.cell? ⟨X, 0, none⟩ = some (.slice a n c) ∧ W.cell? ⟨X, 1, none⟩ = some (.int .i64 p)) := fun W hb => ⟨(h.later hb).cells.1, (h.later hb).cells.2.1⟩
  have HR0 := Lib.hid (Below.refl w.heap.size w)
  have HRD := Lib.hid (Below.refl w.heap.size w).drew
  have HPW : Hid (0 < 256 ^ k) := Nat.pow_pos (by decide)
  by_cases hp : p + k ≤ n
  · have HG := Lib.hid (fun W hb' => refGet_ok a n c k p l false W (h.later (w := w) (w' := W) hb').bytes h1 (by omega) hp)
    have hnum := numB_getTo hb k p (by omega)
    have hlt : getTo false k p l k < 256 ^ k := getTo_lt hb false k p k
    have hlt4 : getTo false k p l k < 4294967296 := Nat.lt_of_lt_of_le hlt (pow_le4 h4)
    obtain ⟨v, hv⟩ := named (getTo false k p l k)
    rw [hv.out] at HG hnum hlt hlt4
    have HL : Hid (l.drop p = numB false k v ++ l.drop (p + k)) := by
      rw [Hid, hnum, ← List.drop_drop, List.take_append_drop]
    have HLT := Lib.hid hlt
    have hw : IntKind.i64.wrap (v : Int) = v := IntWalk.i64_in _ (by omega)
    obtain ⟨q, hq⟩ := named (p + k)
    have hw2 : IntKind.i64.wrap ((p : Int) + K) = (q : Int) := by rw [IntWalk.i64_in _ (by omega), ← hq.out]; omega
    have hqn : q ≤ n := by rw [← hq.out]; exact hp
    rw [hk] at HG
    rw [hq.out] at HL
    have HT : Hid (∀ y r, y < 256 ^ k → l.drop p = numB false k y ++ r → v = y ∧ l.drop q = r) := fun y r hy e => num_tells (by omega) HLT.out hy hlt4 (Nat.lt_of_lt_of_le hy (pow_le4 h4)) (HL.out.symm.trans e)
    clear hnum hlt hv h hb
    cases bad
    all_goals
      go_enter Tryz.func14, Tryz.ntmps14
      go_wp2
      go_region_held3 (fun W => W.cell? ⟨X, 0, none⟩ = some (.slice a n c) ∧ W.cell? ⟨X, 1, none⟩ = some (.int .i64 p)) (first | with_reducible exact HKS.out _ HR0.out | with_reducible exact HKS.out _ HRD.out) (first | (go_at_call 35; (with_reducible refine (HG.out _ HRD.out).mono ?_); rintro e w1 ⟨rfl, rfl⟩))
      obtain ⟨c0, c1, c2, f1, f2⟩ := (HR.out.later HRD.out).cells
      go_wp2
      go_ret
    · exact ⟨_, q, false, rfl, (HR.out.later HRD.out).put hqn, (grown_below HRD.out _).setC _ _, fun e => (by cases e), v, rfl, HLT.out, fun y r hy _ e => ⟨rfl, HT.out y r hy e⟩⟩
    · exact ⟨_, p, true, rfl, (HR.out.later HRD.out).spoil, (grown_below HRD.out _).setC _ _, fun _ => rfl, 0, rfl, HPW.out, fun y r hy e => (by cases e)⟩
  · have HG := Lib.hid (fun (W : World) (_ : Below w.heap.size w W) => refGet_range a n c k p false W h1 (by omega) hn (Or.inr (by omega)))
    have HF : Hid (∀ x r, l.drop p ≠ numB false k x ++ r) := fun x r e => by
      have := congrArg List.length e
      rw [List.length_append, numB_len, List.length_drop] at this
      omega
    rw [hk] at HG
    clear h hb
    cases bad
    all_goals
      go_enter Tryz.func14, Tryz.ntmps14
      go_wp2
      go_region_held3 (fun W => W.cell? ⟨X, 0, none⟩ = some (.slice a n c) ∧ W.cell? ⟨X, 1, none⟩ = some (.int .i64 p)) (first | with_reducible exact HKS.out _ HR0.out | with_reducible exact HKS.out _ HRD.out) (first | (go_at_call 35; (with_reducible refine (HG.out _ HRD.out).mono ?_); rintro e w1 ⟨rfl, rfl⟩))
      obtain ⟨c0, c1, c2, f1, f2⟩ := (HR.out.later HRD.out).cells
      go_wp2
      go_ret
      exact ⟨_, p, true, rfl, (HR.out.later HRD.out).spoil, (grown_below HRD.out _).setC _ _, fun _ => rfl, 0, rfl, HPW.out, fun y r hy _ e => absurd e (HF.out y r)⟩
set_option maxHeartbeats 1600000 in
theorem refText12 {w0 w : World} {X : Nat} {a : Option Addr} {n c p : Nat} {bad : Bool} {l : List Int} (h : RdR w0 w X a n c p bad l) :
    Calls Tryz.prog 15 #[.pointer (some ⟨X, 0, none⟩)] w (RrQ w0 X a n c l bad (fun v p' bad' _ => ∃ s : ByteArray, v = .string s ∧ s.size ≤ 65535 ∧ ∀ y r, y.size ≤ 65535 → bad = false → l.drop p = textB y ++ r → bad' = false ∧ s = y ∧ l.drop p' = r) w) := by
  obtain ⟨hn, hl, hb⟩ := h.size
  have hpn := h.hp
  have HR := Lib.hid h
  have HKS : Hid (∀ W, Below w.heap.size w W → W.cell? ⟨X, 0, none⟩ = some (.slice a n c) ∧ W.cell? ⟨X, 1, none⟩ = some (.int .i64 p)) := fun W hb => ⟨(h.later hb).cells.1, (h.later hb).cells.2.1⟩
  have HR0 := Lib.hid (Below.refl w.heap.size w)
  have HRD := Lib.hid (Below.refl w.heap.size w).drew
  by_cases hp : p + 2 + readN p l ≤ n
  · have HG := Lib.hid (fun W hb' => refRead_ok a n c p l W (h.later (w := w) (w' := W) hb').bytes h.le h.nil hp)
    obtain ⟨hsz, hat⟩ := text_at (p := p) hb (by rw [hl]; exact hp)
    have hlt := readN_lt hb p
    obtain ⟨s, hs⟩ := named (strOfNums ((l.drop (p + 2)).take (readN p l)))
    rw [hs.out] at HG hsz hat
    obtain ⟨q, hq⟩ := named (p + 2 + readN p l)
    rw [hq.out] at HG hp hat
    have HL := Lib.hid hat
    have hs64 : s.size ≤ 65535 := by omega
    have HT : Hid (∀ y r, y.size ≤ 65535 → l.drop p = textB y ++ r → s = y ∧ l.drop q = r) := fun y r hy e => text_tells hs64 hy (HL.out.symm.trans e)
    clear hat hsz hlt hs h hb
    cases bad
    all_goals
      go_enter Tryz.func15, Tryz.ntmps15
      go_wp2
      go_region_held3 (fun W => W.cell? ⟨X, 0, none⟩ = some (.slice a n c) ∧ W.cell? ⟨X, 1, none⟩ = some (.int .i64 p)) (first | with_reducible exact HKS.out _ HR0.out | with_reducible exact HKS.out _ HRD.out) (first | (go_at_call 36; (with_reducible refine (HG.out _ HRD.out).mono ?_); rintro e w1 ⟨rfl, rfl⟩))
      obtain ⟨c0, c1, c2, f1, f2⟩ := (HR.out.later HRD.out).cells
      go_wp2
      go_ret
    · exact ⟨_, q, false, rfl, (HR.out.later HRD.out).put hp, (grown_below HRD.out _).setC _ _, fun e => (by cases e), s, rfl, hs64, fun y r hy _ e => ⟨rfl, HT.out y r hy e⟩⟩
    · exact ⟨_, p, true, rfl, (HR.out.later HRD.out).spoil, (grown_below HRD.out _).setC _ _, fun _ => rfl, _, rfl, by show (0 : Nat) ≤ 65535; omega, fun y r hy e => (by cases e)⟩
  · have HG : Hid (∀ W, Below w.heap.size w W → Calls Tryz.prog 36 #[.slice a n c, .int .i64 p] W fun e w' => e = .returned (.tuple #[.string ByteArray.empty, .int .i64 0, .int .i64 6]) ∧ W = w') := fun W hb' => by
      by_cases h2 : p + 2 ≤ n
      · exact refRead_short a n c p l W (h.later (w := w) (w' := W) hb').bytes h2 (by omega)
      · exact refRead_range a n c p W hn (Or.inr (by omega))
    have HF : Hid (∀ y r, y.size ≤ 65535 → l.drop p ≠ textB y ++ r) := fun y r hy e => by
      obtain ⟨k1, k2, k3⟩ := text_not (by rw [hl]; exact hpn) hy e
      rw [k2] at hp
      omega
    clear h hb
    cases bad
    all_goals
      go_enter Tryz.func15, Tryz.ntmps15
      go_wp2
      go_region_held3 (fun W => W.cell? ⟨X, 0, none⟩ = some (.slice a n c) ∧ W.cell? ⟨X, 1, none⟩ = some (.int .i64 p)) (first | with_reducible exact HKS.out _ HR0.out | with_reducible exact HKS.out _ HRD.out) (first | (go_at_call 36; (with_reducible refine (HG.out _ HRD.out).mono ?_); rintro e w1 ⟨rfl, rfl⟩))
      obtain ⟨c0, c1, c2, f1, f2⟩ := (HR.out.later HRD.out).cells
      go_wp2
      go_ret
      exact ⟨_, p, true, rfl, (HR.out.later HRD.out).spoil, (grown_below HRD.out _).setC _ _, fun _ => rfl, _, rfl, by show (0 : Nat) ≤ 65535; omega, fun y r hy _ e => absurd e (HF.out y r hy)⟩
end Go.Proofs.YtdffgnpldapciaaGreatDoor
namespace Go.Proofs.YtdffgnpldapciaaGreatDoor
open Go.RowKit
set_option linter.unusedVariables false

set_option maxRecDepth 100000 in
set_option maxHeartbeats 1600000 in
theorem refRead_out (w : World) (a : Option Addr) (len cap : Nat) (p : Int) (l : List Int) (n c : Int) (hB : Bytes w a len l) (h : p < 0 ∨ (len : Int) < p + 2) :
    Calls Tryz.prog 37 #[.slice a len cap, .int .i64 p, .int .i64 n, .int .i64 c] w (ReadP none w) := by
  have HF : Hid (Calls Tryz.prog 35 #[.slice a len cap, .int .i64 p, .int .i64 2, .bool false] (w.alloc (.cells #[.slice none 0 0] 26)) fun e w' => e = .returned (.tuple #[.int .u64 0, .int .i64 6]) ∧ (w.alloc (.cells #[.slice none 0 0] 26)) = w') := Lib.hid (refGet_range a len cap 2 p false _ (by omega) (by omega) (by rw [← hB.1]; exact hB.2.1.1) h)
  have HX2 := Lib.hid ((Blk.new w 26 #[.slice none 0 0]).set 0 (.slice none 0 0))
  have HX3 := Lib.hid (Blk.new w 26 #[.slice none 0 0])
  have HB2 : Hid (Below w.heap.size w (w.alloc (.cells #[.slice none 0 0] 26))) := (Below.refl _ _).alloc (Nat.le_refl _) _
  clear hB h
  go_enter Tryz.func37, Tryz.ntmps37
  go_wp2_with (go_at_call 35; (with_reducible refine HF.out.mono ?_); rintro e w1 ⟨rfl, rfl⟩)
  first
    | (refine bodyPost_ret (results_cell_two rfl _ _ w.heap.size 26 #[.slice none 0 0] (0, 0) _ rfl _ _ rfl rfl HX2.out Tryz.underlying26 rfl tbl_size) rfl ?_; exact ⟨rfl, HB2.out.setCell (Nat.le_refl _) _⟩)
    | (refine bodyPost_ret (results_cell_two rfl _ _ w.heap.size 26 #[.slice none 0 0] (0, 0) _ rfl _ _ rfl rfl HX3.out Tryz.underlying26 rfl tbl_size) rfl ?_; exact ⟨rfl, HB2.out⟩)
theorem readU_wide {l : List Int} {p : Nat} {n c : Int} (h : c < 0 ∨ 6 < c) : readU l p n c = none := by
  unfold readU
  split
  · rfl
  · rw [if_neg]
    intro hr
    have := hr.2.1
    omega
theorem full_of {l : List Int} {len k k2 : Nat} {c : Int} {o : Option (List En)} (h1 : ¬ len < k + 130) (h : entsB l k2 c 8 = o) : (if len < k + 130 then none else entsB l k2 c 8) = o := by rw [if_neg h1]; exact h
set_option maxRecDepth 100000 in
set_option maxHeartbeats 3200000 in
theorem refRead_any (w : World) (a : Option Addr) (len cap p : Nat) (l : List Int) (n c : Int) (hB : Bytes w a len l) (hcap : len ≤ cap) (hp : p + 2 ≤ len) :
    Calls Tryz.prog 37 #[.slice a len cap, .int .i64 p, .int .i64 n, .int .i64 c] w (ReadP (readU l p n c) w) := by
  have hsm : len ≤ 140737488351232 := by rw [← hB.1]; exact hB.2.1.1
  have hb0 : ∀ x ∈ l, 0 ≤ x ∧ x < 256 := hB.2.1.2
  have hll := hB.1
  have hv : getTo false 2 p l 2 < 65536 := getTo_lt hb0 false 2 p 2
  have hal : Below w.heap.size w (w.alloc (.cells #[.slice none 0 0] 26)) := (Below.refl _ _).alloc (Nat.le_refl _) _
  have HF : Hid (Calls Tryz.prog 35 #[.slice a len cap, .int .i64 p, .int .i64 2, .bool false] (w.alloc (.cells #[.slice none 0 0] 26)) fun e w' => e = .returned (.tuple #[.int .u64 (getTo false 2 p l 2 : Nat), .int .i64 0]) ∧ (w.alloc (.cells #[.slice none 0 0] 26)) = w') := Lib.hid (refGet_ok a len cap 2 p l false _ (hB.later hal) (by omega) (by omega) (by omega))
  by_cases hcc : c < 0 ∨ 6 < c
  · have HRU := Lib.hid (readU_wide (l := l) (p := p) (n := n) hcc)
    have HX2 := Lib.hid ((Blk.new w 26 #[.slice none 0 0]).set 0 (.slice none 0 0))
    have HX3 := Lib.hid (Blk.new w 26 #[.slice none 0 0])
    have HB2 := Lib.hid hal
    obtain ⟨v, hvv⟩ := named (getTo false 2 p l 2)
    rw [hvv.out] at HF
    have hc3 : c < 0 ∨ (¬ c < 0 ∧ 6 < c) := by omega
    clear hB hal hcc
    rcases hc3 with hc3 | ⟨hc3, hc4⟩
    all_goals
      go_enter Tryz.func37, Tryz.ntmps37
      go_wp2_with (go_at_call 35; (with_reducible refine HF.out.mono ?_); rintro e w1 ⟨rfl, rfl⟩)
      first
        | (refine bodyPost_ret (results_cell_two rfl _ _ w.heap.size 26 #[.slice none 0 0] (0, 0) _ rfl _ _ rfl rfl HX2.out Tryz.underlying26 rfl tbl_size) rfl ?_; rw [HRU.out]; exact ⟨rfl, HB2.out.setCell (Nat.le_refl _) _⟩)
        | (refine bodyPost_ret (results_cell_two rfl _ _ w.heap.size 26 #[.slice none 0 0] (0, 0) _ rfl _ _ rfl rfl HX3.out Tryz.underlying26 rfl tbl_size) rfl ?_; rw [HRU.out]; exact ⟨rfl, HB2.out⟩)
  · have hc3 : ¬ c < 0 := by omega
    have hc4 : ¬ 6 < c := by omega
    have HB := Lib.hid hB
    have HU := Lib.hid (fun (k0 v : Nat) => @readU_no l p n c k0 v)
    have HUS := Lib.hid (fun (k0 v : Nat) => @readU_is l p n c k0 v)
    have HB1 := Lib.hid (RdB.first (o := .slice none 0 0) (Below.refl _ (w.alloc (.cells #[.slice none 0 0] 26))))
    obtain ⟨v, hvv⟩ := named (getTo false 2 p l 2)
    rw [hvv.out] at hv HF
    have HVV := Lib.hid hvv.out
    obtain ⟨k0, hk0⟩ := named (p + 2)
    have hpk : (p : Int) + 2 = (k0 : Int) := by rw [← hk0.out]; omega
    have HK0 := Lib.hid hk0.out
    have hkl : k0 ≤ len := by rw [← hk0.out]; omega
    have HUN : Hid (readI l k0 c v = none → readU l p n c = none) := HU.out k0 v HK0.out HVV.out
    have HUY : Hid (∀ {T k}, readI l k0 c v = some (T, k) → readU l p n c = if rightT T n c then some (T, k) else none) := fun h => HUS.out k0 v HK0.out HVV.out h
    have hwv : IntKind.i64.wrap (v : Int) = v := by rw [IntKind.wrap_i64]; omega
    rw [World.size_alloc] at HB1
    obtain ⟨X, hX⟩ := named w.heap.size
    have hXX := hX.out
    rw [hX.out] at HB1
    obtain ⟨Y, hY⟩ := named (X + 1)
    have hYY := hY.out
    rw [hY.out] at HB1
    clear hB hvv hal HU HUS hcc
    go_enter Tryz.func37, Tryz.ntmps37
    go_wp2_with (go_at_call 35; (with_reducible refine HF.out.mono ?_); rintro e w1 ⟨rfl, rfl⟩)
    all_goals (first | (exfalso; omega) | skip)
    go_loopw [13, 15, 16] (fun b z i wr => ∃ (m k : Nat) (T : Tb) (a' : Option Addr) (c' : Nat) (es : List LfD), m ≤ v ∧ b = .int .i64 k ∧ z = .int .i64 ((T.length : Int) - 1) ∧ i = .int .i64 m ∧ Hid (readI l k0 c m = some (T, k)) ∧ Hid (tbOf es = T) ∧ Hid (RdB X Y (.slice none 0 0) (.slice a' T.length c') w wr) ∧ Hid (TabQ wr X a' T.length c' es es)) (fun _ _ i _ => v - (intOf i).toNat)
    case atStart => exact ⟨0, k0, [], none, 0, [], Nat.zero_le _, rfl, rfl, rfl, rfl, rfl, HB1.out, TabQ.first _ _⟩
    case round =>
      obtain ⟨m, k, T, a', c', es, hm, rfl, rfl, rfl, HR, HE, HB2, HQ⟩ := hrel
      obtain ⟨x1, x2, x3, x4⟩ := HB2.out.cells
      obtain ⟨-, hk5, hM5, hlens⟩ := readI_at hb0 (by omega) HR.out
      have HLE := Lib.hid hlens
      obtain ⟨M, hM⟩ := named T.length
      rw [hM.out] at HB2 HQ x3 hM5 ⊢
      clear hlens
      by_cases hlt : m < v
      · have hm2 : (m : Int) < (v : Int) := by omega
        have HST := Lib.hid (readI_stop HR.out hlt)
        rw [hll] at HST
        by_cases h130 : len < k + 130
        · have hc5 : (len : Int) - (k : Int) < 130 := by omega
          have HRU := Lib.hid (HUN.out (HST.out (Or.inl (if_pos h130))))
          have HB5 := Lib.hid (HB2.out.res (.slice none 0 0))
          clear HST
          go_wp2
          refine bodyPost_ret (results_cell_two rfl _ _ X 26 #[.slice none 0 0] (0, 0) _ rfl _ _ rfl rfl HB5.out.1 Tryz.underlying26 rfl tbl_size) rfl ?_
          rw [HRU.out]
          exact ⟨rfl, hX.out.symm ▸ HB5.out.2.2.1⟩
        · have hc5 : ¬ (len : Int) - (k : Int) < 130 := by omega
          have hgl : getTo false 2 k l 2 < 65536 := getTo_lt hb0 false 2 k 2
          have HMR := Lib.hid (fun g hg => @readI_more l k0 c m T k HR.out g hg)
          have HLF := Lib.hid (fun w' (hb : Below X w w') => refAt_any a len cap 2 k 2 (k : Int) l w' (HB.out.later (hX.out.symm ▸ hb)) (by omega) (by omega) (by omega) rfl rfl)
          obtain ⟨g, hg⟩ := named (getTo false 2 k l 2)
          rw [hg.out] at HLF HST hgl
          rw [hM.out] at HST
          have HBL : Hid (Below X w wr) := HB2.out.2.2.1
          by_cases hgd : M ≤ g ∧ g < 512
          · have hg1 : ¬ (g : Int) ≤ (M : Int) - 1 := by omega
            have hg2 : ¬ 512 ≤ (g : Int) := by omega
            have hg3 : ¬ (g : Int) < (M : Int) := by omega
            have hg4 : ¬ (512 : Nat) ≤ g ∧ ¬ g < M := by omega
            have hgd1 := hgd.1
            have HRI := Lib.hid (fun xs (h : entsB l (k + 2) c 8 = some xs) => HMR.out g hg.out (by rw [hll]; exact h130) (by rw [hM.out]; exact hgd.1) hgd.2 h)
            clear HMR
            go_wp2_with (go_at_call 56; (with_reducible refine (HLF.out _ HBL.out).mono ?_); rintro e w5 ⟨rfl, rfl⟩)
            go_loopw [] (fun wq => ∃ (q : Nat) (a2 : Option Addr) (c2 : Nat) (es2 : List LfD), M + q ≤ g ∧ Hid (tbOf es2 = T ++ List.replicate q []) ∧ Hid (RdB X Y (.slice none 0 0) (.slice a2 (M + q) c2) w wq) ∧ Hid (TabQ wq X a2 (M + q) c2 es2 es2)) (fun wq => g - lenOf9 wq Y)
            case atStart => exact ⟨0, a', c', es, hgd1, (show tbOf es = T ++ List.replicate 0 [] by rw [HE.out]; simp), HB2.out, HQ.out⟩
            case round =>
              obtain ⟨q, a2, c2, es2, hq, HE2, HB5, HQ5⟩ := hrel
              obtain ⟨z1, z2, z3, z4⟩ := HB5.out.cells
              obtain ⟨S, hS⟩ := named (M + q)
              rw [hS.out] at HB5 HQ5 z3 hq
              have hl1 := lenOf9_is z3
              have hXs := HB5.out.size
              by_cases hlq : S < g
              · have hlq2 : (S : Int) < (g : Int) := by omega
                have HQA := Lib.hid (HQ5.out.alloc (.cells #[.slice none 0 0] 88))
                have HBA := Lib.hid (HB5.out.alloc (.cells #[.slice none 0 0] 88))
                have HRD := Lib.hid (one_reads (cv := cvD) wr (none, 0, 0, []) #[.slice none 0 0] 88 rfl)
                go_wp2_with (at_builtin; refine append_gg lf_rowed rfl _ _ rfl X _ S es2 rfl HQA.out.out (some ⟨wr.heap.size, 0, none⟩) 1 1 [(none, 0, 0, [])] rfl (fun e => by cases e) HRD.out (by omega) (by rw [World.size_alloc]; omega) ?_; intro a3 c3 w6 hO hB6 hg6; have hb6 := HBA.out.app HQA.out.out (Nat.le_refl _) hg6; have hq6 := HQA.out.nilMore hO hg6; have HB6 := Lib.hid (hb6.out (.slice a3 (S + 1) c3)); have HQ6 := Lib.hid (hq6.box hb6.2.1 (grownBy_setCell4 w6 Y 0 (.slice a3 (S + 1) c3))); obtain ⟨t1, t2, t3, t4⟩ := hb6.cells; clear hb6 hq6 hO hB6 hg6)
                go_roundw
                case rel =>
                  refine ⟨q + 1, a3, c3, es2 ++ [(none, 0, 0, [])], by have := hS.out; omega, ?_, ?_, ?_⟩
                  · show tbOf (es2 ++ [(none, 0, 0, [])]) = _
                    rw [tb_snoc, HE2.out, List.replicate_succ', List.append_assoc]
                  · rw [← Nat.add_assoc, hS.out]
                    exact HB6.out
                  · rw [← Nat.add_assoc, hS.out]
                    exact HQ6.out
                case measure =>
                  have hl2 := lenOf9_is HB6.out.cells.2.2.1
                  rw [hl1, hl2]
                  omega
              · have hSg : S = g := by omega
                subst hSg
                have hlq2 : ¬ (S : Int) < (S : Int) := by omega
                have HP : Hid (tbOf es2 = padTo T S) := by
                  show tbOf es2 = _
                  rw [HE2.out]
                  unfold padTo
                  rw [hM.out, show q = S - M by have := hS.out; omega]
                obtain ⟨W2, hW2⟩ : ∃ W2 : World, W2 = wr := ⟨wr, rfl⟩
                obtain ⟨Z, hZ⟩ := named W2.heap.size
                obtain ⟨K2, hK2⟩ := named (k + 2)
                have hkk : (k : Int) + 2 = (K2 : Int) := by rw [← hK2.out]; omega
                rw [hK2.out] at HRI HST
                rw [← hW2] at HB5 HQ5 hXs
                go_wp2
                go_loopw [13, 18, 19] (fun b s i wq => ∃ (j : Nat) (a3 : Option Addr) (c3 : Nat) (ys : List En), j ≤ 8 ∧ b = .int .i64 ((K2 : Int) + 16 * (j : Int)) ∧ s = .slice a3 j c3 ∧ i = .int .i64 j ∧ Hid (entsB l K2 c j = some ys) ∧ Hid (LfO wq Z (a3, j, c3, ys)) ∧ Hid (Below Z W2 wq)) (fun _ _ i _ => 8 - (intOf i).toNat)
                case atStart => exact ⟨0, none, 0, [], Nat.zero_le _, (by simp), rfl, rfl, rfl, LfO.none _ _, (by rw [hW2]; exact Below.refl _ _)⟩
                case round =>
                  obtain ⟨j, a3, c3, ys, hj, rfl, rfl, rfl, HEN, HLV, HBZ⟩ := hrel
                  have hXZ : X ≤ Z := by rw [← hZ.out]; exact hXs
                  have hbz : Below W2.heap.size W2 wr := hZ.out.symm ▸ HBZ.out
                  have hbw : Below X w wr := HB5.out.2.2.1.trans (HBZ.out.mono hXZ)
                  have HZW : Hid (Z ≤ wr.heap.size) := Nat.le_trans (Nat.le_of_eq hZ.out.symm) hbz.size
                  have hyl := entsB_len HEN.out
                  have hji : 0 ≤ (j : Int) := by omega
                  by_cases hj8 : j < 8
                  · have hj8i : (j : Int) < 8 := by omega
                    obtain ⟨q0, hq0⟩ := named (K2 + j * 16)
                    obtain ⟨r, hr⟩ := named (q0 + 16)
                    have hqi : (K2 : Int) + 16 * (j : Int) = (q0 : Int) := by rw [← hq0.out]; omega
                    have hqr : (q0 : Int) + 16 = (r : Int) := by rw [← hr.out]; omega
                    have hrl : r ≤ len := by rw [← hr.out, ← hq0.out, ← hK2.out]; omega
                    have hBr := HB.out.later (hX.out.symm ▸ hbw)
                    obtain ⟨a4, hs1, hs2⟩ := slice_mid9 hBr hcap q0 r (by rw [← hr.out]; omega) hrl
                    have hrq : r - q0 = 16 := by rw [← hr.out]; omega
                    rw [hrq] at hs1 hs2
                    have HEG := Lib.hid (refGetEntry_any wr a4 16 (cap - q0) _ c hs2)
                    obtain ⟨cq, hcq⟩ := named (cap - q0)
                    rw [hcq.out] at HEG hs1
                    cases hge : getE (partB l (K2 + j * 16)) c with
                    | none =>
                      have hn : entsB l K2 c 8 = none := by
                        have := ents_stop HEN.out hge (7 - j)
                        rwa [show j + 1 + (7 - j) = 8 by omega] at this
                      have HRU := Lib.hid (HUN.out (HST.out (Or.inl (full_of h130 hn))))
                      have HBW := Lib.hid (HB5.out.later hbz)
                      unfold partB at hge
                      rw [hq0.out] at hge
                      have HGE := Lib.hid hge
                      clear hge hn hs2 hBr hbz hbw HST
                      go_wp2_with (go_at_call 57; (with_reducible refine HEG.out.mono ?_); intro e w4 h; obtain ⟨rfl, g4⟩ := got_no HGE.out h; obtain ⟨y1, y2, y3, y4⟩ := ((HBW.out.later g4).alloc (.cells #[.int .i64 0, .int .i64 0, .int .i64 0, .int .i64 0, .int .u32 0] 91)).cells; have HB5 := Lib.hid (((HBW.out.later g4).alloc (.cells #[.int .i64 0, .int .i64 0, .int .i64 0, .int .i64 0, .int .u32 0] 91)).res (.slice none 0 0)); clear h g4)
                      refine bodyPost_ret (results_cell_two rfl _ _ X 26 #[.slice none 0 0] (0, 0) _ rfl _ _ rfl rfl HB5.out.1 Tryz.underlying26 rfl tbl_size) rfl ?_
                      rw [HRU.out]
                      exact ⟨rfl, hX.out.symm ▸ HB5.out.2.2.1⟩
                    | some x =>
                      obtain ⟨v1, v2, v3, v4, v5⟩ := x
                      have hn := ents_next HEN.out hge
                      have hxo := (entsB_may hb0 hn _ (List.mem_append_right _ (List.mem_singleton.2 rfl))).2
                      have HN := Lib.hid hn
                      have HXO := Lib.hid hxo
                      unfold partB at hge
                      rw [hq0.out] at hge
                      have HGE := Lib.hid hge
                      clear hge hn hxo hs2 hBr hbz hbw HST
                      go_wp2_with (first
                        | (go_at_call 57; (with_reducible refine HEG.out.mono ?_); intro e w4 h; obtain ⟨rfl, g4⟩ := got_yes HGE.out h; have HLA := Lib.hid (((HLV.out.later g4).later ((Below.refl _ _).alloc (Nat.le_refl _) (.cells #[.int .i64 v1, .int .i64 v2, .int .i64 v3, .int .i64 v4, .int .u32 v5] 91))).later ((Below.refl _ _).alloc (Nat.le_refl _) (.cells #[.int .i64 v1, .int .i64 v2, .int .i64 v3, .int .i64 v4, .int .u32 v5] 91))); have HBA := Lib.hid (((HBZ.out.trans (g4.mono HZW.out)).alloc (Nat.le_trans HZW.out g4.size) (.cells #[.int .i64 v1, .int .i64 v2, .int .i64 v3, .int .i64 v4, .int .u32 v5] 91)).alloc (by rw [World.size_alloc]; have := Nat.le_trans HZW.out g4.size; omega) (.cells #[.int .i64 v1, .int .i64 v2, .int .i64 v3, .int .i64 v4, .int .u32 v5] 91)); have hrd := one_reads (cv := enV) (w4.alloc (.cells #[.int .i64 v1, .int .i64 v2, .int .i64 v3, .int .i64 v4, .int .u32 v5] 91)) (v1, v2, v3, v4, v5) #[.int .i64 v1, .int .i64 v2, .int .i64 v3, .int .i64 v4, .int .u32 v5] 91 rfl; rw [World.size_alloc] at hrd; have HRD := Lib.hid hrd; have HZ4 : Hid (Z ≤ w4.heap.size) := Nat.le_trans HZW.out g4.size; clear h g4 hrd)
                        | (at_builtin; refine append_gg en_rowed rfl _ _ rfl Z _ j ys rfl HLA.out.1 (some ⟨w4.heap.size + 1, 0, none⟩) 1 1 [(v1, v2, v3, v4, v5)] rfl (fun e => by cases e) HRD.out (by omega) (by rw [World.size_alloc, World.size_alloc]; have := HZ4.out; omega) ?_; intro a5 c5 w6 hO hB6 hg6; have HL6 : Hid (LfO w6 Z (a5, j + 1, c5, ys ++ [(v1, v2, v3, v4, v5)])) := ⟨hO, fun y hy => (List.mem_append.1 hy).elim (fun h => HLA.out.2 y h) (fun h => by rw [List.mem_singleton] at h; subst h; exact HXO.out)⟩; have HB6 := Lib.hid (HBA.out.trans hB6); clear hO hB6 hg6))
                      go_roundw
                      case rel => exact ⟨j + 1, a5, c5, ys ++ [(v1, v2, v3, v4, v5)], by omega, (by first | go_num | (congr 1; omega)), rfl, by go_num, HN.out, HL6.out, HB6.out⟩
                      case measure => simp [intOf]; omega
                  · have hj9 : j = 8 := by omega
                    subst hj9
                    have HRJ := Lib.hid (HRI.out ys HEN.out)
                    have HBW := Lib.hid (HB5.out.later hbz)
                    have HQW := Lib.hid (HQ5.out.later hbz)
                    have HFR : Hid (∀ x ∈ es2, ∀ b, blkD x = some b → blkD (a3, 8, c3, ys) ≠ some b) := fun x hx b hb hb' => by
                      have h1 := HQ5.out.lt x hx b hb
                      have h2 := (HLV.out.lt hb').1
                      rw [hZ.out] at h1
                      omega
                    obtain ⟨z5, z6, z7, z8⟩ := HBW.out.cells
                    have HQA := Lib.hid (HQW.out.alloc (.cells #[.slice a3 8 c3] 88))
                    have HBA := Lib.hid (HBW.out.alloc (.cells #[.slice a3 8 c3] 88))
                    have HLA := Lib.hid ((HLV.out.mono hXZ).later ((Below.refl _ _).alloc (Nat.le_refl _) (.cells #[.slice a3 8 c3] 88)))
                    have HRD := Lib.hid (one_reads (cv := cvD) wr (a3, 8, c3, ys) #[.slice a3 8 c3] 88 rfl)
                    have hXw := HBW.out.size
                    clear hbz hbw HST
                    go_wp2_with (at_builtin; refine append_gg lf_rowed rfl _ _ rfl X _ S es2 rfl HQA.out.out (some ⟨wr.heap.size, 0, none⟩) 1 1 [(a3, 8, c3, ys)] rfl (fun e => by cases e) HRD.out (by omega) (by rw [World.size_alloc]; omega) ?_; intro a5 c5 w6 hO hB6 hg6; have hb6 := HBA.out.app HQA.out.out (Nat.le_refl _) hg6; have hq6 := (HQA.out.push hO hg6).addEs _ (HLA.out.push HQA.out.out hg6) HFR.out; have HB6 := Lib.hid (hb6.out (.slice a5 (S + 1) c5)); have HQ6 := Lib.hid (hq6.box hb6.2.1 (grownBy_setCell4 w6 Y 0 (.slice a5 (S + 1) c5))); obtain ⟨t1, t2, t3, t4⟩ := hb6.cells; clear hb6 hq6 hO hB6 hg6)
                    go_roundw
                    case rel =>
                      have hTl : (padTo T S ++ [ys]).length = S + 1 := by rw [List.length_append, padTo_len _ _ (by rw [hM.out]; exact hgd1)]; rfl
                      refine ⟨m + 1, k + 130, padTo T S ++ [ys], a5, c5, es2 ++ [(a3, 8, c3, ys)], by omega, (by first | go_num | (congr 1; omega)), (by rw [hTl]; first | go_num | (congr 1; omega)), by go_num, HRJ.out, ?_, ?_, ?_⟩
                      · show tbOf (es2 ++ [(a3, 8, c3, ys)]) = _
                        rw [tb_snoc, HP.out]
                      · rw [hTl]
                        exact HB6.out
                      · rw [hTl]
                        exact HQ6.out
                    case measure => simp [intOf]; omega
          · have HRU := Lib.hid (HUN.out (HST.out (Or.inr (by omega))))
            have HB5 := Lib.hid (HB2.out.res (.slice none 0 0))
            have hgc : (g : Int) < (M : Int) ∨ (¬ (g : Int) < (M : Int) ∧ 512 ≤ (g : Int)) := by omega
            clear HST HMR
            rcases hgc with hgc | ⟨hgc, hgc2⟩
            all_goals
              go_wp2_with (go_at_call 56; (with_reducible refine (HLF.out _ HBL.out).mono ?_); rintro e w5 ⟨rfl, rfl⟩)
              refine bodyPost_ret (results_cell_two rfl _ _ X 26 #[.slice none 0 0] (0, 0) _ rfl _ _ rfl rfl HB5.out.1 Tryz.underlying26 rfl tbl_size) rfl ?_
              rw [HRU.out]
              exact ⟨rfl, hX.out.symm ▸ HB5.out.2.2.1⟩
      · have hmv : m = v := by omega
        subst hmv
        have hm2 : ¬ (m : Int) < (m : Int) := by omega
        have HUI := Lib.hid (HUY.out HR.out)
        have htab := HQ.out.tab (cap := c') HE.out (by omega) (fun lf hlf => by have := (HLE.out lf hlf).1; omega)
        by_cases hR : rightT T n c
        · have HRT := Lib.hid (refRightT (decide_eq_true hR) wr htab)
          have HUV : Hid (readU l p n c = some (T, k)) := by
            show readU l p n c = _
            rw [HUI.out, if_pos hR]
          have HLN : Hid (M ≤ 6000 ∧ ∀ lf ∈ T, lf.length ≤ 1000000) := ⟨by omega, fun lf hlf => by have := (HLE.out lf hlf).1; omega⟩
          clear hR htab
          go_wp2_with (go_at_call 58; (with_reducible refine HRT.out.mono ?_); rintro e w4 ⟨rfl, g4⟩; obtain ⟨y1, y2, y3, y4⟩ := (HB2.out.later g4).cells; have HB5 := Lib.hid ((HB2.out.later g4).res (.slice a' M c')); have HQ5 := Lib.hid ((HQ.out.later g4).box (HB2.out.later g4).1 (grownBy_setCell4 w4 X 0 (.slice a' M c'))); clear g4 HRT)
          refine bodyPost_ret (results_cell_two rfl _ _ X 26 #[.slice a' M c'] (0, 0) _ rfl _ _ rfl rfl HB5.out.1 Tryz.underlying26 rfl tbl_size) rfl ?_
          rw [HUV.out]
          exact ⟨a', M, c', rfl, HQ5.out.tabN HE.out HLN.out.1 HLN.out.2 (Nat.le_of_eq hX.out), hX.out.symm ▸ HB5.out.2.2.1⟩
        · have HRT := Lib.hid (refRightT (decide_eq_false hR) wr htab)
          have HRU : Hid (readU l p n c = none) := by
            show readU l p n c = _
            rw [HUI.out, if_neg hR]
          clear hR htab
          go_wp2_with (go_at_call 58; (with_reducible refine HRT.out.mono ?_); rintro e w4 ⟨rfl, g4⟩; obtain ⟨y1, y2, y3, y4⟩ := (HB2.out.later g4).cells; have HB5 := Lib.hid ((HB2.out.later g4).res (.slice none 0 0)); clear g4 HRT)
          refine bodyPost_ret (results_cell_two rfl _ _ X 26 #[.slice none 0 0] (0, 0) _ rfl _ _ rfl rfl HB5.out.1 Tryz.underlying26 rfl tbl_size) rfl ?_
          rw [HRU.out]
          exact ⟨rfl, hX.out.symm ▸ HB5.out.2.2.1⟩
end Go.Proofs.YtdffgnpldapciaaGreatDoor
namespace Go.Proofs.YtdffgnpldapciaaGreatDoor
open Go.RowKit
set_option linter.unusedVariables false

theorem refRead_all (w : World) (a : Option Addr) (len cap p : Nat) (l : List Int) (n c : Int) (hB : Bytes w a len l) (hcap : len ≤ cap) (hp : p ≤ len) :
    Calls Tryz.prog 37 #[.slice a len cap, .int .i64 p, .int .i64 n, .int .i64 c] w (ReadP (if p + 2 ≤ len then readU l p n c else none) w) := by
  by_cases h : p + 2 ≤ len
  · rw [if_pos h]
    exact refRead_any w a len cap p l n c hB hcap h
  · rw [if_neg h]
    exact refRead_out w a len cap p l n c hB (Or.inr (by omega))
/-- What the reference's table hands back. -/
def TbQ (w0 : World) (X : Nat) (a : Option Addr) (n c : Nat) (l : List Int) (bad : Bool) (p : Nat) (m : Int) (C : Nat) (W : World) : Ending → World → Prop :=
  RrQ w0 X a n c l bad (fun v p' bad' w' => ∃ (a' : Option Addr) (l' c' : Nat) (T : Tb), v = .agg #[.slice a' l' c'] ∧ TabN w' W.heap.size a' l' c' T ∧ ∀ T0 r, rightT T0 m C → EnT T0 → bad = false → l.drop p = tblB T0 ++ r → bad' = false ∧ T = T0 ∧ l.drop p' = r) W
set_option maxHeartbeats 1600000 in
theorem refTable12 {w0 w : World} {X : Nat} {a : Option Addr} {n c p : Nat} {bad : Bool} {l : List Int} (h : RdR w0 w X a n c p bad l) (Z C : Nat) (hZ : Z < 65536) (hC : C < 256) :
    Calls Tryz.prog 16 #[.pointer (some ⟨X, 0, none⟩), .int .i64 Z, .int .i64 C] w (TbQ w0 X a n c l bad p ((Z : Int) / 2 ^ C) C w) := by
  obtain ⟨hn, hl, hb⟩ := h.size
  have hpn := h.hp
  have HR := Lib.hid h
  have hX := h.box.lt
  by_cases hg : bad = true ∨ 6 < C
  · have HNO : Hid (∀ T0 r, rightT T0 ((Z : Int) / 2 ^ C) C → EnT T0 → bad = false → l.drop p = tblB T0 ++ r → False) := fun T0 r h0 _ hbd _ => by
      rcases hg with hg | hg
      · rw [hg] at hbd; cases hbd
      · have := h0.1
        have h2 := h0.2.1
        omega
    obtain ⟨c0, c1, c2, f1, f2⟩ := h.cells
    have hcc : bad = true ∨ (bad = false ∧ ¬ (C : Int) < 0 ∧ 6 < (C : Int)) := by
      rcases hg with hg | hg
      · exact Or.inl hg
      · cases bad
        · exact Or.inr ⟨rfl, by omega, by omega⟩
        · exact Or.inl rfl
    clear h hb hg
    rcases hcc with rfl | ⟨rfl, h1, h2⟩
    all_goals
      go_enter Tryz.func16, Tryz.ntmps16
      go_wp2
      have hr := (HR.out.spoil).later ((Below.refl _ (w.setCell ⟨X, 2, none⟩ (.bool true))).alloc (Nat.le_refl _) (.cells #[.slice none 0 0] 26))
      have hz := Blk.new (w.setCell ⟨X, 2, none⟩ (.bool true)) 26 #[.slice none 0 0]
      rw [World.size_setCell] at hz
      refine bodyPost_ret (v := .agg #[.slice none 0 0]) (results_cell_row rfl _ _ w.heap.size 26 #[.slice none 0 0] (0, 0) _ rfl hz Tryz.underlying26 rfl tbl_size) rfl ?_
      exact ⟨_, p, true, rfl, hr, grown_trans (grownBy_setCell4 w X 2 _) (grown_below ((Below.refl _ _).alloc (Nat.le_refl _) _) _), fun _ => rfl, none, 0, 0, [], rfl, (TabF.nil _ _ (fun _ => True)).n, fun T0 r k1 k2 k3 k4 => (HNO.out T0 r k1 k2 (by first | exact k3 | trivial) k4).elim⟩
  · have hbf : bad = false := by cases bad; rfl; exact absurd (Or.inl rfl) hg
    subst hbf
    have hC6 : ¬ 6 < C := fun e => hg (Or.inr e)
    have h1 : ¬ (C : Int) < 0 := by omega
    have h2 : ¬ 6 < (C : Int) := by omega
    obtain ⟨c0, c1, c2, f1, f2⟩ := h.cells
    clear hg
    have HKS : Hid (∀ W, Below w.heap.size w W → W.cell? ⟨X, 0, none⟩ = some (.slice a n c) ∧ W.cell? ⟨X, 1, none⟩ = some (.int .i64 p)) := fun W hb => ⟨(HR.out.later hb).cells.1, (HR.out.later hb).cells.2.1⟩
    have HA0 := Lib.hid ((Below.refl w.heap.size w).alloc (Nat.le_refl _) (.cells #[.slice none 0 0] 26))
    have HAD := Lib.hid ((Below.refl w.heap.size w).alloc (Nat.le_refl _) (.cells #[.slice none 0 0] 26)).drew
    have HAA := Lib.hid (HA0.out.alloc HA0.out.size (.cells #[.slice none 0 0] 26))
    have HAAD := Lib.hid (HA0.out.alloc HA0.out.size (.cells #[.slice none 0 0] 26)).drew
    have HTX := Lib.hid (Blk.new w 26 #[.slice none 0 0])
    have HTY : Hid (Blk ((w.alloc (.cells #[.slice none 0 0] 26)).alloc (.cells #[.slice none 0 0] 26)) (w.heap.size + 1) 26 #[.slice none 0 0]) := by
      have := Blk.new (w.alloc (.cells #[.slice none 0 0] 26)) 26 #[.slice none 0 0]
      rwa [World.size_alloc] at this
    have hwc : (IntKind.u64.wrap (C : Int)).toNat = C := by rw [IntKind.wrap_u64]; omega
    rw [← shr_min Z C hZ]
    have HG := Lib.hid (fun W (hb' : Below w.heap.size w W) => refRead_all W a n c p l ((Z : Int) / 2 ^ min C 64) C (h.later hb').bytes h.le hpn)
    have HTN := Lib.hid (fun (T : Tb) (r : List Int) (h1 : rightT T ((Z : Int) / 2 ^ min C 64) C) (h2 : EnT T) (e : l.drop p = tblB T ++ r) => tab_not (by omega) h1 h2 e)
    cases ho : (if p + 2 ≤ n then readU l p ((Z : Int) / 2 ^ min C 64) C else none) with
    | none =>
      have HF : Hid (∀ (T : Tb) (r : List Int), rightT T ((Z : Int) / 2 ^ min C 64) C → EnT T → l.drop p ≠ tblB T ++ r) := fun T r h1 h2 e => by
        obtain ⟨k1, k2⟩ := HTN.out T r h1 h2 e
        rw [if_pos (by omega), k2] at ho
        cases ho
      rw [ho] at HG
      clear h hb ho HTN
      go_enter Tryz.func16, Tryz.ntmps16
      go_wp2
      clear c0 c1 c2 f1 f2
      go_region_held3 (fun W => W.cell? ⟨X, 0, none⟩ = some (.slice a n c) ∧ W.cell? ⟨X, 1, none⟩ = some (.int .i64 p)) (first | with_reducible exact HKS.out _ HA0.out | with_reducible exact HKS.out _ HAD.out | with_reducible exact HKS.out _ HAA.out | with_reducible exact HKS.out _ HAAD.out | with_reducible exact HKS.out _ HB1.out | with_reducible exact HKS.out _ HB2.out | with_reducible exact HKS.out _ HB3.out) (first | (go_at_call 37; first
        | ((with_reducible refine (HG.out _ HAD.out).mono ?_); rintro e w1 ⟨rfl, hb⟩; have HB1 := Lib.hid (HAD.out.trans (hb.mono HAD.out.size)); have HB2 := Lib.hid (HB1.out.alloc HB1.out.size (.cells #[.slice none 0 0] 26)); have HB3 := HB2; have HTX3 := Lib.hid (((HTX.out.later (Below.refl _ _).drew).later hb).alloc (.cells #[.slice none 0 0] 26)); clear hb)
        | ((with_reducible refine (HG.out _ HAAD.out).mono ?_); rintro e w1 ⟨rfl, hb⟩; have hty := (HTY.out.later (Below.refl _ _).drew).later hb; have y0 := one_cell9 hty; have yf := hty.free 0; have HTY1 := Lib.hid hty; clear hty; have HB1 := Lib.hid (HAAD.out.trans (hb.mono HAAD.out.size)); have HB2 := Lib.hid (HB1.out.setCell (Nat.le_succ _) (p := ⟨w.heap.size + 1, 0, none⟩) (.slice none 0 0)); have HB3 := HB2; have HTX3 := Lib.hid (Blk.other (B' := w.heap.size + 1) (i := 0) (((HTX.out.alloc (.cells #[.slice none 0 0] 26)).later (Below.refl _ _).drew).later hb) (Nat.ne_of_lt (Nat.lt_succ_self _)) (.slice none 0 0)); clear hb)))
      all_goals
        obtain ⟨c0, c1, c2, f1, f2⟩ := (HR.out.later HB3.out).cells
        have r0 := one_cell9 HTX3.out
        have rf := HTX3.out.free 0
        go_wp2
        have hr1 := (HR.out.later HB3.out).spoil
        have hx1 := Blk.other (B' := X) (i := 2) HTX3.out (by omega) (.bool true)
        have hx2 := hx1.set 0 (.slice none 0 0)
        refine bodyPost_ret (v := .agg #[.slice none 0 0]) (results_cell_row rfl _ _ w.heap.size 26 #[.slice none 0 0] (0, 0) _ rfl hx2 Tryz.underlying26 rfl tbl_size) rfl ?_
        exact ⟨_, p, true, rfl, hr1.kept (grownBy_setCell4 _ _ 0 _) (fun e => by cases e; omega) (fun k e => by cases e; exact HR.out.b.size), grown_set ((grown_below HB3.out _).setC 2 _) (Nat.le_refl _) 0 _, fun _ => rfl, none, 0, 0, [], rfl, (TabF.nil _ _ (fun _ => True)).n, fun T0 r k1 k2 _ k4 => (HF.out T0 r k1 k2 k4).elim⟩
    | some q =>
      obtain ⟨T, q⟩ := q
      have h2 : p + 2 ≤ n := by
        by_cases h2 : p + 2 ≤ n
        · exact h2
        · rw [if_neg h2] at ho; cases ho
      have hu : readU l p ((Z : Int) / 2 ^ min C 64) C = some (T, q) := by rwa [if_pos h2] at ho
      obtain ⟨e1, e2, e3, e4, e5⟩ := readU_enc hb (by omega) hu
      have HL := Lib.hid e1
      have hqn : q ≤ n := by omega
      have HT0 : Hid (∀ T0 r, rightT T0 ((Z : Int) / 2 ^ min C 64) C → EnT T0 → l.drop p = tblB T0 ++ r → T = T0 ∧ l.drop q = r) := fun T0 r k1 k2 k4 => by
        have k5 := (HTN.out T0 r k1 k2 k4).2
        rw [hu] at k5
        simp only [Option.some.injEq, Prod.mk.injEq] at k5
        obtain ⟨k6, _⟩ := k5
        subst k6
        exact ⟨rfl, List.append_cancel_left (HL.out.symm.trans k4)⟩
      rw [ho] at HG
      clear h hb ho HTN hu e1 e2 e3 e4 e5
      go_enter Tryz.func16, Tryz.ntmps16
      go_wp2
      clear c0 c1 c2 f1 f2
      go_region_held3 (fun W => W.cell? ⟨X, 0, none⟩ = some (.slice a n c) ∧ W.cell? ⟨X, 1, none⟩ = some (.int .i64 p)) (first | with_reducible exact HKS.out _ HA0.out | with_reducible exact HKS.out _ HAD.out | with_reducible exact HKS.out _ HAA.out | with_reducible exact HKS.out _ HAAD.out | with_reducible exact HKS.out _ HB1.out | with_reducible exact HKS.out _ HB2.out | with_reducible exact HKS.out _ HB3.out) (first | (go_at_call 37; first
        | ((with_reducible refine (HG.out _ HAD.out).mono ?_); rintro e w1 ⟨ta, tl, tc, rfl, ht, hb⟩; have HB1 := Lib.hid (HAD.out.trans (hb.mono HAD.out.size)); have HT1 := Lib.hid (ht.mono HAD.out.size); have HB2 := Lib.hid (HB1.out.alloc HB1.out.size (.cells #[.slice none 0 0] 26)); have HB3 := Lib.hid (HB1.out.alloc HB1.out.size (.cells #[.slice ta tl tc] 26)); have HT3 := Lib.hid (HT1.out.later ((Below.refl _ w1).alloc (Nat.le_refl _) (.cells #[.slice ta tl tc] 26))); have HTZ := Lib.hid (Blk.new w1 26 #[.slice ta tl tc]); have HTX3 := Lib.hid (((HTX.out.later (Below.refl _ _).drew).later hb).alloc (.cells #[.slice ta tl tc] 26)); clear hb ht)
        | ((with_reducible refine (HG.out _ HAAD.out).mono ?_); rintro e w1 ⟨ta, tl, tc, rfl, ht, hb⟩; have hty := (HTY.out.later (Below.refl _ _).drew).later hb; have y0 := one_cell9 hty; have yf := hty.free 0; have HTY1 := Lib.hid hty; clear hty; have HB1 := Lib.hid (HAAD.out.trans (hb.mono HAAD.out.size)); have HT1 := Lib.hid (ht.mono HAAD.out.size); have HB2 := Lib.hid (HB1.out.setCell (Nat.le_succ _) (p := ⟨w.heap.size + 1, 0, none⟩) (.slice ta tl tc)); have HB3 := HB2; have HT3 := Lib.hid (HT1.out.typed HTY1.out (by decide) (by decide) (grownBy_setCell4 _ _ 0 (.slice ta tl tc))); have HTZ := Lib.hid (HTY1.out.set 0 (.slice ta tl tc)); have HTX3 := Lib.hid (Blk.other (B' := w.heap.size + 1) (i := 0) (((HTX.out.alloc (.cells #[.slice none 0 0] 26)).later (Below.refl _ _).drew).later hb) (Nat.ne_of_lt (Nat.lt_succ_self _)) (.slice ta tl tc)); clear hb ht)))
      all_goals
        obtain ⟨c0, c1, c2, f1, f2⟩ := (HR.out.later HB3.out).cells
        have t0 := one_cell9 HTZ.out
        have r0 := one_cell9 HTX3.out
        have rf := HTX3.out.free 0
        go_wp2
        have hx1 := Blk.other (B' := X) (i := 1) HTX3.out (by omega) (.int .i64 q)
        have hx2 := hx1.set 0 (.slice ta tl tc)
        have hr1 := (HR.out.later HB3.out).put hqn
        have hsz := HB3.out.size
        refine bodyPost_ret (v := .agg #[.slice ta tl tc]) (results_cell_row rfl _ _ w.heap.size 26 #[.slice ta tl tc] (0, 0) _ rfl hx2 Tryz.underlying26 rfl tbl_size) rfl ?_
        exact ⟨_, q, false, rfl, hr1.kept (grownBy_setCell4 _ _ 0 _) (fun e => by cases e; omega) (fun k e => by cases e; exact HR.out.b.size), grown_set ((grown_below HB3.out _).setC 1 _) (Nat.le_refl _) 0 _, fun e => (by cases e), ta, tl, tc, T, rfl, ((HT3.out.typed (HR.out.later HB3.out).box (by decide) (by decide) (grownBy_setCell4 _ _ 1 _)).typed hx1 (by decide) (by decide) (grownBy_setCell4 _ _ 0 _)), fun T0 r k1 k2 _ k4 => ⟨rfl, HT0.out T0 r k1 k2 k4⟩⟩
end Go.Proofs.YtdffgnpldapciaaGreatDoor
