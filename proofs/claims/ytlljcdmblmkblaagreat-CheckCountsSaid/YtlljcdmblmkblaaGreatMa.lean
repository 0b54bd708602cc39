/-
  What layer 15 needs, part 1: bytes, sums, unpacking, entries, tables, counts, metas, copies, check. Conditions: stated at each.
-/
import Derived.Test.YtlljcdmblmkblaaGreatRows
import Derived.WalkKit
import Derived.WalkSpells
import Derived.WalkLawsBesides
import Derived.Lib.Hide
import Derived.OpenShut
import Derived.Laws.AppendOwnNone
import Derived.Laws.BytesArg
import Derived.Lib.AppendStr
import Derived.Laws.OwnMore
import Derived.RangeFuncBound
import Derived.RangeFuncBox
import Derived.OwnWalkIn
import Derived.Deep.AppendLies
import Derived.Deep.WholeRow
import Derived.Deep.MidRow
import Derived.Laws.CopyOwn
import Derived.Laws.CopyRow
import Derived.Laws.Rows
import Derived.Laws.Tables
import Derived.Defers
import Derived.Laws.LoneSync
import Derived.Laws.Pointers
import Derived.RegionCalls
import Derived.Lib.SlBytesConst
import Derived.Deep.RegionHeld3
import Derived.Deep.DrawnRows
import Derived.BigQuiet
import Derived.Deep.Draws
import Derived.Deep.RegionLaw
import Derived.Deep.QuietTactic
import Derived.RegionTactic
namespace Go.Proofs.YtlljcdmblmkblaaGreat
open Go.RowKit

theorem ret_int {k : IntKind} {a b : Int} (h : a = b) : Ending.returned (.int k a) = .returned (.int k b) := by rw [h]
theorem int_eq {k : IntKind} {a b : Int} (h : a = b) : Value.int k a = .int k b := by rw [h]
/-- The bytes l lie in the cells from ⟨b, off⟩ on. -/
def Lies (w : World) (b off : Nat) (l : List Int) : Prop := ∀ i : Nat, i < l.length → w.cell? ⟨b, off + i, none⟩ = some (.int .u8 (l.getD i 0))
def Small (l : List Int) : Prop := l.length ≤ 140737488351232 ∧ ∀ c ∈ l, 0 ≤ c ∧ c < 256
theorem Small.at {l : List Int} (h : Small l) {k : Nat} (hk : k < l.length) : 0 ≤ l.getD k 0 ∧ l.getD k 0 < 256 := by
  rw [List.getD_eq_getElem?_getD, List.getElem?_eq_getElem hk]
  exact h.2 _ (List.getElem_mem hk)
theorem take_snoc (l : List Int) (k : Nat) (h : k < l.length) : l.take (k + 1) = l.take k ++ [l.getD k 0] := by
  rw [List.take_succ_eq_append_getElem h, List.getD_eq_getElem?_getD, List.getElem?_eq_getElem h]
  rfl
theorem Small.take {l : List Int} (h : Small l) (k : Nat) : Small (l.take k) :=
  ⟨by rw [List.length_take]; have := h.1; omega, fun c hc => h.2 c (List.mem_of_mem_take hc)⟩
theorem Small.lt {l : List Int} (h : Small l) : ∀ c ∈ l, c < 256 := fun c hc => (h.2 c hc).2
/-- The slice reads as the bytes l. -/
def Bytes (w : World) (a : Option Addr) (len : Nat) (l : List Int) : Prop :=
  l.length = len ∧ Small l ∧ (len = 0 ∨ ∃ b off, a = some ⟨b, off, none⟩ ∧ b < w.heap.size ∧ Lies w b off l)
theorem Bytes.later {w w' : World} {a : Option Addr} {len : Nat} {l : List Int} (h : Bytes w a len l) (hb : Below w.heap.size w w') : Bytes w' a len l := by
  obtain ⟨h1, h2, h3⟩ := h
  refine ⟨h1, h2, ?_⟩
  rcases h3 with h3 | ⟨b, off, ha, hlt, hc⟩
  · exact Or.inl h3
  · exact Or.inr ⟨b, off, ha, Nat.lt_of_lt_of_le hlt hb.size, fun i hi => (hb.cell (p := ⟨b, off + i, none⟩) hlt).trans (hc i hi)⟩
theorem Bytes.cell0 {w : World} {b n : Nat} {l : List Int} (h : Bytes w (some ⟨b, 0, none⟩) n l) (i : Nat) (hi : i < n) : w.cell? ⟨b, i, none⟩ = some (.int .u8 (l.getD i 0)) := by
  obtain ⟨rfl, _, h3⟩ := h
  obtain ⟨b', off, e, _, hc⟩ := h3.resolve_left (by omega)
  cases e
  have := hc i hi
  rwa [Nat.zero_add] at this
theorem Bytes.cellAt {w : World} {b off n : Nat} {l : List Int} (h : Bytes w (some ⟨b, off, none⟩) n l) (i : Nat) (hi : i < n) : w.cell? ⟨b, off + i, none⟩ = some (.int .u8 (l.getD i 0)) := by
  obtain ⟨rfl, _, h3⟩ := h
  obtain ⟨b', off', e, _, hc⟩ := h3.resolve_left (by omega)
  cases e
  exact hc i hi
theorem Bytes.drew {w : World} {a : Option Addr} {len : Nat} {l : List Int} (h : Bytes w a len l) : Bytes w.drew a len l := h.later (Below.refl _ _).drew
theorem Bytes.lies {w : World} {a : Option Addr} {len : Nat} {l : List Int} (h : Bytes w a len l) (h0 : 0 < len) : ∃ b off, a = some ⟨b, off, none⟩ := by
  obtain ⟨_, _, h3⟩ := h
  obtain ⟨b, off, e, _⟩ := h3.resolve_left (by omega)
  exact ⟨b, off, e⟩
theorem Bytes.small {w : World} {a : Option Addr} {len : Nat} {l : List Int} (h : Bytes w a len l) : Small l := h.2.1
theorem none_bytes (w : World) : Bytes w none 0 [] := ⟨rfl, ⟨by simp, by simp⟩, Or.inl rfl⟩
theorem byte_of_wf {n : Int} (h : (Lit.int .u8 n).wf = true) : 0 ≤ n ∧ n < 256 := by
  have := bounds_u8 h
  omega
theorem word_of_wf {n : Int} (h : (Lit.int .u32 n).wf = true) : ∃ s : Nat, n = (s : Int) ∧ s < 4294967296 := by
  have := bounds_u32 h
  exact ⟨n.toNat, by omega, by omega⟩
theorem add_none (b off i : Nat) : (⟨b, off, none⟩ : Addr).add i = ⟨b, off + i, none⟩ := by simp [Addr.add]
/-- A slice that came in, of no more than 20000 bytes. -/
theorem bytes_of {w : World} {a : Option Addr} {len cap : Nat} {zs : List Int}
    (h : (a = none ∧ len = 0 ∧ cap = 0 ∧ zs = []) ∨ ∃ x, a = some x ∧ len ≤ cap ∧ cap ≤ maxLen ∧ zs.length = cap ∧ (∀ i, i < zs.length → w.cell? (x.add i) = some (.int .u8 (zs.getD i 0))) ∧ ∀ n ∈ zs, (Lit.int .u8 n).wf = true)
    (hlen : len ≤ 20000) : Bytes w a len (zs.take len) := by
  rcases h with ⟨rfl, rfl, rfl, rfl⟩ | ⟨x, rfl, h1, h2, h3, h4, h5⟩
  · exact none_bytes w
  · refine ⟨by rw [List.length_take]; omega, ⟨by rw [List.length_take]; omega, fun c hc => byte_of_wf (h5 c (List.mem_of_mem_take hc))⟩, ?_⟩
    by_cases h0 : len = 0
    · exact Or.inl h0
    · obtain ⟨b, off, spot⟩ := x
      have hc := h4 0 (by omega)
      have hspot : spot = none := by simpa [Addr.add] using World.cell?_spot hc
      subst hspot
      have hlt : b < w.heap.size := block_lt_of_cell hc
      refine Or.inr ⟨b, off, rfl, hlt, fun i hi => ?_⟩
      rw [List.length_take] at hi
      have := h4 i (by omega)
      rw [add_none] at this
      rw [this, List.getD_eq_getElem?_getD, List.getD_eq_getElem?_getD, List.getElem?_take, if_pos (by omega)]
theorem getD_bd {l : List Int} (h : ∀ c ∈ l, 0 ≤ c ∧ c < 256) (k : Nat) (hk : k < l.length) : 0 ≤ l.getD k 0 ∧ l.getD k 0 < 256 := by
  rw [List.getD_eq_getElem?_getD, List.getElem?_eq_getElem hk]
  exact h _ (List.getElem_mem hk)
/-- Noughts. -/
def noughts (n : Nat) : List Int := List.replicate n 0
theorem noughts_succ (n : Nat) : noughts n ++ [0] = noughts (n + 1) := (List.replicate_succ').symm
theorem noughts_bd (n : Nat) : ∀ c ∈ noughts n, 0 ≤ c ∧ c < 256 := fun c hc => by
  obtain rfl := List.eq_of_mem_replicate hc
  decide
/-- A term under a name of its own. -/
theorem named {α : Type} (x : α) : ∃ F, Hid (x = F) := ⟨x, rfl⟩
/-- A slice of bytes of the call's own. -/
def Own (w : World) (base : Nat) (v : Value) (n : Nat) (xs : List Int) : Prop := w.ownsRow base 5 1 v n (xs.map (Value.int .u8)) ∧ Small xs
theorem info5 : (Tryz.prog.info? 5).map (fun i => (i.zero, i.size, i.bytes)) = some (some (.int .u8 0), 1, 1) := by kernel_rfl
theorem Small.append {l m : List Int} (h : Small l) (k : Small m) (hn : l.length + m.length ≤ 140737488351232) : Small (l ++ m) :=
  ⟨by rw [List.length_append]; exact hn, fun c hc => by rcases List.mem_append.1 hc with h' | h'; exact h.2 c h'; exact k.2 c h'⟩
theorem Own.len {w : World} {base : Nat} {v : Value} {n : Nat} {xs : List Int} (h : Own w base v n xs) : xs.length = n := by
  have := h.1.1
  simpa using this
theorem Own.made (w : World) (base : Nat) (hb : base ≤ w.heap.size) : Own (w.alloc (.cells #[] 5)) base (.slice (some ⟨w.heap.size, 0, none⟩) 0 0) 0 [] :=
  ⟨World.ownsRow_made w #[] 0 hb (Nat.zero_le _) rfl, by unfold Small; simp⟩
theorem Own.shape {w : World} {base : Nat} {v : Value} {n : Nat} {xs : List Int} (h : Own w base v n xs) : ∃ a c, v = .slice a n c ∧ Bytes w a n xs ∧ (a = none → c = 0) := by
  have hl := h.len
  obtain ⟨⟨h1, h2⟩, h3⟩ := h
  rcases h2 with ⟨rfl, rfl⟩ | ⟨g, cap, cur, rfl, hb, hg, hn, hm, hs, ht⟩
  · exact ⟨none, 0, rfl, ⟨hl, h3, Or.inl rfl⟩, fun _ => rfl⟩
  · refine ⟨_, cap, rfl, ⟨hl, h3, Or.inr ⟨g, 0, rfl, lt_of_block hg, fun i hi => ?_⟩⟩, fun e => by cases e⟩
    rw [cell_of_row w g (0 + i) cur 5 (0, 0) hg, Nat.zero_add]
    have hi' : i < n := by omega
    have : (cur.toList.take (n * 1))[i]? = (xs.map (Value.int .u8))[i]? := by rw [ht]
    rw [List.getElem?_take, if_pos (by omega), List.getElem?_map, List.getElem?_eq_getElem hi] at this
    rw [List.getD_eq_getElem?_getD, List.getElem?_eq_getElem hi]
    simpa using this
theorem Own.capOk {w : World} {base c n n' : Nat} {a : Option Addr} {xs : List Int} (h : Own w base (.slice a n' c) n xs) : n ≤ c := by
  rcases h.1.2 with ⟨e, rfl⟩ | ⟨g, cap, cur, e, _, _, h, _⟩
  · exact Nat.zero_le _
  · cases e
    exact h
theorem Own.below {w w' : World} {base : Nat} {v : Value} {n : Nat} {xs : List Int} (h : Own w base v n xs) {a : World} {B : Nat} (hb : Below B a w) (hg : w.grownBy w' v.ownBlock) (hB : B ≤ w.heap.size) (hbase : B ≤ base) : Below B a w' :=
  hb.grown hg hB fun k hk => Nat.le_trans hbase (h.1.lt k hk).1
/-- A slice whose block is not the grown one reads on. -/
theorem Bytes.grown {w w' : World} {a : Option Addr} {len : Nat} {l : List Int} {B : Nat} (h : Bytes w a len l) (hB : ∀ x, a = some x → x.block < B) (hb : Below B w w') : Bytes w' a len l := by
  obtain ⟨h1, h2, h3⟩ := h
  refine ⟨h1, h2, ?_⟩
  rcases h3 with h3 | ⟨b, off, ha, hlt, hc⟩
  · exact Or.inl h3
  · exact Or.inr ⟨b, off, ha, Nat.lt_of_lt_of_le hlt hb.size, fun i hi => (hb.cell (p := ⟨b, off + i, none⟩) (show b < B from hB ⟨b, off, none⟩ ha)).trans (hc i hi)⟩
theorem append_bytes {ops : Array Oper} {rest : List Oper} {o : Oper} {a : Act} {w : World} {Q : Exit → Act → World → Prop} (hgd : o.guard = none) (s x : Operand)
    (ho : o.op = .call { callee := .builtin .append, args := #[s, x], argTypes := #[25, 25] }) (base : Nat) (v : Value) (n : Nat) (xs : List Int) (hs : a.eval s = v) (hown : Own w base v n xs)
    (ao : Option Addr) (m c : Nat) (l : List Int) (hx : a.eval x = .slice ao m c) (hnil : ao = none → c = 0) (hB : Bytes w ao m l) (hn : n + m ≤ 100000000) (hbase : base ≤ w.heap.size)
    (h : ∀ a' c' w', Own w' base (.slice a' (n + m) c') (n + m) (xs ++ l) → w.grownBy w' v.ownBlock → wpList Tryz.prog ops Q rest (a.put o.dst (.slice a' (n + m) c')) w') : wpList Tryz.prog ops Q (o :: rest) a w := by
  obtain ⟨i0, hi, hz0, hz1, hz2⟩ := info_parts info5
  have hsm : Small (xs ++ l) := hown.2.append hB.small (by rw [hown.len, hB.1]; omega)
  cases ao with
  | some ad =>
    have hcells : ∀ j u, (l.map (Value.int .u8))[j]? = some u → w.cell? (ad.add j) = some u := by
      intro j u hu
      rw [List.getElem?_map] at hu
      rcases hB.2.2 with h0 | ⟨b, off, ha, _, hc⟩
      · obtain rfl : l = [] := List.eq_nil_of_length_eq_zero (by rw [hB.1]; exact h0)
        simp at hu
      · cases ha
        by_cases hj : j < l.length
        · rw [List.getElem?_eq_getElem hj] at hu
          have := hc j hj
          rw [List.getD_eq_getElem?_getD, List.getElem?_eq_getElem hj] at this
          rw [add_none, this]
          simpa using hu
        · rw [List.getElem?_eq_none (by omega)] at hu
          cases hu
    refine wpList_append_own w hgd s x 25 ho base 5 i0 (.int .u8 0) 1 1 Tryz.underlying25 hi hz0 hz1 hz2 rfl (by decide) v n (xs.map (Value.int .u8)) hs hown.1 ad m c (l.map (Value.int .u8)) hx (by rw [List.length_map, hB.1]; omega) hcells
      (fun u hu => by obtain ⟨q, _, rfl⟩ := List.mem_map.1 hu; rfl) (by unfold maxLen; omega) (by omega) hbase ?_
    intro v' w' h1 h2 _
    rw [← List.map_append] at h1
    obtain ⟨a', c', rfl, _, _⟩ := Own.shape ⟨h1, hsm⟩
    exact h a' c' w' ⟨h1, hsm⟩ h2
  | none =>
    obtain rfl := hnil rfl
    have hm : m = 0 := by
      rcases hB.2.2 with h0 | ⟨b, off, ha, _, _⟩
      · exact h0
      · cases ha
    subst hm
    obtain rfl : l = [] := List.eq_nil_of_length_eq_zero hB.1
    refine wpList_append_own_none hgd s x 25 ho base 5 i0 1 Tryz.underlying25 hi v n (xs.map (Value.int .u8)) hs hown.1 hx ?_
    obtain ⟨a', c', e, _, _⟩ := Own.shape hown
    subst e
    have := h a' c' w (by rw [List.append_nil]; exact hown) ⟨rfl, rfl, rfl, Nat.le_refl _, fun _ _ _ => rfl⟩
    exact this
theorem Own.bytes {w : World} {base n' c n : Nat} {a : Option Addr} {xs : List Int} (h : Own w base (.slice a n' c) n xs) : Bytes w a n xs ∧ (a = none → c = 0) := by
  obtain ⟨a', c', e, hb, hn⟩ := h.shape
  cases e
  exact ⟨hb, hn⟩
/-- 'append([]byte{}, x...)'. -/
theorem append_copy {ops : Array Oper} {rest : List Oper} {o : Oper} {a : Act} {w0 : World} {Q : Exit → Act → World → Prop} (hgd : o.guard = none) (s x : Operand)
    (ho : o.op = .call { callee := .builtin .append, args := #[s, x], argTypes := #[25, 25] }) (base : Nat) (hs : a.eval s = .slice (some ⟨w0.heap.size, 0, none⟩) 0 0)
    (ao : Option Addr) (m c : Nat) (l : List Int) (hx : a.eval x = .slice ao m c) (hnil : ao = none → c = 0) (hB : Bytes w0 ao m l) (hn : m ≤ 100000000) (hbase : base ≤ w0.heap.size)
    (h : ∀ a' c' w', Own w' base (.slice a' m c') m l → Below w0.heap.size w0 w' → wpList Tryz.prog ops Q rest (a.put o.dst (.slice a' m c')) w') : wpList Tryz.prog ops Q (o :: rest) a (w0.alloc (.cells #[] 5)) := by
  refine append_bytes hgd s x ho base _ 0 [] hs (Own.made w0 base hbase) ao m c l hx hnil (hB.later ((Below.refl _ _).alloc (Nat.le_refl _) _)) (by omega) (by rw [World.size_alloc]; omega) ?_
  intro a' c' w' h1 h2
  have hbel : Below w0.heap.size w0 w' := Own.below (Own.made w0 w0.heap.size (Nat.le_refl _)) ((Below.refl _ _).alloc (Nat.le_refl _) _) h2 (by simp) (Nat.le_refl _)
  rw [Nat.zero_add, List.nil_append] at h1
  have := h a' c' w' h1 hbel
  rw [Nat.zero_add]
  exact this
/-- 'append(own, x...)'. -/
theorem append_more {ops : Array Oper} {rest : List Oper} {o : Oper} {a : Act} {w : World} {Q : Exit → Act → World → Prop} (hgd : o.guard = none) (s x : Operand)
    (ho : o.op = .call { callee := .builtin .append, args := #[s, x], argTypes := #[25, 25] }) (base : Nat) (v : Value) (n : Nat) (xs : List Int) (hs : a.eval s = v) (hown : Own w base v n xs)
    (ao : Option Addr) (m c : Nat) (l : List Int) (hx : a.eval x = .slice ao m c) (hnil : ao = none → c = 0) (hB : Bytes w ao m l) (hn : n + m ≤ 100000000) (hbase : base ≤ w.heap.size)
    (h : ∀ a' c' w', Own w' base (.slice a' (n + m) c') (n + m) (xs ++ l) → Below base w w' → wpList Tryz.prog ops Q rest (a.put o.dst (.slice a' (n + m) c')) w') : wpList Tryz.prog ops Q (o :: rest) a w :=
  append_bytes hgd s x ho base v n xs hs hown ao m c l hx hnil hB hn hbase fun a' c' w' h1 h2 => h a' c' w' h1 (hown.below (Below.refl _ _) h2 hbase (Nat.le_refl _))
/-- An own slice that is not empty lies in a block of its own. -/
theorem Own.lies {w : World} {base c n : Nat} {a : Option Addr} {xs : List Int} (h : Own w base (.slice a n c) n xs) (h0 : 0 < n) : ∃ g, a = some ⟨g, 0, none⟩ ∧ base ≤ g ∧ g < w.heap.size := by
  rcases h.1.2 with ⟨_, rfl⟩ | ⟨g, cap, cur, hv, hb, hg, _⟩
  · omega
  · cases hv
    exact ⟨g, rfl, hb, lt_of_block hg⟩
theorem Own.cell {w : World} {base c n g : Nat} {xs : List Int} (h : Own w base (.slice (some ⟨g, 0, none⟩) n c) n xs) (i : Nat) (hi : i < n) : w.cell? ⟨g, i, none⟩ = some (.int .u8 (xs.getD i 0)) := by
  have hl := h.len
  rw [h.1.cellAt i (by omega), List.getElem?_map, List.getElem?_eq_getElem (by omega), List.getD_eq_getElem?_getD, List.getElem?_eq_getElem (by omega)]
  rfl
theorem Own.free {w : World} {base c n g : Nat} {xs : List Int} (h : Own w base (.slice (some ⟨g, 0, none⟩) n c) n xs) (i : Nat) : w.frozen? ⟨g, i, none⟩ = false := h.1.frozenAt i
theorem Own.put {w : World} {base c n g : Nat} {xs : List Int} (h : Own w base (.slice (some ⟨g, 0, none⟩) n c) n xs) (i : Nat) (e : Int) (he : 0 ≤ e ∧ e < 256) : Own (w.setCell ⟨g, i, none⟩ (.int .u8 e)) base (.slice (some ⟨g, 0, none⟩) n c) n (xs.set i e) := by
  refine ⟨?_, by rw [List.length_set]; exact h.2.1, fun d hd => ?_⟩
  · rw [List.map_set]
    exact (h.1.stored i _).1
  · rcases List.mem_or_eq_of_mem_set hd with h' | rfl
    · exact h.2.2 d h'
    · exact he
theorem Own.drew {w : World} {base n : Nat} {v : Value} {xs : List Int} (h : Own w base v n xs) : Own w.drew base v n xs := ⟨h.1.drew, h.2⟩
theorem Own.alloc {w : World} {base n : Nat} {v : Value} {xs : List Int} (h : Own w base v n xs) (x : Obj) : Own (w.alloc x) base v n xs := ⟨h.1.alloc x, h.2⟩
theorem made_noughts (n : Nat) : (madeCells (Value.int .u8 0).cells (n * 1)).toList = (noughts n).map (Value.int .u8) := by
  rw [Nat.mul_one]
  show (madeCells #[.int .u8 0] n).toList = _
  rw [toList_madeCells_one]
  unfold noughts
  rw [List.map_replicate]
theorem noughts_small (n : Nat) (hn : n ≤ 100000000) : Small (noughts n) := ⟨by unfold noughts; rw [List.length_replicate]; omega, noughts_bd n⟩
/-- 'make([]byte, n)'. -/
theorem make_bytes {ops : Array Oper} {rest : List Oper} {o : Oper} {a : Act} {w : World} {Q : Exit → Act → World → Prop} (hgd : o.guard = none) (l c : Operand) (ho : o.op = Op.makeSlice 25 l c) (base n : Nat)
    (hl : a.eval l = .int .i64 n) (hc : a.eval c = .int .i64 n) (hn : n ≤ 100000000) (hbase : base ≤ w.heap.size)
    (h : ∀ w', Own w' base (.slice (some ⟨w.heap.size, 0, none⟩) n n) n (noughts n) → Below w.heap.size w w' → wpList Tryz.prog ops Q rest (a.put o.dst (.slice (some ⟨w.heap.size, 0, none⟩) n n)) w') : wpList Tryz.prog ops Q (o :: rest) a w := by
  obtain ⟨i0, hi, hz0, hz1, hz2⟩ := info_parts info5
  refine wpList_make_full w hgd l c 25 ho base 5 i0 (.int .u8 0) 1 Tryz.underlying25 hi hz0 hz1 .i64 .i64 n n n hl hc rfl rfl (by rw [hz2]; omega) (by unfold maxLen; omega) hbase ?_
  intro w' h1 h2
  rw [made_noughts] at h1
  exact h w' ⟨h1, noughts_small n hn⟩ ((Below.refl _ _).grown h2 (Nat.le_refl _) (fun k hk => by cases hk))
/-- A literal of one byte. -/
theorem one_byte (w : World) (c : Int) (hc : 0 ≤ c ∧ c < 256) : Bytes (w.alloc (.cells #[.int .u8 c] 5)) (some ⟨w.heap.size, 0, none⟩) 1 [c] := by
  refine ⟨rfl, ⟨by simp, by simpa using hc⟩, Or.inr ⟨w.heap.size, 0, rfl, by simp, fun i hi => ?_⟩⟩
  obtain rfl : i = 0 := by simpa using hi
  simp
/-- The i-th byte of a word. -/
def byteOf (w i : Nat) : Int := ((w / 2 ^ (8 * i) % 256 : Nat) : Int)
theorem byteOf_bd (w i : Nat) : 0 ≤ byteOf w i ∧ byteOf w i < 256 := by
  unfold byteOf
  have : w / 2 ^ (8 * i) % 256 < 256 := Nat.mod_lt _ (by decide)
  omega
end Go.Proofs.YtlljcdmblmkblaaGreat
namespace Go.Proofs.YtlljcdmblmkblaaGreat
open Go.RowKit

/-- A number of 64 bits (its bound is kept behind a name: the walk meets no numeral of that size). -/
def Fit64 (t : Nat) : Prop := t < 18446744073709551616
/-- v in n bytes. -/
def numB (big : Bool) (n v : Nat) : List Int := (List.range n).map fun i => byteOf v (if big then n - 1 - i else i)
theorem numB_len (big : Bool) (n v : Nat) : (numB big n v).length = n := by simp [numB]
theorem numB_bd (big : Bool) (n v : Nat) : ∀ c ∈ numB big n v, 0 ≤ c ∧ c < 256 := fun c hc => by
  obtain ⟨i, _, rfl⟩ := List.mem_map.1 hc
  exact byteOf_bd _ _
theorem numB_at (big : Bool) (n v i : Nat) (h : i < n) : (numB big n v).getD i 0 = byteOf v (if big then n - 1 - i else i) := by
  rw [List.getD_eq_getElem?_getD, List.getElem?_eq_getElem (by rw [numB_len]; exact h)]
  simp [numB]
theorem numB_snoc (big : Bool) (n v i : Nat) (h : i < n) : (numB big n v).take (i + 1) = (numB big n v).take i ++ [byteOf v (if big then n - 1 - i else i)] := by
  rw [take_snoc _ _ (by rw [numB_len]; exact h), numB_at _ _ _ _ h]
theorem byteOf_int (B k : Nat) : ((B : Int) / 2 ^ (8 * k) % 256) = byteOf B k := by
  unfold byteOf
  rw [Int.natCast_emod, Int.natCast_ediv, Int.natCast_pow]
  rfl
theorem byteOf_range (B k : Nat) : 0 ≤ ((B : Int) / 2 ^ (8 * k) % 256) ∧ ((B : Int) / 2 ^ (8 * k) % 256) < 256 := by
  rw [byteOf_int]
  exact byteOf_bd B k
/-- Does v fit into n bytes? -/
def fitsIn (n v : Nat) : Bool := decide (8 ≤ n) || v / 2 ^ (8 * n) == 0
theorem fits_int (n v : Nat) : ((v : Int) / 2 ^ (8 * n) == 0) = (v / 2 ^ (8 * n) == 0) := by
  have e : ((v : Int) / 2 ^ (8 * n)) = ((v / 2 ^ (8 * n) : Nat) : Int) := by rw [Int.natCast_ediv, Int.natCast_pow]; rfl
  rw [e]
  generalize v / 2 ^ (8 * n) = x
  rw [Bool.eq_iff_iff, beq_iff_eq, beq_iff_eq]
  omega
theorem unfit {n v : Nat} (h : fitsIn n v = false) : n < 8 ∧ ((v : Int) / 2 ^ (8 * n) == 0) = false ∧ ((v : Int) / 2 ^ (8 * n) != 0) = true := by
  unfold fitsIn at h
  rw [← fits_int] at h
  simp only [Bool.or_eq_false_iff, decide_eq_false_iff_not] at h
  refine ⟨by omega, h.2, ?_⟩
  simp only [bne, h.2]
  rfl
theorem fit_small {n v : Nat} (h : fitsIn n v = true) (hn : n < 8) : ((v : Int) / 2 ^ (8 * n) == 0) = true ∧ ((v : Int) / 2 ^ (8 * n) != 0) = false := by
  unfold fitsIn at h
  rw [← fits_int] at h
  have : decide (8 ≤ n) = false := by simp; omega
  rw [this, Bool.false_or] at h
  refine ⟨h, ?_⟩
  simp only [bne, h]
  rfl
/-- What 'Put' hands back. -/
def PutPost (w0 : World) (l : List Int) (err : Int) (e : Ending) (w : World) : Prop :=
  ∃ a c, e = .returned (.tuple #[.slice a l.length c, .int .i64 err]) ∧ Bytes w a l.length l ∧ ((a = none → c = 0) ∧ l.length ≤ c) ∧ Below w0.heap.size w0 w
theorem PutPost.empty (w0 : World) (err : Int) : PutPost w0 [] err (.returned (.tuple #[.slice Option.none 0 0, .int .i64 err])) w0 :=
  ⟨Option.none, 0, rfl, none_bytes w0, ⟨fun _ => rfl, Nat.le_refl _⟩, Below.refl _ _⟩
theorem PutPost.own {w0 w : World} {l : List Int} {a : Option Addr} {n c base : Nat} (err : Int) (h : Own w base (.slice a n c) n l) (hb : Below w0.heap.size w0 w) : PutPost w0 l err (.returned (.tuple #[.slice a n c, .int .i64 err])) w := by
  have hl := h.len
  have hB := h.bytes
  have hc := h.capOk
  subst hl
  exact ⟨a, c, rfl, hB.1, ⟨hB.2, hc⟩, hb⟩
/-- The number that n bytes of l from place p on tell, after i of them. -/
def getTo (big : Bool) (n p : Nat) (l : List Int) : Nat → Nat
  | 0 => 0
  | i + 1 => getTo big n p l i * 256 + (l.getD (p + if big then i else n - 1 - i) 0).toNat
theorem getTo_lt {l : List Int} (h : ∀ c ∈ l, 0 ≤ c ∧ c < 256) (big : Bool) (n p : Nat) : ∀ i, getTo big n p l i < 256 ^ i
  | 0 => by simp [getTo]
  | i + 1 => by
    have ih := getTo_lt h big n p i
    have hb : (l.getD (p + if big then i else n - 1 - i) 0).toNat < 256 := by
      by_cases hk : (p + if big then i else n - 1 - i) < l.length
      · have := getD_bd h _ hk
        omega
      · rw [List.getD_eq_getElem?_getD, List.getElem?_eq_none (by omega)]
        decide
    rw [Nat.pow_succ]
    show getTo big n p l i * 256 + _ < _
    omega
theorem getTo_small {l : List Int} (h : ∀ c ∈ l, 0 ≤ c ∧ c < 256) (big : Bool) (n p i : Nat) (hi : i < 8) : getTo big n p l i < 72057594037927936 := by
  have h1 := getTo_lt h big n p i
  have h2 : 256 ^ i ≤ 256 ^ 7 := Nat.pow_le_pow_right (by decide) (by omega)
  have h3 : 256 ^ 7 = 72057594037927936 := by decide
  omega
theorem or_step (t : Nat) (c : Int) (ht : t < 72057594037927936) (h0 : 0 ≤ c) (h1 : c < 256) : bits .or .u64 (IntKind.u64.wrap ((t : Int) * 256)) c = ((t * 256 + c.toNat : Nat) : Int) := by
  have e : IntKind.u64.wrap ((t : Int) * 256) = ((t * 256 : Nat) : Int) := by rw [IntKind.wrap_u64]; omega
  have := u64_or_nat (t * 256) c.toNat (by omega) (by omega)
  rw [Int.toNat_of_nonneg h0] at this
  rw [e, this]
  congr 1
  exact nat_join 8 (t * 256) c.toNat (by omega) (by omega)
theorem ret_pair {k : IntKind} {a b : Int} {v : Value} (h : a = b) : Ending.returned (.tuple #[.int k a, v]) = .returned (.tuple #[.int k b, v]) := by rw [h]
theorem pow_small {m : Nat} (h : m < 8) : 2 ^ (8 * m) ≤ 72057594037927936 := by
  have : 2 ^ (8 * m) ≤ 2 ^ 56 := Nat.pow_le_pow_right (by decide) (by omega)
  have h2 : 2 ^ 56 = 72057594037927936 := by decide
  omega
theorem pow_int (k : Nat) : (2 : Int) ^ k = ((2 ^ k : Nat) : Int) := by rw [Int.natCast_pow]; rfl
/-- 'v & (1<<uint(8*m) - 1)'. -/
theorem mask_of (v m : Nat) (hv : Fit64 v) (hm : m < 8) : ∃ V : Nat, bits .and .u64 (v : Int) (IntKind.u64.wrap (IntKind.u64.wrap ((2 : Int) ^ (8 * m)) - 1)) = (V : Int) ∧ fitsIn m V = true ∧ V = v % 2 ^ (8 * m) := by
  have hp := pow_small hm
  have h1 : 0 < 2 ^ (8 * m) := Nat.two_pow_pos _
  have e1 : IntKind.u64.wrap ((2 : Int) ^ (8 * m)) = ((2 ^ (8 * m) : Nat) : Int) := by rw [pow_int, IntKind.wrap_u64]; omega
  have e2 : IntKind.u64.wrap (IntKind.u64.wrap ((2 : Int) ^ (8 * m)) - 1) = ((2 ^ (8 * m) - 1 : Nat) : Int) := by rw [e1, IntKind.wrap_u64]; omega
  refine ⟨v % 2 ^ (8 * m), ?_, ?_, rfl⟩
  · rw [e2, u64_and_nat v (2 ^ (8 * m) - 1) hv (by omega), Nat.and_two_pow_sub_one_eq_mod]
  · unfold fitsIn
    rw [Nat.div_eq_of_lt (Nat.mod_lt _ h1)]
    simp
/-- '1<<uint(8*m) | low&(1<<uint(8*m) - 1)'. -/
theorem wide_of (v m : Nat) (_hv : Fit64 v) (hm : m < 8) (M : Nat) (hM : M = v % 2 ^ (8 * m)) : ∃ V : Nat, bits .or .u64 (IntKind.u64.wrap ((2 : Int) ^ (8 * m))) (M : Int) = (V : Int) ∧ fitsIn m V = false ∧ fitsIn (m + 1) V = true := by
  have hp := pow_small hm
  have h1 : 0 < 2 ^ (8 * m) := Nat.two_pow_pos _
  have e1 : IntKind.u64.wrap ((2 : Int) ^ (8 * m)) = ((2 ^ (8 * m) : Nat) : Int) := by rw [pow_int, IntKind.wrap_u64]; omega
  have hlt : M < 2 ^ (8 * m) := by rw [hM]; exact Nat.mod_lt _ h1
  have hj : 2 ^ (8 * m) ||| M = 2 ^ (8 * m) + M := nat_join (8 * m) _ _ (Nat.mod_self _) hlt
  refine ⟨2 ^ (8 * m) + M, ?_, ?_, ?_⟩
  · rw [e1, u64_or_nat _ _ (by omega) (by omega), hj]
  · unfold fitsIn
    rw [Nat.add_comm, Nat.add_div_right _ h1, Nat.div_eq_of_lt hlt]
    simp
    omega
  · unfold fitsIn
    by_cases h8 : 8 ≤ m + 1
    · simp [h8]
    · have e : 2 ^ (8 * (m + 1)) = 256 * 2 ^ (8 * m) := by rw [Nat.mul_add, Nat.pow_add, Nat.mul_comm]
      have : (2 ^ (8 * m) + M) / 2 ^ (8 * (m + 1)) = 0 := Nat.div_eq_of_lt (by rw [e]; omega)
      rw [this]
      simp
end Go.Proofs.YtlljcdmblmkblaaGreat
namespace Go.Proofs.YtlljcdmblmkblaaGreat
open Go.RowKit

theorem conv_str {w : World} {a : Option Addr} {n : Nat} {l : List Int} (h : Bytes w a n l) (c : Nat) : (convert 25 9 (.slice a n c)).run Tryz.prog w = .ok (.string (strOfNums l)) w := by
  obtain ⟨rfl, _, h3⟩ := h
  by_cases h0 : l.length = 0
  · obtain rfl : l = [] := List.eq_nil_of_length_eq_zero h0
    show (convert _ _ (.slice a 0 c)).run Tryz.prog w = _
    rw [run_convert_bytes_string w 25 9 5 a 0 c Tryz.underlying25 Tryz.underlying5 Tryz.underlying9]
    cases a with
    | none => rfl
    | some x => rw [run_bytesToString w x 0 c [] (by simp [loadCells, loadCellsFrom])]; rfl
  · obtain ⟨b, off, rfl, _, hc⟩ := h3.resolve_left h0
    exact run_convert_bytes_arg w 25 5 Tryz.underlying25 Tryz.underlying5 b off l.length c l rfl hc 9 Tryz.underlying9

/-- 's[i:k]'. -/
theorem slice_mid {w : World} {a : Option Addr} {len cap : Nat} {l : List Int} (h : Bytes w a len l) (hcap : len ≤ cap) (hnil : a = none → cap = 0) (i k : Nat) (hi : i ≤ k) (hk : k ≤ len) :
    ∃ (a' : Option Addr) (c' : Nat), (∀ w' : World, (Instr.slice 25 (.slice a len cap) (some (.int .i64 i)) (some (.int .i64 k)) none).run Tryz.prog w' = .ok (.slice a' (k - i) c') w') ∧ Bytes w a' (k - i) ((l.drop i).take (k - i)) ∧ (a' = none → c' = 0) := by
  obtain ⟨i0, hi0, _, hz1, _⟩ := info_parts info5
  obtain ⟨h1, h2, h3⟩ := h
  have hsm : Small ((l.drop i).take (k - i)) := ⟨by rw [List.length_take, List.length_drop]; have := h2.1; omega, fun c hc => h2.2 c (List.mem_of_mem_drop (List.mem_of_mem_take hc))⟩
  have hln : ((l.drop i).take (k - i)).length = k - i := by rw [List.length_take, List.length_drop]; omega
  have b1 : k ≤ cap := by omega
  refine ⟨if cap = i then a else a.map (·.add (i * 1)), cap - i, fun w' => ?_, ⟨hln, hsm, ?_⟩, ?_⟩
  · simp [Instr.slice, Instr.sliceBounds, Instr.sliceBound, asIntOf, run_underlying Tryz.underlying25, sizeOf, typeInfo, hi0, hz1, b1, hi, go_sem]
  · by_cases hz : k - i = 0
    · exact Or.inl hz
    · obtain ⟨b, off, rfl, hlt, hc⟩ := h3.resolve_left (by omega)
      refine Or.inr ⟨b, off + i, ?_, hlt, fun j hj => ?_⟩
      · rw [if_neg (by omega)]
        simp [Addr.add]
      · rw [hln] at hj
        have := hc (i + j) (by omega)
        rw [Nat.add_assoc, this, List.getD_eq_getElem?_getD, List.getD_eq_getElem?_getD, List.getElem?_take, if_pos (by omega), List.getElem?_drop]
  · intro e
    by_cases hz : cap = i
    · omega
    · rw [if_neg hz] at e
      have : a = none := by cases a <;> simp_all
      have := hnil this
      omega

/-- 's[:k]'. -/
theorem slice_front {w : World} {a : Option Addr} {len cap : Nat} {l : List Int} (h : Bytes w a len l) (hcap : len ≤ cap) (hnil : a = none → cap = 0) (k : Nat) (hk : k ≤ len) :
    ∃ a' : Option Addr, (∀ w' : World, (Instr.slice 25 (.slice a len cap) none (some (.int .i64 k)) none).run Tryz.prog w' = .ok (.slice a' k cap) w') ∧ Bytes w a' k (l.take k) ∧ (a' = none → cap = 0) := by
  obtain ⟨i0, hi0, _, hz1, _⟩ := info_parts info5
  obtain ⟨h1, h2, h3⟩ := h
  have hln : (l.take k).length = k := by rw [List.length_take]; omega
  have b1 : k ≤ cap := by omega
  refine ⟨if cap = 0 then a else a.map (·.add (0 * 1)), fun w' => ?_, ⟨hln, h2.take k, ?_⟩, ?_⟩
  · simp [Instr.slice, Instr.sliceBounds, Instr.sliceBound, asIntOf, run_underlying Tryz.underlying25, sizeOf, typeInfo, hi0, b1, go_sem]
  · by_cases hz : k = 0
    · exact Or.inl hz
    · obtain ⟨b, off, rfl, hlt, hc⟩ := h3.resolve_left (by omega)
      refine Or.inr ⟨b, off, ?_, hlt, fun j hj => ?_⟩
      · rw [if_neg (by omega)]
        simp [Addr.add]
      · rw [hln] at hj
        rw [hc j (by omega), List.getD_eq_getElem?_getD, List.getD_eq_getElem?_getD, List.getElem?_take, if_pos (by omega)]
  · intro e
    by_cases hz : cap = 0
    · exact hz
    · rw [if_neg hz] at e
      exact hnil (by cases a <;> simp_all)

/-- The bytes of a string. -/
def strB (s : ByteArray) : List Int := s.data.toList.map fun u => (u.toNat : Int)
theorem strB_len (s : ByteArray) : (strB s).length = s.size := by
  unfold strB
  rw [List.length_map, Array.length_toList]
  rfl
theorem strB_bd (s : ByteArray) : ∀ c ∈ strB s, 0 ≤ c ∧ c < 256 := fun c hc => by
  obtain ⟨u, _, rfl⟩ := List.mem_map.1 hc
  have := u.toNat_lt
  omega
theorem strB_back (s : ByteArray) : strOfNums (strB s) = s := by
  obtain ⟨⟨l⟩⟩ := s
  unfold strOfNums strB
  simp [Function.comp_def]
/-- A string behind the bytes. -/
def textB (s : ByteArray) : List Int := numB false 2 s.size ++ strB s
theorem textB_len (s : ByteArray) : (textB s).length = 2 + s.size := by rw [textB, List.length_append, numB_len, strB_len]
theorem strCells_eq (s : ByteArray) : Lib.strCells s = (strB s).map (Value.int .u8) := by
  unfold Lib.strCells strB
  rw [List.map_map]
  rfl
/-- 'append(own, s...)' of a string. -/
theorem append_str {ops : Array Oper} {rest : List Oper} {o : Oper} {a : Act} {w : World} {Q : Exit → Act → World → Prop} (hgd : o.guard = none) (s x : Operand)
    (ho : o.op = .call { callee := .builtin .append, args := #[s, x], argTypes := #[25, 9] }) (base : Nat) (v : Value) (n : Nat) (xs : List Int) (hs : a.eval s = v) (hown : Own w base v n xs)
    (str : ByteArray) (hx : a.eval x = .string str) (hn : n + str.size ≤ 100000000) (hbase : base ≤ w.heap.size)
    (h : ∀ a' c' w', Own w' base (.slice a' (n + str.size) c') (n + str.size) (xs ++ strB str) → Below base w w' → wpList Tryz.prog ops Q rest (a.put o.dst (.slice a' (n + str.size) c')) w') : wpList Tryz.prog ops Q (o :: rest) a w := by
  obtain ⟨i0, hi, hz0, hz1, hz2⟩ := info_parts info5
  have hsm : Small (xs ++ strB str) := ⟨by rw [List.length_append, strB_len, hown.len]; omega, fun c hc => by rcases List.mem_append.1 hc with h' | h'; exact hown.2.2 c h'; exact strB_bd str c h'⟩
  refine Lib.wpList_append_own_string w hgd s x 25 9 ho base 5 i0 Tryz.underlying25 Tryz.underlying9 hi hz0 hz1 hz2 v n (xs.map (Value.int .u8)) hs hown.1 str hx (by unfold maxLen; omega) (by omega) hbase ?_
  intro v' w' h1 h2 _
  rw [strCells_eq, ← List.map_append] at h1
  obtain ⟨a', c', rfl, _, _⟩ := Own.shape ⟨h1, hsm⟩
  exact h a' c' w' ⟨h1, hsm⟩ (hown.below (Below.refl _ _) h2 hbase (Nat.le_refl _))
/-- A literal of two bytes. -/
theorem two_bytes (w : World) (c d : Int) (hc : 0 ≤ c ∧ c < 256) (hd : 0 ≤ d ∧ d < 256) : Bytes (w.alloc (.cells #[.int .u8 c, .int .u8 d] 5)) (some ⟨w.heap.size, 0, none⟩) 2 [c, d] := by
  refine ⟨rfl, ⟨by simp, by simp; omega⟩, Or.inr ⟨w.heap.size, 0, rfl, by simp, fun i hi => ?_⟩⟩
  have : i = 0 ∨ i = 1 := by simp at hi; omega
  rcases this with rfl | rfl <;> simp
theorem numB_two (v : Nat) : numB false 2 v = [(v : Int) % 256, (v : Int) / 256 % 256] := by
  unfold numB byteOf
  simp [List.range_succ]
end Go.Proofs.YtlljcdmblmkblaaGreat
namespace Go.Proofs.YtlljcdmblmkblaaGreat
open Go.RowKit

/-- What a slice type's elements are: their type, cells, bytes. -/
structure Rowed {α : Type} (P : Program) (t e : TypeId) (sz bytes : Nat) (cv : α → List Value) : Prop where
  under : P.underlying t = some (.slice e)
  info : ∃ i z, P.info? e = some i ∧ i.zero = some z ∧ i.size = sz ∧ i.bytes = bytes ∧ z.cells.size = sz
  pos : 0 < sz
  small : bytes ≤ 1000
  len : ∀ x, (cv x).length = sz
  one : ∀ x, ∀ u ∈ cv x, u.oneCell' = true
/-- The slice reads as the list l. -/
def Reads {α : Type} (cv : α → List Value) (w : World) (a : Option Addr) (len : Nat) (l : List α) : Prop :=
  l.length = len ∧ len ≤ 100000000 ∧ (len = 0 ∨ ∃ b off, a = some ⟨b, off, none⟩ ∧ b < w.heap.size ∧ ∀ j u, (l.flatMap cv)[j]? = some u → w.cell? ⟨b, off + j, none⟩ = some u)
theorem Reads.later {α : Type} {cv : α → List Value} {w w' : World} {a : Option Addr} {len : Nat} {l : List α} (h : Reads cv w a len l) (hb : Below w.heap.size w w') : Reads cv w' a len l := by
  obtain ⟨h1, h2, h3⟩ := h
  refine ⟨h1, h2, ?_⟩
  rcases h3 with h3 | ⟨b, off, ha, hlt, hc⟩
  · exact Or.inl h3
  · exact Or.inr ⟨b, off, ha, Nat.lt_of_lt_of_le hlt hb.size, fun j u hu => (hb.cell (p := ⟨b, off + j, none⟩) hlt).trans (hc j u hu)⟩
theorem Reads.drew {α : Type} {cv : α → List Value} {w : World} {a : Option Addr} {len : Nat} {l : List α} (h : Reads cv w a len l) : Reads cv w.drew a len l := h.later (Below.refl _ _).drew
theorem Reads.nil {α : Type} (cv : α → List Value) (w : World) (a : Option Addr) : Reads cv w a 0 [] := ⟨rfl, Nat.zero_le _, Or.inl rfl⟩
theorem Reads.lies {α : Type} {cv : α → List Value} {w : World} {a : Option Addr} {len : Nat} {l : List α} (h : Reads cv w a len l) (h0 : 0 < len) : ∃ b off, a = some ⟨b, off, none⟩ := by
  obtain ⟨_, _, h3⟩ := h
  obtain ⟨b, off, e, _⟩ := h3.resolve_left (by omega)
  exact ⟨b, off, e⟩
theorem flat_len {α : Type} {cv : α → List Value} {sz : Nat} (hc : ∀ x, (cv x).length = sz) : ∀ l : List α, (l.flatMap cv).length = l.length * sz
  | [] => by simp
  | x :: r => by rw [List.flatMap_cons, List.length_append, hc, flat_len hc r, List.length_cons, Nat.succ_mul]; omega
theorem flat_at {α : Type} {cv : α → List Value} {sz : Nat} (hc : ∀ x, (cv x).length = sz) : ∀ (l : List α) (i j : Nat) (x : α), l[i]? = some x → j < sz → (l.flatMap cv)[i * sz + j]? = (cv x)[j]?
  | [], i, _, _, h, _ => by simp at h
  | y :: r, 0, j, x, h, hj => by
    simp at h
    subst h
    rw [List.flatMap_cons, Nat.zero_mul, Nat.zero_add, List.getElem?_append_left (by rw [hc]; exact hj)]
  | y :: r, i + 1, j, x, h, hj => by
    rw [List.getElem?_cons_succ] at h
    rw [List.flatMap_cons, Nat.succ_mul, show i * sz + sz + j = sz + (i * sz + j) by omega, List.getElem?_append_right (by rw [hc]; omega), hc, Nat.add_sub_cancel_left]
    exact flat_at hc r i j x h hj
/-- A field's cell. -/
theorem Reads.cellAt {α : Type} {P : Program} {t e : TypeId} {sz bytes : Nat} {cv : α → List Value} (R : Rowed P t e sz bytes cv) {w : World} {b off len : Nat} {l : List α} (h : Reads cv w (some ⟨b, off, none⟩) len l) (i j : Nat) (x : α) (v : Value)
    (hi : l[i]? = some x) (hv : (cv x)[j]? = some v) : w.cell? ⟨b, off + (i * sz + j), none⟩ = some v := by
  obtain ⟨rfl, _, h3⟩ := h
  have hlt : i < l.length := by
    rcases Nat.lt_or_ge i l.length with h' | h'
    · exact h'
    · rw [List.getElem?_eq_none h'] at hi
      cases hi
  obtain ⟨b', off', e, _, hc⟩ := h3.resolve_left (by omega)
  cases e
  have hj : j < sz := by
    rcases Nat.lt_or_ge j sz with h' | h'
    · exact h'
    · rw [List.getElem?_eq_none (by rw [R.len]; exact h')] at hv
      cases hv
  exact hc _ _ ((flat_at R.len l i j x hi hj).trans hv)
/-- A row of the call's own. -/
def OwnG {α : Type} (cv : α → List Value) (e : TypeId) (sz : Nat) (w : World) (base : Nat) (v : Value) (n : Nat) (l : List α) : Prop := w.ownsRow base e sz v n (l.flatMap cv) ∧ l.length = n ∧ n ≤ 100000000
theorem OwnG.none {α : Type} (cv : α → List Value) (e : TypeId) (sz : Nat) (w : World) (base : Nat) : OwnG cv e sz w base (.slice Option.none 0 0) 0 [] :=
  ⟨⟨by simp, Or.inl ⟨rfl, rfl⟩⟩, rfl, Nat.zero_le _⟩
theorem OwnG.made {α : Type} (cv : α → List Value) (e : TypeId) (sz : Nat) (w : World) (base : Nat) (hb : base ≤ w.heap.size) : OwnG cv e sz (w.alloc (.cells #[] e)) base (.slice (some ⟨w.heap.size, 0, Option.none⟩) 0 0) 0 [] :=
  ⟨World.ownsRow_made w #[] 0 hb (Nat.zero_le _) (by simp), rfl, Nat.zero_le _⟩
theorem OwnG.shape {α : Type} {P : Program} {t e : TypeId} {sz bytes : Nat} {cv : α → List Value} (R : Rowed P t e sz bytes cv) {w : World} {base : Nat} {v : Value} {n : Nat} {l : List α} (h : OwnG cv e sz w base v n l) :
    ∃ a c, v = .slice a n c ∧ Reads cv w a n l ∧ (a = Option.none → c = 0) ∧ n ≤ c := by
  obtain ⟨⟨h1, h2⟩, h3, h4⟩ := h
  rcases h2 with ⟨rfl, rfl⟩ | ⟨g, cap, cur, rfl, hb, hg, hn, hm, hs, ht⟩
  · exact ⟨Option.none, 0, rfl, ⟨h3, h4, Or.inl rfl⟩, fun _ => rfl, Nat.le_refl _⟩
  · refine ⟨_, cap, rfl, ⟨h3, h4, Or.inr ⟨g, 0, rfl, lt_of_block hg, fun j u hu => ?_⟩⟩, (fun e => by cases e), hn⟩
    rw [cell_of_row w g (0 + j) cur e (0, 0) hg, Nat.zero_add]
    have hlen := flat_len R.len l
    have hj : j < n * sz := by
      rcases Nat.lt_or_ge j (n * sz) with h' | h'
      · exact h'
      · rw [List.getElem?_eq_none (by rw [hlen, h3]; exact h')] at hu
        cases hu
    have : (cur.toList.take (n * sz))[j]? = (l.flatMap cv)[j]? := by rw [ht]
    rw [List.getElem?_take, if_pos hj, hu] at this
    simpa using this
theorem OwnG.reads {α : Type} {P : Program} {t e : TypeId} {sz bytes : Nat} {cv : α → List Value} (R : Rowed P t e sz bytes cv) {w : World} {base n' c n : Nat} {a : Option Addr} {l : List α} (h : OwnG cv e sz w base (.slice a n' c) n l) :
    Reads cv w a n l ∧ (a = Option.none → c = 0) ∧ n ≤ c := by
  obtain ⟨a', c', e, h1, h2, h3⟩ := h.shape R
  cases e
  exact ⟨h1, h2, h3⟩
theorem OwnG.below {α : Type} {cv : α → List Value} {e : TypeId} {sz : Nat} {w w' : World} {base : Nat} {v : Value} {n : Nat} {l : List α} (h : OwnG cv e sz w base v n l) {a : World} {B : Nat} (hb : Below B a w) (hg : w.grownBy w' v.ownBlock) (hB : B ≤ w.heap.size) (hbase : B ≤ base) : Below B a w' :=
  hb.grown hg hB fun k hk => Nat.le_trans hbase (h.1.lt k hk).1
theorem OwnG.drew {α : Type} {cv : α → List Value} {e : TypeId} {sz : Nat} {w : World} {base n : Nat} {v : Value} {l : List α} (h : OwnG cv e sz w base v n l) : OwnG cv e sz w.drew base v n l := ⟨h.1.drew, h.2⟩
theorem OwnG.alloc {α : Type} {cv : α → List Value} {e : TypeId} {sz : Nat} {w : World} {base n : Nat} {v : Value} {l : List α} (h : OwnG cv e sz w base v n l) (x : Obj) : OwnG cv e sz (w.alloc x) base v n l := ⟨h.1.alloc x, h.2⟩
/-- 'append(own, x...)': only the row's own block may have turned. -/
theorem append_gg {α : Type} {P : Program} {t e : TypeId} {sz bytes : Nat} {cv : α → List Value} (R : Rowed P t e sz bytes cv) {ops : Array Oper} {rest : List Oper} {o : Oper} {a : Act} {w : World} {Q : Exit → Act → World → Prop} (hgd : o.guard = Option.none) (s x : Operand)
    (ho : o.op = .call { callee := .builtin .append, args := #[s, x], argTypes := #[t, t] }) (base : Nat) (v : Value) (n : Nat) (xs : List α) (hs : a.eval s = v) (hown : OwnG cv e sz w base v n xs)
    (ao : Option Addr) (m c : Nat) (l : List α) (hx : a.eval x = .slice ao m c) (hnil : ao = Option.none → c = 0) (hB : Reads cv w ao m l) (hn : n + m ≤ 10000000) (hbase : base ≤ w.heap.size)
    (h : ∀ a' c' w', OwnG cv e sz w' base (.slice a' (n + m) c') (n + m) (xs ++ l) → Below base w w' → w.grownBy w' v.ownBlock → wpList P ops Q rest (a.put o.dst (.slice a' (n + m) c')) w') : wpList P ops Q (o :: rest) a w := by
  obtain ⟨i0, z, hi, hz0, hz1, hz2, hz3⟩ := R.info
  have hlen := flat_len R.len l
  have hsm := R.small
  have hbb : (n + m) * bytes ≤ 140737488355328 := by
    have : (n + m) * bytes ≤ 10000000 * 1000 := Nat.mul_le_mul hn hsm
    omega
  cases ao with
  | some ad =>
    have hcells : ∀ j u, (l.flatMap cv)[j]? = some u → w.cell? (ad.add j) = some u := by
      intro j u hu
      rcases hB.2.2 with h0 | ⟨b, off, ha, _, hc⟩
      · obtain rfl : l = [] := List.eq_nil_of_length_eq_zero (by rw [hB.1]; exact h0)
        simp at hu
      · cases ha
        rw [add_none]
        exact hc j u hu
    refine wpList_append_own w hgd s x t ho base e i0 z sz bytes R.under hi hz0 hz1 hz2 hz3 R.pos v n (xs.flatMap cv) hs hown.1 ad m c (l.flatMap cv) hx (by rw [hlen, hB.1]) hcells
      (fun u hu => by obtain ⟨y, _, hy⟩ := List.mem_flatMap.1 hu; exact R.one y u hy) (by unfold maxLen; omega) hbb hbase ?_
    intro v' w' h1 h2 _
    rw [← List.flatMap_append] at h1
    have hO : OwnG cv e sz w' base v' (n + m) (xs ++ l) := ⟨h1, by rw [List.length_append, hown.2.1, hB.1], by omega⟩
    obtain ⟨a', c', rfl, _, _⟩ := hO.shape R
    exact h a' c' w' hO (hown.below (Below.refl _ _) h2 hbase (Nat.le_refl _)) h2
  | none =>
    obtain rfl := hnil rfl
    have hm : m = 0 := by
      rcases hB.2.2 with h0 | ⟨b, off, ha, _, _⟩
      · exact h0
      · cases ha
    subst hm
    obtain rfl : l = [] := List.eq_nil_of_length_eq_zero hB.1
    refine wpList_append_own_none hgd s x t ho base e i0 sz R.under hi v n (xs.flatMap cv) hs hown.1 hx ?_
    obtain ⟨a', c', e, _, _⟩ := hown.shape R
    subst e
    exact h a' c' w (by rw [List.append_nil]; exact hown) (Below.refl _ _) (World.grownBy.refl _ _)
/-- 'append(own, x...)'. -/
theorem append_g {α : Type} {P : Program} {t e : TypeId} {sz bytes : Nat} {cv : α → List Value} (R : Rowed P t e sz bytes cv) {ops : Array Oper} {rest : List Oper} {o : Oper} {a : Act} {w : World} {Q : Exit → Act → World → Prop} (hgd : o.guard = Option.none) (s x : Operand)
    (ho : o.op = .call { callee := .builtin .append, args := #[s, x], argTypes := #[t, t] }) (base : Nat) (v : Value) (n : Nat) (xs : List α) (hs : a.eval s = v) (hown : OwnG cv e sz w base v n xs)
    (ao : Option Addr) (m c : Nat) (l : List α) (hx : a.eval x = .slice ao m c) (hnil : ao = Option.none → c = 0) (hB : Reads cv w ao m l) (hn : n + m ≤ 10000000) (hbase : base ≤ w.heap.size)
    (h : ∀ a' c' w', OwnG cv e sz w' base (.slice a' (n + m) c') (n + m) (xs ++ l) → Below base w w' → wpList P ops Q rest (a.put o.dst (.slice a' (n + m) c')) w') : wpList P ops Q (o :: rest) a w :=
  append_gg R hgd s x ho base v n xs hs hown ao m c l hx hnil hB hn hbase fun a' c' w' h1 h2 _ => h a' c' w' h1 h2
/-- 'append([]T{}, x...)'. -/
theorem append_g_copy {α : Type} {P : Program} {t e : TypeId} {sz bytes : Nat} {cv : α → List Value} (R : Rowed P t e sz bytes cv) {ops : Array Oper} {rest : List Oper} {o : Oper} {a : Act} {w0 : World} {Q : Exit → Act → World → Prop} (hgd : o.guard = Option.none) (s x : Operand)
    (ho : o.op = .call { callee := .builtin .append, args := #[s, x], argTypes := #[t, t] }) (base : Nat) (hs : a.eval s = .slice (some ⟨w0.heap.size, 0, Option.none⟩) 0 0)
    (ao : Option Addr) (m c : Nat) (l : List α) (hx : a.eval x = .slice ao m c) (hnil : ao = Option.none → c = 0) (hB : Reads cv w0 ao m l) (hn : m ≤ 10000000) (hbase : base ≤ w0.heap.size)
    (h : ∀ a' c' w', OwnG cv e sz w' base (.slice a' m c') m l → Below base w0 w' → wpList P ops Q rest (a.put o.dst (.slice a' m c')) w') : wpList P ops Q (o :: rest) a (w0.alloc (.cells #[] e)) := by
  refine append_g R hgd s x ho base _ 0 [] hs (OwnG.made cv e sz w0 base hbase) ao m c l hx hnil (hB.later ((Below.refl _ _).alloc (Nat.le_refl _) _)) (by omega) (by rw [World.size_alloc]; omega) ?_
  intro a' c' w' h1 h2
  rw [Nat.zero_add, List.nil_append] at h1
  rw [Nat.zero_add]
  exact h a' c' w' h1 (((Below.refl _ _).alloc hbase _).trans h2)
theorem append_g_copyAt {α : Type} {P : Program} {t e : TypeId} {sz bytes : Nat} {cv : α → List Value} (R : Rowed P t e sz bytes cv) {ops : Array Oper} {rest : List Oper} {o : Oper} {a : Act} {w0 : World} {Q : Exit → Act → World → Prop} (N : Nat) (hN : w0.heap.size = N) (hgd : o.guard = Option.none) (s x : Operand)
    (ho : o.op = .call { callee := .builtin .append, args := #[s, x], argTypes := #[t, t] }) (base : Nat) (hs : a.eval s = .slice (some ⟨N, 0, Option.none⟩) 0 0)
    (ao : Option Addr) (m c : Nat) (l : List α) (hx : a.eval x = .slice ao m c) (hnil : ao = Option.none → c = 0) (hB : Reads cv w0 ao m l) (hn : m ≤ 10000000) (hbase : base ≤ w0.heap.size)
    (h : ∀ a' c' w', OwnG cv e sz w' base (.slice a' m c') m l → Below base w0 w' → wpList P ops Q rest (a.put o.dst (.slice a' m c')) w') : wpList P ops Q (o :: rest) a (w0.alloc (.cells #[] e)) := by
  subst hN
  exact append_g_copy R hgd s x ho base hs ao m c l hx hnil hB hn hbase h
/-- A literal of one element. -/
theorem one_reads {α : Type} {cv : α → List Value} (w : World) (x : α) (cs : Array Value) (T : TypeId) (h : cs.toList = cv x) : Reads cv (w.alloc (.cells cs T)) (some ⟨w.heap.size, 0, Option.none⟩) 1 [x] := by
  refine ⟨rfl, by omega, Or.inr ⟨w.heap.size, 0, rfl, by simp, fun j u hu => ?_⟩⟩
  have e : [x].flatMap cv = cv x := by simp
  rw [e, ← h] at hu
  rw [Nat.zero_add, World.cell?_alloc_new]
  simpa using hu
theorem one_reads2 {α : Type} {cv : α → List Value} (w : World) (X : Obj) (x : α) (cs : Array Value) (T : TypeId) (h : cs.toList = cv x) : Reads cv ((w.alloc X).alloc (.cells cs T)) (some ⟨w.heap.size + 1, 0, Option.none⟩) 1 [x] := by
  have := one_reads (cv := cv) (w.alloc X) x cs T h
  rwa [World.size_alloc] at this
/-- A block that is not the row's own stays. -/
theorem OwnG.far {α : Type} {cv : α → List Value} {e : TypeId} {sz : Nat} {w w0 w' : World} {base n c : Nat} {a : Option Addr} {l : List α} (h : OwnG cv e sz w0 base (.slice a n c) n l) (hg : w.grownBy w' (Value.slice a n c).ownBlock) {p : Addr} {v : Value}
    (hp : w.cell? p = some v) (hb : p.block < base ∨ w0.heap.size ≤ p.block) : w'.cell? p = some v :=
  hg.cell hp fun e => by
    have := h.1.lt p.block e.symm
    omega
end Go.Proofs.YtlljcdmblmkblaaGreat
namespace Go.Proofs.YtlljcdmblmkblaaGreat
open Go.RowKit
set_option linter.unusedVariables false

theorem grown_of_below {w w' : World} (h : Below w.heap.size w w') : w.grownBy w' none := ⟨h.os, h.tape, h.output, h.size, fun k hk _ => h.block k hk⟩
theorem below_of_grown {w w' : World} (h : w.grownBy w' none) : Below w.heap.size w w' := ⟨h.os, h.tape, h.output, h.size, fun k hk => h.block k hk (by simp)⟩
/-- Block B is cells cs of type t. -/
def Blk (W : World) (B : Nat) (t : TypeId) (cs : Array Value) : Prop := W.heap[B]? = some (.cells cs t (0, 0))
theorem Blk.lt {W : World} {B : Nat} {t : TypeId} {cs : Array Value} (h : Blk W B t cs) : B < W.heap.size := (Array.getElem?_eq_some_iff.1 h).1
theorem Blk.cell {W : World} {B : Nat} {t : TypeId} {cs : Array Value} (h : Blk W B t cs) (i : Nat) : W.cell? ⟨B, i, none⟩ = cs[i]? := by simp [World.cell?, show W.heap[B]? = _ from h]
theorem Blk.free {W : World} {B : Nat} {t : TypeId} {cs : Array Value} (h : Blk W B t cs) (i : Nat) : W.frozen? ⟨B, i, none⟩ = false := by simp [World.frozen?, show W.heap[B]? = _ from h]
theorem Blk.new (W : World) (t : TypeId) (cs : Array Value) : Blk (W.alloc (.cells cs t)) W.heap.size t cs := World.alloc_heap_new W _
theorem Blk.kept {W W' : World} {row : Option Nat} {B : Nat} {t : TypeId} {cs : Array Value} (h : Blk W B t cs) (hg : W.grownBy W' row) (hne : some B ≠ row) : Blk W' B t cs := (hg.block B h.lt hne).trans h
theorem Blk.later {W W' : World} {B : Nat} {t : TypeId} {cs : Array Value} (h : Blk W B t cs) (hb : Below W.heap.size W W') : Blk W' B t cs := (hb.block B h.lt).trans h
theorem Blk.alloc {W : World} {B : Nat} {t : TypeId} {cs : Array Value} (h : Blk W B t cs) (o : Obj) : Blk (W.alloc o) B t cs := h.kept (World.grownBy_alloc W o none) (by simp)
theorem Blk.set {W : World} {B : Nat} {t : TypeId} {cs : Array Value} (i : Nat) (v : Value) (h : Blk W B t cs) : Blk (W.setCell ⟨B, i, none⟩ v) B t (cs.setIfInBounds i v) := by
  obtain ⟨hlt, hk⟩ := Array.getElem?_eq_some_iff.1 h
  show (W.heap.modify B _)[B]? = _
  rw [Array.getElem?_eq_getElem (by rw [Array.size_modify]; exact hlt), Array.getElem_modify_self, hk]
  rfl
theorem Blk.other {W : World} {B B' i : Nat} {t : TypeId} {cs : Array Value} (h : Blk W B t cs) (hne : B ≠ B') (u : Value) : Blk (W.setCell ⟨B', i, none⟩ u) B t cs :=
  (Below.heap_setCell W _ u B hne).trans h
theorem Blk.own {β : Type} (B : Nat) (t : TypeId) (f : β → Array Value) : Go.Own (fun s W => Blk W B t (f s)) := fun s X Y row hs hg hrow =>
  hs.kept hg (fun e' => by obtain ⟨o, ho, hc⟩ := hrow B e'.symm; rw [show X.heap[B]? = _ from hs] at ho; cases ho; cases hc)
theorem Blk.putObj {W : World} {B D : Nat} {t : TypeId} {cs : Array Value} {o o' : Obj} (h : Blk W B t cs) (hD : W.heap[D]? = some o) (ho : o.isCells = false) : Blk (W.putObj D o') B t cs :=
  (World.putObj_heap_other (fun e => by subst e; rw [show W.heap[B]? = _ from h] at hD; cases hD; cases ho)).trans h
/-- A row of the call's own is not a block of another type. -/
theorem Blk.not_row {α : Type} {cv : α → List Value} {W : World} {B : Nat} {t e : TypeId} {cs : Array Value} (h : Blk W B t cs) (hte : t ≠ e) {base size n : Nat} {v : Value} {l : List α} (hr : OwnG cv e size W base v n l) : some B ≠ v.ownBlock := by
  rcases hr.1.2 with ⟨rfl, _⟩ | ⟨g, cap, cur, rfl, _, hgb, _⟩
  · simp [Value.ownBlock]
  · intro e'
    obtain rfl : B = g := by simpa [Value.ownBlock] using e'
    have := (show W.heap[B]? = _ from h).symm.trans hgb
    simp at this
    exact hte this.2

theorem grown_alloc {W w1 : World} {row : Option Nat} {tmp : Obj} (hg : (W.alloc tmp).grownBy w1 row) : W.grownBy w1 row :=
  ⟨hg.os, hg.tape, hg.output, by have := hg.size; rw [World.size_alloc] at this; omega, fun k hk hne => (hg.block k (by rw [World.size_alloc]; omega) hne).trans (Below.heap_alloc _ _ _ hk)⟩
theorem grownBy_setCell4 (W : World) (b i : Nat) (v : Value) : W.grownBy (W.setCell ⟨b, i, none⟩ v) (some b) :=
  ⟨rfl, rfl, rfl, by rw [World.size_setCell]; exact Nat.le_refl _, fun k _ hk => Below.heap_setCell _ _ _ k (fun e => hk (by rw [e]))⟩
theorem OwnG.cells {α : Type} {cv : α → List Value} {e : TypeId} {sz : Nat} {w : World} {base n : Nat} {v : Value} {l : List α} (h : OwnG cv e sz w base v n l) : ∀ (j : Nat) (o : Obj), v.ownBlock = some j → w.heap[j]? = some o → o.isCells = true := by
  intro j o hj ho
  rcases h.1.2 with ⟨rfl, _⟩ | ⟨g, cap, cur, rfl, _, hgb, _⟩
  · simp [Value.ownBlock] at hj
  · have : g = j := by simpa [Value.ownBlock] using hj
    subst this
    rw [hgb] at ho
    cases ho
    rfl
theorem Blk.inj {W : World} {B : Nat} {t t' : TypeId} {cs cs' : Array Value} (h : Blk W B t cs) (h' : Blk W B t' cs') : cs = cs' := by
  have := (show W.heap[B]? = _ from h).symm.trans h'
  simp at this
  exact this.1
theorem OwnG.low {α : Type} {cv : α → List Value} {e : TypeId} {sz : Nat} {w : World} {base n : Nat} {v : Value} {l : List α} (h : OwnG cv e sz w base v n l) (B : Nat) (hB : B < base ∨ w.heap.size ≤ B) : v.ownBlock ≠ some B := fun e => by
  have := h.1.lt B e
  omega
theorem run_append_lg {α : Type} {P : Program} {t e : TypeId} {sz bytes : Nat} {cv : α → List Value} (R : Rowed P t e sz bytes cv) {w : World} (ty : TypeId) (base : Nat) (v : Value) (n : Nat) (xs : List α) (hown : OwnG cv e sz w base v n xs)
    (ao : Option Addr) (m c : Nat) (l : List α) (hnil : ao = Option.none → c = 0) (hB : Reads cv w ao m l) (hn : n + m ≤ 10000000) (hbase : base ≤ w.heap.size) :
    ∃ a' c' w', (Builtin.append_ #[t, t] ty #[v, .slice ao m c]).run P w = .ok (.slice a' (n + m) c') w' ∧ OwnG cv e sz w' base (.slice a' (n + m) c') (n + m) (xs ++ l) ∧ w.grownBy w' v.ownBlock ∧
      ((Value.slice a' (n + m) c').ownBlock = v.ownBlock ∨ (Value.slice a' (n + m) c').ownBlock = some w.heap.size) := by
  obtain ⟨i0, z, hi, hz0, hz1, hz2, hz3⟩ := R.info
  have hlen := flat_len R.len l
  have hsm := R.small
  have hbb : (n + m) * bytes ≤ 140737488355328 := by
    have : (n + m) * bytes ≤ 10000000 * 1000 := Nat.mul_le_mul hn hsm
    omega
  cases ao with
  | some ad =>
    have hcells : ∀ j u, (l.flatMap cv)[j]? = some u → w.cell? (ad.add j) = some u := by
      intro j u hu
      rcases hB.2.2 with h0 | ⟨b, off, ha, _, hc⟩
      · obtain rfl : l = [] := List.eq_nil_of_length_eq_zero (by rw [hB.1]; exact h0)
        simp at hu
      · cases ha
        rw [add_none]
        exact hc j u hu
    obtain ⟨v', w', hr, h1, h2, _, h4⟩ := run_append_own_at (P := P) w base t ty e i0 z sz bytes R.under hi hz0 hz1 hz2 hz3 R.pos v n (xs.flatMap cv) hown.1 ad m c (l.flatMap cv) (by rw [hlen, hB.1]) hcells
      (fun u hu => by obtain ⟨y, _, hy⟩ := List.mem_flatMap.1 hu; exact R.one y u hy) (by unfold maxLen; omega) hbb hbase
    rw [← List.flatMap_append] at h1
    have hO : OwnG cv e sz w' base v' (n + m) (xs ++ l) := ⟨h1, by rw [List.length_append, hown.2.1, hB.1], by omega⟩
    obtain ⟨a', c', rfl, _, _⟩ := hO.shape R
    exact ⟨a', c', w', hr, hO, h2, h4⟩
  | none =>
    obtain rfl := hnil rfl
    have hm : m = 0 := by
      rcases hB.2.2 with h0 | ⟨b, off, ha, _, _⟩
      · exact h0
      · cases ha
    subst hm
    obtain rfl : l = [] := List.eq_nil_of_length_eq_zero hB.1
    have hrun := run_append_owned_none (P := P) (w := w) base t ty e i0 sz R.under hi v n (xs.flatMap cv) hown.1
    obtain ⟨a', c', e', _, _⟩ := hown.shape R
    subst e'
    exact ⟨a', c', w, hrun, by rw [List.append_nil]; exact hown, World.grownBy.refl _ _, Or.inl rfl⟩
/-- At one operation, anywhere. -/
theorem wp_append_lg {α : Type} {P : Program} {t e : TypeId} {sz bytes : Nat} {cv : α → List Value} (R : Rowed P t e sz bytes cv) {o : Oper} {a : Act} {w : World} {K : Act → World → Prop} {Q : Exit → Act → World → Prop} (s x : Operand)
    (ho : o.op = .call { callee := .builtin .append, args := #[s, x], argTypes := #[t, t] }) (base : Nat) (v : Value) (n : Nat) (xs : List α) (hs : a.eval s = v) (hown : OwnG cv e sz w base v n xs)
    (ao : Option Addr) (m c : Nat) (l : List α) (hx : a.eval x = .slice ao m c) (hnil : ao = Option.none → c = 0) (hB : Reads cv w ao m l) (hn : n + m ≤ 10000000) (hbase : base ≤ w.heap.size)
    (h : ∀ a' c' w', OwnG cv e sz w' base (.slice a' (n + m) c') (n + m) (xs ++ l) → w.grownBy w' v.ownBlock → ((Value.slice a' (n + m) c').ownBlock = v.ownBlock ∨ (Value.slice a' (n + m) c').ownBlock = some w.heap.size) → K (a.put o.dst (.slice a' (n + m) c')) w') : o.wp P a w K Q := by
  obtain ⟨a', c', w', hr, h2, h3, h4⟩ := run_append_lg R o.type base v n xs hown ao m c l hnil hB hn hbase
  unfold Oper.wp execOp
  simp only [ho, resolve, invoke, builtin, Sem.run_bind, Sem.run_pure, Result.andThen_ok, List.map_toArray, List.map_cons, List.map_nil, hs, hx, hr]
  exact h a' c' w' h2 h3 h4
/-- Within a round. -/
theorem appendIn_lg {α : Type} {F : Fence} {k : Nat} {P : Program} {t e : TypeId} {sz bytes : Nat} {cv : α → List Value} (R : Rowed P t e sz bytes cv) {ops : Array Oper} {rest : List Oper} {o : Oper} {a : Act} {w : World} {Q : Exit → Act → World → Prop} (hgd : o.guard = Option.none) (s x : Operand)
    (ho : o.op = .call { callee := .builtin .append, args := #[s, x], argTypes := #[t, t] }) (base : Nat) (v : Value) (n : Nat) (xs : List α) (hs : a.eval s = v) (hown : OwnG cv e sz w base v n xs)
    (ao : Option Addr) (m c : Nat) (l : List α) (hx : a.eval x = .slice ao m c) (hnil : ao = Option.none → c = 0) (hB : Reads cv w ao m l) (hn : n + m ≤ 10000000) (hbase : base ≤ w.heap.size)
    (h : ∀ a' c' w', OwnG cv e sz w' base (.slice a' (n + m) c') (n + m) (xs ++ l) → w.grownBy w' v.ownBlock → ((Value.slice a' (n + m) c').ownBlock = v.ownBlock ∨ (Value.slice a' (n + m) c').ownBlock = some w.heap.size) → wpListIn F k P ops Q rest (a.put o.dst (.slice a' (n + m) c')) w') : wpListIn F k P ops Q (o :: rest) a w := by
  refine wpListIn_plain hgd fun K hK' => ?_
  obtain ⟨a', c', w', hr, h2, h3, h4⟩ := run_append_lg R o.type base v n xs hown ao m c l hnil hB hn hbase
  unfold Oper.wpIn
  refine ⟨?_, ?_⟩
  · simp [Oper.about, ho, resolve, Target.leads, Sem.run_pure]
  · rw [Oper.semAt_plain F _ _ (by rw [ho]; intro c hc'; cases hc')]
    simp [execOp, ho, resolve, invoke, builtin, hs, hx, hr, Result.andThen]
    exact hK' _ _ (h a' c' w' h2 h3 h4)

theorem OwnG.kept' {α : Type} {cv : α → List Value} {e : TypeId} {sz : Nat} {w w' : World} {base n : Nat} {v : Value} {l : List α} {row : Option Nat} (h : OwnG cv e sz w base v n l) (hg : w.grownBy w' row) (hne : ∀ k, v.ownBlock = some k → row ≠ some k) : OwnG cv e sz w' base v n l :=
  ⟨h.1.kept hg (by
    cases hv : v.ownBlock with
    | none => exact .inl rfl
    | some k => exact .inr (fun e' => hne k hv e'.symm)), h.2⟩
end Go.Proofs.YtlljcdmblmkblaaGreat
namespace Go.Proofs.YtlljcdmblmkblaaGreat
open Go.RowKit
set_option linter.unusedVariables false

/-- An int. -/
def I64 (x : Int) : Prop := -9223372036854775808 ≤ x ∧ x ≤ 9223372036854775807
theorem PutPost.sized {w0 : World} {l : List Int} {err : Int} {e : Ending} {w : World} (h : PutPost w0 l err e w) {n : Nat} (hn : l.length = n) :
    ∃ a c, e = .returned (.tuple #[.slice a n c, .int .i64 err]) ∧ Bytes w a n l ∧ ((a = none → c = 0) ∧ n ≤ c) ∧ Below w0.heap.size w0 w := by
  subst hn
  exact h
theorem PutPost.of_sized {w0 w : World} {l : List Int} {err : Int} {a : Option Addr} {n c : Nat} (hn : l.length = n) (hB : Bytes w a n l) (hc : (a = none → c = 0) ∧ n ≤ c) (hb : Below w0.heap.size w0 w) : PutPost w0 l err (.returned (.tuple #[.slice a n c, .int .i64 err])) w := by
  subst hn
  exact ⟨a, c, rfl, hB, hc, hb⟩
theorem fitsM {m v : Nat} (hm : m < 8) (h : v < 256 ^ m) : fitsIn m v = true := by
  unfold fitsIn
  have e : 2 ^ (8 * m) = 256 ^ m := by rw [Nat.pow_mul]
  have : v / 2 ^ (8 * m) = 0 := Nat.div_eq_of_lt (by rw [e]; exact h)
  simp [this]
theorem fit4 {v : Nat} (h : v < 4294967296) : Fit64 v := by unfold Fit64; omega
theorem bytes_range {w : World} {b off n : Nat} {l : List Int} (h : Bytes w (some ⟨b, off, none⟩) n l) : w.rangeAt b off (l.map (Value.int .u8)) := fun j v hj => by
  rw [List.getElem?_map] at hj
  have hlt : j < l.length := by
    rcases Nat.lt_or_ge j l.length with h' | h'
    · exact h'
    · rw [List.getElem?_eq_none h'] at hj
      cases hj
  rw [h.cellAt j (by rw [← h.1]; exact hlt), List.getD_eq_getElem?_getD]
  rw [List.getElem?_eq_getElem hlt] at hj ⊢
  simpa using hj
/-- A struct into the block that was made last. -/
theorem store_new7 {P : Program} {ops : Array Oper} {rest : List Oper} {op : Oper} {a : Act} {w : World} {Q : Exit → Act → World → Prop} {t : TypeId} {c : Array Value} (hgd : op.guard = none) (x y : Operand) (ho : op.op = .store t x y) (c' : Array Value)
    (hx : a.eval x = .pointer (some ⟨w.heap.size, 0, none⟩)) (hy : a.eval y = .agg c') (hi : (P.info? t).map (·.size) = some c'.size) (hc : c.size = c'.size) (h1 : c'.all (·.oneCell') = true)
    (h : wpList P ops Q rest (a.put op.dst undef) (w.alloc (.cells c' t))) : wpList P ops Q (op :: rest) a (w.alloc (.cells c t)) := by
  refine wpList_plain hgd fun K' hK => ?_
  unfold Oper.wp execOp
  simp only [ho, hx, hy, run_storeAt_new w t c c' hi hc h1, Sem.run_bind, Result.andThen_ok]
  exact hK _ _ h
theorem results_cell_tmp {P : Program} {fn : Func} {p q : Tmp} {ty : TypeId} (h : fn.results = #[.cell p ty, .tmp q]) (tmps : Array Value) (w : World) (g : Nat) (t : TypeId) (cs : Array Value) (fr : Nat × Nat) (d : TypeDesc)
    (hp : tmps.getD p undef = .pointer (some ⟨g, 0, none⟩)) (v : Value) (hv : tmps.getD q undef = v) (hg : w.heap[g]? = some (.cells cs t fr))
    (hu : P.underlying ty = some d) (hd : (match d with | .struct _ | .array _ _ => true | _ => false) = true) (hi : (P.info? ty).map (·.size) = some cs.size) :
    (results fn tmps).run P w = .ok (.tuple #[.agg cs, v]) w := by
  have hp' : tmps[p]?.getD undef = .pointer (some ⟨g, 0, none⟩) := by simpa using hp
  have hv' : tmps[q]?.getD undef = v := by simpa using hv
  simp [results, h, hp', hv', asAddr, run_loadVar_row w g t ty cs fr d hg hu hd hi]
theorem arg_of7 {w : World} {a : Option Addr} {len cap : Nat} {zs : List Int}
    (h : (a = none ∧ len = 0 ∧ cap = 0 ∧ zs = []) ∨ ∃ x, a = some x ∧ len ≤ cap ∧ cap ≤ maxLen ∧ zs.length = cap ∧ (∀ i, i < zs.length → w.cell? (x.add i) = some (.int .u8 (zs.getD i 0))) ∧ ∀ n ∈ zs, (Lit.int .u8 n).wf = true)
    (hlen : len ≤ 20000) : ∃ l, Bytes w a len l ∧ len ≤ cap ∧ (a = none → cap = 0) := by
  refine ⟨_, bytes_of h hlen, ?_, ?_⟩
  · rcases h with ⟨_, rfl, rfl, _⟩ | ⟨x, _, h, _⟩
    · exact Nat.le_refl _
    · exact h
  · rcases h with ⟨_, _, h, _⟩ | ⟨x, h, _⟩
    · exact fun _ => h
    · intro e
      rw [e] at h
      cases h
end Go.Proofs.YtlljcdmblmkblaaGreat
/-
  Plain mathematics of CRC-32C and of the fingerprint: registers as natural numbers, bytes as integers. No condition; nothing of the program is in it.
-/
namespace Go.Proofs.YtlljcdmblmkblaaGreat

/-- One bit shifted out of the register. -/
def shr1 (r : Nat) : Nat := if r % 2 = 1 then r / 2 ^^^ 2197175160 else r / 2
def shiftN : Nat → Nat → Nat
  | 0, r => r
  | n + 1, r => shiftN n (shr1 r)
/-- The register behind one byte. -/
def bstep (r : Nat) (c : Int) : Nat := shiftN 8 (r ^^^ c.toNat)
def reg (r : Nat) (l : List Int) : Nat := l.foldl bstep r
def inv32 (s : Nat) : Nat := s ^^^ 4294967295
def moreOf (s : Nat) (l : List Int) : Nat := inv32 (reg (inv32 s) l)

theorem xor_left_comm' (a b c : Nat) : a ^^^ (b ^^^ c) = b ^^^ (a ^^^ c) := by rw [← Nat.xor_assoc, Nat.xor_comm a b, Nat.xor_assoc]
theorem xor_cancel (a b : Nat) : (a ^^^ b) ^^^ b = a := by rw [Nat.xor_assoc, Nat.xor_self, Nat.xor_zero]
theorem xor_cancel' (a b : Nat) : a ^^^ (a ^^^ b) = b := by rw [← Nat.xor_assoc, Nat.xor_self, Nat.zero_xor]
theorem xor_inj {a b c : Nat} (h : a ^^^ c = b ^^^ c) : a = b := by rw [← xor_cancel a c, h, xor_cancel]
theorem xor_inj' {a b c : Nat} (h : c ^^^ a = c ^^^ b) : a = b := by rw [← xor_cancel' c a, h, xor_cancel']
theorem inv_inv (s : Nat) : inv32 (inv32 s) = s := xor_cancel _ _
theorem inv_lt {s : Nat} (h : s < 4294967296) : inv32 s < 4294967296 := Nat.xor_lt_two_pow (n := 32) h (by decide)

theorem shr1_lt {r : Nat} (h : r < 4294967296) : shr1 r < 4294967296 := by
  unfold shr1
  split
  · exact Nat.xor_lt_two_pow (n := 32) (by omega) (by decide)
  · omega
theorem shiftN_lt : ∀ (n : Nat) {r : Nat}, r < 4294967296 → shiftN n r < 4294967296
  | 0, _, h => h
  | n + 1, _, h => shiftN_lt n (shr1_lt h)
theorem shiftN_succ : ∀ (n r : Nat), shiftN (n + 1) r = shr1 (shiftN n r)
  | 0, _ => rfl
  | n + 1, r => by
    show shiftN (n + 1) (shr1 r) = shr1 (shiftN n (shr1 r))
    exact shiftN_succ n (shr1 r)
theorem shiftN_add (m n r : Nat) : shiftN (m + n) r = shiftN n (shiftN m r) := by
  induction m generalizing r with
  | zero => rw [Nat.zero_add]; rfl
  | succ m ih =>
    rw [Nat.succ_add]
    exact ih (shr1 r)
theorem byte_lt {c : Int} (h : c < 256) : c.toNat < 256 := by omega
theorem bstep_lt {r : Nat} {c : Int} (h : r < 4294967296) (hc : c < 256) : bstep r c < 4294967296 :=
  shiftN_lt 8 (Nat.xor_lt_two_pow (n := 32) h (by have := byte_lt hc; omega))
theorem reg_lt : ∀ {l : List Int} {r : Nat}, r < 4294967296 → (∀ c ∈ l, c < 256) → reg r l < 4294967296
  | [], _, h, _ => h
  | c :: l, r, h, hl => reg_lt (l := l) (bstep_lt h (hl c (by simp))) fun d hd => hl d (by simp [hd])
theorem moreOf_lt {l : List Int} {s : Nat} (h : s < 4294967296) (hl : ∀ c ∈ l, c < 256) : moreOf s l < 4294967296 := inv_lt (reg_lt (inv_lt h) hl)
theorem reg_append (r : Nat) (a b : List Int) : reg r (a ++ b) = reg (reg r a) b := List.foldl_append ..
theorem reg_snoc (r : Nat) (a : List Int) (c : Int) : reg r (a ++ [c]) = bstep (reg r a) c := by rw [reg_append]; rfl
/-- 1.3: going on with a sum. -/
theorem moreOf_append (s : Nat) (a b : List Int) : moreOf (moreOf s a) b = moreOf s (a ++ b) := by
  unfold moreOf
  rw [inv_inv, reg_append]
theorem moreOf_nil (s : Nat) : moreOf s [] = s := inv_inv s

/-! The shift is linear, and it is one to one. -/
theorem shr1_xor (a b : Nat) : shr1 (a ^^^ b) = shr1 a ^^^ shr1 b := by
  unfold shr1
  have ha : a % 2 = 0 ∨ a % 2 = 1 := by omega
  have hb : b % 2 = 0 ∨ b % 2 = 1 := by omega
  have hm : (a ^^^ b) % 2 = 1 ↔ ¬(a % 2 = 1 ↔ b % 2 = 1) := Nat.xor_mod_two_eq_one
  have hd : (a ^^^ b) / 2 = a / 2 ^^^ b / 2 := Nat.xor_div_two
  rcases ha with ha | ha <;> rcases hb with hb | hb <;> simp only [hm, hd, ha, hb] <;> simp
  · exact Nat.xor_assoc _ _ _
  · rw [Nat.xor_assoc, Nat.xor_comm (b / 2), Nat.xor_assoc]
  · rw [Nat.xor_assoc, xor_left_comm' 2197175160, Nat.xor_self, Nat.xor_zero]
theorem shiftN_xor : ∀ (n a b : Nat), shiftN n (a ^^^ b) = shiftN n a ^^^ shiftN n b
  | 0, _, _ => rfl
  | n + 1, a, b => by
    show shiftN n (shr1 (a ^^^ b)) = shiftN n (shr1 a) ^^^ shiftN n (shr1 b)
    rw [shr1_xor, shiftN_xor n]
theorem shiftN_even : ∀ (n q : Nat), shiftN n (2 ^ n * q) = q
  | 0, q => by simp [shiftN]
  | n + 1, q => by
    have e : shr1 (2 ^ (n + 1) * q) = 2 ^ n * q := by
      unfold shr1
      have : 2 ^ (n + 1) * q = 2 * (2 ^ n * q) := by rw [Nat.pow_succ]; simp [Nat.mul_assoc, Nat.mul_left_comm]
      rw [this, if_neg (by omega)]
      omega
    show shiftN n (shr1 _) = q
    rw [e, shiftN_even n]
theorem split_low (n r : Nat) : r = 2 ^ n * (r / 2 ^ n) ^^^ r % 2 ^ n := by
  have h : r % 2 ^ n < 2 ^ n := Nat.mod_lt _ (Nat.two_pow_pos n)
  apply Nat.eq_of_testBit_eq
  intro i
  rw [Nat.testBit_xor, Nat.testBit_mod_two_pow, Nat.testBit_two_pow_mul, Nat.testBit_div_two_pow]
  by_cases hi : i < n
  · have : ¬ n ≤ i := by omega
    simp [hi, this]
  · have : n ≤ i := by omega
    simp [hi, this]
/-- A shift by a table: the low bits' row, over the rest. -/
theorem shiftN_table (n r : Nat) : shiftN n r = r / 2 ^ n ^^^ shiftN n (r % 2 ^ n) := by
  have e := split_low n r
  calc shiftN n r = shiftN n (2 ^ n * (r / 2 ^ n) ^^^ r % 2 ^ n) := by rw [← e]
    _ = shiftN n (2 ^ n * (r / 2 ^ n)) ^^^ shiftN n (r % 2 ^ n) := shiftN_xor _ _ _
    _ = _ := by rw [shiftN_even]
theorem bstep_twice (r : Nat) (c : Int) : bstep r c = shiftN 4 (shiftN 4 (r ^^^ c.toNat)) := shiftN_add 4 4 _

theorem shr1_top {r : Nat} (h : r < 4294967296) : (shr1 r).testBit 31 = decide (r % 2 = 1) := by
  have hlow : (r / 2).testBit 31 = false := Nat.testBit_lt_two_pow (by omega)
  unfold shr1
  split
  · rename_i h1
    rw [Nat.testBit_xor, hlow, h1]
    decide
  · rename_i h1
    rw [hlow]
    simp [h1]
theorem shr1_inj {a b : Nat} (ha : a < 4294967296) (hb : b < 4294967296) (h : shr1 a = shr1 b) : a = b := by
  have t := shr1_top ha
  rw [h, shr1_top hb] at t
  have hp : a % 2 = 1 ↔ b % 2 = 1 := by
    constructor <;> intro hh <;> simpa [hh] using t
  unfold shr1 at h
  by_cases h1 : a % 2 = 1
  · rw [if_pos h1, if_pos (hp.1 h1)] at h
    have := xor_inj h
    have := hp.1 h1
    omega
  · rw [if_neg h1, if_neg (fun e => h1 (hp.2 e))] at h
    have : ¬ b % 2 = 1 := fun e => h1 (hp.2 e)
    omega
theorem shiftN_inj : ∀ (n : Nat) {a b : Nat}, a < 4294967296 → b < 4294967296 → shiftN n a = shiftN n b → a = b
  | 0, _, _, _, _, h => h
  | n + 1, _, _, ha, hb, h => shr1_inj ha hb (shiftN_inj n (shr1_lt ha) (shr1_lt hb) h)
theorem bstep_inj {a b : Nat} {c : Int} (ha : a < 4294967296) (hb : b < 4294967296) (hc : c < 256) (h : bstep a c = bstep b c) : a = b := by
  have hc' := byte_lt hc
  exact xor_inj (shiftN_inj 8 (Nat.xor_lt_two_pow (n := 32) ha (by omega)) (Nat.xor_lt_two_pow (n := 32) hb (by omega)) h)
theorem reg_inj : ∀ {l : List Int} {a b : Nat}, a < 4294967296 → b < 4294967296 → (∀ c ∈ l, c < 256) → reg a l = reg b l → a = b
  | [], _, _, _, _, _, h => h
  | c :: l, _, _, ha, hb, hl, h =>
    bstep_inj ha hb (hl c (by simp)) (reg_inj (l := l) (bstep_lt ha (hl c (by simp))) (bstep_lt hb (hl c (by simp))) (fun d hd => hl d (by simp [hd])) h)
theorem inv_inj {a b : Nat} (h : inv32 a = inv32 b) : a = b := xor_inj h
theorem moreOf_inj {l : List Int} {a b : Nat} (ha : a < 4294967296) (hb : b < 4294967296) (hl : ∀ c ∈ l, c < 256) (h : moreOf a l = moreOf b l) : a = b :=
  inv_inj (reg_inj (inv_lt ha) (inv_lt hb) hl (inv_inj h))

theorem foldl_snoc (f : Nat → Int → Nat) (h : Nat) (a : List Int) (c : Int) : (a ++ [c]).foldl f h = f (a.foldl f h) c := by rw [List.foldl_append, List.foldl_cons, List.foldl_nil]
theorem foldl_nil' (f : Nat → Int → Nat) (h : Nat) : ([] : List Int).foldl f h = h := rfl
theorem foldl_cons' (f : Nat → Int → Nat) (h : Nat) (c : Int) (l : List Int) : (c :: l).foldl f h = l.foldl f (f h c) := rfl

/-! The fingerprint. -/
def fstep (h : Nat) (c : Int) : Nat := (h ^^^ c.toNat) * 1099511628211 % 18446744073709551616
def fin (h : Nat) (l : List Int) : Nat := l.foldl fstep h
def fold32 (h : Nat) : Nat := h ^^^ h / 4294967296
def fingerOf (l : List Int) : Nat := fold32 (fin 14695981039346656037 l)
theorem fstep_lt (h : Nat) (c : Int) : fstep h c < 18446744073709551616 := Nat.mod_lt _ (by decide)
theorem fin_append (h : Nat) (a b : List Int) : fin h (a ++ b) = fin (fin h a) b := by unfold fin; exact List.foldl_append ..
theorem fin_snoc (h : Nat) (a : List Int) (c : Int) : fin h (a ++ [c]) = fstep (fin h a) c := by unfold fin; exact foldl_snoc _ _ _ _
theorem fin_nil (h : Nat) : fin h [] = h := by unfold fin; exact foldl_nil' _ _
theorem fin_cons (h : Nat) (c : Int) (l : List Int) : fin h (c :: l) = fin (fstep h c) l := by unfold fin; exact foldl_cons' _ _ _ _
theorem fin_lt : ∀ {l : List Int} {h : Nat}, h < 18446744073709551616 → fin h l < 18446744073709551616
  | [], _, h => by rw [fin_nil]; exact h
  | _ :: l, _, _ => by rw [fin_cons]; exact fin_lt (l := l) (fstep_lt _ _)
theorem fold32_lt {h : Nat} (hh : h < 18446744073709551616) : fold32 h < 18446744073709551616 := Nat.xor_lt_two_pow (n := 64) hh (by omega)
theorem fingerOf_lt (l : List Int) : fingerOf l < 18446744073709551616 := fold32_lt (fin_lt (by decide))
theorem fold32_inj {a b : Nat} (ha : a < 18446744073709551616) (hb : b < 18446744073709551616) (h : fold32 a = fold32 b) : a = b := by
  have hd : (a ^^^ a / 2 ^ 32) / 2 ^ 32 = (b ^^^ b / 2 ^ 32) / 2 ^ 32 := by
    unfold fold32 at h
    rw [show (2 : Nat) ^ 32 = 4294967296 by decide, h]
  rw [Nat.xor_div_two_pow, Nat.xor_div_two_pow, show (2 : Nat) ^ 32 = 4294967296 by decide, show a / 4294967296 / 4294967296 = 0 by omega, show b / 4294967296 / 4294967296 = 0 by omega, Nat.xor_zero, Nat.xor_zero] at hd
  unfold fold32 at h
  rw [hd] at h
  exact xor_inj h
theorem mul_inj {a b : Nat} (ha : a < 18446744073709551616) (hb : b < 18446744073709551616) (h : a * 1099511628211 % 18446744073709551616 = b * 1099511628211 % 18446744073709551616) : a = b := by
  have e : ∀ x : Nat, x < 18446744073709551616 → (x * 1099511628211 % 18446744073709551616) * 14886173955864302971 % 18446744073709551616 = x := fun x hx => by
    rw [Nat.mod_mul_mod, Nat.mul_assoc, Nat.mul_mod, show 1099511628211 * 14886173955864302971 % 18446744073709551616 = 1 by decide, Nat.mul_one, Nat.mod_mod, Nat.mod_eq_of_lt hx]
  rw [← e a ha, h, e b hb]
theorem fstep_inj {a b : Nat} {c d : Int} (ha : a < 18446744073709551616) (hb : b < 18446744073709551616) (hc : c < 256) (hd : d < 256) (h : fstep a c = fstep b d) : a ^^^ c.toNat = b ^^^ d.toNat :=
  mul_inj (Nat.xor_lt_two_pow (n := 64) ha (by have := byte_lt hc; omega)) (Nat.xor_lt_two_pow (n := 64) hb (by have := byte_lt hd; omega)) h
theorem fin_inj : ∀ {l : List Int} {a b : Nat}, a < 18446744073709551616 → b < 18446744073709551616 → (∀ c ∈ l, c < 256) → fin a l = fin b l → a = b
  | [], _, _, _, _, _, h => by rw [fin_nil, fin_nil] at h; exact h
  | c :: l, _, _, ha, hb, hl, h => by
    rw [fin_cons, fin_cons] at h
    exact xor_inj (fstep_inj ha hb (hl c (by simp)) (hl c (by simp)) (fin_inj (l := l) (fstep_lt _ _) (fstep_lt _ _) (fun d hd => hl d (by simp [hd])) h))

end Go.Proofs.YtlljcdmblmkblaaGreat
namespace Go.Proofs.YtlljcdmblmkblaaGreat
open Go.RowKit

theorem and_one (a : Nat) (h : a < 4294967296) : bits .and .u32 (a : Int) 1 = ((a % 2 : Nat) : Int) := by
  have := u32_and_nat a 1 h (by decide)
  rw [Nat.and_one_is_mod] at this
  exact this
theorem shr_odd (a : Nat) (h : a < 4294967296) (t : (bits BinOp.and IntKind.u32 (a : Int) 1 == 1) = true) : bits .xor .u32 ((a : Int) / 2) 2197175160 = ((shr1 a : Nat) : Int) := by
  rw [and_one a h] at t
  have t' : a % 2 = 1 := by have := of_decide_eq_true t; omega
  have := u32_xor_nat (a / 2) 2197175160 (by omega) (by decide)
  rw [shr1, if_pos t', ← this]
  rfl
theorem shr_even (a : Nat) (h : a < 4294967296) (t : (bits BinOp.and IntKind.u32 (a : Int) 1 == 1) = false) : (a : Int) / 2 = ((shr1 a : Nat) : Int) := by
  rw [and_one a h] at t
  have t' : ¬ a % 2 = 1 := by intro e; rw [e] at t; exact absurd t (by decide)
  rw [shr1, if_neg t']
  rfl

set_option maxHeartbeats 400000 in
theorem shifted_any (n r : Nat) (w : World) (hn : n ≤ 64) (hr : r < 4294967296) :
    Calls Tryz.prog 101 #[.int .u32 r, .int .i64 n] w fun e w' => e = .returned (.int .u32 (shiftN n r)) ∧ w = w' := by
  go_enter Tryz.func101, Tryz.ntmps101
  go_wp2
  go_loop [0, 5, 7] (fun x _ i => ∃ k : Nat, k ≤ n ∧ i = .int .i64 k ∧ x = .int .u32 (shiftN k r)) (fun _ _ i => n - (intOf i).toNat)
  case atStart => exact ⟨0, Nat.zero_le _, rfl, rfl⟩
  case round =>
    obtain ⟨k, hk, rfl, rfl⟩ := hrel
    have hs : shiftN k r < 4294967296 := shiftN_lt k hr
    have HS : Hid (shiftN (k + 1) r = shr1 (shiftN k r)) := Lib.hid (shiftN_succ k r)
    by_cases hlt : k < n
    · go_wp2
      all_goals
        go_round
        case rel => exact ⟨k + 1, by omega, by go_num, int_eq (by rw [HS.out]; first | exact shr_odd _ hs ‹_› | exact shr_even _ hs ‹_›)⟩
        case measure => simp [intOf]; omega
    · go_wp2
      go_ret
      exact ⟨ret_int (by rw [show k = n by omega]), rfl⟩

theorem xor_u32 (a b : Nat) (ha : a < 4294967296) (hb : b < 4294967296) : bits .xor .u32 (a : Int) (b : Int) = ((a ^^^ b : Nat) : Int) := u32_xor_nat a b ha hb
theorem step_table (r : Nat) (h : r < 4294967296) : bits .xor .u32 ((r : Int) / 16) ((shiftN 4 (r % 16) : Nat) : Int) = ((shiftN 4 r : Nat) : Int) := by
  rw [shiftN_table 4 r]
  exact u32_xor_nat (r / 16) _ (by omega) (shiftN_lt 4 (by omega))

set_option maxHeartbeats 400000 in
theorem next_any (b r : Nat) (w : World) (hr : r < 4294967296) (hc : ∀ i : Nat, i < 16 → w.cell? ⟨b, i, none⟩ = some (.int .u32 (shiftN 4 i : Nat))) :
    Calls Tryz.prog 82 #[.pointer (some ⟨b, 0, none⟩), .int .u32 r] w fun e w' => e = .returned (.int .u32 (shiftN 4 r : Nat)) ∧ w = w' := by
  have h0 := hc (r % 16) (by omega)
  have HS := Lib.hid (step_table r hr)
  clear hc
  go_enter Tryz.func82, Tryz.ntmps82
  go_wp2
  go_ret
  exact ⟨ret_int HS.out, rfl⟩
end Go.Proofs.YtlljcdmblmkblaaGreat
namespace Go.Proofs.YtlljcdmblmkblaaGreat
open Go.RowKit

theorem reg_take (r : Nat) (l : List Int) (k : Nat) (h : k < l.length) : reg r (l.take (k + 1)) = bstep (reg r (l.take k)) (l.getD k 0) := by
  rw [take_snoc l k h, reg_snoc]
theorem xor_byte (t : Nat) (c : Int) (ht : t < 4294967296) (h0 : 0 ≤ c) (h1 : c < 256) : bits .xor .u32 (t : Int) c = ((t ^^^ c.toNat : Nat) : Int) := by
  have := u32_xor_nat t c.toNat ht (by omega)
  rwa [Int.toNat_of_nonneg h0] at this
theorem not_u32 (s : Nat) (h : s < 4294967296) : bits .xor .u32 4294967295 (s : Int) = ((inv32 s : Nat) : Int) := by
  have := u32_xor_nat 4294967295 s (by decide) h
  rw [Nat.xor_comm] at this
  exact this

set_option maxHeartbeats 400000 in
theorem refMore_row (b off cap s : Nat) (l : List Int) (w : World) (hl : Small l) (hs : s < 4294967296) (hc : Lies w b off l) :
    Calls Tryz.prog 53 #[.int .u32 s, .slice (some ⟨b, off, none⟩) l.length cap] w fun e w' => e = .returned (.int .u32 (moreOf s l : Nat)) ∧ w = w' := by
  have hlen := hl.1
  have hs' := inv_lt hs
  have HN := Lib.hid (not_u32 s hs)
  have HC := Lib.hid hc
  have HL := Lib.hid hl
  clear hc hl
  obtain ⟨len, HLEN⟩ : ∃ len, Hid (l.length = len) := ⟨_, rfl⟩
  rw [HLEN.out] at hlen ⊢
  go_enter Tryz.func53, Tryz.ntmps53
  go_wp2
  go_loop [5, 6, 7] (fun x i _ => ∃ k t : Nat, k ≤ len ∧ t < 4294967296 ∧ Hid (t = reg (inv32 s) (l.take k)) ∧ i = .int .i64 k ∧ x = .int .u32 t) (fun _ i _ => len - (intOf i).toNat)
  case atStart => exact ⟨0, inv32 s, Nat.zero_le _, hs', rfl, rfl, int_eq HN.out⟩
  case round =>
    obtain ⟨k, t, hk, ht, HT, rfl, rfl⟩ := hrel
    by_cases hlt : k < len
    · obtain ⟨c, hcell, hc0, hc1, HR⟩ : ∃ c : Int, w.cell? ⟨b, off + k, none⟩ = some (.int .u8 c) ∧ 0 ≤ c ∧ c < 256 ∧ Hid (reg (inv32 s) (l.take (k + 1)) = bstep t c) := by
        have hk' : k < l.length := by rw [HLEN.out]; exact hlt
        exact ⟨l.getD k 0, HC.out k hk', (HL.out.at hk').1, (HL.out.at hk').2, by rw [HT.out]; exact reg_take _ _ _ hk'⟩
      have HX := Lib.hid (xor_byte t c ht hc0 hc1)
      have hx : t ^^^ c.toNat < 4294967296 := Nat.xor_lt_two_pow (n := 32) ht (by omega)
      clear ht
      go_wp2
      go_loop [5, 7] (fun x j => ∃ m : Nat, m ≤ 8 ∧ j = .int .i64 m ∧ x = .int .u32 (shiftN m (t ^^^ c.toNat))) (fun _ j => 8 - (intOf j).toNat)
      case atStart => exact ⟨0, Nat.zero_le _, rfl, int_eq HX.out⟩
      case round =>
        obtain ⟨m, hm, rfl, rfl⟩ := hrel
        have hs2 : shiftN m (t ^^^ c.toNat) < 4294967296 := shiftN_lt m hx
        have HS : Hid (shiftN (m + 1) (t ^^^ c.toNat) = shr1 (shiftN m (t ^^^ c.toNat))) := Lib.hid (shiftN_succ m _)
        by_cases hmt : m < 8
        · go_wp2
          all_goals
            go_round
            case rel => exact ⟨m + 1, by omega, by go_num, int_eq (by rw [HS.out]; first | exact shr_odd _ hs2 ‹_› | exact shr_even _ hs2 ‹_›)⟩
            case measure => simp [intOf]; omega
        · have hm8 : m = 8 := by omega
          subst hm8
          go_wp2
          go_round
          case rel => exact ⟨k + 1, bstep t c, by omega, hs2, HR.out.symm, by go_num, rfl⟩
          case measure => simp [intOf]; omega
    · have HK : Hid (moreOf s l = inv32 t) := by
        have : k = l.length := by rw [HLEN.out]; omega
        show inv32 _ = inv32 _
        rw [HT.out, this, List.take_length]
      have HN2 := Lib.hid (not_u32 t ht)
      go_wp2
      go_ret
      exact ⟨ret_int (by rw [HK.out]; exact HN2.out), rfl⟩

set_option maxHeartbeats 400000 in
theorem refMore_nil (a : Option Addr) (cap s : Nat) (w : World) (hs : s < 4294967296) :
    Calls Tryz.prog 53 #[.int .u32 s, .slice a 0 cap] w fun e w' => e = .returned (.int .u32 (moreOf s [] : Nat)) ∧ w = w' := by
  have hs' := inv_lt hs
  have HN := Lib.hid (not_u32 s hs)
  have HN2 := Lib.hid (not_u32 (inv32 s) hs')
  go_enter Tryz.func53, Tryz.ntmps53
  go_wp2
  go_loop [5, 6, 7] (fun x i _ => i = .int .i64 0 ∧ x = .int .u32 (inv32 s)) (fun _ _ _ => 0)
  case atStart => exact ⟨rfl, int_eq HN.out⟩
  case round =>
    obtain ⟨rfl, rfl⟩ := hrel
    go_wp2
    go_ret
    exact ⟨ret_int HN2.out, rfl⟩
end Go.Proofs.YtlljcdmblmkblaaGreat
namespace Go.Proofs.YtlljcdmblmkblaaGreat
open Go.RowKit

/-- The table's words up to place k; noughts behind. -/
def word (k i : Nat) : Value := .int .u32 ((if i < k then shiftN 4 i else 0 : Nat) : Int)
def tabTo (k : Nat) : Array Value := #[word k 0, word k 1, word k 2, word k 3, word k 4, word k 5, word k 6, word k 7, word k 8, word k 9, word k 10, word k 11, word k 12, word k 13, word k 14, word k 15]
theorem tabTo_size (k : Nat) : (tabTo k).size = 16 := rfl
theorem tabTo_at (k i : Nat) (h : i < 16) : (tabTo k)[i]? = some (word k i) := by
  rcases (by omega : i = 0 ∨ i = 1 ∨ i = 2 ∨ i = 3 ∨ i = 4 ∨ i = 5 ∨ i = 6 ∨ i = 7 ∨ i = 8 ∨ i = 9 ∨ i = 10 ∨ i = 11 ∨ i = 12 ∨ i = 13 ∨ i = 14 ∨ i = 15) with rfl | rfl | rfl | rfl | rfl | rfl | rfl | rfl | rfl | rfl | rfl | rfl | rfl | rfl | rfl | rfl <;> rfl
theorem tabTo_set (k : Nat) (h : k < 16) : (tabTo k).setIfInBounds k (.int .u32 (shiftN 4 k : Nat)) = tabTo (k + 1) := by
  apply Array.ext_getElem?
  intro i
  by_cases hi : i < 16
  · rw [tabTo_at _ _ hi, Array.getElem?_setIfInBounds, tabTo_at _ _ hi, tabTo_size]
    by_cases e : k = i
    · subst e
      simp [word, h]
    · have : (i < k + 1) ↔ (i < k) := by omega
      simp [word, e, this]
  · rw [Array.getElem?_eq_none (by rw [Array.size_setIfInBounds, tabTo_size]; omega), Array.getElem?_eq_none (by rw [tabTo_size]; omega)]
theorem tabTo_zero : tabTo 0 = #[.int .u32 0, .int .u32 0, .int .u32 0, .int .u32 0, .int .u32 0, .int .u32 0, .int .u32 0, .int .u32 0, .int .u32 0, .int .u32 0, .int .u32 0, .int .u32 0, .int .u32 0, .int .u32 0, .int .u32 0, .int .u32 0] := rfl

theorem tabTo_one : (tabTo 16).all (·.oneCell') = true := by simp [tabTo, word, Value.oneCell']
theorem setRow_alloc2 (w : World) (c c' : Array Value) (t : TypeId) (o : Obj) : ((w.alloc (.cells c t)).alloc o).setRow w.heap.size c' = (w.alloc (.cells c' t)).alloc o := by
  simp only [World.setRow, World.alloc]
  congr 1
  apply Array.ext_getElem?
  intro i
  rw [Array.getElem?_modify]
  by_cases h : w.heap.size = i
  · subst h
    simp [Array.getElem?_push]
  · have h' : ¬ i = w.heap.size := fun e => h e.symm
    simp [h, h', Array.getElem?_push]
theorem info49 : (Tryz.prog.info? 135).map (·.size) = some 16 := by kernel_rfl

set_option maxHeartbeats 400000 in
theorem makeSteps_any (w : World) :
    Calls Tryz.prog 80 #[] w fun e w' => e = .returned (.agg (tabTo 16)) ∧ w' = (w.alloc (.cells (tabTo 16) 135)).alloc (.cells (tabTo 16) 135) := by
  have HZ := Lib.hid tabTo_zero
  go_enter Tryz.func80, Tryz.ntmps80
  go_wp2
  go_loopw [2, 3] (fun _ i wr => ∃ k : Nat, k ≤ 16 ∧ i = .int .i64 k ∧ wr = (w.alloc (.cells (tabTo 0) 135)).alloc (.cells (tabTo k) 135)) (fun _ i _ => 16 - (intOf i).toNat)
  case atStart => exact ⟨0, Nat.zero_le _, rfl, by rw [HZ.out]⟩
  case round =>
    obtain ⟨k, hk, rfl, rfl⟩ := hrel
    by_cases hlt : k < 16
    · have hat := tabTo_at k k hlt
      have HS := Lib.hid (tabTo_set k hlt)
      go_wp2_with (go_at_call 101; refine (shifted_any 4 k _ (by omega) (by omega)).mono ?_; rintro e w' ⟨rfl, rfl⟩)
      go_roundw
      case rel => exact ⟨k + 1, by omega, by go_num, by rw [HS.out]⟩
      case measure => simp [intOf]; omega
    · have hk16 : k = 16 := by omega
      subst hk16
      go_wp2_with (first | (refine wpList_load_row rfl 135 (.tmp 1) rfl (w.heap.size + 1) rfl 135 (tabTo 16) (0, 0) _ (heap_alloc2_new _ _ _) Tryz.underlying135 rfl info49 ?_) | (refine wpList_store_row rfl 135 (.tmp 0) (.tmp 12) rfl w.heap.size (tabTo 16) rfl rfl 135 (tabTo 0) (heap_alloc2_old _ _ _) info49 rfl tabTo_one ?_))
      refine bodyPost_ret (v := .agg (tabTo 16)) (results_cell_row rfl _ _ w.heap.size 135 (tabTo 16) (0, 0) _ rfl ?_ Tryz.underlying135 rfl info49) rfl ⟨rfl, setRow_alloc2 _ _ _ _ _⟩
      rw [setRow_alloc2]
      exact heap_alloc2_old _ _ _
end Go.Proofs.YtlljcdmblmkblaaGreat
namespace Go.Proofs.YtlljcdmblmkblaaGreat
open Go.RowKit

theorem disable (w : World) : (callFunc 132 #[]).run Tryz.prog w = .ok (.value (.tuple #[])) w := run_call_mark0 Tryz.func132 (by kernel_rfl) (by kernel_rfl) (by kernel_rfl) .disable (by kernel_rfl) w
theorem enable (w : World) : (callFunc 134 #[]).run Tryz.prog w = .ok (.value (.tuple #[])) w := run_call_mark0 Tryz.func134 (by kernel_rfl) (by kernel_rfl) (by kernel_rfl) .enable (by kernel_rfl) w
theorem acquire (a : Addr) (w : World) : (callFunc 135 #[.pointer (some a)]).run Tryz.prog w = .ok (.value (.tuple #[])) w := run_call_marked Tryz.func135 (by kernel_rfl) (by kernel_rfl) (by kernel_rfl) .acquire (by kernel_rfl) a w
theorem releaseMerge (a : Addr) (w : World) : (callFunc 137 #[.pointer (some a)]).run Tryz.prog w = .ok (.value (.tuple #[])) w := run_call_marked Tryz.func137 (by kernel_rfl) (by kernel_rfl) (by kernel_rfl) .releaseMerge (by kernel_rfl) a w

/-- '(*sync/atomic.Bool).Store(true)', entered as a deferred call: the cell holds 1. -/
theorem store_deferred (a : Addr) (x : Value) (u : FrameMode) (w : World) (hc : w.cell? a = some x) (hz : w.frozen? a = false) :
    CallsD Tryz.prog 124 #[.pointer (some a), .bool true] u w fun e u' w' => u' = u ∧ (e = .returned (.tuple #[]) ∧ w' = w.drew.setCell a (.int .u32 1)) := by
  have hc' : w.drew.cell? a = some x := by go_simp
  have hz' : w.drew.frozen? a = false := by go_simp
  have hst := run_call_store (P := Tryz.prog) Tryz.func130 (by kernel_rfl) (by kernel_rfl) (by kernel_rfl) (by kernel_rfl) (k := .u32) (y := 1) hc' hz'
  go_enter_d Tryz.func124, Tryz.ntmps124
  go_wp2
  go_region_calls
  all_goals (go_end0; exact ⟨rfl, rfl⟩)

set_option maxRecDepth 100000 in
/-- '(*sync.Mutex).Unlock', entered as a deferred call, the lock held and nobody waiting (state 1): state 0. -/
theorem unlock_deferred (a : Addr) (u : FrameMode) (w : World) (hc : w.cell? a = some (.int .i32 1)) (hz : w.frozen? a = false) :
    CallsD Tryz.prog 123 #[.pointer (some a)] u w fun e u' w' => u' = u ∧ (e = .returned (.tuple #[]) ∧ w' = w.setCell a (.int .i32 0)) := by
  have hd := disable
  have he := enable
  have hr := releaseMerge
  have hadd := run_call_add (P := Tryz.prog) Tryz.func138 (by kernel_rfl) (by kernel_rfl) (by kernel_rfl) .i32 (by kernel_rfl) (y := -1) (s := 0) hc hz (by simp [go_sem]; rfl)
  have hcv := run_convert_to_unsafe (P := Tryz.prog) (src := 180) (dst := 184) Tryz.underlying180 Tryz.underlying184 (by kernel_rfl) hc
  go_enter_d Tryz.func123, Tryz.ntmps123
  go_wp2
  go_end0
  go_wp2
  go_end0
  exact ⟨rfl, rfl⟩

set_option maxRecDepth 100000 in
/-- '(*sync.Mutex).Lock', the lock free (state 0): state 1. -/
theorem lock_free (a : Addr) (w : World) (hc : w.cell? a = some (.int .i32 0)) (hz : w.frozen? a = false) :
    Calls Tryz.prog 122 #[.pointer (some a)] w fun e w' => e = .returned (.tuple #[]) ∧ w' = w.setCell a (.int .i32 1) := by
  have hd := disable
  have he := enable
  have ha := acquire
  have hcas := run_call_cas_hit (P := Tryz.prog) Tryz.func133 (by kernel_rfl) (by kernel_rfl) (by kernel_rfl) .i32 (by kernel_rfl) (y := 1) hc hz
  have hc' : (w.setCell a (.int .i32 1)).cell? a = some (.int .i32 1) := World.cell?_setCell_same w a _ hc
  have hcv := run_convert_to_unsafe (P := Tryz.prog) (src := 180) (dst := 184) Tryz.underlying180 Tryz.underlying184 (by kernel_rfl) hc'
  go_enter Tryz.func122, Tryz.ntmps122
  go_wp2
  first | go_end0 | (simp only [Exit.inBlock, Exit.then]; refine bodyPost_ret (results_none rfl _ _ _) rfl ?_) | refine bodyPost_ret (results_none rfl _ _ _) rfl ?_
  go_wp2
  go_end0
  exact ⟨rfl, rfl⟩

/-- The world behind the closure that builds the table into block T. -/
def built (w : World) (T : Nat) : World := ((w.alloc (.cells (tabTo 16) 135)).alloc (.cells (tabTo 16) 135)).setRow T (tabTo 16)

theorem build_any (T : Nat) (w : World) (hT : w.heap[T]? = some (.cells (tabTo 0) 135)) :
    Calls Tryz.prog 79 #[.pointer (some ⟨T, 0, none⟩)] w fun e w' => e = .returned (.tuple #[]) ∧ w' = built w T := by
  have hlt := lt_of_block hT
  have HT : Hid (((w.alloc (.cells (tabTo 16) 135)).alloc (.cells (tabTo 16) 135)).heap[T]? = some (.cells (tabTo 0) 135)) := by
    show _ = _
    rw [Below.heap_alloc _ _ _ (by simp; omega), Below.heap_alloc _ _ _ hlt]
    exact hT
  clear hT
  go_enter Tryz.func79, Tryz.ntmps79
  go_wp2_with (first | (go_at_call 80; refine (makeSteps_any _).mono ?_; rintro e w' ⟨rfl, rfl⟩) | (refine wpList_store_row rfl 135 (.tmp 0) (.tmp 1) rfl T (tabTo 16) rfl rfl 135 (tabTo 0) HT.out info49 rfl tabTo_one ?_))
  go_end0
  exact ⟨rfl, rfl⟩
end Go.Proofs.YtlljcdmblmkblaaGreat
namespace Go.Proofs.YtlljcdmblmkblaaGreat
open Go.RowKit

theorem setRow_size (w : World) (g : Nat) (c : Array Value) : (w.setRow g c).heap.size = w.heap.size := by simp [World.setRow]
theorem setRow_same (w : World) (g : Nat) (c old : Array Value) (t : TypeId) (fr : Nat × Nat) (h : w.heap[g]? = some (.cells old t fr)) : (w.setRow g c).heap[g]? = some (.cells c t fr) := setRow_heap w g old c t fr h
theorem setRow_off (w : World) (g k : Nat) (c : Array Value) (h : k ≠ g) : (w.setRow g c).heap[k]? = w.heap[k]? := by
  simp only [World.setRow, Array.getElem?_modify]
  rw [if_neg (fun e => h e.symm)]
theorem Below.setRow {B : Nat} {a w : World} (h : Below B a w) {g : Nat} (hp : B ≤ g) (c : Array Value) : Below B a (w.setRow g c) :=
  h.trans ⟨rfl, rfl, rfl, by rw [setRow_size]; exact Nat.le_refl _, fun k hk => setRow_off _ _ _ _ (by omega)⟩
theorem built_size (w : World) (T : Nat) : (built w T).heap.size = w.heap.size + 2 := by unfold built; rw [setRow_size]; simp
theorem built_off (w : World) (T k : Nat) (h : k ≠ T) (hk : k < w.heap.size) : (built w T).heap[k]? = w.heap[k]? := by
  unfold built
  rw [setRow_off _ _ _ _ h, Below.heap_alloc _ _ _ (by simp; omega), Below.heap_alloc _ _ _ hk]
theorem built_below {B : Nat} {a w : World} {T : Nat} (h : Below B a w) (hB : B ≤ w.heap.size) (hT : B ≤ T) : Below B a (built w T) :=
  Below.setRow ((h.alloc hB _).alloc (by simp; omega) _) hT _
theorem built_same (w : World) (T : Nat) (hT : w.heap[T]? = some (.cells (tabTo 0) 135)) : (built w T).heap[T]? = some (.cells (tabTo 16) 135) := by
  have hlt := lt_of_block hT
  unfold built
  refine setRow_same _ _ _ (tabTo 0) 135 (0, 0) ?_
  rw [Below.heap_alloc _ _ _ (by simp; omega), Below.heap_alloc _ _ _ hlt]
  exact hT
/-- A sync.Once in a block of its own. -/
def onceRow (done state : Int) : Array Value := #[.int .u32 done, .int .i32 state, .int .u32 0]
theorem set_once1 {w : World} {B : Nat} {d s v : Int} (h : w.heap[B]? = some (.cells (onceRow d s) 133)) : (w.setCell ⟨B, 1, none⟩ (.int .i32 v)).heap[B]? = some (.cells (onceRow d v) 133) := by
  rw [heap_setCell_same w B 1 _ 133 _ h]
  rfl
theorem set_once0 {w : World} {B : Nat} {d s v : Int} (h : w.heap[B]? = some (.cells (onceRow d s) 133)) : (w.setCell ⟨B, 0, none⟩ (.int .u32 v)).heap[B]? = some (.cells (onceRow v s) 133) := by
  rw [heap_setCell_same w B 0 _ 133 _ h]
  rfl
theorem once0 {w : World} {B : Nat} {d s : Int} (h : w.heap[B]? = some (.cells (onceRow d s) 133)) : w.cell? ⟨B, 0, none⟩ = some (.int .u32 d) := by rw [cell_of_row w B 0 _ 133 _ h]; rfl
theorem once1 {w : World} {B : Nat} {d s : Int} (h : w.heap[B]? = some (.cells (onceRow d s) 133)) : w.cell? ⟨B, 1, none⟩ = some (.int .i32 s) := by rw [cell_of_row w B 1 _ 133 _ h]; rfl
theorem onceF {w : World} {B : Nat} {d s : Int} (i : Nat) (h : w.heap[B]? = some (.cells (onceRow d s) 133)) : w.frozen? ⟨B, i, none⟩ = false := frozen_of_row w B i _ 133 h

/-- The world behind the first Do. -/
def first (w : World) (B T : Nat) : World := (((built (w.setCell ⟨B, 1, none⟩ (.int .i32 1)) T).drew).setCell ⟨B, 0, none⟩ (.int .u32 1)).setCell ⟨B, 1, none⟩ (.int .i32 0)

set_option maxRecDepth 100000 in
set_option maxHeartbeats 1600000 in
theorem slow_any (B T : Nat) (hBT : B ≠ T) (w : World) (hB : w.heap[B]? = some (.cells (onceRow 0 0) 133)) (hT : w.heap[T]? = some (.cells (tabTo 0) 135)) :
    Calls Tryz.prog 103 #[.pointer (some ⟨B, 0, none⟩), .func (.func 79) #[] #[.pointer (some ⟨T, 0, none⟩)]] w fun e w' => e = .returned (.tuple #[]) ∧ w' = first w B T := by
  have hB1 := set_once1 (v := 1) hB
  have hBs := lt_of_block hB
  have hT1 : (w.setCell ⟨B, 1, none⟩ (.int .i32 1)).heap[T]? = some (.cells (tabTo 0) 135) := (Below.heap_setCell _ _ _ _ (Ne.symm hBT)).trans hT
  have hB2 : (built (w.setCell ⟨B, 1, none⟩ (.int .i32 1)) T).heap[B]? = some (.cells (onceRow 0 1) 133) := (built_off _ _ _ hBT (by simpa using hBs)).trans hB1
  have hB3 := set_once0 (v := 1) (w := (built (w.setCell ⟨B, 1, none⟩ (.int .i32 1)) T).drew) hB2
  have hl := run_call_load (P := Tryz.prog) Tryz.func121 (by kernel_rfl) (by kernel_rfl) (by kernel_rfl) .u32 (by kernel_rfl) (once0 hB1)
  have c1 := once1 hB
  have f1 := onceF 1 hB
  have c0' := once0 hB2
  have f0' := onceF 0 hB2
  have c1' := once1 hB3
  have f1' := onceF 1 hB3
  have HT1 := Lib.hid hT1
  have C0 := Lib.hid c0'
  have F0 := Lib.hid f0'
  have C1 := Lib.hid c1'
  have F1 := Lib.hid f1'
  clear hB hT hB1 hT1 hB2 hB3 c0' f0' c1' f1'
  have hnot : ∀ (x : Bool) (w : World), (Op.unary .not (.bool x)).run Tryz.prog w = .ok (.bool (!x)) w := fun _ _ => rfl
  go_enter_defers Tryz.func103, Tryz.ntmps103
  go_wp2_with (first | (go_at_call 122; refine (lock_free ⟨B, 1, none⟩ _ c1 f1).mono ?_; rintro e w' ⟨rfl, rfl⟩) | (go_at_call 79; refine (build_any T _ HT1.out).mono ?_; rintro e w' ⟨rfl, rfl⟩) | (go_at_call 102; go_in))
  -- the door: two deferred calls, the last laid first
  refine leaves_cons (f := 124) (args := #[.pointer (some ⟨B, 0, none⟩), .bool true]) (by simp) (by simp [go_sem]) ?_
  refine (store_deferred ⟨B, 0, none⟩ (.int .u32 0) .returning _ C0.out F0.out).mono ?_
  rintro e u' w'' ⟨rfl, rfl, rfl⟩
  refine leaves_cons (f := 123) (args := #[.pointer (some ⟨B, 1, none⟩)]) (by simp [settle]) (by simp [go_sem]) ?_
  refine (unlock_deferred ⟨B, 1, none⟩ _ _ C1.out F1.out).mono ?_
  rintro e u' w'' ⟨rfl, rfl, rfl⟩
  simp [Leaves, settle, results, Tryz.results103, first]

set_option maxRecDepth 100000 in
set_option maxHeartbeats 1600000 in
/-- '(*sync.Once).Do', not yet done, the lock free. -/
theorem do_first (B T : Nat) (hBT : B ≠ T) (w : World) (hB : w.heap[B]? = some (.cells (onceRow 0 0) 133)) (hT : w.heap[T]? = some (.cells (tabTo 0) 135)) :
    Calls Tryz.prog 81 #[.pointer (some ⟨B, 0, none⟩), .func (.func 79) #[] #[.pointer (some ⟨T, 0, none⟩)]] w fun e w' => e = .returned (.tuple #[]) ∧ w' = first w B T := by
  have hl := run_call_load (P := Tryz.prog) Tryz.func121 (by kernel_rfl) (by kernel_rfl) (by kernel_rfl) .u32 (by kernel_rfl) (once0 hB)
  have HB := Lib.hid hB
  have HT := Lib.hid hT
  clear hB hT
  have hnot : ∀ (x : Bool) (w : World), (Op.unary .not (.bool x)).run Tryz.prog w = .ok (.bool (!x)) w := fun _ _ => rfl
  go_enter Tryz.func81, Tryz.ntmps81
  go_wp2_with (first | (go_at_call 103; refine (slow_any B T hBT _ HB.out HT.out).mono ?_; rintro e w' ⟨rfl, rfl⟩) | (go_at_call 102; go_in))
  go_end0
  exact ⟨rfl, rfl⟩

/-- '(*sync.Once).Do', done already: the function is not called. -/
theorem do_done (B : Nat) (fv : Value) (w : World) (hB : w.heap[B]? = some (.cells (onceRow 1 0) 133)) :
    Calls Tryz.prog 81 #[.pointer (some ⟨B, 0, none⟩), fv] w fun e w' => e = .returned (.tuple #[]) ∧ w = w' := by
  have hl := run_call_load (P := Tryz.prog) Tryz.func121 (by kernel_rfl) (by kernel_rfl) (by kernel_rfl) .u32 (by kernel_rfl) (once0 hB)
  clear hB
  have hnot : ∀ (x : Bool) (w : World), (Op.unary .not (.bool x)).run Tryz.prog w = .ok (.bool (!x)) w := fun _ _ => rfl
  go_enter Tryz.func81, Tryz.ntmps81
  go_wp2
  go_end0
  exact ⟨rfl, rfl⟩

/-! What the world holds behind the first Do. -/
theorem first_once {w : World} {B T : Nat} (hBT : B ≠ T) (hB : w.heap[B]? = some (.cells (onceRow 0 0) 133)) : (first w B T).heap[B]? = some (.cells (onceRow 1 0) 133) := by
  have hBs := lt_of_block hB
  have h2 : (built (w.setCell ⟨B, 1, none⟩ (.int .i32 1)) T).heap[B]? = some (.cells (onceRow 0 1) 133) := (built_off _ _ _ hBT (by simpa using hBs)).trans (set_once1 hB)
  exact set_once1 (set_once0 (w := (built (w.setCell ⟨B, 1, none⟩ (.int .i32 1)) T).drew) h2)
theorem first_table {w : World} {B T : Nat} (hBT : B ≠ T) (hT : w.heap[T]? = some (.cells (tabTo 0) 135)) : (first w B T).heap[T]? = some (.cells (tabTo 16) 135) := by
  have hT1 : (w.setCell ⟨B, 1, none⟩ (.int .i32 1)).heap[T]? = some (.cells (tabTo 0) 135) := (Below.heap_setCell _ _ _ _ (Ne.symm hBT)).trans hT
  unfold first
  rw [Below.heap_setCell _ _ _ _ (Ne.symm hBT), Below.heap_setCell _ _ _ _ (Ne.symm hBT)]
  exact built_same _ _ hT1
theorem first_size (w : World) (B T : Nat) : (first w B T).heap.size = w.heap.size + 2 := by
  unfold first
  rw [World.size_setCell, World.size_setCell, World.size_drew, built_size, World.size_setCell]
theorem first_below {N : Nat} {a w : World} {B T : Nat} (h : Below N a w) (hN : N ≤ w.heap.size) (hB : N ≤ B) (hT : N ≤ T) : Below N a (first w B T) :=
  Below.setCell (Below.setCell (Below.drew (built_below (Below.setCell h hB _) (by simpa using hN) hT)) hB _) hB _
end Go.Proofs.YtlljcdmblmkblaaGreat
namespace Go.Proofs.YtlljcdmblmkblaaGreat
open Go.RowKit

/-- The Once is done, its table stands. -/
def Done (N : Nat) (w wr : World) : Prop := Below N w wr ∧ wr.heap[N]? = some (.cells (onceRow 1 0) 133) ∧ wr.heap[N + 1]? = some (.cells (tabTo 16) 135)
/-- The Once is done, or not yet. -/
def St (N : Nat) (w wr : World) : Prop := (Below N w wr ∧ wr.heap[N]? = some (.cells (onceRow 0 0) 133) ∧ wr.heap[N + 1]? = some (.cells (tabTo 0) 135)) ∨ Done N w wr
theorem do_any (N : Nat) (w wr : World) (h : St N w wr) :
    Calls Tryz.prog 81 #[.pointer (some ⟨N, 0, none⟩), .func (.func 79) #[] #[.pointer (some ⟨N + 1, 0, none⟩)]] wr fun e w' => e = .returned (.tuple #[]) ∧ Done N w w' := by
  rcases h with ⟨hb, h1, h2⟩ | ⟨hb, h1, h2⟩
  · refine (do_first N (N + 1) (by omega) wr h1 h2).mono ?_
    rintro e w' ⟨rfl, rfl⟩
    have := lt_of_block h1
    exact ⟨rfl, first_below hb (by omega) (Nat.le_refl _) (by omega), first_once (by omega) h1, first_table (by omega) h2⟩
  · refine (do_done N _ wr h1).mono ?_
    rintro e w' ⟨rfl, rfl⟩
    exact ⟨rfl, hb, h1, h2⟩
theorem table_cells {N : Nat} {w wr : World} (h : Done N w wr) : ∀ i : Nat, i < 16 → wr.cell? ⟨N + 1, i, none⟩ = some (.int .u32 (shiftN 4 i : Nat)) := by
  intro i hi
  rw [cell_of_row wr (N + 1) i _ 135 _ h.2.2, tabTo_at _ _ hi]
  simp [word, hi]

theorem next_at (N r : Nat) (x : Int) (w0 w : World) (hx : x = ((r : Nat) : Int)) (hr : r < 4294967296) (hd : Done N w0 w) :
    Calls Tryz.prog 82 #[.pointer (some ⟨N + 1, 0, none⟩), .int .u32 x] w fun e w' => e = .returned (.int .u32 (shiftN 4 r : Nat)) ∧ w = w' := by
  rw [hx]
  exact next_any (N + 1) r w hr (table_cells hd)

set_option maxHeartbeats 800000 in
theorem more_row (b off cap s : Nat) (l : List Int) (w : World) (hl : Small l) (hs : s < 4294967296) (hb : b < w.heap.size) (hc : Lies w b off l) :
    Calls Tryz.prog 60 #[.int .u32 s, .slice (some ⟨b, off, none⟩) l.length cap] w fun e w' => e = .returned (.int .u32 (moreOf s l : Nat)) ∧ Below w.heap.size w w' := by
  have hlen := hl.1
  have hs' := inv_lt hs
  have HN := Lib.hid (not_u32 s hs)
  have HC := Lib.hid hc
  have HL := Lib.hid hl
  have HB := Lib.hid hb
  clear hc hl hb
  have hmf : ∀ (fn : Fn) (first cap : Array Value) (w : World), (Instr.makeFunc fn first cap).run Tryz.prog w = .ok (.func fn first cap) w := fun _ _ _ _ => rfl
  obtain ⟨len, HLEN⟩ : ∃ len, Hid (l.length = len) := ⟨_, rfl⟩
  rw [HLEN.out] at hlen ⊢
  go_enter Tryz.func60, Tryz.ntmps60
  go_wp2
  go_loopw [8, 10, 16] (fun x _ i wr => ∃ k t : Nat, k ≤ len ∧ t < 4294967296 ∧ Hid (t = reg (inv32 s) (l.take k)) ∧ i = .int .i64 k ∧ x = .int .u32 t ∧ Hid (St w.heap.size w wr)) (fun _ _ i _ => len - (intOf i).toNat)
  case atStart =>
    refine ⟨0, inv32 s, Nat.zero_le _, hs', rfl, rfl, int_eq HN.out, Or.inl ⟨((Below.refl _ _).alloc (Nat.le_refl _) _).alloc (by simp) _, heap_alloc2_old _ _ _, heap_alloc2_new _ _ _⟩⟩
  case round =>
    obtain ⟨k, t, hk, ht, HT, rfl, rfl, HST⟩ := hrel
    by_cases hlt : k < len
    · obtain ⟨c, hcell, hc0, hc1, HR⟩ : ∃ c : Int, wr.cell? ⟨b, off + k, none⟩ = some (.int .u8 c) ∧ 0 ≤ c ∧ c < 256 ∧ Hid (reg (inv32 s) (l.take (k + 1)) = bstep t c) := by
        have hk' : k < l.length := by rw [HLEN.out]; exact hlt
        have hbel : Below w.heap.size w wr := by rcases HST.out with h | h <;> exact h.1
        exact ⟨l.getD k 0, (hbel.cell (p := ⟨b, off + k, none⟩) HB.out).trans (HC.out k hk'), (HL.out.at hk').1, (HL.out.at hk').2, by rw [HT.out]; exact reg_take _ _ _ hk'⟩
      have HX := Lib.hid (xor_byte t c ht hc0 hc1)
      have hx : t ^^^ c.toNat < 4294967296 := Nat.xor_lt_two_pow (n := 32) ht (by omega)
      have hx4 := shiftN_lt 4 hx
      have hx8 := shiftN_lt 4 hx4
      have HB2 := Lib.hid (bstep_twice t c)
      clear ht
      go_wp2_with (first | (go_at_call 81; refine (do_any w.heap.size w _ HST.out).mono ?_; rintro e w1 ⟨rfl, hdone⟩; have HD := Lib.hid hdone; clear hdone) | (go_at_call 82; ((with_reducible refine (next_at w.heap.size (t ^^^ c.toNat) _ w _ HX.out hx HD.out).mono ?_); rintro e w' ⟨rfl, rfl⟩)) | (go_at_call 82; ((with_reducible refine (next_at w.heap.size (shiftN 4 (t ^^^ c.toNat)) _ w _ rfl hx4 HD.out).mono ?_); rintro e w' ⟨rfl, rfl⟩)))
      go_roundw
      case rel => exact ⟨k + 1, shiftN 4 (shiftN 4 (t ^^^ c.toNat)), by omega, hx8, by rw [HR.out, HB2.out]; rfl, by go_num, rfl, Or.inr HD.out⟩
      case measure => simp [intOf]; omega
    · have HK : Hid (moreOf s l = inv32 t) := by
        have : k = l.length := by rw [HLEN.out]; omega
        show inv32 _ = inv32 _
        rw [HT.out, this, List.take_length]
      have HN2 := Lib.hid (not_u32 t ht)
      have HBE : Hid (Below w.heap.size w wr) := by rcases HST.out with h | h <;> exact h.1
      go_wp2
      go_ret
      exact ⟨ret_int (by rw [HK.out]; exact HN2.out), HBE.out⟩

set_option maxHeartbeats 800000 in
theorem more_nil (a : Option Addr) (cap s : Nat) (w : World) (hs : s < 4294967296) :
    Calls Tryz.prog 60 #[.int .u32 s, .slice a 0 cap] w fun e w' => e = .returned (.int .u32 (moreOf s [] : Nat)) ∧ Below w.heap.size w w' := by
  have HN := Lib.hid (not_u32 s hs)
  have HN2 := Lib.hid (not_u32 (inv32 s) (inv_lt hs))
  have hmf : ∀ (fn : Fn) (first cap : Array Value) (w : World), (Instr.makeFunc fn first cap).run Tryz.prog w = .ok (.func fn first cap) w := fun _ _ _ _ => rfl
  go_enter Tryz.func60, Tryz.ntmps60
  go_wp2
  go_loopw [8, 10, 16] (fun x _ i wr => i = .int .i64 0 ∧ x = .int .u32 (inv32 s) ∧ Hid (Below w.heap.size w wr)) (fun _ _ _ _ => 0)
  case atStart => exact ⟨rfl, int_eq HN.out, ((Below.refl _ _).alloc (Nat.le_refl _) _).alloc (by simp) _⟩
  case round =>
    obtain ⟨rfl, rfl, HBE⟩ := hrel
    go_wp2
    go_ret
    exact ⟨ret_int HN2.out, HBE.out⟩
end Go.Proofs.YtlljcdmblmkblaaGreat
namespace Go.Proofs.YtlljcdmblmkblaaGreat
open Go.RowKit

theorem more_any (a : Option Addr) (len cap s : Nat) (l : List Int) (w : World) (h : Bytes w a len l) (hs : s < 4294967296) :
    Calls Tryz.prog 60 #[.int .u32 s, .slice a len cap] w fun e w' => e = .returned (.int .u32 (moreOf s l : Nat)) ∧ Below w.heap.size w w' := by
  obtain ⟨rfl, h2, h3⟩ := h
  rcases h3 with h3 | ⟨b, off, rfl, hlt, hc⟩
  · obtain rfl : l = [] := List.eq_nil_of_length_eq_zero h3
    exact more_nil a cap s w hs
  · exact more_row b off cap s l w h2 hs hlt hc
theorem refMore_any (a : Option Addr) (len cap s : Nat) (l : List Int) (w : World) (h : Bytes w a len l) (hs : s < 4294967296) :
    Calls Tryz.prog 53 #[.int .u32 s, .slice a len cap] w fun e w' => e = .returned (.int .u32 (moreOf s l : Nat)) ∧ w = w' := by
  obtain ⟨rfl, h2, h3⟩ := h
  rcases h3 with h3 | ⟨b, off, rfl, hlt, hc⟩
  · obtain rfl : l = [] := List.eq_nil_of_length_eq_zero h3
    exact refMore_nil a cap s w hs
  · exact refMore_row b off cap s l w h2 hs hc
theorem sum_any (a : Option Addr) (len cap : Nat) (l : List Int) (w : World) (h : Bytes w a len l) :
    Calls Tryz.prog 31 #[.slice a len cap] w fun e w' => e = .returned (.int .u32 (moreOf 0 l : Nat)) ∧ Below w.heap.size w w' := by
  have H := Lib.hid (more_any a len cap 0 l w h (by omega))
  clear h
  go_enter Tryz.func31, Tryz.ntmps31
  go_wp2_with (go_at_call 60; refine H.out.mono ?_; rintro e w' ⟨rfl, hb⟩; have HB := Lib.hid hb; clear hb)
  go_ret
  exact ⟨rfl, HB.out⟩
theorem refSum_any (a : Option Addr) (len cap : Nat) (l : List Int) (w : World) (h : Bytes w a len l) :
    Calls Tryz.prog 23 #[.slice a len cap] w fun e w' => e = .returned (.int .u32 (moreOf 0 l : Nat)) ∧ w = w' := by
  have H := Lib.hid (refMore_any a len cap 0 l w h (by omega))
  clear h
  go_enter Tryz.func23, Tryz.ntmps23
  go_wp2_with (go_at_call 53; refine H.out.mono ?_; rintro e w' ⟨rfl, rfl⟩)
  go_ret
  exact ⟨rfl, rfl⟩

/-! The document's examples. -/
def digits : List Int := [49, 50, 51, 52, 53, 54, 55, 56, 57]
theorem sum_digits : moreOf 0 digits = 3808858755 := by kernel_rfl
theorem sum_none : moreOf 0 [] = 0 := by kernel_rfl
theorem finger_none : fingerOf [] = 14695981038468906945 := by unfold fingerOf; rw [fin_nil]; kernel_rfl
def digitRow : Array Value := #[.int .u8 49, .int .u8 50, .int .u8 51, .int .u8 52, .int .u8 53, .int .u8 54, .int .u8 55, .int .u8 56, .int .u8 57]
theorem digits_bytes (w : World) : Bytes (w.alloc (.cells digitRow 5 (9, 10))) (some ⟨w.heap.size, 0, none⟩) 9 digits := by
  refine ⟨rfl, ⟨by decide, by decide⟩, Or.inr ⟨w.heap.size, 0, rfl, by simp, fun i hi => ?_⟩⟩
  rw [cell_of_row _ w.heap.size (0 + i) digitRow 5 (9, 10) (heap_alloc_new w _)]
  have h : i < 9 := hi
  rcases (by omega : i = 0 ∨ i = 1 ∨ i = 2 ∨ i = 3 ∨ i = 4 ∨ i = 5 ∨ i = 6 ∨ i = 7 ∨ i = 8) with rfl | rfl | rfl | rfl | rfl | rfl | rfl | rfl | rfl <;> rfl
theorem sum_digits_any (w : World) : Calls Tryz.prog 31 #[.slice (some ⟨w.heap.size, 0, none⟩) 9 9] (w.alloc (.cells digitRow 5 (9, 10))) fun e w' => e = .returned (.int .u32 3808858755) ∧ Below w.heap.size w w' := by
  refine (sum_any _ 9 9 digits _ (digits_bytes w)).mono ?_
  rintro e w' ⟨rfl, hb⟩
  exact ⟨by rw [sum_digits]; rfl, ((Below.refl _ _).alloc (Nat.le_refl _) _).trans (hb.mono (by simp))⟩
theorem sum_none_any (w : World) : Calls Tryz.prog 31 #[.slice none 0 0] w fun e w' => e = .returned (.int .u32 0) ∧ Below w.heap.size w w' := by
  refine (sum_any _ 0 0 [] _ (none_bytes w)).mono ?_
  rintro e w' ⟨rfl, hb⟩
  exact ⟨by rw [sum_none]; rfl, hb⟩
end Go.Proofs.YtlljcdmblmkblaaGreat
namespace Go.Proofs.YtlljcdmblmkblaaGreat
open Go.RowKit

/-- What is added to a half: the number, the place behind, whether the bytes were all there. -/
def addTo (b : List Int) : Nat → Nat → Nat → Nat × Nat × Bool
  | 0, _, _ => (0, 0, false)
  | f + 1, p, n => if p < b.length then (if b.getD p 0 = 255 then addTo b f (p + 1) (n + 255) else (n + (b.getD p 0).toNat, p + 1, true)) else (0, 0, false)
def lengthOf (b : List Int) (p half : Nat) : Nat × Nat × Bool := if half < 15 then (half, p, true) else addTo b (b.length + 1 - p) p 15
theorem addTo_bd {b : List Int} (h : ∀ c ∈ b, 0 ≤ c ∧ c < 256) : ∀ (f p n : Nat), (addTo b f p n).1 ≤ n + 255 * f ∧ (addTo b f p n).2.1 ≤ b.length
  | 0, _, _ => by simp [addTo]
  | f + 1, p, n => by
    unfold addTo
    by_cases h1 : p < b.length
    · rw [if_pos h1]
      by_cases h2 : b.getD p 0 = 255
      · rw [if_pos h2]
        have := addTo_bd h f (p + 1) (n + 255)
        omega
      · rw [if_neg h2]
        have := getD_bd h p h1
        refine ⟨?_, ?_⟩
        · show n + (b.getD p 0).toNat ≤ _
          omega
        · show p + 1 ≤ _
          omega
    · rw [if_neg h1]
      simp
theorem lengthOf_bd {b : List Int} (h : ∀ c ∈ b, 0 ≤ c ∧ c < 256) (p half : Nat) (hp : p ≤ b.length) (hh : half < 16) : (lengthOf b p half).1 ≤ 15 + 255 * (b.length + 1) ∧ (lengthOf b p half).2.1 ≤ b.length := by
  unfold lengthOf
  by_cases h1 : half < 15
  · rw [if_pos h1]
    refine ⟨?_, hp⟩
    show half ≤ _
    omega
  · rw [if_neg h1]
    have := addTo_bd h (b.length + 1 - p) p 15
    omega

/-- What a part of the work ends in: it is refused, or it goes on at a place, with bytes told so far. -/
inductive Got where
  | bad (e : Int)
  | ok (p : Nat) (out : List Int)
/-- Bytes that stand as they are. -/
def lits (b : List Int) (most : Nat) : Nat → Nat → List Int → Got
  | 0, p, out => .ok p out
  | k + 1, p, out => if b.length ≤ p then .bad 3 else if most ≤ out.length then .bad 2 else lits b most k (p + 1) (out ++ [b.getD p 0])
/-- Bytes that are told again. -/
def reps (most far : Nat) : Nat → List Int → Got
  | 0, out => .ok 0 out
  | k + 1, out => if most ≤ out.length then .bad 2 else reps most far k (out ++ [out.getD (out.length - far) 0])
def farOf (b : List Int) (p : Nat) : Nat := (b.getD p 0).toNat + 256 * (b.getD (p + 1) 0).toNat
/-- What comes behind the bytes that stand as they are. -/
def unpBack (b : List Int) (most token : Nat) (next : Nat → List Int → List Int × Int) (p : Nat) (out : List Int) : List Int × Int :=
  if p = b.length then (out, 0) else if b.length - p < 2 then ([], 3) else if farOf b p = 0 ∨ out.length < farOf b p then ([], 3) else
  match lengthOf b (p + 2) (token % 16) with
  | (_, _, false) => ([], 3)
  | (m, q, true) => match reps most (farOf b p) (m + 4) out with
    | .bad e => ([], e)
    | .ok _ out' => next q out'
def unp (b : List Int) (most : Nat) : Nat → Nat → List Int → List Int × Int
  | 0, _, _ => ([], 0)
  | f + 1, p, out => if b.length ≤ p then (out, 0) else
    match lengthOf b (p + 1) ((b.getD p 0).toNat / 16) with
    | (_, _, false) => ([], 3)
    | (l, q, true) => match lits b most l q out with
      | .bad e => ([], e)
      | .ok p' out' => unpBack b most (b.getD p 0).toNat (unp b most f) p' out'
def unpackOf (b : List Int) (most : Int) : List Int × Int := if most < 0 ∨ 1048576 < most then ([], 1) else if b = [] then ([], 3) else unp b most.toNat (b.length + 1) 0 []
end Go.Proofs.YtlljcdmblmkblaaGreat
namespace Go.Proofs.YtlljcdmblmkblaaGreat
open Go.RowKit

theorem addTo_end (b : List Int) (f p n : Nat) (h : b.length ≤ p) : addTo b f p n = (0, 0, false) := by
  cases f with
  | zero => rfl
  | succ f => unfold addTo; rw [if_neg (by omega)]
theorem addTo_on (b : List Int) (f p n : Nat) (h : p < b.length) (h2 : b.getD p 0 = 255) : addTo b (f + 1) p n = addTo b f (p + 1) (n + 255) := by
  rw [addTo, if_pos h, if_pos h2]
theorem addTo_stop (b : List Int) (f p n : Nat) (h : p < b.length) (h2 : ¬ b.getD p 0 = 255) : addTo b (f + 1) p n = (n + (b.getD p 0).toNat, p + 1, true) := by
  rw [addTo, if_pos h, if_neg h2]
/-- The three results. -/
def LenIs (x : Nat × Nat × Bool) (e : Ending) : Prop := e = .returned (.tuple #[.int .i64 (x.1 : Int), .int .i64 (x.2.1 : Int), .bool x.2.2])
theorem LenIs.mk {x : Nat × Nat × Bool} {l p : Int} {k : Bool} {n q : Nat} (h : x = (n, q, k)) (hl : l = (n : Int)) (hp : p = (q : Int)) : LenIs x (.returned (.tuple #[.int .i64 l, .int .i64 p, .bool k])) := by
  subst h hl hp
  rfl

set_option maxHeartbeats 800000 in
theorem refLength_any (a : Option Addr) (len cap p half : Nat) (l : List Int) (w : World) (hB : Bytes w a len l) (hlen : len ≤ 100000) (hp : p ≤ len) (hh : half < 16) :
    Calls Tryz.prog 61 #[.slice a len cap, .int .i64 p, .int .i64 half] w fun e w' => LenIs (lengthOf l p half) e ∧ w = w' := by
  by_cases h1 : half < 15
  · have HR : Hid (lengthOf l p half = (half, p, true)) := by rw [Hid, lengthOf, if_pos h1]
    clear hB
    go_enter Tryz.func61, Tryz.ntmps61
    go_wp2
    go_ret3
    exact ⟨LenIs.mk HR.out rfl rfl, rfl⟩
  · have HR : Hid (lengthOf l p half = addTo l (len + 1 - p) p 15) := by rw [Hid, lengthOf, if_neg h1, hB.1]
    by_cases h0 : len = 0
    · have HR2 : Hid (lengthOf l p half = (0, 0, false)) := by rw [Hid, HR.out]; exact addTo_end _ _ _ _ (by rw [hB.1]; omega)
      have hge : ¬ (p < len) := by omega
      clear hB
      go_enter Tryz.func61, Tryz.ntmps61
      go_wp2
      go_loop [1, 9] (fun x y => x = .int .i64 p ∧ y = .int .i64 15) (fun _ _ => 0)
      case atStart => exact ⟨rfl, rfl⟩
      case round =>
        obtain ⟨rfl, rfl⟩ := hrel
        go_wp2
        go_ret3
        exact ⟨LenIs.mk HR2.out rfl rfl, rfl⟩
    · obtain ⟨bb, off, rfl⟩ := hB.lies (by omega)
      have HB := Lib.hid hB
      have HLL := Lib.hid hB.1
      have HBD := Lib.hid hB.small.2
      clear hB h0
      go_enter Tryz.func61, Tryz.ntmps61
      go_wp2
      go_loop [1, 9] (fun x y => ∃ q n : Nat, q ≤ len ∧ n ≤ 15 + 255 * q ∧ x = .int .i64 q ∧ y = .int .i64 n ∧ Hid (lengthOf l p half = addTo l (len + 1 - q) q n)) (fun x _ => len - (intOf x).toNat)
      case atStart => exact ⟨p, 15, hp, by omega, rfl, rfl, HR.out⟩
      case round =>
        obtain ⟨q, n, hq, hn, rfl, rfl, HRq⟩ := hrel
        by_cases hlt : q < len
        · obtain ⟨c, HC⟩ := named (l.getD q 0)
          have hcell := HB.out.cellAt q hlt
          have hbd := getD_bd HBD.out q (by rw [HLL.out]; exact hlt)
          rw [HC.out] at hcell hbd
          have hb1 := hbd.1
          have hb2 := hbd.2
          have HF : Hid (len + 1 - q = (len + 1 - (q + 1)) + 1) := by rw [Hid]; omega
          by_cases h255 : c = 255
          · have HE : Hid (lengthOf l p half = addTo l (len + 1 - (q + 1)) (q + 1) (n + 255)) := by
              rw [Hid, HRq.out, HF.out, addTo_on l _ q n (by rw [HLL.out]; exact hlt) (by rw [HC.out, h255])]
            have ht1 : (c == 255) = true := by simp [h255]
            have ht2 : (c != 255) = false := by simp [h255]
            have hc5 := Lib.hid h255
            clear h255
            go_wp2
            go_round
            case rel => exact ⟨q + 1, n + 255, by omega, by omega, by go_num, int_eq (by rw [hc5.out]; rfl), HE.out⟩
            case measure => simp [intOf]; omega
          · have HE : Hid (lengthOf l p half = (n + c.toNat, q + 1, true)) := by
              rw [Hid, HRq.out, HF.out, addTo_stop l _ q n (by rw [HLL.out]; exact hlt) (by rw [HC.out]; exact h255), HC.out]
            have ht1 : (c == 255) = false := by simp [h255]
            have ht2 : (c != 255) = true := by simp [h255]
            clear h255
            go_wp2
            go_ret3
            exact ⟨LenIs.mk HE.out (by omega) (by omega), rfl⟩
        · have HE : Hid (lengthOf l p half = (0, 0, false)) := by
            rw [Hid, HRq.out]
            exact addTo_end _ _ _ _ (by rw [HLL.out]; omega)
          go_wp2
          go_ret3
          exact ⟨LenIs.mk HE.out rfl rfl, rfl⟩
end Go.Proofs.YtlljcdmblmkblaaGreat
namespace Go.Proofs.YtlljcdmblmkblaaGreat
open Go.RowKit

theorem addTo_ge (b : List Int) : ∀ (f p n m q : Nat), addTo b f p n = (m, q, true) → p ≤ q
  | 0, _, _, _, _, h => by simp [addTo] at h
  | f + 1, p, n, m, q, h => by
    unfold addTo at h
    by_cases h1 : p < b.length
    · rw [if_pos h1] at h
      by_cases h2 : b.getD p 0 = 255
      · rw [if_pos h2] at h
        have := addTo_ge b f (p + 1) (n + 255) m q h
        omega
      · rw [if_neg h2] at h
        simp at h
        omega
    · rw [if_neg h1] at h
      simp at h
theorem lengthOf_ge {b : List Int} {p half m q : Nat} (h : lengthOf b p half = (m, q, true)) : p ≤ q := by
  unfold lengthOf at h
  by_cases h1 : half < 15
  · rw [if_pos h1] at h
    simp at h
    omega
  · rw [if_neg h1] at h
    exact addTo_ge b _ _ _ _ _ h
theorem unp_end (b : List Int) (most f p : Nat) (out : List Int) (h : b.length ≤ p) : unp b most (f + 1) p out = (out, 0) := by
  rw [unp, if_pos h]
theorem unp_bad (b : List Int) (most f p x y : Nat) (out : List Int) (h : p < b.length) (hl : lengthOf b (p + 1) ((b.getD p 0).toNat / 16) = (x, y, false)) : unp b most (f + 1) p out = ([], 3) := by
  rw [unp, if_neg (by omega), hl]
/-- What stands behind the literal bytes of a sequence. -/
def unpLits (b : List Int) (most token f : Nat) : Got → List Int × Int
  | .bad e => ([], e)
  | .ok p' out' => unpBack b most token (unp b most f) p' out'
theorem unp_lits (b : List Int) (most f p l q : Nat) (out : List Int) (h : p < b.length) (hl : lengthOf b (p + 1) ((b.getD p 0).toNat / 16) = (l, q, true)) : unp b most (f + 1) p out = unpLits b most (b.getD p 0).toNat f (lits b most l q out) := by
  rw [unp, if_neg (by omega), hl]
  dsimp only
  cases lits b most l q out <;> rfl
theorem lits_done (b : List Int) (most p : Nat) (out : List Int) : lits b most 0 p out = .ok p out := rfl
theorem lits_form (b : List Int) (most k p : Nat) (out : List Int) (h : b.length ≤ p) : lits b most (k + 1) p out = .bad 3 := by rw [lits, if_pos h]
theorem lits_long (b : List Int) (most k p : Nat) (out : List Int) (h : ¬ b.length ≤ p) (h2 : most ≤ out.length) : lits b most (k + 1) p out = .bad 2 := by rw [lits, if_neg h, if_pos h2]
theorem lits_on (b : List Int) (most k p : Nat) (out : List Int) (h : ¬ b.length ≤ p) (h2 : ¬ most ≤ out.length) : lits b most (k + 1) p out = lits b most k (p + 1) (out ++ [b.getD p 0]) := by rw [lits, if_neg h, if_neg h2]
/-- What stands behind the bytes that are told again. -/
def unpReps (b : List Int) (most q f : Nat) : Got → List Int × Int
  | .bad e => ([], e)
  | .ok _ out' => unp b most f q out'
theorem back_end (b : List Int) (most token f : Nat) (out : List Int) : unpLits b most token f (.ok b.length out) = (out, 0) := by
  rw [unpLits, unpBack, if_pos rfl]
theorem back_cut (b : List Int) (most token f p : Nat) (out : List Int) (h : ¬ p = b.length) (h2 : b.length - p < 2) : unpLits b most token f (.ok p out) = ([], 3) := by
  rw [unpLits, unpBack, if_neg h, if_pos h2]
theorem back_far (b : List Int) (most token f p : Nat) (out : List Int) (h : ¬ p = b.length) (h2 : ¬ b.length - p < 2) (h3 : farOf b p = 0 ∨ out.length < farOf b p) : unpLits b most token f (.ok p out) = ([], 3) := by
  rw [unpLits, unpBack, if_neg h, if_neg h2, if_pos h3]
theorem back_bad (b : List Int) (most token f p x y : Nat) (out : List Int) (h : ¬ p = b.length) (h2 : ¬ b.length - p < 2) (h3 : ¬ (farOf b p = 0 ∨ out.length < farOf b p)) (hl : lengthOf b (p + 2) (token % 16) = (x, y, false)) : unpLits b most token f (.ok p out) = ([], 3) := by
  rw [unpLits, unpBack, if_neg h, if_neg h2, if_neg h3, hl]
theorem back_reps (b : List Int) (most token f p m q : Nat) (out : List Int) (h : ¬ p = b.length) (h2 : ¬ b.length - p < 2) (h3 : ¬ (farOf b p = 0 ∨ out.length < farOf b p)) (hl : lengthOf b (p + 2) (token % 16) = (m, q, true)) :
    unpLits b most token f (.ok p out) = unpReps b most q f (reps most (farOf b p) (m + 4) out) := by
  rw [unpLits, unpBack, if_neg h, if_neg h2, if_neg h3, hl]
  dsimp only
  cases reps most (farOf b p) (m + 4) out <;> rfl
theorem reps_long (most far k : Nat) (out : List Int) (h2 : most ≤ out.length) : reps most far (k + 1) out = .bad 2 := by rw [reps, if_pos h2]
theorem reps_on (most far k : Nat) (out : List Int) (h2 : ¬ most ≤ out.length) : reps most far (k + 1) out = reps most far k (out ++ [out.getD (out.length - far) 0]) := by rw [reps, if_neg h2]

theorem i64_or_nat (a b : Nat) (ha : a < 65536) (hb : b < 65536) : bits .or .i64 (a : Int) (b : Int) = ((a ||| b : Nat) : Int) := by
  have hx : a ||| b < 2 ^ 16 := Nat.or_lt_two_pow (by omega) (by omega)
  show IntKind.i64.wrap ((BitVec.ofInt 64 (a : Int) ||| BitVec.ofInt 64 (b : Int)).toNat : Int) = _
  rw [BitVec.toNat_or, ofInt_u64 a (by omega), ofInt_u64 b (by omega), IntWalk.i64_in _ (by omega)]
theorem far_of (x y : Int) (hx : 0 ≤ x ∧ x < 256) (hy : 0 ≤ y ∧ y < 256) : bits .or .i64 x (y * 256) = ((x.toNat + 256 * y.toNat : Nat) : Int) := by
  have e1 : x = ((x.toNat : Nat) : Int) := by omega
  have e2 : y * 256 = ((y.toNat * 256 : Nat) : Int) := by omega
  have h := i64_or_nat x.toNat (y.toNat * 256) (by omega) (by omega)
  rw [← e1, ← e2, Nat.or_comm, nat_join 8 (y.toNat * 256) x.toNat (by omega) (by omega)] at h
  rw [h]
  omega
theorem low_of (x : Int) (hx : 0 ≤ x ∧ x < 256) : bits .and .i64 x 15 = x % 16 := by
  have e1 : x = ((x.toNat : Nat) : Int) := by omega
  have hl : x.toNat &&& 15 = x.toNat % 16 := Nat.and_two_pow_sub_one_eq_mod x.toNat 4
  have h : bits .and .i64 ((x.toNat : Nat) : Int) 15 = ((x.toNat &&& 15 : Nat) : Int) := by
    show IntKind.i64.wrap ((BitVec.ofInt 64 ((x.toNat : Nat) : Int) &&& BitVec.ofInt 64 ((15 : Nat) : Int)).toNat : Int) = _
    rw [BitVec.toNat_and, ofInt_u64 x.toNat (by omega), ofInt_u64 15 (by omega), IntWalk.i64_in _ (by rw [hl]; omega)]
  rw [← e1, hl] at h
  rw [h]
  omega
theorem PutPost.bad {w0 w : World} {R : List Int × Int} {err : Int} (h : R = ([], err)) (hb : Below w0.heap.size w0 w) : PutPost w0 R.1 R.2 (.returned (.tuple #[.slice Option.none 0 0, .int .i64 err])) w := by
  subst h
  exact ⟨Option.none, 0, rfl, none_bytes w, ⟨fun _ => rfl, Nat.le_refl _⟩, hb⟩
theorem PutPost.good {w0 w : World} {R : List Int × Int} {l : List Int} {a : Option Addr} {n c base : Nat} (hR : R = (l, 0)) (h : Own w base (.slice a n c) n l) (hb : Below w0.heap.size w0 w) : PutPost w0 R.1 R.2 (.returned (.tuple #[.slice a n c, .int .i64 0])) w := by
  subst hR
  exact PutPost.own 0 h hb

set_option maxHeartbeats 400000 in
theorem refUnpack_arg (sl : Value) (most : Int) (w : World) (h : most < 0 ∨ 1048576 < most) :
    Calls Tryz.prog 34 #[sl, .int .i64 most] w (PutPost w [] 1) := by
  by_cases h1 : most < 0
  · go_enter Tryz.func34, Tryz.ntmps34
    go_wp2
    go_ret2
    exact PutPost.empty w 1
  · have h2 : 1048576 < most := by omega
    go_enter Tryz.func34, Tryz.ntmps34
    go_wp2
    go_ret2
    exact PutPost.empty w 1

set_option maxHeartbeats 400000 in
theorem refUnpack_none (a : Option Addr) (cap : Nat) (most : Nat) (w : World) (h : most ≤ 1048576) :
    Calls Tryz.prog 34 #[.slice a 0 cap, .int .i64 most] w (PutPost w [] 3) := by
  go_enter Tryz.func34, Tryz.ntmps34
  go_wp2
  go_ret2
  exact PutPost.empty w 3

set_option maxRecDepth 100000 in
set_option maxHeartbeats 4000000 in
theorem refUnpack_ok (a : Option Addr) (len cap most : Nat) (l : List Int) (w : World) (hB : Bytes w a len l) (h0 : 0 < len) (hlen : len ≤ 100000) (hm : most ≤ 1048576) :
    Calls Tryz.prog 34 #[.slice a len cap, .int .i64 most] w (PutPost w (unp l most (len + 1) 0 []).1 (unp l most (len + 1) 0 []).2) := by
  obtain ⟨R, HR⟩ : ∃ R, Hid (unp l most (len + 1) 0 [] = R) := ⟨_, Lib.hid rfl⟩
  rw [HR.out]
  obtain ⟨bb, off, rfl⟩ := hB.lies h0
  have HB := Lib.hid hB
  have HLL := Lib.hid hB.1
  have HBD := Lib.hid hB.small.2
  have hne : ((len : Int) == 0) = false := by simp; omega
  clear hB
  go_enter Tryz.func34, Tryz.ntmps34
  go_wp2
  go_loopw [6, 7, 8, 9, 10, 11, 12, 13, 14, 15, 16, 17] (fun o x _ _ _ _ _ _ _ _ _ _ wr => ∃ (p n c f : Nat) (a' : Option Addr) (out : List Int), p ≤ len ∧ n ≤ 1048576 ∧ len + 1 ≤ f + p ∧ x = .int .i64 p ∧ o = .slice a' n c ∧ Hid (Own wr w.heap.size (.slice a' n c) n out) ∧ Hid (Below w.heap.size w wr) ∧ Hid (unp l most f p out = R)) (fun _ x _ _ _ _ _ _ _ _ _ _ _ => len - (intOf x).toNat)
  case atStart => exact ⟨0, 0, 0, len + 1, none, [], Nat.zero_le _, by omega, by omega, rfl, rfl, ⟨World.ownsRow_nil _ _ _ _, by unfold Small; simp⟩, Below.refl _ _, HR.out⟩
  case round =>
    obtain ⟨p, n, c, f, a', out, hp, hn, hf, rfl, rfl, HO, HG, HU⟩ := hrel
    by_cases hlt : p < len
    · obtain ⟨f', hf'⟩ : ∃ f', f = f' + 1 := ⟨f - 1, by omega⟩
      rw [hf'] at HU
      obtain ⟨c0, HC0⟩ := named (l.getD p 0)
      have hcell := (HB.out.later HG.out).cellAt p hlt
      have hbd := getD_bd HBD.out p (by rw [HLL.out]; exact hlt)
      rw [HC0.out] at hcell hbd
      have hb0 := hbd.1
      have hb1 := hbd.2
      obtain ⟨⟨L1, q1, k1⟩, HX⟩ := named (lengthOf l (p + 1) (c0.toNat / 16))
      have hbl := lengthOf_bd HBD.out (p + 1) (c0.toNat / 16) (by rw [HLL.out]; omega) (by omega)
      rw [HX.out, HLL.out] at hbl
      have hbl1 : L1 ≤ 15 + 255 * (len + 1) := hbl.1
      have hbl2 : q1 ≤ len := hbl.2
      have H1 : ∀ w', Below w.heap.size w w' → Calls Tryz.prog 61 #[.slice (some ⟨bb, off, none⟩) len cap, .int .i64 ((p : Int) + 1), .int .i64 (c0 / 16)] w' fun e w'' => e = .returned (.tuple #[.int .i64 (L1 : Int), .int .i64 (q1 : Int), .bool k1]) ∧ w' = w'' := fun w' hw => by
        have := refLength_any _ len cap (p + 1) (c0.toNat / 16) l w' (HB.out.later hw) hlen (by omega) (by omega)
        rw [HX.out, show ((c0.toNat / 16 : Nat) : Int) = c0 / 16 by omega] at this
        exact this
      have H1 := Lib.hid H1
      clear hbd hbl
      cases k1
      · have HE : Hid (R = ([], 3)) := by
          rw [Hid, ← HU.out]
          exact unp_bad l most f' p L1 q1 out (by rw [HLL.out]; exact hlt) (by rw [HC0.out]; exact HX.out)
        go_wp2_with (go_at_call 61; refine (H1.out _ HG.out).mono ?_; rintro e w' ⟨rfl, rfl⟩)
        go_ret2
        exact PutPost.bad HE.out HG.out
      · have hq1 := lengthOf_ge HX.out
        have HU1 : Hid (unpLits l most c0.toNat f' (lits l most L1 q1 out) = R) := by
          rw [Hid, ← HU.out, unp_lits l most f' p L1 q1 out (by rw [HLL.out]; exact hlt) (by rw [HC0.out]; exact HX.out), HC0.out]
        have hf2 : len + 1 ≤ f' + (p + 1) := by omega
        clear hf hf'
        go_wp2_with (go_at_call 61; refine (H1.out _ HG.out).mono ?_; rintro e w' ⟨rfl, rfl⟩)
        go_loopw [6, 7, 12] (fun o x i wi => ∃ (j q n2 c2 : Nat) (a2 : Option Addr) (out2 : List Int), j ≤ L1 ∧ q1 ≤ q ∧ q ≤ len ∧ n2 ≤ 1048576 ∧ i = .int .i64 j ∧ x = .int .i64 q ∧ o = .slice a2 n2 c2 ∧ Hid (Own wi w.heap.size (.slice a2 n2 c2) n2 out2) ∧ Hid (Below w.heap.size w wi) ∧ Hid (unpLits l most c0.toNat f' (lits l most (L1 - j) q out2) = R)) (fun _ _ i _ => L1 - (intOf i).toNat)
        case atStart => exact ⟨0, q1, n, c, a', out, Nat.zero_le _, Nat.le_refl _, hbl2, hn, rfl, rfl, rfl, HO.out, HG.out, HU1.out⟩
        case round =>
          obtain ⟨j, q, n2, c2, a2, out2, hj, hqq, hql, hn2, rfl, rfl, rfl, HO2, HG2, HU2⟩ := hrel
          by_cases hjl : j < L1
          · have HJ : Hid (L1 - j = (L1 - (j + 1)) + 1) := by rw [Hid]; omega
            by_cases hqe : len ≤ q
            · have HE : Hid (R = ([], 3)) := by
                rw [Hid, ← HU2.out, HJ.out, lits_form l most _ q out2 (by rw [HLL.out]; exact hqe)]
                rfl
              go_wp2
              go_ret2
              exact PutPost.bad HE.out HG2.out
            · by_cases hnm : most ≤ n2
              · have HE : Hid (R = ([], 2)) := by
                  rw [Hid, ← HU2.out, HJ.out, lits_long l most _ q out2 (by rw [HLL.out]; exact hqe) (by rw [HO2.out.len]; exact hnm)]
                  rfl
                go_wp2
                go_ret2
                exact PutPost.bad HE.out HG2.out
              · obtain ⟨c3, HC3⟩ := named (l.getD q 0)
                have hcell3 := (HB.out.later HG2.out).cellAt q (by omega)
                have hbd3 := getD_bd HBD.out q (by rw [HLL.out]; omega)
                rw [HC3.out] at hcell3 hbd3
                have HBD3 := Lib.hid hbd3
                have HU3 : Hid (unpLits l most c0.toNat f' (lits l most (L1 - (j + 1)) (q + 1) (out2 ++ [c3])) = R) := by
                  rw [Hid, ← HU2.out, HJ.out, lits_on l most _ q out2 (by rw [HLL.out]; exact hqe) (by rw [HO2.out.len]; exact hnm), HC3.out]
                clear hbd3
                go_wp2_with (at_builtin; refine append_more rfl (.tmp 62) (.tmp 67) rfl w.heap.size _ n2 out2 rfl (HO2.out.alloc _) _ 1 1 [c3] rfl (fun e => by cases e) (one_byte _ c3 HBD3.out) (by omega) (Nat.le_trans HG2.out.size (by simp)) ?_; intro a4 c4 w4 g1 g2; have HO4 := Lib.hid g1; have HG4 : Hid (Below w.heap.size w w4) := (HG2.out.alloc HG2.out.size _).trans g2; clear g1 g2)
                go_roundw
                case rel => exact ⟨j + 1, q + 1, n2 + 1, c4, a4, out2 ++ [c3], by omega, by omega, by omega, by omega, by go_num, by go_num, rfl, HO4.out, HG4.out, HU3.out⟩
                case measure => simp [intOf]; omega
          · obtain rfl : j = L1 := by omega
            have HU5 : Hid (unpLits l most c0.toNat f' (.ok q out2) = R) := by
              have := HU2.out
              rw [Nat.sub_self, lits_done] at this
              exact this
            clear HU2 HU1 HO HG
            by_cases hqe : q = len
            · have HE : Hid (R = (out2, 0)) := by
                rw [Hid, ← HU5.out, hqe, ← HLL.out]
                exact back_end l most _ f' out2
              have ht : ((q : Int) == (len : Int)) = true := by simp [hqe]
              clear hqe
              go_wp2
              go_ret2
              exact PutPost.good HE.out HO2.out HG2.out
            · have ht : ((q : Int) == (len : Int)) = false := by simp; omega
              have hql2 : q < len := by omega
              by_cases hcut : len < q + 2
              · have HE : Hid (R = ([], 3)) := by
                  rw [Hid, ← HU5.out]
                  exact back_cut l most _ f' q out2 (by rw [HLL.out]; exact hqe) (by rw [HLL.out]; omega)
                have hcut2 : (len : Int) - q < 2 := by omega
                clear hqe
                go_wp2
                go_ret2
                exact PutPost.bad HE.out HG2.out
              · obtain ⟨c6, HC6⟩ := named (l.getD q 0)
                obtain ⟨c7, HC7⟩ := named (l.getD (q + 1) 0)
                have d6 := (HB.out.later HG2.out).cellAt q (by omega)
                have d7 := (HB.out.later HG2.out).cellAt (q + 1) (by omega)
                have b6 := getD_bd HBD.out q (by rw [HLL.out]; omega)
                have b7 := getD_bd HBD.out (q + 1) (by rw [HLL.out]; omega)
                rw [HC6.out] at d6 b6
                rw [HC7.out] at d7 b7
                have b60 := b6.1
                have b61 := b6.2
                have b70 := b7.1
                have b71 := b7.2
                obtain ⟨F, hfar, HFF, hF⟩ : ∃ F : Nat, bits .or .i64 c6 (c7 * 256) = (F : Int) ∧ Hid (farOf l q = F) ∧ F ≤ 65535 := ⟨_, far_of c6 c7 b6 b7, by rw [Hid, farOf, HC6.out, HC7.out], by omega⟩
                have hlow := low_of c0 ⟨hb0, hb1⟩
                clear b6 b7
                by_cases hbadf : F = 0 ∨ n2 < F
                · have HE : Hid (R = ([], 3)) := by
                    rw [Hid, ← HU5.out]
                    exact back_far l most _ f' q out2 (by rw [HLL.out]; exact hqe) (by rw [HLL.out]; omega) (by rw [HFF.out, HO2.out.len]; exact hbadf)
                  clear hqe
                  by_cases hF0 : F = 0
                  · have hz : ((F : Int) == 0) = true := by simp [hF0]
                    clear hF0 hbadf
                    go_wp2
                    go_region
                    go_wp2
                    go_ret2
                    exact PutPost.bad HE.out HG2.out.drew
                  · have hz : ((F : Int) == 0) = false := by simp; omega
                    have hF1 : n2 < F := by omega
                    clear hbadf
                    go_wp2
                    go_region
                    go_wp2
                    go_ret2
                    exact PutPost.bad HE.out HG2.out.drew
                · have hz : ((F : Int) == 0) = false := by simp; omega
                  have hF1 : F ≤ n2 := by omega
                  have hF2 : 0 < F := by omega
                  obtain ⟨⟨m, q2, k2⟩, HX2⟩ := named (lengthOf l (q + 2) (c0.toNat % 16))
                  have hbl := lengthOf_bd HBD.out (q + 2) (c0.toNat % 16) (by rw [HLL.out]; omega) (by omega)
                  rw [HX2.out, HLL.out] at hbl
                  have hbl3 : m ≤ 15 + 255 * (len + 1) := hbl.1
                  have hbl4 : q2 ≤ len := hbl.2
                  have H2 : ∀ w', Below w.heap.size w w' → Calls Tryz.prog 61 #[.slice (some ⟨bb, off, none⟩) len cap, .int .i64 ((q : Int) + 2), .int .i64 (c0 % 16)] w' fun e w'' => e = .returned (.tuple #[.int .i64 (m : Int), .int .i64 (q2 : Int), .bool k2]) ∧ w' = w'' := fun w' hw => by
                    have := refLength_any _ len cap (q + 2) (c0.toNat % 16) l w' (HB.out.later hw) hlen (by omega) (by omega)
                    rw [HX2.out, show ((c0.toNat % 16 : Nat) : Int) = c0 % 16 by omega] at this
                    exact this
                  have H2 := Lib.hid H2
                  clear hbl
                  cases k2
                  · have HE : Hid (R = ([], 3)) := by
                      rw [Hid, ← HU5.out]
                      exact back_bad l most _ f' q m q2 out2 (by rw [HLL.out]; exact hqe) (by rw [HLL.out]; omega) (by rw [HFF.out, HO2.out.len]; exact hbadf) HX2.out
                    clear hbadf hqe
                    go_wp2
                    go_region
                    go_wp2_with (go_at_call 61; ((with_reducible refine (H2.out _ HG2.out.drew).mono ?_); rintro e w' ⟨rfl, rfl⟩))
                    go_ret2
                    exact PutPost.bad HE.out HG2.out.drew
                  · have hq2 := lengthOf_ge HX2.out
                    have HU6 : Hid (unpReps l most q2 f' (reps most F (m + 4) out2) = R) := by
                      rw [Hid, ← HU5.out, back_reps l most _ f' q m q2 out2 (by rw [HLL.out]; exact hqe) (by rw [HLL.out]; omega) (by rw [HFF.out, HO2.out.len]; exact hbadf) HX2.out, HFF.out]
                    clear hbadf hqe HU5
                    go_wp2
                    go_region
                    go_wp2_with (go_at_call 61; ((with_reducible refine (H2.out _ HG2.out.drew).mono ?_); rintro e w' ⟨rfl, rfl⟩))
                    go_loopw [6, 17] (fun o i wk => ∃ (j3 n3 c3 : Nat) (a3 : Option Addr) (out3 : List Int), j3 ≤ m + 4 ∧ n2 ≤ n3 ∧ n3 ≤ 1048576 ∧ i = .int .i64 j3 ∧ o = .slice a3 n3 c3 ∧ Hid (Own wk w.heap.size (.slice a3 n3 c3) n3 out3) ∧ Hid (Below w.heap.size w wk) ∧ Hid (unpReps l most q2 f' (reps most F (m + 4 - j3) out3) = R)) (fun _ i _ => m + 4 - (intOf i).toNat)
                    case atStart => exact ⟨0, n2, c2, a2, out2, Nat.zero_le _, Nat.le_refl _, hn2, rfl, rfl, HO2.out.drew, HG2.out.drew, HU6.out⟩
                    case round =>
                      obtain ⟨j3, n3, c3, a3, out3, hj3, hnn, hn3, rfl, rfl, HO3, HG3, HU7⟩ := hrel
                      clear HO2 HG2 HU6
                      by_cases hjm : j3 < m + 4
                      · have HJ : Hid (m + 4 - j3 = (m + 4 - (j3 + 1)) + 1) := by rw [Hid]; omega
                        by_cases hnm : most ≤ n3
                        · have HE : Hid (R = ([], 2)) := by
                            rw [Hid, ← HU7.out, HJ.out, reps_long most F _ out3 (by rw [HO3.out.len]; exact hnm)]
                            rfl
                          go_wp2
                          go_ret2
                          exact PutPost.bad HE.out HG3.out
                        · obtain ⟨g, rfl, hgb, hgs⟩ := HO3.out.lies (by omega)
                          obtain ⟨K, hK, hK2⟩ : ∃ K : Nat, (n3 : Int) - (F : Int) = (K : Int) ∧ Hid (K = n3 - F) := ⟨n3 - F, by omega, rfl⟩
                          have hK3 : K < n3 := by have := hK2.out; omega
                          obtain ⟨c8, HC8⟩ := named (out3.getD K 0)
                          have d8 := HO3.out.cell K hK3
                          have b8 := HO3.out.2.at (k := K) (by rw [HO3.out.len]; exact hK3)
                          rw [HC8.out] at d8 b8
                          have HB8 := Lib.hid b8
                          have HU8 : Hid (unpReps l most q2 f' (reps most F (m + 4 - (j3 + 1)) (out3 ++ [c8])) = R) := by
                            rw [Hid, ← HU7.out, HJ.out, reps_on most F _ out3 (by rw [HO3.out.len]; exact hnm), HO3.out.len, ← hK2.out, HC8.out]
                          clear b8
                          go_wp2_with (at_builtin; refine append_more rfl (.tmp 126) (.tmp 134) rfl w.heap.size _ n3 out3 rfl (HO3.out.alloc _) _ 1 1 [c8] rfl (fun e => by cases e) (one_byte _ c8 HB8.out) (by omega) (Nat.le_trans HG3.out.size (by simp)) ?_; intro a4 c4 w4 g1 g2; have HO4 := Lib.hid g1; have HG4 : Hid (Below w.heap.size w w4) := (HG3.out.alloc HG3.out.size _).trans g2; clear g1 g2)
                          go_roundw
                          case rel => exact ⟨j3 + 1, n3 + 1, c4, a4, out3 ++ [c8], by omega, by omega, by omega, by go_num, rfl, HO4.out, HG4.out, HU8.out⟩
                          case measure => simp [intOf]; omega
                      · have HU9 : Hid (unp l most f' q2 out3 = R) := by
                          obtain rfl : j3 = m + 4 := by omega
                          have := HU7.out
                          rw [Nat.sub_self] at this
                          exact this
                        go_wp2
                        go_roundw
                        case rel => exact ⟨q2, n3, c3, f', a3, out3, hbl4, hn3, by omega, rfl, rfl, HO3.out, HG3.out, HU9.out⟩
                        case measure => simp [intOf]; omega
    · have HE : Hid (R = (out, 0)) := by
        obtain ⟨f', rfl⟩ : ∃ f', f = f' + 1 := ⟨f - 1, by omega⟩
        rw [Hid, ← HU.out]
        exact unp_end l most f' p out (by rw [HLL.out]; omega)
      go_wp2
      go_ret2
      exact PutPost.good HE.out HO.out HG.out
/-- The reference's Unpack, whatever is asked. -/
theorem refUnpack_any (a : Option Addr) (len cap : Nat) (most : Int) (l : List Int) (w : World) (hB : Bytes w a len l) (hlen : len ≤ 100000) :
    Calls Tryz.prog 34 #[.slice a len cap, .int .i64 most] w (PutPost w (unpackOf l most).1 (unpackOf l most).2) := by
  by_cases h1 : most < 0 ∨ 1048576 < most
  · have e : unpackOf l most = ([], 1) := by rw [unpackOf, if_pos h1]
    rw [e]
    exact refUnpack_arg _ most w h1
  · obtain ⟨k, rfl, hk⟩ : ∃ k : Nat, most = (k : Int) ∧ k ≤ 1048576 := ⟨most.toNat, by omega, by omega⟩
    by_cases h0 : len = 0
    · subst h0
      have e : unpackOf l k = ([], 3) := by rw [unpackOf, if_neg h1, if_pos (List.eq_nil_of_length_eq_zero hB.1)]
      rw [e]
      exact refUnpack_none a cap k w hk
    · have e : unpackOf l k = unp l k (len + 1) 0 [] := by
        rw [unpackOf, if_neg h1, if_neg (fun e => h0 (by rw [← hB.1, e]; rfl)), Int.toNat_natCast, hB.1]
      rw [e]
      exact refUnpack_ok a len cap k l w hB (by omega) hlen hk
end Go.Proofs.YtlljcdmblmkblaaGreat
namespace Go.Proofs.YtlljcdmblmkblaaGreat
open Go.RowKit

/-- What is added to a half of n. -/
def addedL (n : Nat) : List Int := if n < 15 then [] else List.replicate ((n - 15) / 255) 255 ++ [(((n - 15) % 255 : Nat) : Int)]
/-- A sequence. -/
def seqL (l : List Int) (far m : Nat) : List Int := [((min l.length 15 * 16 + min m 15 : Nat) : Int)] ++ addedL l.length ++ l ++ [((far % 256 : Nat) : Int), ((far / 256 : Nat) : Int)] ++ addedL m
/-- A slice of the call's own comes back. -/
def OwnPost (base : Nat) (w0 : World) (xs : List Int) (e : Ending) (w : World) : Prop :=
  ∃ a n c, xs.length = n ∧ e = .returned (.slice a n c) ∧ Own w base (.slice a n c) n xs ∧ Below base w0 w
theorem rep_snoc (xs : List Int) (i : Nat) : (xs ++ List.replicate i 255) ++ [255] = xs ++ List.replicate (i + 1) 255 := by
  rw [List.append_assoc, List.replicate_succ']
theorem addedL_len (n : Nat) : (addedL n).length ≤ n + 1 := by
  unfold addedL
  split
  · simp
  · simp
    omega

theorem seq_eq {l : List Int} {n far m : Nat} {x f0 f1 : Int} (hx : x = ((min l.length 15 * 16 + min m 15 : Nat) : Int)) (h0 : f0 = ((far % 256 : Nat) : Int)) (h1 : f1 = ((far / 256 : Nat) : Int)) (hl : l.length = n) :
    ([] ++ [x] ++ addedL n ++ l ++ [f0, f1] ++ addedL m) = seqL l far m := by
  subst hx h0 h1 hl
  rfl
theorem Own.to {w : World} {base n : Nat} {v : Value} {xs ys : List Int} (h : Own w base v n xs) (e : xs = ys) : Own w base v n ys := e ▸ h
theorem len_of {x : Int} {l : List Int} {n N : Nat} (h : ([] ++ [x] ++ l).length = n) (hl : l.length = N) : n = 1 + N := by
  rw [← h, ← hl]
  simp
  omega
theorem le_of {n N k : Nat} (h : n = 1 + N) (h2 : N ≤ k + 1) (h3 : k ≤ 10000) : n ≤ 10002 := by omega
end Go.Proofs.YtlljcdmblmkblaaGreat
namespace Go.Proofs.YtlljcdmblmkblaaGreat
open Go.RowKit

theorem getD_mid (A rest : List Int) (c : Int) : (A ++ c :: rest).getD A.length 0 = c := by
  rw [List.getD_eq_getElem?_getD, List.getElem?_append_right (Nat.le_refl _), Nat.sub_self]
  rfl
theorem addTo_run : ∀ (i f x r : Nat) (A rest : List Int), i < f → r < 255 → addTo (A ++ (List.replicate i 255 ++ ((r : Int) :: rest))) f A.length x = (x + 255 * i + r, A.length + i + 1, true)
  | 0, f + 1, x, r, A, rest, _, hr => by
    rw [List.replicate_zero, List.nil_append, addTo_stop _ _ _ _ (by simp) (by rw [getD_mid]; omega), getD_mid]
    simp
  | i + 1, f + 1, x, r, A, rest, hf, hr => by
    rw [List.replicate_succ, List.cons_append, addTo_on _ _ _ _ (by simp) (getD_mid _ _ _)]
    have := addTo_run i f (x + 255) r (A ++ [255]) rest (by omega) hr
    rw [List.append_assoc, List.length_append] at this
    rw [show A ++ 255 :: (List.replicate i 255 ++ ((r : Int) :: rest)) = A ++ ([255] ++ (List.replicate i 255 ++ ((r : Int) :: rest))) from rfl]
    refine this.trans ?_
    simp
    omega
theorem lengthOf_added (A rest : List Int) (n : Nat) : lengthOf (A ++ (addedL n ++ rest)) A.length (min n 15) = (n, A.length + (addedL n).length, true) := by
  unfold lengthOf addedL
  by_cases h : n < 15
  · rw [if_pos (by omega), if_pos h, Nat.min_eq_left (by omega)]
    rfl
  · rw [if_neg (by omega), if_neg h, List.append_assoc]
    have hr : (n - 15) % 255 < 255 := Nat.mod_lt _ (by decide)
    refine (addTo_run ((n - 15) / 255) _ 15 ((n - 15) % 255) A rest (by simp; omega) hr).trans ?_
    simp
    omega
theorem lits_run (most : Nat) : ∀ (l A rest out : List Int), out.length + l.length ≤ most → lits (A ++ (l ++ rest)) most l.length A.length out = .ok (A.length + l.length) (out ++ l)
  | [], A, rest, out, _ => by
    show lits _ most 0 _ _ = _
    rw [lits_done]
    simp
  | c :: l, A, rest, out, h => by
    show lits _ most (l.length + 1) _ _ = _
    rw [List.length_cons] at h
    rw [lits_on _ _ _ _ _ (by simp) (by omega), List.cons_append, getD_mid]
    have := lits_run most l (A ++ [c]) rest (out ++ [c]) (by simp; omega)
    rw [List.append_assoc, List.length_append] at this
    rw [show A ++ c :: (l ++ rest) = A ++ ([c] ++ (l ++ rest)) from rfl]
    refine this.trans ?_
    simp
    omega
/-- The place of the distance in a sequence. -/
def farAt (l : List Int) : Nat := 1 + (addedL l.length).length + l.length
theorem seq_form (l rest : List Int) (far m : Nat) : seqL l far m ++ rest = [((min l.length 15 * 16 + min m 15 : Nat) : Int)] ++ (addedL l.length ++ (l ++ (((far % 256 : Nat) : Int) :: ((far / 256 : Nat) : Int) :: (addedL m ++ rest)))) := by
  unfold seqL
  simp
theorem seq_lits (l rest : List Int) (far m most f : Nat) (hl : l.length ≤ most) (_hfar : far < 65536) :
    unp (seqL l far m ++ rest) most (f + 1) 0 [] = unpLits (seqL l far m ++ rest) most (min l.length 15 * 16 + min m 15) f (.ok (farAt l) l) ∧ farOf (seqL l far m ++ rest) (farAt l) = far ∧ farAt l + 2 + (addedL m).length + rest.length = (seqL l far m ++ rest).length := by
  obtain ⟨T, hT⟩ : ∃ T : List Int, ((far % 256 : Nat) : Int) :: ((far / 256 : Nat) : Int) :: (addedL m ++ rest) = T := ⟨_, rfl⟩
  have hg : (seqL l far m ++ rest).getD 0 0 = ((min l.length 15 * 16 + min m 15 : Nat) : Int) := by
    rw [seq_form]
    rfl
  have hlen : lengthOf (seqL l far m ++ rest) 1 (min l.length 15) = (l.length, 1 + (addedL l.length).length, true) := by
    rw [seq_form]
    exact lengthOf_added [_] _ l.length
  have hlit : lits (seqL l far m ++ rest) most l.length (1 + (addedL l.length).length) [] = .ok (farAt l) l := by
    rw [seq_form, hT, ← List.append_assoc]
    have := lits_run most l ([((min l.length 15 * 16 + min m 15 : Nat) : Int)] ++ addedL l.length) T [] (by simpa using hl)
    rw [List.length_append, List.nil_append] at this
    exact this
  refine ⟨?_, ?_, ?_⟩
  · rw [unp_lits _ _ _ _ l.length (1 + (addedL l.length).length) [] (by rw [seq_form]; simp) (by rw [hg, Int.toNat_natCast, show (min l.length 15 * 16 + min m 15) / 16 = min l.length 15 by omega]; exact hlen), hlit, hg, Int.toNat_natCast]
  · unfold farOf
    rw [seq_form, ← List.append_assoc, ← List.append_assoc]
    have e0 : farAt l = ([((min l.length 15 * 16 + min m 15 : Nat) : Int)] ++ addedL l.length ++ l).length := by simp [farAt]; omega
    have e1 : farAt l + 1 = ([((min l.length 15 * 16 + min m 15 : Nat) : Int)] ++ addedL l.length ++ l ++ [((far % 256 : Nat) : Int)]).length := by simp [farAt]; omega
    have g0 : ([((min l.length 15 * 16 + min m 15 : Nat) : Int)] ++ addedL l.length ++ l ++ ((far % 256 : Nat) : Int) :: ((far / 256 : Nat) : Int) :: (addedL m ++ rest)).getD (farAt l) 0 = ((far % 256 : Nat) : Int) := by
      rw [e0]
      exact getD_mid _ _ _
    have g1 : ([((min l.length 15 * 16 + min m 15 : Nat) : Int)] ++ addedL l.length ++ l ++ ((far % 256 : Nat) : Int) :: ((far / 256 : Nat) : Int) :: (addedL m ++ rest)).getD (farAt l + 1) 0 = ((far / 256 : Nat) : Int) := by
      rw [e1, show ([((min l.length 15 * 16 + min m 15 : Nat) : Int)] ++ addedL l.length ++ l ++ ((far % 256 : Nat) : Int) :: ((far / 256 : Nat) : Int) :: (addedL m ++ rest)) = ([((min l.length 15 * 16 + min m 15 : Nat) : Int)] ++ addedL l.length ++ l ++ [((far % 256 : Nat) : Int)]) ++ ((far / 256 : Nat) : Int) :: (addedL m ++ rest) by simp]
      exact getD_mid _ _ _
    rw [g0, g1, Int.toNat_natCast, Int.toNat_natCast]
    omega
  · rw [seq_form]
    simp [farAt]
    omega
/-- 3.1: a distance of nought, or ahead of the first byte. -/
theorem unpack_far (l rest : List Int) (far : Nat) (hl : l.length ≤ 1048576) (hfar : far < 65536) (h : far = 0 ∨ l.length < far) : unpackOf (seqL l far 0 ++ rest) 1048576 = ([], 3) := by
  obtain ⟨h1, h2, h3⟩ := seq_lits l rest far 0 1048576 ((seqL l far 0 ++ rest).length) hl hfar
  have hne : ¬ (seqL l far 0 ++ rest) = [] := by rw [seq_form]; simp
  unfold unpackOf
  rw [if_neg (by omega), if_neg hne]
  show unp (seqL l far 0 ++ rest) 1048576 _ 0 [] = _
  rw [h1]
  exact back_far _ _ _ _ _ _ (by omega) (by omega) (by rw [h2]; exact h)
end Go.Proofs.YtlljcdmblmkblaaGreat
namespace Go.Proofs.YtlljcdmblmkblaaGreat
open Go.RowKit

/-- Bytes told again, one by one. -/
def repL (far : Nat) : Nat → List Int → List Int
  | 0, out => out
  | k + 1, out => repL far k (out ++ [out.getD (out.length - far) 0])
theorem repL_len (far : Nat) : ∀ (k : Nat) (out : List Int), (repL far k out).length = out.length + k
  | 0, _ => rfl
  | k + 1, out => by
    show (repL far k _).length = _
    rw [repL_len far k]
    simp
    omega
theorem repL_snoc (far : Nat) : ∀ (k : Nat) (out : List Int), repL far (k + 1) out = repL far k out ++ [(repL far k out).getD ((repL far k out).length - far) 0]
  | 0, _ => rfl
  | k + 1, out => by
    show repL far (k + 1) (out ++ [out.getD (out.length - far) 0]) = _
    rw [repL_snoc far k]
    rfl
theorem reps_run (most far : Nat) : ∀ (k : Nat) (out : List Int), out.length + k ≤ most → reps most far k out = .ok 0 (repL far k out)
  | 0, _, _ => rfl
  | k + 1, out, h => by
    rw [reps_on _ _ _ _ (by omega), reps_run most far k _ (by simp; omega)]
    rfl
theorem reps_over (most far : Nat) : ∀ (k : Nat) (out : List Int), out.length ≤ most → most < out.length + k → reps most far k out = .bad 2
  | 0, _, h, h2 => by omega
  | k + 1, out, h, h2 => by
    by_cases he : most ≤ out.length
    · exact reps_long _ _ _ _ he
    · rw [reps_on _ _ _ _ he, reps_over most far k _ (by simp; omega) (by simp; omega)]
theorem lits_over (most : Nat) : ∀ (l A rest out : List Int), out.length ≤ most → most < out.length + l.length → lits (A ++ (l ++ rest)) most l.length A.length out = .bad 2
  | [], _, _, _, h, h2 => by simp at h2; omega
  | c :: l, A, rest, out, h, h2 => by
    show lits _ most (l.length + 1) _ _ = _
    rw [List.length_cons] at h2
    by_cases he : most ≤ out.length
    · exact lits_long _ _ _ _ _ (by simp) he
    · rw [lits_on _ _ _ _ _ (by simp) he, List.cons_append, getD_mid]
      have := lits_over most l (A ++ [c]) rest (out ++ [c]) (by simp; omega) (by simp; omega)
      rw [List.append_assoc, List.length_append] at this
      exact this
/-- The last sequence: bytes that stand as they are. -/
def lastL (t : List Int) : List Int := [((min t.length 15 * 16 : Nat) : Int)] ++ addedL t.length ++ t
theorem last_run (A t out : List Int) (most f : Nat) (h : out.length + t.length ≤ most) : unp (A ++ lastL t) most (f + 1) A.length out = (out ++ t, 0) := by
  have e : A ++ lastL t = A ++ ((min t.length 15 * 16 : Nat) : Int) :: (addedL t.length ++ t) := by simp [lastL]
  have e2 : A ++ lastL t = (A ++ [((min t.length 15 * 16 : Nat) : Int)]) ++ (addedL t.length ++ t) := by simp [lastL]
  have e3 : A ++ lastL t = (A ++ [((min t.length 15 * 16 : Nat) : Int)] ++ addedL t.length) ++ (t ++ []) := by simp [lastL]
  have hg : (A ++ lastL t).getD A.length 0 = ((min t.length 15 * 16 : Nat) : Int) := by rw [e]; exact getD_mid _ _ _
  have hq : A.length + 1 = (A ++ [((min t.length 15 * 16 : Nat) : Int)]).length := by simp
  have hl : lengthOf (A ++ lastL t) (A.length + 1) (min t.length 15) = (t.length, A.length + 1 + (addedL t.length).length, true) := by
    rw [hq, e2]
    exact lengthOf_added _ t t.length
  rw [unp_lits _ _ _ _ t.length (A.length + 1 + (addedL t.length).length) out (by rw [e]; simp) (by rw [hg, Int.toNat_natCast, show min t.length 15 * 16 / 16 = min t.length 15 by omega]; exact hl)]
  have hp : A.length + 1 + (addedL t.length).length = (A ++ [((min t.length 15 * 16 : Nat) : Int)] ++ addedL t.length).length := by simp; omega
  have hrun := lits_run most t (A ++ [((min t.length 15 * 16 : Nat) : Int)] ++ addedL t.length) [] out h
  rw [← e3, ← hp] at hrun
  rw [hrun, show A.length + 1 + (addedL t.length).length + t.length = (A ++ lastL t).length by rw [e3]; simp; omega]
  exact back_end _ _ _ _ _
theorem last_over (A t out : List Int) (most f : Nat) (h : out.length ≤ most) (h2 : most < out.length + t.length) : unp (A ++ lastL t) most (f + 1) A.length out = ([], 2) := by
  have e : A ++ lastL t = A ++ ((min t.length 15 * 16 : Nat) : Int) :: (addedL t.length ++ t) := by simp [lastL]
  have e2 : A ++ lastL t = (A ++ [((min t.length 15 * 16 : Nat) : Int)]) ++ (addedL t.length ++ t) := by simp [lastL]
  have e3 : A ++ lastL t = (A ++ [((min t.length 15 * 16 : Nat) : Int)] ++ addedL t.length) ++ (t ++ []) := by simp [lastL]
  have hg : (A ++ lastL t).getD A.length 0 = ((min t.length 15 * 16 : Nat) : Int) := by rw [e]; exact getD_mid _ _ _
  have hq : A.length + 1 = (A ++ [((min t.length 15 * 16 : Nat) : Int)]).length := by simp
  have hl : lengthOf (A ++ lastL t) (A.length + 1) (min t.length 15) = (t.length, A.length + 1 + (addedL t.length).length, true) := by
    rw [hq, e2]
    exact lengthOf_added _ t t.length
  rw [unp_lits _ _ _ _ t.length (A.length + 1 + (addedL t.length).length) out (by rw [e]; simp) (by rw [hg, Int.toNat_natCast, show min t.length 15 * 16 / 16 = min t.length 15 by omega]; exact hl)]
  have hp : A.length + 1 + (addedL t.length).length = (A ++ [((min t.length 15 * 16 : Nat) : Int)] ++ addedL t.length).length := by simp; omega
  have hrun := lits_over most t (A ++ [((min t.length 15 * 16 : Nat) : Int)] ++ addedL t.length) [] out h h2
  rw [← e3, ← hp] at hrun
  rw [hrun]
  rfl
/-- One sequence, its bytes told again, and the place behind it. -/
theorem seq_reps (l rest : List Int) (far m most f : Nat) (hl : l.length ≤ most) (h0 : 0 < far) (h1 : far ≤ l.length) (hfar : far < 65536) :
    unp (seqL l far m ++ rest) most (f + 1) 0 [] = unpReps (seqL l far m ++ rest) most (seqL l far m).length f (reps most far (m + 4) l) := by
  obtain ⟨g1, g2, g3⟩ := seq_lits l rest far m most f hl hfar
  have hlen : (seqL l far m).length = farAt l + 2 + (addedL m).length := by
    rw [List.length_append] at g3
    omega
  have hlo : lengthOf (seqL l far m ++ rest) (farAt l + 2) (min m 15) = (m, (seqL l far m).length, true) := by
    rw [seq_form]
    have e : ([((min l.length 15 * 16 + min m 15 : Nat) : Int)] ++ (addedL l.length ++ (l ++ (((far % 256 : Nat) : Int) :: ((far / 256 : Nat) : Int) :: (addedL m ++ rest))))) = ([((min l.length 15 * 16 + min m 15 : Nat) : Int)] ++ addedL l.length ++ l ++ [((far % 256 : Nat) : Int), ((far / 256 : Nat) : Int)]) ++ (addedL m ++ rest) := by simp
    have e2 : farAt l + 2 = ([((min l.length 15 * 16 + min m 15 : Nat) : Int)] ++ addedL l.length ++ l ++ [((far % 256 : Nat) : Int), ((far / 256 : Nat) : Int)]).length := by simp [farAt]; omega
    rw [hlen, e, e2]
    exact lengthOf_added _ rest m
  rw [g1]
  have := back_reps (seqL l far m ++ rest) most (min l.length 15 * 16 + min m 15) f (farAt l) m (seqL l far m).length l (by omega) (by omega) (by rw [g2]; omega) (by rw [show (min l.length 15 * 16 + min m 15) % 16 = min m 15 by omega]; exact hlo)
  rw [g2] at this
  exact this
/-- 3.1: unpacked as it was meant; with a byte of room less it is refused. -/
theorem hand_ok (l t : List Int) (far m K : Nat) (h0 : 0 < far) (h1 : far ≤ l.length) (hfar : far < 65536) (hK : K = l.length + (m + 4) + t.length) (hb : K ≤ 1048576) : unpackOf (seqL l far m ++ lastL t) K = (repL far (m + 4) l ++ t, 0) := by
  have hne : ¬ (seqL l far m ++ lastL t) = [] := by rw [seq_form]; simp
  obtain ⟨B, hB⟩ : ∃ B, (seqL l far m ++ lastL t).length = B + 1 := ⟨(seqL l far m ++ lastL t).length - 1, by rw [seq_form]; simp⟩
  unfold unpackOf
  rw [if_neg (by omega), if_neg hne, Int.toNat_natCast, seq_reps l (lastL t) far m K _ (by omega) h0 h1 hfar, reps_run K far (m + 4) l (by omega), hB]
  exact last_run (seqL l far m) t _ K B (by rw [repL_len]; omega)
theorem hand_over (l t : List Int) (far m K : Nat) (h0 : 0 < far) (h1 : far ≤ l.length) (hfar : far < 65536) (hK : K + 1 = l.length + (m + 4) + t.length) (hb : K ≤ 1048576) : unpackOf (seqL l far m ++ lastL t) K = ([], 2) := by
  have hne : ¬ (seqL l far m ++ lastL t) = [] := by rw [seq_form]; simp
  obtain ⟨B, hB⟩ : ∃ B, (seqL l far m ++ lastL t).length = B + 1 := ⟨(seqL l far m ++ lastL t).length - 1, by rw [seq_form]; simp⟩
  unfold unpackOf
  rw [if_neg (by omega), if_neg hne, Int.toNat_natCast, seq_reps l (lastL t) far m K _ (by omega) h0 h1 hfar]
  by_cases ht : t.length = 0
  · rw [reps_over K far (m + 4) l (by omega) (by omega)]
    rfl
  · rw [reps_run K far (m + 4) l (by omega), hB]
    exact last_over (seqL l far m) t _ K B (by rw [repL_len]; omega) (by rw [repL_len]; omega)
end Go.Proofs.YtlljcdmblmkblaaGreat
namespace Go.Proofs.YtlljcdmblmkblaaGreat
open Go.RowKit

/-- The struct lies at block U: what is left, what has been told, how much there may be; the block behind it points to it. -/
def Rec (w : World) (U : Nat) (r o : Value) (most : Nat) : Prop :=
  w.heap[U]? = some (.cells #[r, o, .int .i64 most] 119 (0, 0)) ∧ w.heap[U + 1]? = some (.cells #[.pointer (some ⟨U, 0, none⟩)] 151 (0, 0))
theorem Rec.c0 {w : World} {U : Nat} {r o : Value} {most : Nat} (h : Rec w U r o most) : w.cell? ⟨U, 0, none⟩ = some r := by rw [cell_of_row w U 0 _ _ _ h.1]; rfl
theorem Rec.c1 {w : World} {U : Nat} {r o : Value} {most : Nat} (h : Rec w U r o most) : w.cell? ⟨U, 1, none⟩ = some o := by rw [cell_of_row w U 1 _ _ _ h.1]; rfl
theorem Rec.c2 {w : World} {U : Nat} {r o : Value} {most : Nat} (h : Rec w U r o most) : w.cell? ⟨U, 2, none⟩ = some (.int .i64 most) := by rw [cell_of_row w U 2 _ _ _ h.1]; rfl
theorem Rec.cp {w : World} {U : Nat} {r o : Value} {most : Nat} (h : Rec w U r o most) : w.cell? ⟨U + 1, 0, none⟩ = some (.pointer (some ⟨U, 0, none⟩)) := by rw [cell_of_row w (U + 1) 0 _ _ _ h.2]; rfl
theorem Rec.free {w : World} {U : Nat} {r o : Value} {most : Nat} (h : Rec w U r o most) (i : Nat) : w.frozen? ⟨U, i, none⟩ = false := by
  unfold World.frozen?
  rw [h.1]
  simp
theorem Rec.lt {w : World} {U : Nat} {r o : Value} {most : Nat} (h : Rec w U r o most) : U + 1 < w.heap.size := lt_of_block h.2
theorem Rec.drew {w : World} {U : Nat} {r o : Value} {most : Nat} (h : Rec w U r o most) : Rec w.drew U r o most := h
theorem Rec.set0 {w : World} {U : Nat} {r o : Value} {most : Nat} (h : Rec w U r o most) (r' : Value) : Rec (w.setCell ⟨U, 0, none⟩ r') U r' o most := by
  refine ⟨?_, ?_⟩
  · simp only [World.setCell, Array.getElem?_modify]
    rw [if_pos trivial, h.1]
    rfl
  · rw [Below.heap_setCell _ _ _ _ (by show U + 1 ≠ U; omega)]
    exact h.2
theorem Rec.set1 {w : World} {U : Nat} {r o : Value} {most : Nat} (h : Rec w U r o most) (o' : Value) : Rec (w.setCell ⟨U, 1, none⟩ o') U r o' most := by
  refine ⟨?_, ?_⟩
  · simp only [World.setCell, Array.getElem?_modify]
    rw [if_pos trivial, h.1]
    rfl
  · rw [Below.heap_setCell _ _ _ _ (by show U + 1 ≠ U; omega)]
    exact h.2
theorem Rec.grown {w w' : World} {U : Nat} {r o : Value} {most : Nat} (h : Rec w U r o most) {row : Option Nat} (hg : w.grownBy w' row) (hr : ∀ k, row = some k → U + 2 ≤ k) : Rec w' U r o most := by
  have hl := h.lt
  exact ⟨(hg.block U (by omega) (fun e => by have := hr U e.symm; omega)).trans h.1, (hg.block (U + 1) hl (fun e => by have := hr (U + 1) e.symm; omega)).trans h.2⟩

/-- The state: the data l from place p on are left, 'out' has been told. -/
def Un (w0 : World) (l : List Int) (most p : Nat) (out : List Int) (w : World) : Prop :=
  ∃ (ar : Option Addr) (nr cr : Nat) (ao : Option Addr) (no co : Nat), Rec w w0.heap.size (.slice ar nr cr) (.slice ao no co) most ∧ Bytes w0 ar nr (l.drop p) ∧ nr ≤ cr ∧ (ar = none → cr = 0) ∧ p ≤ l.length ∧ Own w (w0.heap.size + 2) (.slice ao no co) no out ∧ no ≤ most ∧ Below w0.heap.size w0 w
theorem Un.drew {w0 : World} {l : List Int} {most p : Nat} {out : List Int} {w : World} (h : Un w0 l most p out w) : Un w0 l most p out w.drew := by
  obtain ⟨ar, nr, cr, ao, no, co, h1, h2, h3, h4, h5, h6, h7, h8⟩ := h
  exact ⟨ar, nr, cr, ao, no, co, h1.drew, h2, h3, h4, h5, h6.drew, h7, h8.drew⟩
theorem below_drewN {B : Nat} {a w : World} (h : Below B a w) (k : Nat) : Below B a (w.drewN k) := ⟨h.os, h.tape, h.output, h.size, h.block⟩
theorem Un.drewN {w0 : World} {l : List Int} {most p : Nat} {out : List Int} {w : World} (h : Un w0 l most p out w) (k : Nat) : Un w0 l most p out (w.drewN k) := by
  obtain ⟨ar, nr, cr, ao, no, co, h1, h2, h3, h4, h5, h6, h7, h8⟩ := h
  exact ⟨ar, nr, cr, ao, no, co, h1, h2, h3, h4, h5, h6, h7, below_drewN h8 k⟩
theorem Un.below {w0 : World} {l : List Int} {most p : Nat} {out : List Int} {w : World} (h : Un w0 l most p out w) : Below w0.heap.size w0 w := by
  obtain ⟨ar, nr, cr, ao, no, co, h1, h2, h3, h4, h5, h6, h7, h8⟩ := h
  exact h8

theorem room_any (w0 : World) (l : List Int) (most p : Nat) (out : List Int) (w : World) (h : Un w0 l most p out w) (hm : most ≤ 1048576) :
    Calls Tryz.prog 120 #[.pointer (some ⟨w0.heap.size, 0, none⟩)] w fun e w' => e = .returned (.int .i64 ((most - out.length : Nat) : Int)) ∧ w' = w.drew := by
  obtain ⟨ar, nr, cr, ao, no, co, h1, h2, h3, h4, h5, h6, h7, h8⟩ := h
  have c1 := h1.c1
  have c2 := h1.c2
  have hl := h6.len
  obtain ⟨U, hU⟩ := named w0.heap.size
  rw [hU.out] at c1 c2 ⊢
  have HX : Hid ((most : Int) - (no : Int) = ((most - out.length : Nat) : Int)) := by rw [Hid, hl]; omega
  clear h1 h2 h3 h4 h5 h6 h8
  go_enter Tryz.func120, Tryz.ntmps120
  go_wp2
  go_region
  all_goals go_wp2
  all_goals go_ret
  all_goals exact ⟨ret_int HX.out, rfl⟩

/-- 'append(own, x...)' at a step of a region that draws its order. -/
theorem run_append_bytes {w : World} (ty : TypeId) (base : Nat) (v : Value) (n : Nat) (xs : List Int) (hown : Own w base v n xs) (ao : Option Addr) (m c : Nat) (l : List Int) (hnil : ao = none → c = 0) (hB : Bytes w ao m l) (hn : n + m ≤ 100000000) (hbase : base ≤ w.heap.size) :
    ∃ a' c' w', (Builtin.append_ #[25, 25] ty #[v, .slice ao m c]).run Tryz.prog w = .ok (.slice a' (n + m) c') w' ∧ Own w' base (.slice a' (n + m) c') (n + m) (xs ++ l) ∧ w.grownBy w' v.ownBlock := by
  obtain ⟨i0, hi, hz0, hz1, hz2⟩ := info_parts info5
  have hsm : Small (xs ++ l) := hown.2.append hB.small (by rw [hown.len, hB.1]; omega)
  cases ao with
  | some ad =>
    have hcells : ∀ j u, (l.map (Value.int .u8))[j]? = some u → w.cell? (ad.add j) = some u := by
      intro j u hu
      rw [List.getElem?_map] at hu
      rcases hB.2.2 with h0 | ⟨b, off, ha, _, hc⟩
      · obtain rfl : l = [] := List.eq_nil_of_length_eq_zero (by rw [hB.1]; exact h0)
        simp at hu
      · cases ha
        by_cases hj : j < l.length
        · rw [List.getElem?_eq_getElem hj] at hu
          have := hc j hj
          rw [List.getD_eq_getElem?_getD, List.getElem?_eq_getElem hj] at this
          rw [add_none, this]
          simpa using hu
        · rw [List.getElem?_eq_none (by omega)] at hu
          cases hu
    obtain ⟨v', w', hr, h1, h2, _⟩ := run_append_own w base 25 ty 5 i0 (.int .u8 0) 1 1 Tryz.underlying25 hi hz0 hz1 hz2 rfl (by decide) v n (xs.map (Value.int .u8)) hown.1 ad m c (l.map (Value.int .u8)) (by rw [List.length_map, hB.1]; omega) hcells
      (fun u hu => by obtain ⟨q, _, rfl⟩ := List.mem_map.1 hu; rfl) (by unfold maxLen; omega) (by omega) hbase
    rw [← List.map_append] at h1
    obtain ⟨a', c', rfl, _, _⟩ := Own.shape ⟨h1, hsm⟩
    exact ⟨a', c', w', hr, ⟨h1, hsm⟩, h2⟩
  | none =>
    obtain rfl := hnil rfl
    have hm : m = 0 := by
      rcases hB.2.2 with h0 | ⟨b, off, ha, _, _⟩
      · exact h0
      · cases ha
    subst hm
    obtain rfl : l = [] := List.eq_nil_of_length_eq_zero hB.1
    have hrun := run_append_owned_none (P := Tryz.prog) (w := w) base 25 ty 5 i0 1 Tryz.underlying25 hi v n (xs.map (Value.int .u8)) hown.1
    obtain ⟨a', c', e, _, _⟩ := Own.shape hown
    subst e
    exact ⟨a', c', w, hrun, by rw [List.append_nil]; exact hown, ⟨rfl, rfl, rfl, Nat.le_refl _, fun _ _ _ => rfl⟩⟩
theorem step_append_bytes {ops : Array Oper} {o : Oper} {a : Act} {w : World} {K : Act → World → Prop} {Q : Exit → Act → World → Prop} {E : Prop} (hgd : o.guard = none) (s x : Operand)
    (ho : o.op = .call { callee := .builtin .append, args := #[s, x], argTypes := #[25, 25] })
    (base : Nat) (v : Value) (n : Nat) (xs : List Int) (hs : a.eval s = v) (hown : Own w base v n xs) (ao : Option Addr) (m c : Nat) (l : List Int) (hx : a.eval x = .slice ao m c) (hnil : ao = none → c = 0) (hB : Bytes w ao m l) (hn : n + m ≤ 100000000) (hbase : base ≤ w.heap.size)
    (h : ∀ a' c' w', Own w' base (.slice a' (n + m) c') (n + m) (xs ++ l) → w.grownBy w' v.ownBlock → K (a.put o.dst (.slice a' (n + m) c')) w') :
    if Region.wanted o (yielded ops a.tmps) = true then Oper.wp Tryz.prog o a w K Q else E := by
  have hw : Region.wanted o (yielded ops a.tmps) = true := by simp [Region.wanted, hgd]
  rw [if_pos hw]
  obtain ⟨a', c', w', hr, h2, h3⟩ := run_append_bytes o.type base v n xs hown ao m c l hnil hB hn hbase
  unfold Oper.wp execOp
  simp only [ho, resolve, invoke, builtin, Sem.run_bind, Sem.run_pure, Result.andThen_ok, List.map_toArray, List.map_cons, List.map_nil, hs, hx, hr]
  exact h a' c' w' h2 h3

/-- What the bytes that stand as they are come to, all at once. -/
theorem lits_all (b : List Int) (most : Nat) : ∀ (k p : Nat) (out : List Int), out.length ≤ most → p ≤ b.length →
    lits b most k p out = if most - out.length < min k (b.length - p) then .bad 2 else if b.length - p < k then .bad 3 else .ok (p + k) (out ++ (b.drop p).take k)
  | 0, p, out, h, hp => by
    rw [lits_done, if_neg (by omega), if_neg (by omega), List.take_zero, List.append_nil]
    rfl
  | k + 1, p, out, h, hp => by
    by_cases h1 : b.length ≤ p
    · rw [lits_form _ _ _ _ _ h1, if_neg (by omega), if_pos (by omega)]
    · by_cases h2 : most ≤ out.length
      · rw [lits_long _ _ _ _ _ h1 h2, if_pos (by omega)]
      · rw [lits_on _ _ _ _ _ h1 h2, lits_all b most k (p + 1) _ (by simp; omega) (by omega)]
        have e1 : most - (out ++ [b.getD p 0]).length = most - out.length - 1 := by simp; omega
        rw [e1]
        by_cases h3 : most - out.length < min (k + 1) (b.length - p)
        · rw [if_pos h3, if_pos (by omega)]
        · rw [if_neg h3, if_neg (by omega)]
          by_cases h4 : b.length - p < k + 1
          · rw [if_pos h4, if_pos (by omega)]
          · rw [if_neg h4, if_neg (by omega), show p + 1 + k = p + (k + 1) by omega, List.append_assoc]
            congr 2
            rw [List.drop_eq_getElem_cons (by omega : p < b.length), List.take_succ_cons, List.getD_eq_getElem?_getD, List.getElem?_eq_getElem (by omega)]
            rfl
end Go.Proofs.YtlljcdmblmkblaaGreat
namespace Go.Proofs.YtlljcdmblmkblaaGreat
open Go.RowKit

/-- 's[i:]'. -/
theorem slice_back {w : World} {a : Option Addr} {len cap : Nat} {l : List Int} (h : Bytes w a len l) (hcap : len ≤ cap) (hnil : a = none → cap = 0) (i : Nat) (hi : i ≤ len) :
    ∃ (a' : Option Addr) (c' : Nat), (∀ w' : World, (Instr.slice 25 (.slice a len cap) (some (.int .i64 i)) none none).run Tryz.prog w' = .ok (.slice a' (len - i) c') w') ∧ Bytes w a' (len - i) (l.drop i) ∧ (a' = none → c' = 0) ∧ len - i ≤ c' := by
  obtain ⟨i0, hi0, _, hz1, _⟩ := info_parts info5
  obtain ⟨h1, h2, h3⟩ := h
  have hsm : Small (l.drop i) := ⟨by rw [List.length_drop]; have := h2.1; omega, fun c hc => h2.2 c (List.mem_of_mem_drop hc)⟩
  have hln : (l.drop i).length = len - i := by rw [List.length_drop]; omega
  refine ⟨if cap = i then a else a.map (·.add (i * 1)), cap - i, fun w' => ?_, ⟨hln, hsm, ?_⟩, ?_, by omega⟩
  · simp [Instr.slice, Instr.sliceBounds, Instr.sliceBound, asIntOf, run_underlying Tryz.underlying25, sizeOf, typeInfo, hi0, hz1, hi, go_sem]
  · by_cases hz : len - i = 0
    · exact Or.inl hz
    · obtain ⟨b, off, rfl, hlt, hc⟩ := h3.resolve_left (by omega)
      refine Or.inr ⟨b, off + i, ?_, hlt, fun j hj => ?_⟩
      · rw [if_neg (by omega)]
        simp [Addr.add]
      · rw [hln] at hj
        have := hc (i + j) (by omega)
        rw [Nat.add_assoc, this, List.getD_eq_getElem?_getD, List.getD_eq_getElem?_getD, List.getElem?_drop]
  · intro e
    by_cases hz : cap = i
    · omega
    · rw [if_neg hz] at e
      have : a = none := by cases a <;> simp_all
      have := hnil this
      omega
/-- A slice that came in reads on in the work's world. -/
theorem Bytes.old {w0 w : World} {a : Option Addr} {len : Nat} {l : List Int} (h : Bytes w0 a len l) (hb : Below w0.heap.size w0 w) : Bytes w a len l := h.later hb
theorem own_block {w : World} {base : Nat} {v : Value} {n : Nat} {xs : List Int} (h : Own w base v n xs) : ∀ k, v.ownBlock = some k → base ≤ k := fun k hk => (h.1.lt k hk).1
theorem own_set {w : World} {base : Nat} {v : Value} {n : Nat} {xs : List Int} (h : Own w base v n xs) {a : Addr} (ha : a.block < base) (u : Value) : Own (w.setCell a u) base v n xs := ⟨ownsRow_setCell_below h.1 ha u, h.2⟩

set_option maxHeartbeats 1600000 in
theorem literals_bad (w0 : World) (l : List Int) (most p n : Nat) (out : List Int) (w : World) (h : Un w0 l most p out w) (hm : most ≤ 1048576) (E : Int)
    (hE : (most - out.length < min n (l.length - p) ∧ E = 2) ∨ (¬ most - out.length < min n (l.length - p) ∧ l.length - p < n ∧ E = 3)) :
    Calls Tryz.prog 98 #[.pointer (some ⟨w0.heap.size, 0, none⟩), .int .i64 n] w fun e w' => e = .returned (.int .i64 E) ∧ Below w0.heap.size w0 w' := by
  have HM : Hid (∀ w', w' = w → Calls Tryz.prog 120 #[.pointer (some ⟨w0.heap.size, 0, none⟩)] w' fun e w' => e = .returned (.int .i64 ((most - out.length : Nat) : Int)) ∧ w' = w.drew) := fun w' e => e ▸ room_any w0 l most p out w h hm
  obtain ⟨ar, nr, cr, ao, no, co, h1, h2, h3, h4, h5, h6, h7, h8⟩ := h
  have c0 := h1.c0
  have HN : Hid (nr = l.length - p) := by rw [Hid, ← h2.1, List.length_drop]
  have HB := Lib.hid h8
  have hl := h6.len
  obtain ⟨R, HR⟩ := named (most - out.length)
  rw [HR.out, ← HN.out] at hE
  rw [HR.out] at HM
  clear h1 h2 h4 h6 h8
  obtain ⟨U, hU⟩ := named w0.heap.size
  rw [hU.out] at c0 HM HB ⊢
  have hR : R ≤ 1048576 := by have := HR.out; omega
  rcases (by omega : nr < n ∨ n ≤ nr) with k | k
  · rcases hE with ⟨k2, rfl⟩ | ⟨k2, k3, rfl⟩
    · have k4 : R < nr := by omega
      clear k2
      go_enter Tryz.func98, Tryz.ntmps98
      go_wp2_with (go_at_call 120; refine (HM.out _ rfl).mono ?_; rintro e w' ⟨rfl, rfl⟩)
      go_ret
      exact ⟨rfl, HB.out.drew⟩
    · have k4 : nr ≤ R := by omega
      clear k2
      go_enter Tryz.func98, Tryz.ntmps98
      go_wp2_with (go_at_call 120; refine (HM.out _ rfl).mono ?_; rintro e w' ⟨rfl, rfl⟩)
      go_ret
      exact ⟨rfl, HB.out.drew⟩
  · rcases hE with ⟨k2, rfl⟩ | ⟨k2, k3, rfl⟩
    · have k4 : R < n := by omega
      clear k2
      go_enter Tryz.func98, Tryz.ntmps98
      go_wp2_with (go_at_call 120; refine (HM.out _ rfl).mono ?_; rintro e w' ⟨rfl, rfl⟩)
      go_ret
      exact ⟨rfl, HB.out.drew⟩
    · omega

set_option maxRecDepth 100000 in
set_option maxHeartbeats 3200000 in
theorem literals_ok (w0 : World) (l : List Int) (most p n : Nat) (out : List Int) (w : World) (h : Un w0 l most p out w) (hm : most ≤ 1048576) (hn : n ≤ most - out.length) (hn2 : n ≤ l.length - p) :
    Calls Tryz.prog 98 #[.pointer (some ⟨w0.heap.size, 0, none⟩), .int .i64 n] w fun e w' => e = .returned (.int .i64 0) ∧ Un w0 l most (p + n) (out ++ (l.drop p).take n) w' := by
  have HM : Hid (∀ w', w' = w → Calls Tryz.prog 120 #[.pointer (some ⟨w0.heap.size, 0, none⟩)] w' fun e w' => e = .returned (.int .i64 ((most - out.length : Nat) : Int)) ∧ w' = w.drew) := fun w' e => e ▸ room_any w0 l most p out w h hm
  obtain ⟨ar, nr, cr, ao, no, co, h1, h2, h3, h4, h5, h6, h7, h8⟩ := h
  have c0 := h1.c0
  have c1 := h1.c1
  have f0 := h1.free 0
  have f1 := h1.free 1
  have HN : Hid (nr = l.length - p) := by rw [Hid, ← h2.1, List.length_drop]
  have HB := Lib.hid h8
  have HL := Lib.hid h6.len
  have HR := Lib.hid h1
  have HO := Lib.hid h6
  have hnr : n ≤ nr := by rw [HN.out]; exact hn2
  obtain ⟨a1, S1, B1, N1⟩ := slice_front h2 h3 h4 n hnr
  obtain ⟨a2, c2, S2, B2, N2, C2⟩ := slice_back h2 h3 h4 n hnr
  have HB1 := Lib.hid B1
  have HB2 := Lib.hid B2
  have HN1 := Lib.hid N1
  have HN2 := Lib.hid N2
  have HC2 := Lib.hid C2
  have hno : no + n ≤ most := by have := HL.out; omega
  obtain ⟨R, HRR⟩ := named (most - out.length)
  rw [HRR.out] at hn HM
  obtain ⟨O, HOO⟩ := named (out ++ (l.drop p).take n)
  rw [HOO.out]
  have hR : R ≤ 1048576 := by have := HRR.out; omega
  have hn3 : n ≤ 1048576 := by omega
  have HP : Hid (p + n ≤ l.length) := by rw [Hid]; omega
  have hsz := h1.lt
  clear h1 h2 h4 h5 h6 h8 hn2 B1 B2 N1 N2 C2
  obtain ⟨U, hU⟩ := named w0.heap.size
  have HU := Lib.hid hU.out
  have HD : Hid ((l.drop p).drop n = l.drop (p + n)) := by rw [Hid, List.drop_drop]
  rw [hU.out] at c0 c1 f0 f1 HM hsz HO HR ⊢
  go_enter Tryz.func98, Tryz.ntmps98
  go_wp2_with (go_at_call 120; refine (HM.out _ rfl).mono ?_; rintro e w' ⟨rfl, rfl⟩)
  go_region_law (refine step_append_bytes (by rfl) _ _ (by rfl) (U + 2) (.slice ao no co) no out (by rfl) HO.out.drew.drew a1 n cr _ (by rfl) HN1.out ((HB1.out.old (HB.out)).drew.drew) (by omega) (by simp; omega) ?_; intro a4 c4 w4 g1 g2; have HO4 := Lib.hid g1; have HG4 := Lib.hid g2; have HR3 := Lib.hid (HR.out.drew.drew.grown g2 (own_block HO.out)); have f14 := HR3.out.free 1; have c14 := HR3.out.c1; clear g1 g2)
  all_goals
    have HB4 : Hid (Below w0.heap.size w0 w4) := by
      have hle : w0.heap.size ≤ w.heap.size := by have := HU.out; omega
      exact HB.out.drew.drew.grown HG4.out hle (fun k hk => by have := own_block HO.out k hk; have := HU.out; omega)
    have HR5 := Lib.hid (HR3.out.set1 (.slice a4 (no + n) c4))
    have f05 := HR5.out.free 0
    have c05 := HR5.out.c0
    go_wp2
    go_ret
    refine ⟨rfl, a2, nr - n, c2, a4, no + n, c4, ?_, ?_, HC2.out, HN2.out, HP.out, ?_, hno, ?_⟩
    · rw [HU.out]; exact HR5.out.set0 _
    · have := HB2.out
      rw [HD.out] at this
      exact this
    · rw [HU.out, ← HOO.out]; exact own_set (own_set HO4.out (by show U < U + 2; omega) _) (by show U < U + 2; omega) _
    · exact (HB4.out.setCell (by have := HU.out; show w0.heap.size ≤ U; omega) _).setCell (by have := HU.out; show w0.heap.size ≤ U; omega) _

/-! The two bytes of a distance. -/
set_option maxHeartbeats 800000 in
theorem distance_cut (w0 : World) (l : List Int) (most p : Nat) (out : List Int) (w : World) (h : Un w0 l most p out w) (hp : l.length - p < 2) :
    Calls Tryz.prog 99 #[.pointer (some ⟨w0.heap.size, 0, none⟩)] w fun e w' => e = .returned (.tuple #[.int .i64 0, .bool false]) ∧ w' = w := by
  obtain ⟨ar, nr, cr, ao, no, co, h1, h2, h3, h4, h5, h6, h7, h8⟩ := h
  have c0 := h1.c0
  have hN : nr < 2 := by rw [← h2.1, List.length_drop]; exact hp
  clear h1 h2 h4 h6 h8
  go_enter Tryz.func99, Tryz.ntmps99
  go_wp2
  go_ret2
  exact ⟨rfl, rfl⟩

theorem far_of2 (l : List Int) (p : Nat) (c6 c7 : Int) (h6 : l.getD p 0 = c6) (h7 : l.getD (p + 1) 0 = c7) (b6 : 0 ≤ c6 ∧ c6 < 256) (b7 : 0 ≤ c7 ∧ c7 < 256) : ∃ F : Nat, bits .or .i64 c6 (c7 * 256) = (F : Int) ∧ farOf l p = F ∧ F ≤ 65535 :=
  ⟨_, far_of c6 c7 b6 b7, by rw [farOf, h6, h7], by omega⟩
theorem drop_at (l : List Int) (p i : Nat) : (l.drop p).getD i 0 = l.getD (p + i) 0 := by
  rw [List.getD_eq_getElem?_getD, List.getD_eq_getElem?_getD, List.getElem?_drop]

set_option maxRecDepth 100000 in
set_option maxHeartbeats 3200000 in
theorem distance_any (w0 : World) (l : List Int) (most p : Nat) (out : List Int) (w : World) (h : Un w0 l most p out w) (hp : ¬ l.length - p < 2) :
    Calls Tryz.prog 99 #[.pointer (some ⟨w0.heap.size, 0, none⟩)] w fun e w' => e = .returned (.tuple #[.int .i64 (farOf l p : Nat), .bool (decide (¬ (farOf l p = 0 ∨ out.length < farOf l p)))]) ∧ Un w0 l most (p + 2) out w' := by
  obtain ⟨ar, nr, cr, ao, no, co, h1, h2, h3, h4, h5, h6, h7, h8⟩ := h
  have c0 := h1.c0
  have c1 := h1.c1
  have f0 := h1.free 0
  have HN : Hid (nr = l.length - p) := by rw [Hid, ← h2.1, List.length_drop]
  have hnr : 2 ≤ nr := by rw [HN.out]; omega
  obtain ⟨a2, c2, S2, B2, N2, C2⟩ := slice_back h2 h3 h4 2 hnr
  have HB2 := Lib.hid B2
  have HN2 := Lib.hid N2
  have HC2 := Lib.hid C2
  obtain ⟨bb, off, rfl⟩ := h2.lies (by omega)
  have S3 : ∀ w' : World, (Instr.slice 25 (.slice (some ⟨bb, off, none⟩) nr cr) (some (.int .i64 2)) none none).run Tryz.prog w' = .ok (.slice a2 (nr - 2) c2) w' := S2
  clear S2
  have d6 := (h2.old h8).cellAt 0 (by omega)
  have d7 := (h2.old h8).cellAt 1 (by omega)
  have b6 := h2.small.at (k := 0) (by rw [h2.1]; omega)
  have b7 := h2.small.at (k := 1) (by rw [h2.1]; omega)
  rw [drop_at] at d6 d7 b6 b7
  obtain ⟨c6, HC6⟩ := named (l.getD (p + 0) 0)
  obtain ⟨c7, HC7⟩ := named (l.getD (p + 1) 0)
  rw [HC6.out] at d6 b6
  rw [HC7.out] at d7 b7
  obtain ⟨F, hfar, hF, hF2⟩ := far_of2 l p c6 c7 HC6.out HC7.out b6 b7
  rw [Nat.add_zero] at d6
  have b60 := b6.1
  have b61 := b6.2
  have b70 := b7.1
  have b71 := b7.2
  rw [hF, h6.len]
  have HB := Lib.hid h8
  have HL := Lib.hid h6.len
  have HR := Lib.hid h1
  have HO := Lib.hid h6
  have HP : Hid (p + 2 ≤ l.length) := by rw [Hid]; omega
  have HD : Hid ((l.drop p).drop 2 = l.drop (p + 2)) := by rw [Hid, List.drop_drop]
  clear h1 h2 h4 h5 h6 h8 B2 N2 C2 b6 b7 hF
  obtain ⟨U, hU⟩ := named w0.heap.size
  have HU := Lib.hid hU.out
  rw [hU.out] at c0 c1 f0 HR HO ⊢
  have HE : Hid (∀ W : World, Rec W U (.slice (some ⟨bb, off, none⟩) nr cr) (.slice ao no co) most → Own W (U + 2) (.slice ao no co) no out → Below w0.heap.size w0 W → Un w0 l most (p + 2) out (W.setCell ⟨U, 0, none⟩ (.slice a2 (nr - 2) c2))) := fun W g1 g2 g3 => by
    refine ⟨a2, nr - 2, c2, ao, no, co, ?_, ?_, HC2.out, HN2.out, HP.out, ?_, h7, ?_⟩
    · rw [HU.out]; exact g1.set0 _
    · have := HB2.out
      rw [HD.out] at this
      exact this
    · rw [HU.out]; exact own_set g2 (by show U < U + 2; omega) _
    · exact g3.setCell (by have := HU.out; show w0.heap.size ≤ U; omega) _
  go_enter Tryz.func99, Tryz.ntmps99
  rcases (by omega : F = 0 ∨ 0 < F) with k | k
  · have hz : decide ((0 : Int) < (F : Int)) = false := by simp [k]
    have hz2 : decide (0 < F) = false := by simp [k]
    have HV : Hid (decide (¬ (F = 0 ∨ no < F)) = false) := by rw [Hid]; simp [k]
    clear k
    go_wp2_with fail
    go_quiet (fail)
    go_wp2_with fail
    go_quiet (fail)
    go_wp2
    go_ret2
    rw [HV.out]
    exact ⟨rfl, (HE.out (w.drewN _) HR.out HO.out (below_drewN HB.out _)).drewN _⟩
  · have hz : (0 : Int) < (F : Int) := by omega
    have HV : Hid (decide (¬ (F = 0 ∨ no < F)) = decide (F ≤ no)) := by
      rw [Hid, decide_eq_decide]
      omega
    go_wp2_with fail
    go_quiet (fail)
    go_wp2_with fail
    go_quiet (fail)
    go_wp2
    go_ret2
    rw [HV.out]
    exact ⟨rfl, (HE.out (w.drewN _) HR.out HO.out (below_drewN HB.out _)).drewN _⟩
end Go.Proofs.YtlljcdmblmkblaaGreat
namespace Go.Proofs.YtlljcdmblmkblaaGreat
open Go.RowKit

set_option maxHeartbeats 1600000 in
theorem copies_bad (w0 : World) (l : List Int) (most p n : Nat) (F : Int) (out : List Int) (w : World) (h : Un w0 l most p out w) (hm : most ≤ 1048576) (hn : most < out.length + n) :
    Calls Tryz.prog 100 #[.pointer (some ⟨w0.heap.size, 0, none⟩), .int .i64 F, .int .i64 n] w fun e w' => e = .returned (.int .i64 2) ∧ Below w0.heap.size w0 w' := by
  have HM : Hid (∀ w', w' = w → Calls Tryz.prog 120 #[.pointer (some ⟨w0.heap.size, 0, none⟩)] w' fun e w' => e = .returned (.int .i64 ((most - out.length : Nat) : Int)) ∧ w' = w.drew) := fun w' e => e ▸ room_any w0 l most p out w h hm
  have HB := Lib.hid h.below
  have hn2 : most - out.length < n := by
    obtain ⟨ar, nr, cr, ao, no, co, h1, h2, h3, h4, h5, h6, h7, h8⟩ := h
    have := h6.len
    omega
  obtain ⟨R, HR⟩ := named (most - out.length)
  rw [HR.out] at HM hn2
  have hR : R ≤ 1048576 := by have := HR.out; omega
  clear h hn
  obtain ⟨U, hU⟩ := named w0.heap.size
  rw [hU.out] at HM HB ⊢
  go_enter Tryz.func100, Tryz.ntmps100
  go_wp2_with (go_at_call 120; refine (HM.out _ rfl).mono ?_; rintro e w' ⟨rfl, rfl⟩)
  go_ret
  exact ⟨rfl, HB.out.drew⟩

set_option maxRecDepth 100000 in
set_option maxHeartbeats 3200000 in
theorem copies_ok (w0 : World) (l : List Int) (most p n F : Nat) (out : List Int) (w : World) (h : Un w0 l most p out w) (hm : most ≤ 1048576) (hn : out.length + n ≤ most) (hF : 0 < F) (hF2 : F ≤ out.length) :
    Calls Tryz.prog 100 #[.pointer (some ⟨w0.heap.size, 0, none⟩), .int .i64 F, .int .i64 n] w fun e w' => e = .returned (.int .i64 0) ∧ Un w0 l most p (repL F n out) w' := by
  have HM : Hid (∀ w', w' = w → Calls Tryz.prog 120 #[.pointer (some ⟨w0.heap.size, 0, none⟩)] w' fun e w' => e = .returned (.int .i64 ((most - out.length : Nat) : Int)) ∧ w' = w.drew) := fun w' e => e ▸ room_any w0 l most p out w h hm
  have HUN := Lib.hid h
  have hn2 : n ≤ most - out.length := by omega
  obtain ⟨R, HR⟩ := named (most - out.length)
  rw [HR.out] at HM hn2
  have hR : R ≤ 1048576 := by have := HR.out; omega
  have hz1 : decide ((R : Int) < (n : Int)) = false := by simp; omega
  have hz2 : decide (R < n) = false := by simp; omega
  obtain ⟨N0, HN0⟩ := named out.length
  rw [HN0.out] at hn hF2
  clear h
  obtain ⟨U, hU⟩ := named w0.heap.size
  have HU := Lib.hid hU.out
  rw [hU.out] at HM ⊢
  go_enter Tryz.func100, Tryz.ntmps100
  go_wp2_with (go_at_call 120; refine (HM.out _ rfl).mono ?_; rintro e w' ⟨rfl, rfl⟩)
  go_loopw [12] (fun i wr => ∃ k : Nat, k ≤ n ∧ i = .int .i64 k ∧ Hid (Un w0 l most p (repL F k out) wr)) (fun i _ => n - (intOf i).toNat)
  case atStart => exact ⟨0, Nat.zero_le _, rfl, HUN.out.drew⟩
  case round =>
    obtain ⟨k, hk, rfl, HUk⟩ := hrel
    clear HUN HM
    by_cases hlt : k < n
    · obtain ⟨ar, nr, cr, ao, no, co, h1, h2, h3, h4, h5, h6, h7, h8⟩ := HUk.out
      have hl := h6.len
      rw [repL_len, HN0.out] at hl
      have HLN := Lib.hid hl
      have hF3 : F ≤ no := by omega
      have hno : no + 1 ≤ 1048577 := by omega
      have hno2 : no + 1 ≤ most := by omega
      have hno0 : 0 < no := by omega
      clear hl
      obtain ⟨g, rfl, hgb, hgs⟩ := h6.lies (by omega)
      rw [HU.out] at h1 hgb
      have c1 := h1.c1
      have f1 := h1.free 1
      obtain ⟨K, hK, hK2⟩ : ∃ K : Nat, (no : Int) - (F : Int) = (K : Int) ∧ Hid (K = no - F) := ⟨no - F, by omega, rfl⟩
      have hK3 : K < no := by have := hK2.out; omega
      have hwK : IntKind.i64.wrap (K : Int) = (K : Int) := by rw [IntKind.wrap_i64]; omega
      have hK4 : (0 : Int) ≤ (K : Int) := Int.natCast_nonneg _
      have hK5 : (K : Int) < (no : Int) := by omega
      obtain ⟨c8, HC8⟩ := named ((repL F k out).getD K 0)
      have d8 := h6.cell K hK3
      have b8 := h6.2.at (k := K) (by rw [h6.len]; exact hK3)
      rw [HC8.out] at d8 b8
      have HB8 := Lib.hid b8
      have HR8 := Lib.hid h1
      have HO := Lib.hid h6
      have HB := Lib.hid h8
      have HREST := Lib.hid (And.intro h2 (And.intro h3 (And.intro h4 h5)))
      have HX : Hid (repL F k out ++ [c8] = repL F (k + 1) out) := by
        rw [Hid, repL_snoc, repL_len, HN0.out, HLN.out, ← hK2.out, HC8.out]
      have hsz := h1.lt
      have c1a : ∀ o, (wr.alloc o).cell? ⟨U, 1, none⟩ = some (.slice (some ⟨g, 0, none⟩) no co) := fun o => (h1.grown (World.grownBy_alloc _ o none) (fun k e => by cases e)).c1
      clear h1 h2 h3 h4 h5 h6 h8 b8
      have HE : Hid (∀ (W : World) (a4 : Option Addr) (c4 : Nat), Rec W U (.slice ar nr cr) (.slice (some ⟨g, 0, none⟩) no co) most → Own W (w0.heap.size + 2) (.slice a4 (no + 1) c4) (no + 1) (repL F k out ++ [c8]) → (wr.drew.alloc (.cells #[.int .u8 c8] 5)).grownBy W (Value.slice (some ⟨g, 0, none⟩) no co).ownBlock → Un w0 l most p (repL F (k + 1) out) (W.setCell ⟨U, 1, none⟩ (.slice a4 (no + 1) c4))) := fun W a4 c4 g1 g2 g3 => by
        obtain ⟨r1, r2, r3, r4⟩ := HREST.out
        have hle : w0.heap.size ≤ wr.heap.size := by have := HU.out; omega
        have hle2 : w0.heap.size ≤ (wr.drew.alloc (.cells #[.int .u8 c8] 5)).heap.size := Nat.le_trans hle (by simp)
        refine ⟨ar, nr, cr, a4, no + 1, c4, ?_, r1, r2, r3, r4, ?_, hno2, ?_⟩
        · rw [HU.out]; exact g1.set1 _
        · rw [← HX.out]; exact own_set g2 (by have := HU.out; show U < w0.heap.size + 2; omega) _
        · exact ((HB.out.drew.alloc hle _).grown g3 hle2 (fun j hj => by have := own_block HO.out j hj; omega)).setCell (by have := HU.out; show w0.heap.size ≤ U; omega) _
      go_wp2_with fail
      go_region_law (refine step_append_bytes (by rfl) _ _ (by rfl) (w0.heap.size + 2) _ no _ (by rfl) (HO.out.drew.alloc _) _ 1 1 [c8] (by rfl) (fun e => by cases e) (one_byte _ c8 HB8.out) (by omega) (by simp; have := HU.out; omega) ?_; intro a4 c4 w4 g1 g2; have HO4 := Lib.hid g1; have HG4 := Lib.hid g2; have HR9 := Lib.hid (((HR8.out.drew.grown (World.grownBy_alloc _ _ none) (fun k e => by cases e)).grown g2 (fun k hk => by have := own_block HO.out k hk; have := HU.out; omega))); have f14 := HR9.out.free 1; have c14 := HR9.out.c1; clear g1 g2)
      all_goals
        go_wp2
        go_roundw
        case rel => exact ⟨k + 1, by omega, by go_num, HE.out _ _ _ HR9.out HO4.out HG4.out⟩
        case measure => simp [intOf]; omega
    · obtain rfl : k = n := by omega
      go_wp2
      go_ret
      exact ⟨rfl, HUk.out⟩
end Go.Proofs.YtlljcdmblmkblaaGreat
namespace Go.Proofs.YtlljcdmblmkblaaGreat
open Go.RowKit

/-- One, if a slot holds true. -/
def flagOf : Value → Nat | .bool true => 1 | _ => 0
/-- What the closure hands back. -/
def LenPost (w0 : World) (l : List Int) (most : Nat) (out : List Int) (R : Nat × Nat × Bool) (e : Ending) (w' : World) : Prop :=
  e = .returned (.tuple #[.int .i64 R.1, .bool R.2.2]) ∧ Below w0.heap.size w0 w' ∧ (R.2.2 = true → Un w0 l most R.2.1 out w')
/-- What is still to be added. -/
def goesOn (l : List Int) (f q m : Nat) : Bool → Nat × Nat × Bool
  | true => addTo l f q m
  | false => (m, q, true)

set_option maxRecDepth 100000 in
set_option maxHeartbeats 3200000 in
theorem lengths_any (w0 : World) (l : List Int) (most p half : Nat) (out : List Int) (w : World) (h : Un w0 l most p out w) (hl : l.length ≤ 100000) (hb : ∀ c ∈ l, 0 ≤ c ∧ c < 256) (hh : half < 16) (hpl : p ≤ l.length) :
    Calls Tryz.prog 97 #[.int .u8 half, .pointer (some ⟨w0.heap.size + 1, 0, none⟩)] w (LenPost w0 l most out (lengthOf l p half)) := by
  obtain ⟨b0, hb0, HST⟩ : ∃ b0 : Bool, ((half : Int) == 15) = b0 ∧ Hid (goesOn l (l.length + 1 - p) p half b0 = lengthOf l p half) := by
    by_cases h15 : half < 15
    · exact ⟨false, by simp; omega, by rw [Hid, lengthOf, if_pos h15]; rfl⟩
    · obtain rfl : half = 15 := by omega
      exact ⟨true, rfl, by rw [Hid, lengthOf, if_neg (by omega)]; rfl⟩
  obtain ⟨R, HR⟩ := named (lengthOf l p half)
  rw [HR.out] at HST ⊢
  have HUN := Lib.hid h
  have HBD := Lib.hid hb
  obtain ⟨U, hU⟩ := named w0.heap.size
  have HU := Lib.hid hU.out
  rw [hU.out]
  obtain ⟨N, HN⟩ := named l.length
  rw [HN.out] at hl hpl HST
  clear h hb hU
  go_enter Tryz.func97, Tryz.ntmps97
  go_wp2
  go_loopw [5, 6] (fun n more wr => ∃ (q m f : Nat) (b : Bool), n = .int .i64 m ∧ more = .bool b ∧ q ≤ N ∧ m ≤ 15 + 255 * q ∧ N + 1 ≤ q + f ∧ Hid (Un w0 l most q out wr) ∧ Hid (goesOn l f q m b = R)) (fun n more _ => 2 * (25600000 - (intOf n).toNat) + flagOf more)
  case atStart => exact ⟨p, half, N + 1 - p, b0, rfl, rfl, hpl, by omega, by omega, HUN.out, HST.out⟩
  case round =>
    obtain ⟨q, m, f, b, rfl, rfl, hq, hmq, hf, HUq, HG⟩ := hrel
    clear HUN HST hb0
    obtain ⟨ar, nr, cr, ao, no, co, h1, h2, h3, h4, h5, h6, h7, h8⟩ := HUq.out
    rw [HU.out] at h1
    have cp := h1.cp
    have c0 := h1.c0
    have f0 := h1.free 0
    have HB := Lib.hid h8
    have HNR : Hid (nr = N - q) := by rw [Hid, ← h2.1, List.length_drop, HN.out]
    cases b with
    | false =>
      have HE : Hid (R = (m, q, true)) := HG.out.symm
      clear h1 h2 h3 h4 h5 h6 h8
      go_wp2
      go_ret2
      rw [HE.out]
      exact ⟨rfl, HB.out, fun _ => HUq.out⟩
    | true =>
      by_cases hz : nr = 0
      · have HE : Hid (R = (0, 0, false)) := by
          rw [Hid, ← HG.out]
          exact addTo_end l f q m (by have := HNR.out; have := HN.out; omega)
        clear h1 h2 h3 h4 h5 h6 h8
        go_wp2
        go_ret2
        rw [HE.out]
        exact ⟨rfl, HB.out, fun e => by cases e⟩
      · have hql : q < N := by have := HNR.out; omega
        have hnz : ((nr : Int) == 0) = false := by simp; omega
        obtain ⟨f', hf'⟩ : ∃ f', f = f' + 1 := ⟨f - 1, by omega⟩
        subst hf'
        obtain ⟨bb, off, rfl⟩ := h2.lies (by omega)
        have d0 := (h2.old h8).cellAt 0 (by omega)
        have b0 := h2.small.at (k := 0) (by rw [h2.1]; omega)
        rw [drop_at, Nat.add_zero] at d0 b0
        rw [Nat.add_zero] at d0
        obtain ⟨c, HC⟩ := named (l.getD q 0)
        rw [HC.out] at d0 b0
        obtain ⟨b00, b01⟩ := b0
        obtain ⟨a2, c2, S2, B2, N2, C2⟩ := slice_back h2 h3 h4 1 (by omega)
        have S3 : ∀ w' : World, (Instr.slice 25 (.slice (some ⟨bb, off, none⟩) nr cr) (some (.int .i64 1)) none none).run Tryz.prog w' = .ok (.slice a2 (nr - 1) c2) w' := S2
        have HE : Hid (∀ W : World, Rec W U (.slice (some ⟨bb, off, none⟩) nr cr) (.slice ao no co) most → Own W (w0.heap.size + 2) (.slice ao no co) no out → Below w0.heap.size w0 W → Un w0 l most (q + 1) out (W.setCell ⟨U, 0, none⟩ (.slice a2 (nr - 1) c2))) := fun W g1 g2 g3 => by
          refine ⟨a2, nr - 1, c2, ao, no, co, ?_, ?_, C2, N2, by rw [HN.out]; exact hql, ?_, h7, ?_⟩
          · rw [HU.out]; exact g1.set0 _
          · rw [List.drop_drop] at B2; exact B2
          · exact own_set g2 (by have := HU.out; show U < w0.heap.size + 2; omega) _
          · exact g3.setCell (by have := HU.out; show w0.heap.size ≤ U; omega) _
        have HR1 := Lib.hid h1
        have HO1 := Lib.hid h6
        have hpos : (0 : Int) < (nr : Int) := by omega
        clear h1 h2 h3 h4 h5 h6 h8 S2 B2 N2 C2
        by_cases h255 : c = 255
        · have HG2 : Hid (goesOn l f' (q + 1) (m + 255) true = R) := by
            rw [Hid, ← HG.out]
            exact (addTo_on l f' q m (by rw [HN.out]; exact hql) (by rw [HC.out]; exact h255)).symm
          subst h255
          go_wp2
          go_region
          all_goals
            go_wp2
            go_roundw
            case rel => exact ⟨q + 1, m + 255, f', true, by go_num, rfl, hql, by omega, by omega, HE.out _ HR1.out.drew HO1.out.drew HB.out.drew, HG2.out⟩
            case measure => simp [intOf, flagOf]; omega
        · have HG2 : Hid (goesOn l f' (q + 1) (m + c.toNat) false = R) := by
            rw [Hid, ← HG.out]
            have := addTo_stop l f' q m (by rw [HN.out]; exact hql) (by rw [HC.out]; exact h255)
            rw [HC.out] at this
            exact this.symm
          obtain ⟨d, rfl⟩ : ∃ d : Nat, c = (d : Int) := ⟨c.toNat, by omega⟩
          rw [Int.toNat_natCast] at HG2
          have hd : ((d : Int) == 255) = false := by simp; omega
          go_wp2
          go_region
          all_goals
            go_wp2
            go_roundw
            case rel => exact ⟨q + 1, m + d, f', false, by go_num, rfl, hql, by omega, by omega, HE.out _ HR1.out.drew HO1.out.drew HB.out.drew, HG2.out⟩
            case measure => simp [intOf, flagOf]; omega
end Go.Proofs.YtlljcdmblmkblaaGreat
namespace Go.Proofs.YtlljcdmblmkblaaGreat
open Go.RowKit

/-- The closure that reads a length. -/
def Reader (w0 : World) : Value := .func (.func 97) #[] #[.pointer (some ⟨w0.heap.size + 1, 0, none⟩)]
/-- What a sequence ends in: refused, or a state further on. -/
def SeqPost (w0 : World) (l : List Int) (most p f : Nat) (R : List Int × Int) (e : Ending) (w' : World) : Prop :=
  (∃ E : Int, (E == 0) = false ∧ e = .returned (.int .i64 E) ∧ R = ([], E) ∧ Below w0.heap.size w0 w') ∨ (e = .returned (.int .i64 0) ∧ ∃ (p' : Nat) (out' : List Int), p < p' ∧ Un w0 l most p' out' w' ∧ unp l most f p' out' = R)
theorem SeqPost.bad {w0 : World} {l : List Int} {most p f : Nat} {R : List Int × Int} {w' : World} {E : Int} (h : R = ([], E)) (hb : Below w0.heap.size w0 w') (hE : (E == 0) = false) : SeqPost w0 l most p f R (.returned (.int .i64 E)) w' := Or.inl ⟨E, hE, rfl, h, hb⟩
theorem Un.rest {w0 : World} {l : List Int} {most p : Nat} {out : List Int} {w : World} (h : Un w0 l most p out w) : ∃ (ar : Option Addr) (cr : Nat), w.cell? ⟨w0.heap.size, 0, none⟩ = some (.slice ar (l.length - p) cr) := by
  obtain ⟨ar, nr, cr, ao, no, co, h1, h2, h3, h4, h5, h6, h7, h8⟩ := h
  have e : nr = l.length - p := by rw [← h2.1, List.length_drop]
  exact ⟨ar, cr, by rw [← e]; exact h1.c0⟩
theorem Un.le {w0 : World} {l : List Int} {most p : Nat} {out : List Int} {w : World} (h : Un w0 l most p out w) : p ≤ l.length ∧ out.length ≤ most := by
  obtain ⟨ar, nr, cr, ao, no, co, h1, h2, h3, h4, h5, h6, h7, h8⟩ := h
  exact ⟨h5, by rw [h6.len]; exact h7⟩
/-- The first byte that is left, and the state behind it. -/
theorem Un.token {w0 : World} {l : List Int} {most p : Nat} {out : List Int} {w : World} (h : Un w0 l most p out w) (hp : p < l.length) :
    ∃ (bb off nr cr : Nat) (d : Nat) (a2 : Option Addr) (c2 : Nat), w.cell? ⟨w0.heap.size, 0, none⟩ = some (.slice (some ⟨bb, off, none⟩) nr cr) ∧ w.frozen? ⟨w0.heap.size, 0, none⟩ = false ∧ 0 < nr ∧ w.cell? ⟨bb, off, none⟩ = some (.int .u8 d) ∧ l.getD p 0 = (d : Int) ∧ d < 256 ∧
      (∀ w' : World, (Instr.slice 25 (.slice (some ⟨bb, off, none⟩) nr cr) (some (.int .i64 1)) none none).run Tryz.prog w' = .ok (.slice a2 (nr - 1) c2) w') ∧ Un w0 l most (p + 1) out (w.setCell ⟨w0.heap.size, 0, none⟩ (.slice a2 (nr - 1) c2)) := by
  obtain ⟨ar, nr, cr, ao, no, co, h1, h2, h3, h4, h5, h6, h7, h8⟩ := h
  have e : nr = l.length - p := by rw [← h2.1, List.length_drop]
  obtain ⟨bb, off, rfl⟩ := h2.lies (by omega)
  have d0 := (h2.old h8).cellAt 0 (by omega)
  have b0 := h2.small.at (k := 0) (by rw [h2.1]; omega)
  rw [drop_at, Nat.add_zero] at d0 b0
  rw [Nat.add_zero] at d0
  obtain ⟨a2, c2, S2, B2, N2, C2⟩ := slice_back h2 h3 h4 1 (by omega)
  have ed : l.getD p 0 = ((l.getD p 0).toNat : Int) := by omega
  refine ⟨bb, off, nr, cr, (l.getD p 0).toNat, a2, c2, h1.c0, h1.free 0, by omega, by rw [← ed]; exact d0, ed, by omega, S2, a2, nr - 1, c2, ao, no, co, h1.set0 _, ?_, C2, N2, hp, own_set h6 (by show w0.heap.size < _; omega) _, h7, h8.setCell (Nat.le_refl _) _⟩
  rw [List.drop_drop] at B2
  exact B2

theorem u8_low (d : Nat) (h : d < 256) : bits .and .u8 (d : Int) 15 = (d : Int) % 16 := @u8_and15 (d : Int) (by omega) (by omega)
theorem lengths_at (w0 : World) (l : List Int) (most p half : Nat) (x : Int) (hx : x = (half : Int)) (out : List Int) (hl : l.length ≤ 100000) (hb : ∀ c ∈ l, 0 ≤ c ∧ c < 256) (hh : half < 16) (R : Nat × Nat × Bool) (hR : lengthOf l p half = R) (w : World) (h : Un w0 l most p out w) :
    Calls Tryz.prog 97 #[.int .u8 x, .pointer (some ⟨w0.heap.size + 1, 0, none⟩)] w (LenPost w0 l most out R) := by
  subst hx hR
  exact lengths_any w0 l most p half out w h hl hb hh h.le.1

set_option maxRecDepth 100000 in
set_option maxHeartbeats 3200000 in
theorem sequence_any (w0 : World) (l : List Int) (most p f : Nat) (out : List Int) (w : World) (R : List Int × Int) (h : Un w0 l most p out w) (hm : most ≤ 1048576) (hl : l.length ≤ 100000) (hb : ∀ c ∈ l, 0 ≤ c ∧ c < 256) (hp : p < l.length) (hf : l.length + 1 ≤ (f + 1) + p) (hR : unp l most (f + 1) p out = R) :
    Calls Tryz.prog 78 #[.pointer (some ⟨w0.heap.size, 0, none⟩), Reader w0] w (SeqPost w0 l most p f R) := by
  obtain ⟨bb, off, nr, cr, d, a2, c2, c0, f0, hnr, d0, hd, hd2, S2, HU1⟩ := h.token hp
  have HU1 := Lib.hid HU1
  have hnr2 : (0 : Int) < (nr : Int) := by omega
  have hlow := u8_low d hd2
  obtain ⟨⟨L1, q1, k1⟩, HL⟩ := named (lengthOf l (p + 1) (d / 16))
  have H1 := Lib.hid (lengths_at w0 l most (p + 1) (d / 16) ((d : Int) / 16) (by omega) out hl hb (by omega) _ HL.out)
  have hdn : (l.getD p 0).toNat = d := by rw [hd]; rfl
  obtain ⟨U, hU⟩ := named w0.heap.size
  have HU := Lib.hid hU.out
  have HRD : Hid (Reader w0 = .func (.func 97) #[] #[.pointer (some ⟨U + 1, 0, none⟩)]) := by rw [Hid, Reader, HU.out]
  rw [HRD.out]
  rw [hU.out] at c0 f0 HU1 H1 ⊢
  clear hU
  have HB := Lib.hid hb
  cases k1 with
  | false =>
    have HE : Hid (R = ([], 3)) := by
      rw [Hid, ← hR]
      exact unp_bad l most f p L1 q1 out hp (by rw [hdn]; exact HL.out)
    clear h hb hR hf hd hdn
    go_enter Tryz.func78, Tryz.ntmps78
    go_wp2_with (go_at_call 97; ((with_reducible refine (H1.out _ HU1.out).mono ?_); rintro e w1 ⟨rfl, g1, _⟩; have HB1 := Lib.hid g1; clear g1))
    go_ret
    exact SeqPost.bad HE.out HB1.out rfl
  | true =>
    have HQ := Lib.hid (lengthOf_bd hb (p + 1) (d / 16) (by omega) (by omega)).2
    rw [HL.out] at HQ
    have hq1 : q1 ≤ l.length := HQ.out
    have hq0 := lengthOf_ge HL.out
    have hLb : L1 ≤ 15 + 255 * (l.length + 1) := by have := (lengthOf_bd hb (p + 1) (d / 16) (by omega) (by omega)).1; rw [HL.out] at this; exact this
    have HRL : Hid (unpLits l most d f (lits l most L1 q1 out) = R) := by
      rw [Hid, ← hR, unp_lits l most f p L1 q1 out hp (by rw [hdn]; exact HL.out), hdn]
    have hom := h.le.2
    have hall := lits_all l most L1 q1 out hom hq1
    clear HQ hR hd hdn
    by_cases hbad : (most - out.length < min L1 (l.length - q1)) ∨ (¬ most - out.length < min L1 (l.length - q1) ∧ l.length - q1 < L1)
    · obtain ⟨E, hE, hE2, hE3⟩ : ∃ E : Int, ((most - out.length < min L1 (l.length - q1) ∧ E = 2) ∨ (¬ most - out.length < min L1 (l.length - q1) ∧ l.length - q1 < L1 ∧ E = 3)) ∧ R = ([], E) ∧ (E == 0) = false := by
        rcases hbad with k | ⟨k, k2⟩
        · refine ⟨2, Or.inl ⟨k, rfl⟩, ?_, rfl⟩
          rw [← HRL.out, hall, if_pos k]
          rfl
        · refine ⟨3, Or.inr ⟨k, k2, rfl⟩, ?_, rfl⟩
          rw [← HRL.out, hall, if_neg k, if_pos k2]
          rfl
      have HLI : Hid (∀ w', Un w0 l most q1 out w' → Calls Tryz.prog 98 #[.pointer (some ⟨U, 0, none⟩), .int .i64 L1] w' fun e w'' => e = .returned (.int .i64 E) ∧ Below w0.heap.size w0 w'') := fun w' hw => by
        have := literals_bad w0 l most q1 L1 out w' hw hm E hE
        rw [HU.out] at this
        rw [HU.out]
        exact this
      have HE := Lib.hid hE2
      clear h hb hf hbad hall hE hE2 HRL
      go_enter Tryz.func78, Tryz.ntmps78
      go_wp2_with (first
        | (go_at_call 97; ((with_reducible refine (H1.out _ HU1.out).mono ?_); rintro e w1 ⟨rfl, g1, g2⟩; have HB1 := Lib.hid g1; have HUA := Lib.hid (g2 rfl); clear g1 g2))
        | (go_at_call 98; ((with_reducible refine (HLI.out _ HUA.out).mono ?_); rintro e w2 ⟨rfl, g2⟩; have HB2 := Lib.hid g2; clear g2)))
      go_ret
      exact SeqPost.bad HE.out (by rw [HU.out]; have := HB2.out; rw [HU.out] at this; exact this) hE3
    · have hok1 : ¬ most - out.length < min L1 (l.length - q1) := fun k => hbad (Or.inl k)
      have hok2 : ¬ l.length - q1 < L1 := fun k => hbad (Or.inr ⟨hok1, k⟩)
      rw [if_neg hok1, if_neg hok2] at hall
      rw [hall] at HRL
      have HLI : Hid (∀ w', Un w0 l most q1 out w' → Calls Tryz.prog 98 #[.pointer (some ⟨U, 0, none⟩), .int .i64 L1] w' fun e w'' => e = .returned (.int .i64 0) ∧ Un w0 l most (q1 + L1) (out ++ (l.drop q1).take L1) w'') := fun w' hw => by
        have := literals_ok w0 l most q1 L1 out w' hw hm (by omega) (by omega)
        rw [HU.out] at this
        exact this
      have ho2 : (out ++ (l.drop q1).take L1).length ≤ most := by rw [List.length_append, List.length_take, List.length_drop]; omega
      obtain ⟨o2, HO2⟩ := named (out ++ (l.drop q1).take L1)
      have hp2 : p < q1 + L1 := by omega
      have hp3 : q1 + L1 ≤ l.length := by omega
      obtain ⟨p2, HP2⟩ := named (q1 + L1)
      rw [HO2.out] at HLI HRL ho2
      rw [HP2.out] at HLI HRL hp2 hp3
      have HRS : Hid (∀ w', Un w0 l most p2 o2 w' → ∃ (ar : Option Addr) (cr : Nat), w'.cell? ⟨U, 0, none⟩ = some (.slice ar (l.length - p2) cr)) := fun w' hw => by
        have := hw.rest
        rw [HU.out] at this
        exact this
      obtain ⟨N2, HN2⟩ := named (l.length - p2)
      rw [HN2.out] at HRS
      clear hall hbad hok1 hok2 h hb hLb
      by_cases hend : N2 = 0
      · have HE : Hid (R = (o2, 0)) := by
          rw [Hid, ← HRL.out, show p2 = l.length by have := HN2.out; omega]
          exact back_end l most d f o2
        have hz : ((N2 : Int) == 0) = true := by simp [hend]
        have HF2 : Hid (unp l most f p2 o2 = R) := by
          obtain ⟨f', rfl⟩ : ∃ f', f = f' + 1 := ⟨f - 1, by omega⟩
          rw [HE.out]
          exact unp_end l most f' p2 o2 (by have := HN2.out; omega)
        clear hend hf
        go_enter Tryz.func78, Tryz.ntmps78
        go_wp2_with (first
          | (go_at_call 97; ((with_reducible refine (H1.out _ HU1.out).mono ?_); rintro e w1 ⟨rfl, g1, g2⟩; have HB1 := Lib.hid g1; have HUA := Lib.hid (g2 rfl); clear g1 g2))
          | (go_at_call 98; ((with_reducible refine (HLI.out _ HUA.out).mono ?_); rintro e w2 ⟨rfl, g2⟩; have HUB := Lib.hid g2; clear g2; obtain ⟨ar2, cr2, c20⟩ := HRS.out _ HUB.out)))
        go_ret
        exact Or.inr ⟨rfl, p2, o2, hp2, HUB.out, HF2.out⟩
      · have hz : ((N2 : Int) == 0) = false := by simp; omega
        have hne : ¬ p2 = l.length := by have := HN2.out; omega
        by_cases hcut : l.length - p2 < 2
        · have HE : Hid (R = ([], 3)) := by
            rw [Hid, ← HRL.out]
            exact back_cut l most d f p2 o2 hne hcut
          have HDI : Hid (∀ w', Un w0 l most p2 o2 w' → Calls Tryz.prog 99 #[.pointer (some ⟨U, 0, none⟩)] w' fun e w'' => e = .returned (.tuple #[.int .i64 0, .bool false]) ∧ Un w0 l most p2 o2 w'') := fun w' hw => by
            have := distance_cut w0 l most p2 o2 w' hw hcut
            rw [HU.out] at this
            exact this.mono fun e w'' h => ⟨h.1, h.2 ▸ hw⟩
          clear hend hf hne hcut
          go_enter Tryz.func78, Tryz.ntmps78
          go_wp2_with (first
            | (go_at_call 97; ((with_reducible refine (H1.out _ HU1.out).mono ?_); rintro e w1 ⟨rfl, g1, g2⟩; have HB1 := Lib.hid g1; have HUA := Lib.hid (g2 rfl); clear g1 g2))
            | (go_at_call 98; ((with_reducible refine (HLI.out _ HUA.out).mono ?_); rintro e w2 ⟨rfl, g2⟩; have HUB := Lib.hid g2; clear g2; obtain ⟨ar2, cr2, c20⟩ := HRS.out _ HUB.out))
            | (go_at_call 99; ((with_reducible refine (HDI.out _ HUB.out).mono ?_); rintro e w3 ⟨rfl, g3⟩; have HUC := Lib.hid g3; clear g3)))
          go_ret
          exact SeqPost.bad HE.out HUC.out.below rfl
        · obtain ⟨F, HF⟩ := named (farOf l p2)
          obtain ⟨ok, HOK⟩ := named (decide (¬ (F = 0 ∨ o2.length < F)))
          have HDI : Hid (∀ w', Un w0 l most p2 o2 w' → Calls Tryz.prog 99 #[.pointer (some ⟨U, 0, none⟩)] w' fun e w'' => e = .returned (.tuple #[.int .i64 F, .bool ok]) ∧ Un w0 l most (p2 + 2) o2 w'') := fun w' hw => by
            have := distance_any w0 l most p2 o2 w' hw hcut
            rw [HU.out, HF.out, HOK.out] at this
            exact this
          cases ok with
          | false =>
            have HE : Hid (R = ([], 3)) := by
              rw [Hid, ← HRL.out]
              refine back_far l most d f p2 o2 hne hcut ?_
              have := of_decide_eq_false HOK.out
              rw [HF.out]
              exact Classical.not_not.1 this
            clear hend hf hne hcut
            go_enter Tryz.func78, Tryz.ntmps78
            go_wp2_with (first
              | (go_at_call 97; ((with_reducible refine (H1.out _ HU1.out).mono ?_); rintro e w1 ⟨rfl, g1, g2⟩; have HB1 := Lib.hid g1; have HUA := Lib.hid (g2 rfl); clear g1 g2))
              | (go_at_call 98; ((with_reducible refine (HLI.out _ HUA.out).mono ?_); rintro e w2 ⟨rfl, g2⟩; have HUB := Lib.hid g2; clear g2; obtain ⟨ar2, cr2, c20⟩ := HRS.out _ HUB.out))
              | (go_at_call 99; ((with_reducible refine (HDI.out _ HUB.out).mono ?_); rintro e w3 ⟨rfl, g3⟩; have HUC := Lib.hid g3; clear g3)))
            go_ret
            exact SeqPost.bad HE.out HUC.out.below rfl
          | true =>
            have hfar := of_decide_eq_true HOK.out
            obtain ⟨⟨m, q2, k2⟩, HX⟩ := named (lengthOf l (p2 + 2) (d % 16))
            have HL2 := Lib.hid (lengths_at w0 l most (p2 + 2) (d % 16) ((d : Int) % 16) (by omega) o2 hl HB.out (by omega) _ HX.out)
            rw [HU.out] at HL2
            cases k2 with
            | false =>
              have HE : Hid (R = ([], 3)) := by
                rw [Hid, ← HRL.out]
                exact back_bad l most d f p2 m q2 o2 hne hcut (by rw [HF.out]; exact hfar) HX.out
              clear hend hf hne hcut hfar
              go_enter Tryz.func78, Tryz.ntmps78
              go_wp2_with (first
                | (go_at_call 97; ((with_reducible refine (H1.out _ HU1.out).mono ?_); rintro e w1 ⟨rfl, g1, g2⟩; have HB1 := Lib.hid g1; have HUA := Lib.hid (g2 rfl); clear g1 g2))
                | (go_at_call 98; ((with_reducible refine (HLI.out _ HUA.out).mono ?_); rintro e w2 ⟨rfl, g2⟩; have HUB := Lib.hid g2; clear g2; obtain ⟨ar2, cr2, c20⟩ := HRS.out _ HUB.out))
                | (go_at_call 99; ((with_reducible refine (HDI.out _ HUB.out).mono ?_); rintro e w3 ⟨rfl, g3⟩; have HUC := Lib.hid g3; clear g3))
                | (go_at_call 97; ((with_reducible refine (HL2.out _ HUC.out).mono ?_); rintro e w4 ⟨rfl, g4, g5⟩; have HB4 := Lib.hid g4; have HUD := Lib.hid g5; clear g4 g5)))
              go_ret
              exact SeqPost.bad HE.out HB4.out rfl
            | true =>
              have hq2 := lengthOf_ge HX.out
              have hmb : m ≤ 15 + 255 * (l.length + 1) := by have := (lengthOf_bd HB.out (p2 + 2) (d % 16) (by omega) (by omega)).1; rw [HX.out] at this; exact this
              have HRE : Hid (unpReps l most q2 f (reps most F (m + 4) o2) = R) := by
                rw [Hid, ← HRL.out, back_reps l most d f p2 m q2 o2 hne hcut (by rw [HF.out]; exact hfar) HX.out, HF.out]
              by_cases hroom : o2.length + (m + 4) ≤ most
              · have HE : Hid (unp l most f q2 (repL F (m + 4) o2) = R) := by
                  rw [Hid, ← HRE.out, reps_run most F (m + 4) o2 hroom]
                  rfl
                have HCO : Hid (∀ w', Un w0 l most q2 o2 w' → Calls Tryz.prog 100 #[.pointer (some ⟨U, 0, none⟩), .int .i64 F, .int .i64 ((m : Int) + 4)] w' fun e w'' => e = .returned (.int .i64 0) ∧ Un w0 l most q2 (repL F (m + 4) o2) w'') := fun w' hw => by
                  have := copies_ok w0 l most q2 (m + 4) F o2 w' hw hm hroom (by omega) (by omega)
                  rw [HU.out] at this
                  exact this
                clear hend hf hne hcut hfar HRE hroom
                go_enter Tryz.func78, Tryz.ntmps78
                go_wp2_with (first
                  | (go_at_call 97; ((with_reducible refine (H1.out _ HU1.out).mono ?_); rintro e w1 ⟨rfl, g1, g2⟩; have HB1 := Lib.hid g1; have HUA := Lib.hid (g2 rfl); clear g1 g2))
                  | (go_at_call 98; ((with_reducible refine (HLI.out _ HUA.out).mono ?_); rintro e w2 ⟨rfl, g2⟩; have HUB := Lib.hid g2; clear g2; obtain ⟨ar2, cr2, c20⟩ := HRS.out _ HUB.out))
                  | (go_at_call 99; ((with_reducible refine (HDI.out _ HUB.out).mono ?_); rintro e w3 ⟨rfl, g3⟩; have HUC := Lib.hid g3; clear g3))
                  | (go_at_call 97; ((with_reducible refine (HL2.out _ HUC.out).mono ?_); rintro e w4 ⟨rfl, g4, g5⟩; have HB4 := Lib.hid g4; have HUD := Lib.hid g5; clear g4 g5))
                  | (go_at_call 100; ((with_reducible refine (HCO.out _ (HUD.out (by trivial))).mono ?_); rintro e w5 ⟨rfl, g6⟩; have HUE := Lib.hid g6; clear g6)))
                go_ret
                exact Or.inr ⟨rfl, q2, _, by omega, HUE.out, HE.out⟩
              · have HE : Hid (R = ([], 2)) := by
                  rw [Hid, ← HRE.out, reps_over most F (m + 4) o2 ho2 (by omega)]
                  rfl
                have HCO : Hid (∀ w', Un w0 l most q2 o2 w' → Calls Tryz.prog 100 #[.pointer (some ⟨U, 0, none⟩), .int .i64 F, .int .i64 ((m : Int) + 4)] w' fun e w'' => e = .returned (.int .i64 2) ∧ Below w0.heap.size w0 w'') := fun w' hw => by
                  have := copies_bad w0 l most q2 (m + 4) F o2 w' hw hm (by omega)
                  rw [HU.out] at this
                  rw [HU.out]
                  exact this
                clear hend hf hne hcut hfar HRE hroom
                go_enter Tryz.func78, Tryz.ntmps78
                go_wp2_with (first
                  | (go_at_call 97; ((with_reducible refine (H1.out _ HU1.out).mono ?_); rintro e w1 ⟨rfl, g1, g2⟩; have HB1 := Lib.hid g1; have HUA := Lib.hid (g2 rfl); clear g1 g2))
                  | (go_at_call 98; ((with_reducible refine (HLI.out _ HUA.out).mono ?_); rintro e w2 ⟨rfl, g2⟩; have HUB := Lib.hid g2; clear g2; obtain ⟨ar2, cr2, c20⟩ := HRS.out _ HUB.out))
                  | (go_at_call 99; ((with_reducible refine (HDI.out _ HUB.out).mono ?_); rintro e w3 ⟨rfl, g3⟩; have HUC := Lib.hid g3; clear g3))
                  | (go_at_call 97; ((with_reducible refine (HL2.out _ HUC.out).mono ?_); rintro e w4 ⟨rfl, g4, g5⟩; have HB4 := Lib.hid g4; have HUD := Lib.hid g5; clear g4 g5))
                  | (go_at_call 100; ((with_reducible refine (HCO.out _ (HUD.out (by trivial))).mono ?_); rintro e w5 ⟨rfl, g6⟩; have HUE := Lib.hid g6; clear g6)))
                go_ret
                exact SeqPost.bad HE.out HUE.out rfl
end Go.Proofs.YtlljcdmblmkblaaGreat
namespace Go.Proofs.YtlljcdmblmkblaaGreat
open Go.RowKit

/-- How many bytes are left in the state at block U. -/
def leftOf (U : Nat) (w : World) : Nat := match w.cell? ⟨U, 0, none⟩ with | some (.slice _ n _) => n | _ => 0
theorem leftOf_un {w0 : World} {l : List Int} {most p : Nat} {out : List Int} {w : World} (h : Un w0 l most p out w) : leftOf w0.heap.size w = l.length - p := by
  obtain ⟨ar, cr, hc⟩ := h.rest
  unfold leftOf
  rw [hc]
/-- The closure is made: a new block holds the state's place. -/
theorem mklen_any (w : World) (U : Nat) :
    Calls Tryz.prog 77 #[.pointer (some ⟨U, 0, none⟩)] w fun e w' => e = .returned (.func (.func 97) #[] #[.pointer (some ⟨w.heap.size, 0, none⟩)]) ∧ w' = w.alloc (.cells #[.pointer (some ⟨U, 0, none⟩)] 151) := by
  go_enter Tryz.func77, Tryz.ntmps77
  go_wp2
  go_ret
  exact ⟨rfl, rfl⟩
theorem un_start {w0 w : World} {l : List Int} {most n c : Nat} {a : Option Addr} (h1 : w.heap[w0.heap.size]? = some (.cells #[.slice a n c, .slice none 0 0, .int .i64 most] 119 (0, 0))) (h2 : w.heap[w0.heap.size + 1]? = some (.cells #[.pointer (some ⟨w0.heap.size, 0, none⟩)] 151 (0, 0)))
    (hB : Bytes w0 a n l) (hcap : n ≤ c) (hnil : a = none → c = 0) (hb : Below w0.heap.size w0 w) : Un w0 l most 0 [] w :=
  ⟨a, n, c, none, 0, 0, ⟨h1, h2⟩, by rw [List.drop_zero]; exact hB, hcap, hnil, Nat.zero_le _, ⟨World.ownsRow_nil _ _ _ _, by unfold Small; simp⟩, Nat.zero_le _, hb⟩

set_option maxHeartbeats 800000 in
theorem lzUnpack_arg (sl : Value) (most : Int) (w : World) (h : most < 0 ∨ 1048576 < most) :
    Calls Tryz.prog 59 #[sl, .int .i64 most] w (PutPost w [] 1) := by
  by_cases h1 : most < 0
  · have hz : decide (most < 0) = true := by simp [h1]
    clear h
    go_enter Tryz.func59, Tryz.ntmps59
    go_wp2
    go_ret2
    exact PutPost.empty w 1
  · have hz : decide (most < 0) = false := by simp [h1]
    have hy : 1048576 < most := by omega
    clear h
    go_enter Tryz.func59, Tryz.ntmps59
    go_wp2
    go_ret2
    exact PutPost.empty w 1
set_option maxHeartbeats 800000 in
theorem lzUnpack_none (a : Option Addr) (cap most : Nat) (w : World) (h : most ≤ 1048576) :
    Calls Tryz.prog 59 #[.slice a 0 cap, .int .i64 most] w (PutPost w [] 3) := by
  have hz : decide ((most : Int) < 0) = false := by simp
  go_enter Tryz.func59, Tryz.ntmps59
  go_wp2
  go_ret2
  exact PutPost.empty w 3

set_option maxRecDepth 100000 in
set_option maxHeartbeats 3200000 in
theorem lzUnpack_ok (a : Option Addr) (len cap most : Nat) (l : List Int) (w : World) (hB : Bytes w a len l) (hcap : len ≤ cap) (hnil : a = none → cap = 0) (h0 : 0 < len) (hlen : len ≤ 100000) (hm : most ≤ 1048576) :
    Calls Tryz.prog 59 #[.slice a len cap, .int .i64 most] w (PutPost w (unp l most (len + 1) 0 []).1 (unp l most (len + 1) 0 []).2) := by
  have hz : decide ((most : Int) < 0) = false := by simp
  have hz2 : ((len : Int) == 0) = false := by simp; omega
  have hz3 : decide ((1048576 : Int) < (most : Int)) = false := by simp; omega
  have HBD := Lib.hid hB.small.2
  have HLN := Lib.hid hB.1
  have HST := Lib.hid (fun (w1 : World) h1 h2 hb => un_start (w := w1) (most := most) h1 h2 hB hcap hnil hb)
  obtain ⟨R, HR⟩ := named (unp l most (len + 1) 0 [])
  have HSQ : Hid (∀ (p f : Nat) (out : List Int) (w' : World), Un w l most p out w' → p < l.length → l.length + 1 ≤ (f + 1) + p → unp l most (f + 1) p out = R → Calls Tryz.prog 78 #[.pointer (some ⟨w.heap.size, 0, none⟩), .func (.func 97) #[] #[.pointer (some ⟨w.heap.size + 1, 0, none⟩)]] w' (SeqPost w l most p f R)) :=
    fun p f out w' h1 h2 h3 h4 => sequence_any w l most p f out w' R h1 hm (by rw [HLN.out]; exact hlen) HBD.out h2 h3 h4
  rw [HR.out]
  clear hB hcap hnil
  go_enter Tryz.func59, Tryz.ntmps59
  go_wp2_with (go_at_call 77; refine (mklen_any _ _).mono ?_; rintro e w1 ⟨rfl, rfl⟩)
  have HU0 : Hid (Un w l most 0 [] ((w.alloc (.cells #[.slice a len cap, .slice none 0 0, .int .i64 most] 119)).alloc (.cells #[.pointer (some ⟨w.heap.size, 0, none⟩)] 151))) :=
    HST.out _ ((Go.heap_alloc_old (w.alloc _) _ (by simp)).trans (heap_alloc_new w _)) (by have := heap_alloc_new (w.alloc (.cells #[.slice a len cap, .slice none 0 0, .int .i64 most] 119)) (.cells #[.pointer (some ⟨w.heap.size, 0, none⟩)] 151); rw [World.size_alloc] at this; exact this) (((Below.refl _ _).alloc (Nat.le_refl _) _).alloc (by simp) _)
  clear HST
  go_loopw [8] (fun _ wr => ∃ (p f : Nat) (out : List Int), p ≤ len ∧ len + 1 ≤ f + p ∧ Hid (Un w l most p out wr) ∧ Hid (unp l most f p out = R)) (fun _ wr => leftOf w.heap.size wr)
  case atStart => exact ⟨0, len + 1, [], Nat.zero_le _, by omega, HU0.out, HR.out⟩
  case round =>
    obtain ⟨p, f, out, hp, hf, HUp, HG⟩ := hrel
    clear HU0
    obtain ⟨ar, nr, cr, ao, no, co, h1, h2, h3, h4, h5, h6, h7, h8⟩ := HUp.out
    have c0 := h1.c0
    have c1 := h1.c1
    have HN : Hid (nr = len - p) := by rw [Hid, ← h2.1, List.length_drop, HLN.out]
    have HO := Lib.hid h6
    have HB := Lib.hid h8
    clear h1 h2 h3 h4 h5 h6 h8
    obtain ⟨f', rfl⟩ : ∃ f', f = f' + 1 := ⟨f - 1, by omega⟩
    by_cases hlt : 0 < nr
    · have hlt2 : (0 : Int) < (nr : Int) := by omega
      have HLL : Hid (leftOf w.heap.size wr = len - p) := by rw [Hid, leftOf_un HUp.out, HLN.out]
      have hpl : p < len := by have := HN.out; omega
      go_wp2_with (go_at_call 78; ((with_reducible refine (HSQ.out p f' out wr HUp.out (by rw [HLN.out]; exact hpl) (by rw [HLN.out]; exact hf) HG.out).mono ?_); rintro e w2 (⟨E, hE, rfl, g1, g2⟩ | ⟨rfl, p', out', g1, g2, g3⟩)))
      · go_ret2
        rw [g1]
        have hb0 : Below w.heap.size w w2 := g2
        exact ⟨none, 0, rfl, none_bytes _, ⟨fun _ => rfl, Nat.le_refl _⟩, hb0⟩
      · refine ⟨⟨p', f', out', ?_, by omega, g2, g3⟩, ?_⟩
        · have := g2.le.1
          rw [HLN.out] at this
          exact this
        · rw [HLL.out, leftOf_un g2, HLN.out]
          omega
    · have hlt2 : ¬ (0 : Int) < (nr : Int) := by omega
      have HE : Hid (R = (out, 0)) := by
        rw [Hid, ← HG.out]
        exact unp_end l most f' p out (by rw [HLN.out]; have := HN.out; omega)
      go_wp2
      go_ret2
      rw [HE.out]
      exact PutPost.own 0 HO.out HB.out
/-- The project's Unpack, whatever is asked. -/
theorem lzUnpack_any (a : Option Addr) (len cap : Nat) (most : Int) (l : List Int) (w : World) (hB : Bytes w a len l) (hcap : len ≤ cap) (hnil : a = none → cap = 0) (hlen : len ≤ 100000) :
    Calls Tryz.prog 59 #[.slice a len cap, .int .i64 most] w (PutPost w (unpackOf l most).1 (unpackOf l most).2) := by
  by_cases h1 : most < 0 ∨ 1048576 < most
  · have e : unpackOf l most = ([], 1) := by rw [unpackOf, if_pos h1]
    rw [e]
    exact lzUnpack_arg _ most w h1
  · obtain ⟨k, rfl, hk⟩ : ∃ k : Nat, most = (k : Int) ∧ k ≤ 1048576 := ⟨most.toNat, by omega, by omega⟩
    by_cases h0 : len = 0
    · subst h0
      have e : unpackOf l k = ([], 3) := by rw [unpackOf, if_neg h1, if_pos (List.eq_nil_of_length_eq_zero hB.1)]
      rw [e]
      exact lzUnpack_none a cap k w hk
    · have e : unpackOf l k = unp l k (len + 1) 0 [] := by
        rw [unpackOf, if_neg h1, if_neg (fun e => h0 (by rw [← hB.1, e]; rfl)), Int.toNat_natCast, hB.1]
      rw [e]
      exact lzUnpack_ok a len cap k l w hB hcap hnil (by omega) hlen hk
end Go.Proofs.YtlljcdmblmkblaaGreat
namespace Go.Proofs.YtlljcdmblmkblaaGreat
open Go.RowKit
set_option linter.unusedVariables false

/-- An entry: Kind, Start, Count, Size, Sum. -/
abbrev En := Int × Int × Int × Int × Int
def enV (x : En) : List Value := [.int .i64 x.1, .int .i64 x.2.1, .int .i64 x.2.2.1, .int .i64 x.2.2.2.1, .int .u32 x.2.2.2.2]
def MayE (x : En) (c : Int) : Prop := (0 ≤ c ∧ c ≤ 6) ∧
  (((x.1 = 0 ∨ x.1 = 1) ∧ x.2.1 = 0 ∧ x.2.2.1 = 0 ∧ x.2.2.2.1 = 0 ∧ x.2.2.2.2 = 0) ∨
   (x.1 = 2 ∧ 2 ≤ x.2.1 ∧ x.2.2.1 = 2 ^ c.toNat ∧ x.2.1 ≤ 65536 - x.2.2.1 ∧ x.2.2.2.1 = 0) ∨
   (x.1 = 3 ∧ 2 ≤ x.2.1 ∧ 1 ≤ x.2.2.1 ∧ x.2.2.1 < 2 ^ c.toNat ∧ x.2.1 ≤ 65536 - x.2.2.1 ∧ 1 ≤ x.2.2.2.1 ∧ x.2.2.2.1 ≤ x.2.2.1 * 16 ∧ (x.2.2.1 - 1) * 16 < x.2.2.2.1))
instance (x : En) (c : Int) : Decidable (MayE x c) := by unfold MayE; infer_instance
def EnOk (x : En) : Prop := I64 x.1 ∧ I64 x.2.1 ∧ I64 x.2.2.1 ∧ I64 x.2.2.2.1 ∧ 0 ≤ x.2.2.2.2 ∧ x.2.2.2.2 < 4294967296
def enZ : En := (0, 0, 0, 0, 0)
theorem pow_le6 {c : Int} (h : 0 ≤ c ∧ c ≤ 6) : (1 : Int) ≤ 2 ^ c.toNat ∧ (2 : Int) ^ c.toNat ≤ 64 := by
  have : c.toNat ≤ 6 := by omega
  generalize c.toNat = n at this
  match n, this with
  | 0, _ => decide
  | 1, _ => decide
  | 2, _ => decide
  | 3, _ => decide
  | 4, _ => decide
  | 5, _ => decide
  | 6, _ => decide
theorem MayE.bounds {x : En} {c : Int} (h : MayE x c) : (0 ≤ x.1 ∧ x.1 < 4) ∧ (0 ≤ x.2.1 ∧ x.2.1 < 65536) ∧ (0 ≤ x.2.2.1 ∧ x.2.2.1 ≤ 64) ∧ (0 ≤ x.2.2.2.1 ∧ x.2.2.2.1 ≤ 1024) := by
  obtain ⟨hc, h⟩ := h
  obtain ⟨h1, h2⟩ := pow_le6 hc
  generalize (2 : Int) ^ c.toNat = p at h h1 h2
  omega
theorem enV_len (x : En) : (enV x).length = 5 := rfl
theorem enV_one (x : En) : ∀ u ∈ enV x, u.oneCell' = true := fun u hu => by
  simp only [enV, List.mem_cons, List.not_mem_nil, or_false] at hu
  rcases hu with rfl | rfl | rfl | rfl | rfl <;> rfl
theorem enV_all (x : En) : (enV x).toArray.all (·.oneCell') = true := all_oneCell_toArray fun v hv => enV_one x v hv
theorem entry_size : (Tryz.prog.info? 24).map (·.size) = some 5 := by kernel_rfl
theorem cells5 {W : World} {X : Nat} {a b c d e : Value} (h : Blk W X 24 #[a, b, c, d, e]) : W.cell? ⟨X, 0, none⟩ = some a ∧ W.cell? ⟨X, 1, none⟩ = some b ∧ W.cell? ⟨X, 2, none⟩ = some c ∧ W.cell? ⟨X, 3, none⟩ = some d ∧ W.cell? ⟨X, 4, none⟩ = some e := by
  rw [h.cell, h.cell, h.cell, h.cell, h.cell]
  exact ⟨rfl, rfl, rfl, rfl, rfl⟩
end Go.Proofs.YtlljcdmblmkblaaGreat
namespace Go.Proofs.YtlljcdmblmkblaaGreat
open Go.RowKit
set_option linter.unusedVariables false

theorem ret_dec {b : Bool} {p q : Prop} [Decidable p] [Decidable q] (hpq : p ↔ q) (h : b = decide q) : Ending.returned (.bool b) = .returned (.bool (decide p)) := by
  rw [h]
  congr 2
  exact decide_eq_decide.2 hpq.symm
set_option maxHeartbeats 4000000 in
theorem refMay_any (k s n z m c : Int) (ho : EnOk (k, s, n, z, m)) (w : World) : Calls Tryz.prog 32 #[.agg #[.int .i64 k, .int .i64 s, .int .i64 n, .int .i64 z, .int .u32 m], .int .i64 c] w fun e w' => e = .returned (.bool (decide (MayE (k, s, n, z, m) c))) ∧ Below w.heap.size w w' := by
  have HG : Hid (∀ cs, Below w.heap.size w (w.alloc (.cells cs 24))) := fun cs => (Below.refl _ _).alloc (Nat.le_refl _) _
  by_cases hc : 0 ≤ c ∧ c ≤ 6
  · obtain ⟨C, rfl⟩ : ∃ C : Nat, c = C := ⟨c.toNat, by omega⟩
    obtain ⟨P, hP⟩ := named ((2 : Int) ^ C)
    have hPb := pow_le6 hc
    rw [Int.toNat_natCast, hP.out] at hPb
    obtain ⟨hp1, hp2⟩ := hPb
    have hC6 : C ≤ 6 := by omega
    have hPP : wrap64 (2 ^ C) = P := by rw [hP.out]; unfold wrap64; omega
    have hM : ∀ n, MayE (k, s, n, z, m) (C : Int) ↔ (((k = 0 ∨ k = 1) ∧ s = 0 ∧ n = 0 ∧ z = 0 ∧ m = 0) ∨ (k = 2 ∧ 2 ≤ s ∧ n = P ∧ s ≤ 65536 - n ∧ z = 0) ∨ (k = 3 ∧ 2 ≤ s ∧ 1 ≤ n ∧ n < P ∧ s ≤ 65536 - n ∧ 1 ≤ z ∧ z ≤ n * 16 ∧ (n - 1) * 16 < z)) := by
      intro n
      unfold MayE
      rw [Int.toNat_natCast, hP.out]
      dsimp only
      exact ⟨fun h => h.2, fun h => ⟨by omega, h⟩⟩
    have hk : k = 0 ∨ k = 1 ∨ k = 2 ∨ k = 3 ∨ (k ≠ 0 ∧ k ≠ 1 ∧ k ≠ 2 ∧ k ≠ 3) := by omega
    rcases hk with rfl | rfl | rfl | rfl | ⟨k0, k1, k2, k3⟩
    · have HE : Hid (MayE (0, s, n, z, m) (C : Int) ↔ (s = 0 ∧ n = 0 ∧ z = 0 ∧ m = 0)) := by rw [Hid, hM n]; omega
      clear hM
      go_enter Tryz.func32, Tryz.ntmps32
      go_wp2
      all_goals go_ret
      all_goals refine ⟨ret_dec (HE.out) ?_, HG.out _⟩
      all_goals first | rfl | (rw [Bool.eq_iff_iff]; simp; omega) | (simp; omega) | (simp only [decide_eq_true_eq, Bool.eq_iff_iff]; omega)
    · have HE : Hid (MayE (1, s, n, z, m) (C : Int) ↔ (s = 0 ∧ n = 0 ∧ z = 0 ∧ m = 0)) := by rw [Hid, hM n]; omega
      clear hM
      go_enter Tryz.func32, Tryz.ntmps32
      go_wp2
      all_goals go_ret
      all_goals refine ⟨ret_dec (HE.out) ?_, HG.out _⟩
      all_goals first | rfl | (rw [Bool.eq_iff_iff]; simp; omega) | (simp; omega) | (simp only [decide_eq_true_eq, Bool.eq_iff_iff]; omega)
    · have HE : Hid (∀ n, MayE (2, s, n, z, m) (C : Int) ↔ (2 ≤ s ∧ n = P ∧ s ≤ 65536 - n ∧ z = 0)) := fun n => by rw [hM n]; omega
      clear hM
      go_enter Tryz.func32, Tryz.ntmps32
      go_wp2
      all_goals go_ret
      all_goals refine ⟨ret_dec (HE.out _) ?_, HG.out _⟩
      all_goals first | rfl | (rw [Bool.eq_iff_iff]; simp; omega) | (simp; omega) | (simp only [decide_eq_true_eq, Bool.eq_iff_iff]; omega)
    · have HE : Hid (MayE (3, s, n, z, m) (C : Int) ↔ (2 ≤ s ∧ 1 ≤ n ∧ n < P ∧ s ≤ 65536 - n ∧ 1 ≤ z ∧ z ≤ n * 16 ∧ (n - 1) * 16 < z)) := by rw [Hid, hM n]; omega
      clear hM
      have hcs : (2 ≤ s ∧ 1 ≤ n ∧ n < P) ∨ (2 ≤ s ∧ 1 ≤ n ∧ ¬ n < P) ∨ (2 ≤ s ∧ ¬ 1 ≤ n) ∨ ¬ 2 ≤ s := by omega
      rcases hcs with ⟨h1, h2, h3⟩ | ⟨h1, h2, h3⟩ | ⟨h1, h2⟩ | h1
      all_goals
          go_enter Tryz.func32, Tryz.ntmps32
          go_wp2
          all_goals go_ret
          all_goals refine ⟨ret_dec HE.out ?_, HG.out _⟩
          all_goals first | rfl | (rw [Bool.eq_iff_iff]; simp; omega) | (simp; omega) | (simp only [decide_eq_true_eq, Bool.eq_iff_iff]; omega)
    · have HE : Hid (MayE (k, s, n, z, m) (C : Int) ↔ False) := by
        rw [Hid, hM n]
        refine ⟨fun h => ?_, False.elim⟩
        rcases h with h | h | h <;> omega
      clear hM
      go_enter Tryz.func32, Tryz.ntmps32
      go_wp2
      all_goals go_ret
      all_goals refine ⟨ret_dec (HE.out) ?_, HG.out _⟩
      all_goals first | rfl | (rw [Bool.eq_iff_iff]; simp; omega) | (simp; omega) | (simp only [decide_eq_true_eq, Bool.eq_iff_iff]; omega)
  · have hd : decide (MayE (k, s, n, z, m) c) = false := by rw [decide_eq_false_iff_not]; exact fun h => hc h.1
    rw [hd]
    have hc' : c < 0 ∨ (0 ≤ c ∧ 6 < c) := by omega
    rcases hc' with h | ⟨h1, h2⟩
    · go_enter Tryz.func32, Tryz.ntmps32
      go_wp2
      go_ret
      exact ⟨rfl, HG.out _⟩
    · go_enter Tryz.func32, Tryz.ntmps32
      go_wp2
      go_ret
      exact ⟨rfl, HG.out _⟩
end Go.Proofs.YtlljcdmblmkblaaGreat
namespace Go.Proofs.YtlljcdmblmkblaaGreat
open Go.RowKit
set_option linter.unusedVariables false

theorem within8 (n a b : Int) (w : World) : Calls Tryz.prog 55 #[.int .i64 n, .int .i64 a, .int .i64 b] w fun e w' => e = .returned (.bool (decide (a ≤ n) && decide (n ≤ b))) ∧ w = w' := by
  by_cases h1 : a ≤ n
  · by_cases h2 : n ≤ b
    · go_enter Tryz.func55, Tryz.ntmps55
      go_wp2
      go_ret
      exact ⟨by simp [h1, h2], rfl⟩
    · go_enter Tryz.func55, Tryz.ntmps55
      go_wp2
      go_ret
      exact ⟨by simp; omega, rfl⟩
  · go_enter Tryz.func55, Tryz.ntmps55
    go_wp2
    go_ret
    exact ⟨by simp; omega, rfl⟩
theorem within8_yes {n a b : Int} (h : a ≤ n ∧ n ≤ b) (w : World) : Calls Tryz.prog 55 #[.int .i64 n, .int .i64 a, .int .i64 b] w fun e w' => e = .returned (.bool true) ∧ w = w' := by
  have := within8 n a b w
  rwa [decide_eq_true h.1, decide_eq_true h.2] at this
theorem within8_no {n a b : Int} (h : ¬ (a ≤ n ∧ n ≤ b)) (w : World) : Calls Tryz.prog 55 #[.int .i64 n, .int .i64 a, .int .i64 b] w fun e w' => e = .returned (.bool false) ∧ w = w' := by
  have := within8 n a b w
  have e : (decide (a ≤ n) && decide (n ≤ b)) = false := by
    rw [← Bool.decide_and, decide_eq_false_iff_not]
    exact h
  rwa [e] at this
/-- What isPlaced answers where the sum can't wrap round. -/
theorem placed8 (k s n z m : Int) (h1 : 0 ≤ n) (h2 : n ≤ 64) (w : World) : Calls Tryz.prog 56 #[.agg #[.int .i64 k, .int .i64 s, .int .i64 n, .int .i64 z, .int .u32 m]] w fun e w' => e = .returned (.bool (decide (2 ≤ s) && decide (s ≤ 65536 - n))) ∧ w' = w.alloc (.cells #[.int .i64 k, .int .i64 s, .int .i64 n, .int .i64 z, .int .u32 m] 24) := by
  have W1 := fun w => within8 s 2 (65536 - n) w
  have e1 : IntKind.i64.wrap (65536 - n) = 65536 - n := by rw [IntKind.wrap_i64]; omega
  generalize (decide (2 ≤ s) && decide (s ≤ 65536 - n)) = B at W1 ⊢
  obtain ⟨R, hR⟩ := named (65536 - n)
  rw [hR.out] at W1 e1
  have hR' := hR.out
  have H1 := Lib.hid W1
  clear W1
  go_enter Tryz.func56, Tryz.ntmps56
  go_wp2_with (go_at_call 55; (with_reducible refine (H1.out _).mono ?_); rintro e w' ⟨rfl, rfl⟩)
  go_ret
  exact ⟨rfl, rfl⟩
theorem filled8 (k s n z m : Int) (h1 : 0 ≤ n) (h2 : n ≤ 64) (w : World) : Calls Tryz.prog 57 #[.agg #[.int .i64 k, .int .i64 s, .int .i64 n, .int .i64 z, .int .u32 m]] w fun e w' => e = .returned (.bool (decide ((n - 1) * 16 + 1 ≤ z) && decide (z ≤ n * 16))) ∧ w' = w.alloc (.cells #[.int .i64 k, .int .i64 s, .int .i64 n, .int .i64 z, .int .u32 m] 24) := by
  have W1 := fun w => within8 z ((n - 1) * 16 + 1) (n * 16) w
  have e1 : IntKind.i64.wrap (n - 1) = n - 1 := by rw [IntKind.wrap_i64]; omega
  have e2 : IntKind.i64.wrap ((n - 1) * 16) = (n - 1) * 16 := by rw [IntKind.wrap_i64]; omega
  have e3 : IntKind.i64.wrap ((n - 1) * 16 + 1) = (n - 1) * 16 + 1 := by rw [IntKind.wrap_i64]; omega
  have e4 : IntKind.i64.wrap (n * 16) = n * 16 := by rw [IntKind.wrap_i64]; omega
  generalize (decide ((n - 1) * 16 + 1 ≤ z) && decide (z ≤ n * 16)) = B at W1 ⊢
  have H1 := Lib.hid W1
  clear W1
  go_enter Tryz.func57, Tryz.ntmps57
  go_wp2_with (go_at_call 55; (with_reducible refine (H1.out _).mono ?_); rintro e w' ⟨rfl, rfl⟩)
  go_ret
  exact ⟨rfl, rfl⟩
end Go.Proofs.YtlljcdmblmkblaaGreat
namespace Go.Proofs.YtlljcdmblmkblaaGreat
open Go.RowKit
set_option linter.unusedVariables false

theorem dec_t {q : Prop} [Decidable q] (h : q) : true = decide q := (decide_eq_true h).symm
theorem dec_f {q : Prop} [Decidable q] (h : ¬ q) : false = decide q := (decide_eq_false h).symm
set_option maxHeartbeats 4000000 in
theorem entryMay_any (k s n z m c : Int) (ho : EnOk (k, s, n, z, m)) (w : World) : Calls Tryz.prog 27 #[.agg #[.int .i64 k, .int .i64 s, .int .i64 n, .int .i64 z, .int .u32 m], .int .i64 c] w fun e w' => e = .returned (.bool (decide (MayE (k, s, n, z, m) c))) ∧ Below w.heap.size w w' := by
  have HG : Hid (∀ cs, Below w.heap.size w (w.alloc (.cells cs 24))) := fun cs => (Below.refl _ _).alloc (Nat.le_refl _) _
  have HG2 : Hid (∀ cs cs', Below w.heap.size w ((w.alloc (.cells cs 24)).alloc (.cells cs' 24))) := fun cs cs' => (HG.out _).alloc (by simp) _
  have HG3 : Hid (∀ cs cs' ds, Below w.heap.size w (((w.alloc (.cells cs 24)).alloc (.cells cs' 24)).alloc (.cells ds 24))) := fun cs cs' ds => (HG2.out _ _).alloc (by simp; omega) _
  by_cases hc : 0 ≤ c ∧ c ≤ 6
  · obtain ⟨C, rfl⟩ : ∃ C : Nat, c = C := ⟨c.toNat, by omega⟩
    have HW0 := Lib.hid (fun w => within8_yes hc w)
    obtain ⟨P, hP⟩ := named ((2 : Int) ^ C)
    have hPb := pow_le6 hc
    rw [Int.toNat_natCast, hP.out] at hPb
    obtain ⟨hp1, hp2⟩ := hPb
    have hC6 : C ≤ 6 := by omega
    have hPP : wrap64 (2 ^ C) = P := by rw [hP.out]; unfold wrap64; omega
    have hM : ∀ n, MayE (k, s, n, z, m) (C : Int) ↔ (((k = 0 ∨ k = 1) ∧ s = 0 ∧ n = 0 ∧ z = 0 ∧ m = 0) ∨ (k = 2 ∧ 2 ≤ s ∧ n = P ∧ s ≤ 65536 - n ∧ z = 0) ∨ (k = 3 ∧ 2 ≤ s ∧ 1 ≤ n ∧ n < P ∧ s ≤ 65536 - n ∧ 1 ≤ z ∧ z ≤ n * 16 ∧ (n - 1) * 16 < z)) := by
      intro n
      unfold MayE
      rw [Int.toNat_natCast, hP.out]
      dsimp only
      exact ⟨fun h => h.2, fun h => ⟨by omega, h⟩⟩
    have hk : k = 0 ∨ k = 1 ∨ k = 2 ∨ k = 3 ∨ (k ≠ 0 ∧ k ≠ 1 ∧ k ≠ 2 ∧ k ≠ 3) := by omega
    rcases hk with rfl | rfl | rfl | rfl | ⟨k0, k1, k2, k3⟩
    · have HE : Hid (MayE (0, s, n, z, m) (C : Int) ↔ (s = 0 ∧ n = 0 ∧ z = 0 ∧ m = 0)) := by rw [Hid, hM n]; omega
      clear hM
      go_enter Tryz.func27, Tryz.ntmps27
      go_wp2_with (first
        | (go_at_call 55; (with_reducible refine (HW0.out _).mono ?_); rintro e w' ⟨rfl, rfl⟩)
        | (go_at_call 55; (with_reducible refine (HW1.out _).mono ?_); rintro e w' ⟨rfl, rfl⟩)
        | (go_at_call 56; (with_reducible refine (HW2.out _).mono ?_); rintro e w' ⟨rfl, rfl⟩)
        | (go_at_call 57; (with_reducible refine (HW3.out _).mono ?_); rintro e w' ⟨rfl, rfl⟩))
      all_goals go_ret
      all_goals refine ⟨ret_dec (HE.out) ?_, by first | exact HG.out _ | exact HG2.out _ _ | exact HG3.out _ _ _⟩
      all_goals first | rfl | exact dec_f (by omega) | exact dec_t (by omega) | exact decide_eq_decide.2 (by omega) | (rw [Bool.eq_iff_iff]; simp; omega) | (simp; omega)
    · have HE : Hid (MayE (1, s, n, z, m) (C : Int) ↔ (s = 0 ∧ n = 0 ∧ z = 0 ∧ m = 0)) := by rw [Hid, hM n]; omega
      clear hM
      go_enter Tryz.func27, Tryz.ntmps27
      go_wp2_with (first
        | (go_at_call 55; (with_reducible refine (HW0.out _).mono ?_); rintro e w' ⟨rfl, rfl⟩)
        | (go_at_call 55; (with_reducible refine (HW1.out _).mono ?_); rintro e w' ⟨rfl, rfl⟩)
        | (go_at_call 56; (with_reducible refine (HW2.out _).mono ?_); rintro e w' ⟨rfl, rfl⟩)
        | (go_at_call 57; (with_reducible refine (HW3.out _).mono ?_); rintro e w' ⟨rfl, rfl⟩))
      all_goals go_ret
      all_goals refine ⟨ret_dec (HE.out) ?_, by first | exact HG.out _ | exact HG2.out _ _ | exact HG3.out _ _ _⟩
      all_goals first | rfl | exact dec_f (by omega) | exact dec_t (by omega) | exact decide_eq_decide.2 (by omega) | (rw [Bool.eq_iff_iff]; simp; omega) | (simp; omega)
    · have HE : Hid (MayE (2, s, n, z, m) (C : Int) ↔ (2 ≤ s ∧ n = P ∧ s ≤ 65536 - n ∧ z = 0)) := by rw [Hid, hM n]; omega
      clear hM
      by_cases hn : n = P
      · subst hn
        have HW1 := Lib.hid (fun w => within8_yes (n := n) (a := n) (b := n) (by omega) w)
        have w2 := fun w => placed8 2 s n z m (by omega) hp2 w
        obtain ⟨B, hB, h2⟩ : ∃ B : Bool, (decide (2 ≤ s) && decide (s ≤ 65536 - n)) = B ∧ ((B = true ∧ 2 ≤ s ∧ s ≤ 65536 - n) ∨ (B = false ∧ ¬ (2 ≤ s ∧ s ≤ 65536 - n))) := by
          by_cases h : 2 ≤ s ∧ s ≤ 65536 - n
          · exact ⟨true, by simp [h.1, h.2], Or.inl ⟨rfl, h⟩⟩
          · exact ⟨false, by rw [← Bool.decide_and, decide_eq_false_iff_not]; exact h, Or.inr ⟨rfl, h⟩⟩
        rw [hB] at w2
        have HW2 := Lib.hid w2
        clear w2 hB
        rcases h2 with ⟨rfl, h2⟩ | ⟨rfl, h2⟩
        all_goals
          go_enter Tryz.func27, Tryz.ntmps27
          go_wp2_with (first
            | (go_at_call 55; (with_reducible refine (HW0.out _).mono ?_); rintro e w' ⟨rfl, rfl⟩)
            | (go_at_call 55; (with_reducible refine (HW1.out _).mono ?_); rintro e w' ⟨rfl, rfl⟩)
            | (go_at_call 56; (with_reducible refine (HW2.out _).mono ?_); rintro e w' ⟨rfl, rfl⟩)
            | (go_at_call 57; (with_reducible refine (HW3.out _).mono ?_); rintro e w' ⟨rfl, rfl⟩))
          all_goals go_ret
          all_goals refine ⟨ret_dec (HE.out) ?_, by first | exact HG.out _ | exact HG2.out _ _ | exact HG3.out _ _ _⟩
          all_goals first | rfl | exact dec_f (by omega) | exact dec_t (by omega) | exact decide_eq_decide.2 (by omega) | (rw [Bool.eq_iff_iff]; simp; omega) | (simp; omega)
      · have HW1 := Lib.hid (fun w => within8_no (n := n) (a := P) (b := P) (by omega) w)
        go_enter Tryz.func27, Tryz.ntmps27
        go_wp2_with (first
          | (go_at_call 55; (with_reducible refine (HW0.out _).mono ?_); rintro e w' ⟨rfl, rfl⟩)
          | (go_at_call 55; (with_reducible refine (HW1.out _).mono ?_); rintro e w' ⟨rfl, rfl⟩)
          | (go_at_call 56; (with_reducible refine (HW2.out _).mono ?_); rintro e w' ⟨rfl, rfl⟩)
          | (go_at_call 57; (with_reducible refine (HW3.out _).mono ?_); rintro e w' ⟨rfl, rfl⟩))
        all_goals go_ret
        all_goals refine ⟨ret_dec (HE.out) ?_, by first | exact HG.out _ | exact HG2.out _ _ | exact HG3.out _ _ _⟩
        all_goals first | rfl | exact dec_f (by omega) | exact dec_t (by omega) | exact decide_eq_decide.2 (by omega) | (rw [Bool.eq_iff_iff]; simp; omega) | (simp; omega)
    · have HE : Hid (MayE (3, s, n, z, m) (C : Int) ↔ (2 ≤ s ∧ 1 ≤ n ∧ n < P ∧ s ≤ 65536 - n ∧ 1 ≤ z ∧ z ≤ n * 16 ∧ (n - 1) * 16 < z)) := by rw [Hid, hM n]; omega
      clear hM
      have eP : IntKind.i64.wrap (P - 1) = P - 1 := by rw [IntKind.wrap_i64]; omega
      by_cases hn : 1 ≤ n ∧ n ≤ P - 1
      · have HW1 := Lib.hid (fun w => within8_yes (n := n) (a := 1) (b := P - 1) (by omega) w)
        have w2 := fun w => placed8 3 s n z m (by omega) (by omega) w
        have w3 := fun w => filled8 3 s n z m (by omega) (by omega) w
        obtain ⟨B, hB, h2⟩ : ∃ B : Bool, (decide (2 ≤ s) && decide (s ≤ 65536 - n)) = B ∧ ((B = true ∧ 2 ≤ s ∧ s ≤ 65536 - n) ∨ (B = false ∧ ¬ (2 ≤ s ∧ s ≤ 65536 - n))) := by
          by_cases h : 2 ≤ s ∧ s ≤ 65536 - n
          · exact ⟨true, by simp [h.1, h.2], Or.inl ⟨rfl, h⟩⟩
          · exact ⟨false, by rw [← Bool.decide_and, decide_eq_false_iff_not]; exact h, Or.inr ⟨rfl, h⟩⟩
        rw [hB] at w2
        obtain ⟨D, hD, h3⟩ : ∃ B : Bool, (decide ((n - 1) * 16 + 1 ≤ z) && decide (z ≤ n * 16)) = B ∧ ((B = true ∧ (n - 1) * 16 + 1 ≤ z ∧ z ≤ n * 16) ∨ (B = false ∧ ¬ ((n - 1) * 16 + 1 ≤ z ∧ z ≤ n * 16))) := by
          by_cases h : (n - 1) * 16 + 1 ≤ z ∧ z ≤ n * 16
          · exact ⟨true, by simp [h.1, h.2], Or.inl ⟨rfl, h⟩⟩
          · exact ⟨false, by rw [← Bool.decide_and, decide_eq_false_iff_not]; exact h, Or.inr ⟨rfl, h⟩⟩
        rw [hD] at w3
        have HW2 := Lib.hid w2
        have HW3 := Lib.hid w3
        clear w2 hB w3 hD
        rcases h2 with ⟨rfl, h2⟩ | ⟨rfl, h2⟩ <;> rcases h3 with ⟨rfl, h3⟩ | ⟨rfl, h3⟩
        all_goals
          go_enter Tryz.func27, Tryz.ntmps27
          go_wp2_with (first
            | (go_at_call 55; (with_reducible refine (HW0.out _).mono ?_); rintro e w' ⟨rfl, rfl⟩)
            | (go_at_call 55; (with_reducible refine (HW1.out _).mono ?_); rintro e w' ⟨rfl, rfl⟩)
            | (go_at_call 56; (with_reducible refine (HW2.out _).mono ?_); rintro e w' ⟨rfl, rfl⟩)
            | (go_at_call 57; (with_reducible refine (HW3.out _).mono ?_); rintro e w' ⟨rfl, rfl⟩))
          all_goals go_ret
          all_goals refine ⟨ret_dec (HE.out) ?_, by first | exact HG.out _ | exact HG2.out _ _ | exact HG3.out _ _ _⟩
          all_goals first | rfl | exact dec_f (by omega) | exact dec_t (by omega) | exact decide_eq_decide.2 (by omega) | (rw [Bool.eq_iff_iff]; simp; omega) | (simp; omega)
      · have HW1 := Lib.hid (fun w => within8_no (n := n) (a := 1) (b := P - 1) (by omega) w)
        go_enter Tryz.func27, Tryz.ntmps27
        go_wp2_with (first
          | (go_at_call 55; (with_reducible refine (HW0.out _).mono ?_); rintro e w' ⟨rfl, rfl⟩)
          | (go_at_call 55; (with_reducible refine (HW1.out _).mono ?_); rintro e w' ⟨rfl, rfl⟩)
          | (go_at_call 56; (with_reducible refine (HW2.out _).mono ?_); rintro e w' ⟨rfl, rfl⟩)
          | (go_at_call 57; (with_reducible refine (HW3.out _).mono ?_); rintro e w' ⟨rfl, rfl⟩))
        all_goals go_ret
        all_goals refine ⟨ret_dec (HE.out) ?_, by first | exact HG.out _ | exact HG2.out _ _ | exact HG3.out _ _ _⟩
        all_goals first | rfl | exact dec_f (by omega) | exact dec_t (by omega) | exact decide_eq_decide.2 (by omega) | (rw [Bool.eq_iff_iff]; simp; omega) | (simp; omega)
    · have HE : Hid (MayE (k, s, n, z, m) (C : Int) ↔ False) := by
        rw [Hid, hM n]
        refine ⟨fun h => ?_, False.elim⟩
        rcases h with h | h | h <;> omega
      clear hM
      go_enter Tryz.func27, Tryz.ntmps27
      go_wp2_with (first
        | (go_at_call 55; (with_reducible refine (HW0.out _).mono ?_); rintro e w' ⟨rfl, rfl⟩)
        | (go_at_call 55; (with_reducible refine (HW1.out _).mono ?_); rintro e w' ⟨rfl, rfl⟩)
        | (go_at_call 56; (with_reducible refine (HW2.out _).mono ?_); rintro e w' ⟨rfl, rfl⟩)
        | (go_at_call 57; (with_reducible refine (HW3.out _).mono ?_); rintro e w' ⟨rfl, rfl⟩))
      all_goals go_ret
      all_goals refine ⟨ret_dec (HE.out) ?_, by first | exact HG.out _ | exact HG2.out _ _ | exact HG3.out _ _ _⟩
      all_goals first | rfl | exact dec_f (by omega) | exact dec_t (by omega) | exact decide_eq_decide.2 (by omega) | (rw [Bool.eq_iff_iff]; simp; omega) | (simp; omega)
  · have hd : decide (MayE (k, s, n, z, m) c) = false := by rw [decide_eq_false_iff_not]; exact fun h => hc h.1
    rw [hd]
    have HW0 := Lib.hid (fun w => within8_no hc w)
    go_enter Tryz.func27, Tryz.ntmps27
    go_wp2_with (go_at_call 55; (with_reducible refine (HW0.out _).mono ?_); rintro e w' ⟨rfl, rfl⟩)
    go_ret
    exact ⟨rfl, HG.out _⟩
end Go.Proofs.YtlljcdmblmkblaaGreat
namespace Go.Proofs.YtlljcdmblmkblaaGreat
open Go.RowKit
set_option linter.unusedVariables false

/-- A table: its leaves. -/
abbrev Tb := List (List En)
def lfAt (lf : List En) (k : Nat) : En := lf.getD k enZ
def tbAt (T : Tb) (i : Nat) : List En := T.getD i []
def rightL (lf : List En) (i : Nat) (n c : Int) : Prop := lf.length = 8 ∧ (∀ k, k < 8 → MayE (lfAt lf k) c ∧ ((lfAt lf k).1 ≠ 0 → ((i * 8 + k : Nat) : Int) < n)) ∧ ∃ k, k < 8 ∧ (lfAt lf k).1 ≠ 0
def rightT (T : Tb) (n c : Int) : Prop := (0 ≤ n ∧ n ≤ 4096) ∧ (0 ≤ c ∧ c ≤ 6) ∧ (0 < T.length → tbAt T (T.length - 1) ≠ []) ∧ T.length ≤ 512 ∧ ∀ i, i < T.length → tbAt T i ≠ [] → rightL (tbAt T i) i n c
noncomputable instance (T : Tb) (n c : Int) : Decidable (rightT T n c) := Classical.propDecidable _
def atN (T : Tb) (i : Nat) : En := lfAt (tbAt T (i / 8)) (i % 8)
def atT (T : Tb) (i : Int) : En := if i < 0 then enZ else atN T i.toNat
def fitsT (T : Tb) (e : En) : Prop := ∃ c, rightT T 4096 c ∧ MayE e c
noncomputable instance (T : Tb) (e : En) : Decidable (fitsT T e) := Classical.propDecidable _
/-- The first n leaves without the absent ones at their end. -/
def trimN (T : Tb) : Nat → Tb
  | 0 => []
  | n + 1 => if tbAt T n = [] then trimN T n else T.take (n + 1)
def full (lf : List En) : List En := if lf = [] then List.replicate 8 enZ else lf
def someL (lf : List En) : Prop := ∃ k, k < 8 ∧ (lfAt lf k).1 ≠ 0
noncomputable instance (lf : List En) : Decidable (someL lf) := Classical.propDecidable _
noncomputable def setL (lf : List En) (k : Nat) (e : En) : List En := if someL ((full lf).set k e) then (full lf).set k e else []
def padT (T : Tb) (j : Nat) : Tb := T ++ List.replicate (j + 1 - T.length) []
noncomputable def putT (T : Tb) (i : Nat) (e : En) : Tb := (padT T (i / 8)).set (i / 8) (setL (tbAt T (i / 8)) (i % 8) e)
noncomputable def setN (T : Tb) (i : Nat) (e : En) : Tb := if e.1 = 0 ∧ T.length ≤ i / 8 then T else trimN (putT T i e) (putT T i e).length
noncomputable def setT (T : Tb) (i : Int) (e : En) : Tb := if (0 ≤ i ∧ i < 4096) ∧ fitsT T e then setN T i.toNat e else T

theorem tbAt_out {T : Tb} {i : Nat} (h : T.length ≤ i) : tbAt T i = [] := by
  unfold tbAt
  rw [List.getD_eq_getElem?_getD, List.getElem?_eq_none h]
  rfl
theorem lfAt_out {lf : List En} {k : Nat} (h : lf.length ≤ k) : lfAt lf k = enZ := by
  unfold lfAt
  rw [List.getD_eq_getElem?_getD, List.getElem?_eq_none h]
  rfl
theorem tbAt_in {T : Tb} {i : Nat} (h : i < T.length) : tbAt T i = T[i] := by
  unfold tbAt
  rw [List.getD_eq_getElem?_getD, List.getElem?_eq_getElem h]
  rfl
theorem lfAt_in {lf : List En} {k : Nat} (h : k < lf.length) : lfAt lf k = lf[k] := by
  unfold lfAt
  rw [List.getD_eq_getElem?_getD, List.getElem?_eq_getElem h]
  rfl
theorem lfAt_nil (k : Nat) : lfAt [] k = enZ := lfAt_out (Nat.zero_le _)
theorem lfAt_set (lf : List En) (k j : Nat) (e : En) : lfAt (lf.set k e) j = if k = j ∧ k < lf.length then e else lfAt lf j := by
  unfold lfAt
  simp only [List.getD_eq_getElem?_getD, List.getElem?_set]
  by_cases h : k = j
  · subst h
    by_cases h2 : k < lf.length
    · simp [h2]
    · simp [h2]
  · simp [h]
theorem tbAt_set (T : Tb) (k j : Nat) (lf : List En) : tbAt (T.set k lf) j = if k = j ∧ k < T.length then lf else tbAt T j := by
  unfold tbAt
  simp only [List.getD_eq_getElem?_getD, List.getElem?_set]
  by_cases h : k = j
  · subst h
    by_cases h2 : k < T.length
    · simp [h2]
    · simp [h2]
  · simp [h]
theorem tbAt_pad (T : Tb) (j i : Nat) : tbAt (padT T j) i = tbAt T i := by
  unfold tbAt padT
  simp only [List.getD_eq_getElem?_getD, List.getElem?_append, List.getElem?_replicate]
  by_cases h : i < T.length
  · rw [if_pos h]
  · rw [if_neg h, List.getElem?_eq_none (Nat.le_of_not_lt h)]
    split <;> rfl
theorem pad_len (T : Tb) (j : Nat) : (padT T j).length = max T.length (j + 1) := by
  unfold padT
  rw [List.length_append, List.length_replicate]
  omega
theorem full_at (lf : List En) (k : Nat) : lfAt (full lf) k = lfAt lf k := by
  unfold full
  by_cases h : lf = []
  · subst h
    rw [if_pos rfl, lfAt_nil]
    unfold lfAt
    rw [List.getD_eq_getElem?_getD, List.getElem?_replicate]
    split <;> rfl
  · rw [if_neg h]
theorem trimN_at (T : Tb) : ∀ n, n ≤ T.length → ∀ i, tbAt (trimN T n) i = if i < n then tbAt T i else []
  | 0, _, i => by simp [trimN, tbAt]
  | n + 1, hn, i => by
    unfold trimN
    by_cases h : tbAt T n = []
    · rw [if_pos h, trimN_at T n (by omega) i]
      by_cases h1 : i < n
      · rw [if_pos h1, if_pos (by omega)]
      · by_cases h2 : i = n
        · subst h2
          rw [if_neg h1, if_pos (by omega), h]
        · rw [if_neg h1, if_neg (by omega)]
    · rw [if_neg h]
      unfold tbAt
      rw [List.getD_eq_getElem?_getD, List.getD_eq_getElem?_getD, List.getElem?_take]
      by_cases h1 : i < n + 1
      · rw [if_pos h1, if_pos h1]
      · rw [if_neg h1, if_neg h1]
        rfl
theorem trimN_len (T : Tb) : ∀ n, n ≤ T.length → (trimN T n).length ≤ n ∧ (0 < (trimN T n).length → tbAt (trimN T n) ((trimN T n).length - 1) ≠ [])
  | 0, _ => by simp [trimN]
  | n + 1, hn => by
    have ih := trimN_len T n (by omega)
    by_cases h : tbAt T n = []
    · have e : trimN T (n + 1) = trimN T n := by
        show (if tbAt T n = [] then trimN T n else T.take (n + 1)) = _
        rw [if_pos h]
      rw [e]
      exact ⟨by omega, ih.2⟩
    · have e : trimN T (n + 1) = T.take (n + 1) := by
        show (if tbAt T n = [] then trimN T n else T.take (n + 1)) = _
        rw [if_neg h]
      have hl : (T.take (n + 1)).length = n + 1 := by rw [List.length_take]; omega
      have ha : tbAt (T.take (n + 1)) n = tbAt T n := by
        unfold tbAt
        rw [List.getD_eq_getElem?_getD, List.getD_eq_getElem?_getD, List.getElem?_take, if_pos (by omega)]
      rw [e, hl]
      refine ⟨Nat.le_refl _, fun _ => ?_⟩
      rw [Nat.add_sub_cancel, ha]
      exact h
theorem putT_len (T : Tb) (i : Nat) (e : En) : (putT T i e).length = max T.length (i / 8 + 1) := by
  unfold putT
  rw [List.length_set, pad_len]
theorem putT_at (T : Tb) (i j : Nat) (e : En) : tbAt (putT T i e) j = if i / 8 = j then setL (tbAt T (i / 8)) (i % 8) e else tbAt T j := by
  unfold putT
  rw [tbAt_set, pad_len, tbAt_pad]
  by_cases h : i / 8 = j
  · rw [if_pos ⟨h, by omega⟩, if_pos h]
  · rw [if_neg (fun h' => h h'.1), if_neg h]
theorem setN_tb {T : Tb} {i : Nat} {e : En} (h : ¬ (e.1 = 0 ∧ T.length ≤ i / 8)) (j : Nat) : tbAt (setN T i e) j = if i / 8 = j then setL (tbAt T (i / 8)) (i % 8) e else tbAt T j := by
  unfold setN
  rw [if_neg h, trimN_at _ _ (Nat.le_refl _), ← putT_at]
  by_cases h1 : j < (putT T i e).length
  · rw [if_pos h1]
  · rw [if_neg h1, tbAt_out (Nat.le_of_not_lt h1)]
/-- A leaf that may stand in a right table, but for where it stands. -/
def okL (lf : List En) (c : Int) : Prop := lf = [] ∨ lf.length = 8 ∧ ∀ k, k < 8 → MayE (lfAt lf k) c
theorem full_ok {lf : List En} {c : Int} (hc : 0 ≤ c ∧ c ≤ 6) (h : okL lf c) : (full lf).length = 8 ∧ ∀ k, k < 8 → MayE (lfAt (full lf) k) c := by
  rcases h with rfl | ⟨h1, h2⟩
  · refine ⟨by simp [full], fun k hk => ?_⟩
    rw [full_at, lfAt_nil]
    exact ⟨hc, Or.inl ⟨Or.inl rfl, rfl, rfl, rfl, rfl⟩⟩
  · have hne : lf ≠ [] := fun e => by rw [e] at h1; cases h1
    unfold full
    rw [if_neg hne]
    exact ⟨h1, h2⟩
theorem none_is {x : En} {c : Int} (h : MayE x c) (h0 : x.1 = 0) : x = enZ := by
  obtain ⟨a, b, d, e, f⟩ := x
  obtain ⟨_, h⟩ := h
  dsimp only at h h0
  have : a = 0 ∧ b = 0 ∧ d = 0 ∧ e = 0 ∧ f = 0 := by omega
  obtain ⟨rfl, rfl, rfl, rfl, rfl⟩ := this
  rfl
theorem setL_at {lf : List En} {c : Int} (hc : 0 ≤ c ∧ c ≤ 6) (h : okL lf c) {k : Nat} (hk : k < 8) {e : En} (he : MayE e c) (j : Nat) : lfAt (setL lf k e) j = if k = j then e else lfAt lf j := by
  obtain ⟨f1, f2⟩ := full_ok hc h
  have hs : lfAt ((full lf).set k e) j = if k = j then e else lfAt lf j := by
    rw [lfAt_set, full_at]
    by_cases hj : k = j
    · rw [if_pos ⟨hj, by omega⟩, if_pos hj]
    · rw [if_neg (fun h' => hj h'.1), if_neg hj]
  unfold setL
  by_cases hso : someL ((full lf).set k e)
  · rw [if_pos hso, hs]
  · rw [if_neg hso, lfAt_nil, ← hs]
    by_cases hj : j < 8
    · have hm : MayE (lfAt ((full lf).set k e) j) c := by
        rw [lfAt_set]
        split
        · exact he
        · exact f2 j hj
      have h0 : (lfAt ((full lf).set k e) j).1 = 0 := Decidable.byContradiction fun h0 => hso ⟨j, hj, h0⟩
      exact (none_is hm h0).symm
    · rw [lfAt_out (by rw [List.length_set]; omega)]
theorem setL_ok {lf : List En} {c : Int} (hc : 0 ≤ c ∧ c ≤ 6) (h : okL lf c) {k : Nat} (hk : k < 8) {e : En} (he : MayE e c) : setL lf k e = [] ∨ (setL lf k e).length = 8 ∧ (∀ j, j < 8 → MayE (lfAt (setL lf k e) j) c) ∧ someL (setL lf k e) := by
  obtain ⟨f1, f2⟩ := full_ok hc h
  by_cases hso : someL ((full lf).set k e)
  · have e1 : setL lf k e = (full lf).set k e := by unfold setL; rw [if_pos hso]
    rw [e1]
    refine Or.inr ⟨by rw [List.length_set]; exact f1, fun j hj => ?_, hso⟩
    rw [lfAt_set]
    split
    · exact he
    · exact f2 j hj
  · exact Or.inl (by unfold setL; rw [if_neg hso])
theorem rightT.ok {T : Tb} {n c : Int} (h : rightT T n c) (i : Nat) : okL (tbAt T i) c := by
  by_cases hi : i < T.length
  · by_cases hn : tbAt T i = []
    · exact Or.inl hn
    · obtain ⟨h1, h2, _⟩ := h.2.2.2.2 i hi hn
      exact Or.inr ⟨h1, fun k hk => (h2 k hk).1⟩
  · exact Or.inl (tbAt_out (Nat.le_of_not_lt hi))
theorem atN_set {T : Tb} {c : Int} (h : rightT T 4096 c) {e : En} (he : MayE e c) (i j : Nat) : atN (setN T i e) j = if j = i then e else atN T j := by
  by_cases hn : e.1 = 0 ∧ T.length ≤ i / 8
  · have e1 : setN T i e = T := by unfold setN; rw [if_pos hn]
    rw [e1]
    by_cases hj : j = i
    · subst hj
      rw [if_pos rfl, none_is he hn.1]
      unfold atN
      rw [tbAt_out hn.2, lfAt_nil]
    · rw [if_neg hj]
  · unfold atN
    rw [setN_tb hn]
    by_cases h1 : i / 8 = j / 8
    · rw [if_pos h1, setL_at h.2.1 (h.ok _) (Nat.mod_lt _ (by omega)) he]
      by_cases h2 : j = i
      · rw [if_pos (by omega), if_pos h2]
      · rw [if_neg (by omega), if_neg h2, h1]
    · rw [if_neg h1, if_neg (by intro e'; subst e'; exact h1 rfl)]
theorem rightT_set {T : Tb} {c : Int} (h : rightT T 4096 c) {e : En} (he : MayE e c) {i : Nat} (hi : i < 4096) : rightT (setN T i e) 4096 c := by
  by_cases hn : e.1 = 0 ∧ T.length ≤ i / 8
  · have e1 : setN T i e = T := by unfold setN; rw [if_pos hn]
    rw [e1]
    exact h
  · have hle : (setN T i e).length ≤ (putT T i e).length ∧ (0 < (setN T i e).length → tbAt (setN T i e) ((setN T i e).length - 1) ≠ []) := by
      have := trimN_len (putT T i e) _ (Nat.le_refl _)
      have e2 : setN T i e = trimN (putT T i e) (putT T i e).length := by unfold setN; rw [if_neg hn]
      rw [e2]
      exact this
    have hl := putT_len T i e
    have h5 := h.2.2.2.1
    refine ⟨h.1, h.2.1, hle.2, by omega, fun j hj hne => ?_⟩
    rw [setN_tb hn] at hne ⊢
    by_cases h1 : i / 8 = j
    · rw [if_pos h1] at hne ⊢
      rcases setL_ok h.2.1 (h.ok (i / 8)) (Nat.mod_lt i (by omega)) he with h2 | ⟨h2, h3, h4⟩
      · exact absurd h2 hne
      · exact ⟨h2, fun k hk => ⟨h3 k hk, fun _ => by omega⟩, h4⟩
    · rw [if_neg h1] at hne ⊢
      have hjT : j < T.length := by
        rcases Nat.lt_or_ge j T.length with h' | h'
        · exact h'
        · exact absurd (tbAt_out h') hne
      exact h.2.2.2.2 j hjT hne
theorem atN_is {T : Tb} (i k : Nat) (hk : k < 8) : atN T (i * 8 + k) = lfAt (tbAt T i) k := by
  unfold atN
  have e1 : (i * 8 + k) / 8 = i := by omega
  have e2 : (i * 8 + k) % 8 = k := by omega
  rw [e1, e2]
theorem right_le {T T' : Tb} {n c n' c' : Int} (h : rightT T n c) (h' : rightT T' n' c') (he : ∀ j, atN T j = atN T' j) : T.length ≤ T'.length := by
  rcases Nat.lt_or_ge T'.length T.length with hlt | hge
  · have hne := h.2.2.1 (by omega)
    obtain ⟨_, _, k, hk, h0⟩ := h.2.2.2.2 (T.length - 1) (by omega) hne
    rw [← atN_is _ _ hk, he, atN_is _ _ hk, tbAt_out (by omega), lfAt_nil] at h0
    exact absurd rfl h0
  · exact hge
/-- Right tables that have the same entries are one. -/
theorem right_ext {T T' : Tb} {n c n' c' : Int} (h : rightT T n c) (h' : rightT T' n' c') (he : ∀ j, atN T j = atN T' j) : T = T' := by
  have hl : T.length = T'.length := Nat.le_antisymm (right_le h h' he) (right_le h' h (fun j => (he j).symm))
  refine List.ext_getElem hl fun i h1 h2 => ?_
  rw [← tbAt_in h1, ← tbAt_in h2]
  have hk : ∀ k, k < 8 → lfAt (tbAt T i) k = lfAt (tbAt T' i) k := fun k hk => by rw [← atN_is _ _ hk, he, atN_is _ _ hk]
  by_cases e1 : tbAt T i = []
  · by_cases e2 : tbAt T' i = []
    · rw [e1, e2]
    · obtain ⟨_, _, k, hk8, h0⟩ := h'.2.2.2.2 i h2 e2
      rw [← hk k hk8, e1, lfAt_nil] at h0
      exact absurd rfl h0
  · by_cases e2 : tbAt T' i = []
    · obtain ⟨_, _, k, hk8, h0⟩ := h.2.2.2.2 i h1 e1
      rw [hk k hk8, e2, lfAt_nil] at h0
      exact absurd rfl h0
    · obtain ⟨l1, _⟩ := h.2.2.2.2 i h1 e1
      obtain ⟨l2, _⟩ := h'.2.2.2.2 i h2 e2
      refine List.ext_getElem (l1.trans l2.symm) fun k g1 g2 => ?_
      rw [← lfAt_in g1, ← lfAt_in g2]
      exact hk k (by omega)
theorem atT_nat (T : Tb) (i : Nat) : atT T (i : Int) = atN T i := by
  unfold atT
  rw [if_neg (by omega), Int.toNat_natCast]
theorem right_nil {c : Int} (hc : 0 ≤ c ∧ c ≤ 6) : rightT [] 4096 c := ⟨by omega, hc, fun h => absurd h (by simp), by simp, fun i h => absurd h (by simp)⟩
theorem atN_nil (i : Nat) : atN [] i = enZ := by
  unfold atN
  rw [tbAt_out (Nat.zero_le _), lfAt_nil]
theorem atN_far {T : Tb} {n c : Int} (h : rightT T n c) {i : Nat} (hi : n ≤ i) : atN T i = enZ := by
  by_cases hl : i / 8 < T.length
  · by_cases hn : tbAt T (i / 8) = []
    · unfold atN
      rw [hn, lfAt_nil]
    · obtain ⟨_, h2, _⟩ := h.2.2.2.2 _ hl hn
      obtain ⟨h3, h4⟩ := h2 (i % 8) (Nat.mod_lt _ (by omega))
      refine none_is (x := atN T i) h3 ?_
      refine Decidable.byContradiction fun h0 => ?_
      have := h4 h0
      omega
  · unfold atN
    rw [tbAt_out (Nat.le_of_not_lt hl), lfAt_nil]
end Go.Proofs.YtlljcdmblmkblaaGreat
namespace Go.Proofs.YtlljcdmblmkblaaGreat
open Go.RowKit
set_option linter.unusedVariables false

/-- A leaf of which an entry is something. -/
def liveL (lf : List En) : Prop := ∃ x ∈ lf, x.1 ≠ 0
instance (lf : List En) : Decidable (liveL lf) := by unfold liveL; infer_instance
def nbL (lf : List En) : List En := if liveL lf then lf else []
/-- A table without its blank leaves, and without the absent ones at its end. -/
def wbT (T : Tb) : Tb := trimN (T.map nbL) T.length
def setG (T : Tb) (i : Nat) (e : En) : Tb := wbT ((padT T (i / 8)).set (i / 8) ((full (tbAt T (i / 8))).set (i % 8) e))
/-- How many entries of leaf j have an index below n. -/
def belowN (n j : Nat) : Nat := min (n - j * 8) 8
def cutL (lf : List En) (m : Nat) : List En := lf.take m ++ List.replicate (lf.length - m) enZ
def cutsT (T : Tb) (n : Nat) : Tb := T.mapIdx fun j lf => cutL lf (belowN n j)
def cutG (T : Tb) (n : Nat) : Tb := wbT (cutsT T n)
noncomputable def cutT (T : Tb) (n : Int) : Tb := if fitsT T enZ then cutG T n.toNat else T

theorem liveL_at {lf : List En} : liveL lf ↔ ∃ k, k < lf.length ∧ (lfAt lf k).1 ≠ 0 := by
  constructor
  · rintro ⟨x, hx, h0⟩
    obtain ⟨k, hk, rfl⟩ := List.getElem_of_mem hx
    exact ⟨k, hk, by rw [lfAt_in hk]; exact h0⟩
  · rintro ⟨k, hk, h0⟩
    rw [lfAt_in hk] at h0
    exact ⟨_, List.getElem_mem hk, h0⟩
theorem tbAt_map (T : Tb) (f : List En → List En) (hf : f [] = []) (j : Nat) : tbAt (T.map f) j = f (tbAt T j) := by
  unfold tbAt
  rw [List.getD_eq_getElem?_getD, List.getD_eq_getElem?_getD, List.getElem?_map]
  cases T[j]? with
  | none => exact hf.symm
  | some x => rfl
theorem nbL_nil : nbL [] = [] := by unfold nbL; split <;> rfl
theorem wbT_tb (T : Tb) (j : Nat) : tbAt (wbT T) j = nbL (tbAt T j) := by
  unfold wbT
  have hl : T.length ≤ (T.map nbL).length := by rw [List.length_map]; exact Nat.le_refl _
  rw [trimN_at _ _ hl, tbAt_map _ _ nbL_nil]
  by_cases h : j < T.length
  · rw [if_pos h]
  · rw [if_neg h, tbAt_out (Nat.le_of_not_lt h), nbL_nil]
theorem wbT_last (T : Tb) : (wbT T).length ≤ T.length ∧ (0 < (wbT T).length → tbAt (wbT T) ((wbT T).length - 1) ≠ []) :=
  trimN_len _ _ (by rw [List.length_map]; exact Nat.le_refl _)
theorem nbL_at {lf : List En} {c : Int} (h : ∀ k, k < lf.length → MayE (lfAt lf k) c) (k : Nat) : lfAt (nbL lf) k = lfAt lf k := by
  unfold nbL
  by_cases hl : liveL lf
  · rw [if_pos hl]
  · rw [if_neg hl, lfAt_nil]
    by_cases hk : k < lf.length
    · refine (none_is (h k hk) ?_).symm
      refine Decidable.byContradiction fun h0 => hl (liveL_at.2 ⟨k, hk, h0⟩)
    · rw [lfAt_out (Nat.le_of_not_lt hk)]
/-- A table whose leaves may stand in a right one is right without its blank leaves. -/
theorem wbT_right {T : Tb} {c : Int} (hc : 0 ≤ c ∧ c ≤ 6) (hlen : T.length ≤ 512) (h : ∀ j, okL (tbAt T j) c) : rightT (wbT T) 4096 c ∧ ∀ i, atN (wbT T) i = atN T i := by
  obtain ⟨h1, h2⟩ := wbT_last T
  refine ⟨⟨by omega, hc, h2, by omega, fun j hj hne => ?_⟩, fun i => ?_⟩
  · rw [wbT_tb] at hne ⊢
    have hl : liveL (tbAt T j) := Decidable.byContradiction fun hl => hne (by unfold nbL; rw [if_neg hl])
    have e : nbL (tbAt T j) = tbAt T j := by unfold nbL; rw [if_pos hl]
    rw [e] at hne ⊢
    obtain ⟨g1, g2⟩ := (h j).resolve_left hne
    obtain ⟨k, hk, h0⟩ := liveL_at.1 hl
    exact ⟨g1, fun k hk => ⟨g2 k hk, fun _ => by omega⟩, k, by omega, h0⟩
  · unfold atN
    rw [wbT_tb]
    refine nbL_at (c := c) (fun k hk => ?_) _
    rcases h (i / 8) with e | ⟨g1, g2⟩
    · rw [e] at hk
      cases hk
    · exact g2 k (by omega)
theorem setG_is {T : Tb} {c : Int} (h : rightT T 4096 c) {e : En} (he : MayE e c) {i : Nat} (hi : i < 4096) : setG T i e = setN T i e := by
  have hl5 := h.2.2.2.1
  obtain ⟨f1, f2⟩ := full_ok h.2.1 (h.ok (i / 8))
  have hlen : ((padT T (i / 8)).set (i / 8) ((full (tbAt T (i / 8))).set (i % 8) e)).length ≤ 512 := by rw [List.length_set, pad_len]; omega
  have ht : ∀ j, tbAt ((padT T (i / 8)).set (i / 8) ((full (tbAt T (i / 8))).set (i % 8) e)) j = if i / 8 = j then (full (tbAt T (i / 8))).set (i % 8) e else tbAt T j := fun j => by
    rw [tbAt_set, pad_len, tbAt_pad]
    by_cases hj : i / 8 = j
    · rw [if_pos ⟨hj, by omega⟩, if_pos hj]
    · rw [if_neg (fun h' => hj h'.1), if_neg hj]
  have hok : ∀ j, okL (tbAt ((padT T (i / 8)).set (i / 8) ((full (tbAt T (i / 8))).set (i % 8) e)) j) c := fun j => by
    rw [ht]
    by_cases hj : i / 8 = j
    · rw [if_pos hj]
      refine Or.inr ⟨by rw [List.length_set]; exact f1, fun k hk => ?_⟩
      rw [lfAt_set]
      split
      · exact he
      · exact f2 k hk
    · rw [if_neg hj]
      exact h.ok j
  obtain ⟨g1, g2⟩ := wbT_right h.2.1 hlen hok
  refine right_ext g1 (rightT_set h he hi) fun j => ?_
  rw [atN_set h he]
  show atN (wbT _) j = _
  rw [g2]
  unfold atN
  rw [ht]
  by_cases h1 : i / 8 = j / 8
  · rw [if_pos h1, lfAt_set, full_at, f1]
    by_cases h2 : j = i
    · rw [if_pos (by omega), if_pos h2]
    · rw [if_neg (by omega), if_neg h2, h1]
  · rw [if_neg h1, if_neg (by intro e'; subst e'; exact h1 rfl)]
theorem cutL_len (lf : List En) (m : Nat) : (cutL lf m).length = lf.length := by
  unfold cutL
  rw [List.length_append, List.length_take, List.length_replicate]
  omega
theorem cutL_at (lf : List En) (m k : Nat) : lfAt (cutL lf m) k = if k < m then lfAt lf k else enZ := by
  unfold lfAt cutL
  rw [List.getD_eq_getElem?_getD, List.getD_eq_getElem?_getD, List.getElem?_append, List.length_take, List.getElem?_take, List.getElem?_replicate]
  by_cases h : k < m
  · rw [if_pos h]
    by_cases h2 : k < min m lf.length
    · rw [if_pos h2, if_pos h]
    · rw [if_neg h2, List.getElem?_eq_none (show lf.length ≤ k by omega)]
      split <;> rfl
  · rw [if_neg h, if_neg (by omega)]
    split <;> rfl
theorem cutL_nil (m : Nat) : cutL [] m = [] := by
  unfold cutL
  simp
theorem cutsT_len (T : Tb) (n : Nat) : (cutsT T n).length = T.length := by unfold cutsT; rw [List.length_mapIdx]
theorem cutsT_tb (T : Tb) (n j : Nat) : tbAt (cutsT T n) j = cutL (tbAt T j) (belowN n j) := by
  unfold tbAt cutsT
  rw [List.getD_eq_getElem?_getD, List.getD_eq_getElem?_getD, List.getElem?_mapIdx]
  cases T[j]? with
  | none => exact (cutL_nil _).symm
  | some x => rfl
theorem cutG_is {T : Tb} {c : Int} (h : rightT T 4096 c) (n : Nat) : rightT (cutG T n) 4096 c ∧ ∀ j, atN (cutG T n) j = if j < n then atN T j else enZ := by
  have hz : MayE enZ c := ⟨h.2.1, Or.inl ⟨Or.inl rfl, rfl, rfl, rfl, rfl⟩⟩
  have hok : ∀ j, okL (tbAt (cutsT T n) j) c := fun j => by
    rw [cutsT_tb]
    rcases h.ok j with e | ⟨g1, g2⟩
    · rw [e, cutL_nil]
      exact Or.inl rfl
    · refine Or.inr ⟨by rw [cutL_len]; exact g1, fun k hk => ?_⟩
      rw [cutL_at]
      split
      · exact g2 k hk
      · exact hz
  obtain ⟨g1, g2⟩ := wbT_right h.2.1 (by rw [cutsT_len]; exact h.2.2.2.1) hok
  refine ⟨g1, fun j => ?_⟩
  show atN (wbT _) j = _
  rw [g2]
  unfold atN
  rw [cutsT_tb, cutL_at]
  unfold belowN
  by_cases hj : j < n
  · rw [if_pos (by omega), if_pos hj]
  · rw [if_neg (by omega), if_neg hj]
theorem none_may {c : Int} (hc : 0 ≤ c ∧ c ≤ 6) : MayE enZ c := ⟨hc, Or.inl ⟨Or.inl rfl, rfl, rfl, rfl, rfl⟩⟩
theorem setT_at {T : Tb} {c : Int} (h : rightT T 4096 c) {e : En} (he : MayE e c) {i : Int} (hi : 0 ≤ i ∧ i < 4096) : rightT (setT T i e) 4096 c ∧ ∀ j, atN (setT T i e) j = if j = i.toNat then e else atN T j := by
  have hf : fitsT T e := ⟨c, h, he⟩
  unfold setT
  rw [if_pos ⟨hi, hf⟩]
  exact ⟨rightT_set h he (by omega), fun j => atN_set h he _ _⟩
theorem cutT_at {T : Tb} {c : Int} (h : rightT T 4096 c) (n : Int) : rightT (cutT T n) 4096 c ∧ ∀ j, atN (cutT T n) j = if j < n.toNat then atN T j else enZ := by
  unfold cutT
  rw [if_pos ⟨c, h, none_may h.2.1⟩]
  exact cutG_is h _
/-- A right table of which nothing stands behind n is right for n clusters. -/
theorem right_less {T : Tb} {c : Int} (h : rightT T 4096 c) {n : Int} (hn : 0 ≤ n ∧ n ≤ 4096) (h0 : ∀ j : Nat, n ≤ j → (atN T j).1 = 0) : rightT T n c := by
  refine ⟨hn, h.2.1, h.2.2.1, h.2.2.2.1, fun i hi hne => ?_⟩
  obtain ⟨g1, g2, g3⟩ := h.2.2.2.2 i hi hne
  refine ⟨g1, fun k hk => ⟨(g2 k hk).1, fun h1 => ?_⟩, g3⟩
  rcases Int.lt_or_le ((i * 8 + k : Nat) : Int) n with h' | h'
  · exact h'
  · have := h0 _ h'
    rw [atN_is i k hk] at this
    exact absurd this h1
/-- The bound of leaves follows. -/
def rightM (T : Tb) (n c : Int) : Prop := (0 ≤ n ∧ n ≤ 4096) ∧ (0 ≤ c ∧ c ≤ 6) ∧ (0 < T.length → tbAt T (T.length - 1) ≠ []) ∧ ∀ i, i < T.length → tbAt T i ≠ [] → rightL (tbAt T i) i n c
theorem rightM_iff {T : Tb} {n c : Int} : rightT T n c ↔ rightM T n c := by
  constructor
  · rintro ⟨h1, h2, h3, _, h5⟩
    exact ⟨h1, h2, h3, h5⟩
  · rintro ⟨h1, h2, h3, h5⟩
    refine ⟨h1, h2, h3, ?_, h5⟩
    rcases Nat.lt_or_ge 512 T.length with h | h
    · have hne := h3 (by omega)
      obtain ⟨_, g2, k, hk, h0⟩ := h5 (T.length - 1) (by omega) hne
      have := (g2 k hk).2 h0
      omega
    · exact h
end Go.Proofs.YtlljcdmblmkblaaGreat
