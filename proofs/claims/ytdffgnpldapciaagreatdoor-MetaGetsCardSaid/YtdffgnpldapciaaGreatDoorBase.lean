/-
  Slices of bytes: what reads as bytes, the call's own bytes, what an append, a make and a store do to them. Conditions: short texts, bytes from 0 to 255.
-/
import Derived.Test.YtdffgnpldapciaaGreatDoorRows
import Derived.WalkKit
import Derived.WalkSpells
import Derived.WalkLawsBesides
import Derived.Lib.Hide
import Derived.OpenShut
import Derived.Laws.AppendOwnNone
namespace Go.Proofs.YtdffgnpldapciaaGreatDoor
open Go.RowKit

theorem ret_int {k : IntKind} {a b : Int} (h : a = b) : Ending.returned (.int k a) = .returned (.int k b) := by rw [h]
theorem int_eq {k : IntKind} {a b : Int} (h : a = b) : Value.int k a = .int k b := by rw [h]
/-- The bytes l lie in the cells from ⟨b, off⟩ on. -/
def Lies (w : World) (b off : Nat) (l : List Int) : Prop := ∀ i : Nat, i < l.length → w.cell? ⟨b, off + i, none⟩ = some (.int .u8 (l.getD i 0))
def Small (l : List Int) : Prop := l.length ≤ 140737488351232 ∧ ∀ c ∈ l, 0 ≤ c ∧ c < 256
theorem Small.at {l : List Int} (h : Small l) {k : Nat} (hk : k < l.length) : 0 ≤ l.getD k 0 ∧ l.getD k 0 < 256 := by
  rw [List.getD_eq_getElem?_getD, List.getElem?_eq_getElem hk]
  exact h.2 _ (List.getElem_mem hk)
theorem take_snoc (l : List Int) (k : Nat) (h : k < l.length) : l.take (k + 1) = l.take k ++ [l.getD k 0] := by
  rw [List.take_succ_eq_append_getElem h, List.getD_eq_getElem?_getD, List.getElem?_eq_getElem h]
  rfl
theorem Small.take {l : List Int} (h : Small l) (k : Nat) : Small (l.take k) :=
  ⟨by rw [List.length_take]; have := h.1; omega, fun c hc => h.2 c (List.mem_of_mem_take hc)⟩
theorem Small.lt {l : List Int} (h : Small l) : ∀ c ∈ l, c < 256 := fun c hc => (h.2 c hc).2
/-- The slice reads as the bytes l. -/
def Bytes (w : World) (a : Option Addr) (len : Nat) (l : List Int) : Prop :=
  l.length = len ∧ Small l ∧ (len = 0 ∨ ∃ b off, a = some ⟨b, off, none⟩ ∧ b < w.heap.size ∧ Lies w b off l)
theorem Bytes.later {w w' : World} {a : Option Addr} {len : Nat} {l : List Int} (h : Bytes w a len l) (hb : Below w.heap.size w w') : Bytes w' a len l := by
  obtain ⟨h1, h2, h3⟩ := h
  refine ⟨h1, h2, ?_⟩
  rcases h3 with h3 | ⟨b, off, ha, hlt, hc⟩
  · exact Or.inl h3
  · exact Or.inr ⟨b, off, ha, Nat.lt_of_lt_of_le hlt hb.size, fun i hi => (hb.cell (p := ⟨b, off + i, none⟩) hlt).trans (hc i hi)⟩
theorem Bytes.cell0 {w : World} {b n : Nat} {l : List Int} (h : Bytes w (some ⟨b, 0, none⟩) n l) (i : Nat) (hi : i < n) : w.cell? ⟨b, i, none⟩ = some (.int .u8 (l.getD i 0)) := by
  obtain ⟨rfl, _, h3⟩ := h
  obtain ⟨b', off, e, _, hc⟩ := h3.resolve_left (by omega)
  cases e
  have := hc i hi
  rwa [Nat.zero_add] at this
theorem Bytes.cellAt {w : World} {b off n : Nat} {l : List Int} (h : Bytes w (some ⟨b, off, none⟩) n l) (i : Nat) (hi : i < n) : w.cell? ⟨b, off + i, none⟩ = some (.int .u8 (l.getD i 0)) := by
  obtain ⟨rfl, _, h3⟩ := h
  obtain ⟨b', off', e, _, hc⟩ := h3.resolve_left (by omega)
  cases e
  exact hc i hi
theorem Bytes.drew {w : World} {a : Option Addr} {len : Nat} {l : List Int} (h : Bytes w a len l) : Bytes w.drew a len l := h.later (Below.refl _ _).drew
theorem Bytes.lies {w : World} {a : Option Addr} {len : Nat} {l : List Int} (h : Bytes w a len l) (h0 : 0 < len) : ∃ b off, a = some ⟨b, off, none⟩ := by
  obtain ⟨_, _, h3⟩ := h
  obtain ⟨b, off, e, _⟩ := h3.resolve_left (by omega)
  exact ⟨b, off, e⟩
theorem Bytes.small {w : World} {a : Option Addr} {len : Nat} {l : List Int} (h : Bytes w a len l) : Small l := h.2.1
theorem none_bytes (w : World) : Bytes w none 0 [] := ⟨rfl, ⟨by simp, by simp⟩, Or.inl rfl⟩
theorem byte_of_wf {n : Int} (h : (Lit.int .u8 n).wf = true) : 0 ≤ n ∧ n < 256 := by
  have := bounds_u8 h
  omega
theorem word_of_wf {n : Int} (h : (Lit.int .u32 n).wf = true) : ∃ s : Nat, n = (s : Int) ∧ s < 4294967296 := by
  have := bounds_u32 h
  exact ⟨n.toNat, by omega, by omega⟩
theorem add_none (b off i : Nat) : (⟨b, off, none⟩ : Addr).add i = ⟨b, off + i, none⟩ := by simp [Addr.add]
/-- A slice that came in, of no more than 20000 bytes. -/
theorem bytes_of {w : World} {a : Option Addr} {len cap : Nat} {zs : List Int}
    (h : (a = none ∧ len = 0 ∧ cap = 0 ∧ zs = []) ∨ ∃ x, a = some x ∧ len ≤ cap ∧ cap ≤ maxLen ∧ zs.length = cap ∧ (∀ i, i < zs.length → w.cell? (x.add i) = some (.int .u8 (zs.getD i 0))) ∧ ∀ n ∈ zs, (Lit.int .u8 n).wf = true)
    (hlen : len ≤ 20000) : Bytes w a len (zs.take len) := by
  rcases h with ⟨rfl, rfl, rfl, rfl⟩ | ⟨x, rfl, h1, h2, h3, h4, h5⟩
  · exact none_bytes w
  · refine ⟨by rw [List.length_take]; omega, ⟨by rw [List.length_take]; omega, fun c hc => byte_of_wf (h5 c (List.mem_of_mem_take hc))⟩, ?_⟩
    by_cases h0 : len = 0
    · exact Or.inl h0
    · obtain ⟨b, off, spot⟩ := x
      have hc := h4 0 (by omega)
      have hspot : spot = none := by simpa [Addr.add] using World.cell?_spot hc
      subst hspot
      have hlt : b < w.heap.size := block_lt_of_cell hc
      refine Or.inr ⟨b, off, rfl, hlt, fun i hi => ?_⟩
      rw [List.length_take] at hi
      have := h4 i (by omega)
      rw [add_none] at this
      rw [this, List.getD_eq_getElem?_getD, List.getD_eq_getElem?_getD, List.getElem?_take, if_pos (by omega)]
theorem getD_bd {l : List Int} (h : ∀ c ∈ l, 0 ≤ c ∧ c < 256) (k : Nat) (hk : k < l.length) : 0 ≤ l.getD k 0 ∧ l.getD k 0 < 256 := by
  rw [List.getD_eq_getElem?_getD, List.getElem?_eq_getElem hk]
  exact h _ (List.getElem_mem hk)
/-- Noughts. -/
def noughts (n : Nat) : List Int := List.replicate n 0
theorem noughts_succ (n : Nat) : noughts n ++ [0] = noughts (n + 1) := (List.replicate_succ').symm
theorem noughts_bd (n : Nat) : ∀ c ∈ noughts n, 0 ≤ c ∧ c < 256 := fun c hc => by
  obtain rfl := List.eq_of_mem_replicate hc
  decide
/-- A term under a name of its own. -/
theorem named {α : Type} (x : α) : ∃ F, Hid (x = F) := ⟨x, rfl⟩
/-- A slice of bytes of the call's own. -/
def Own (w : World) (base : Nat) (v : Value) (n : Nat) (xs : List Int) : Prop := w.ownsRow base 5 1 v n (xs.map (Value.int .u8)) ∧ Small xs
theorem info5 : (Tryz.prog.info? 5).map (fun i => (i.zero, i.size, i.bytes)) = some (some (.int .u8 0), 1, 1) := by kernel_rfl
theorem Small.append {l m : List Int} (h : Small l) (k : Small m) (hn : l.length + m.length ≤ 140737488351232) : Small (l ++ m) :=
  ⟨by rw [List.length_append]; exact hn, fun c hc => by rcases List.mem_append.1 hc with h' | h'; exact h.2 c h'; exact k.2 c h'⟩
theorem Own.len {w : World} {base : Nat} {v : Value} {n : Nat} {xs : List Int} (h : Own w base v n xs) : xs.length = n := by
  have := h.1.1
  simpa using this
theorem Own.made (w : World) (base : Nat) (hb : base ≤ w.heap.size) : Own (w.alloc (.cells #[] 5)) base (.slice (some ⟨w.heap.size, 0, none⟩) 0 0) 0 [] :=
  ⟨World.ownsRow_made w #[] 0 hb (Nat.zero_le _) rfl, by unfold Small; simp⟩
theorem Own.shape {w : World} {base : Nat} {v : Value} {n : Nat} {xs : List Int} (h : Own w base v n xs) : ∃ a c, v = .slice a n c ∧ Bytes w a n xs ∧ (a = none → c = 0) := by
  have hl := h.len
  obtain ⟨⟨h1, h2⟩, h3⟩ := h
  rcases h2 with ⟨rfl, rfl⟩ | ⟨g, cap, cur, rfl, hb, hg, hn, hm, hs, ht⟩
  · exact ⟨none, 0, rfl, ⟨hl, h3, Or.inl rfl⟩, fun _ => rfl⟩
  · refine ⟨_, cap, rfl, ⟨hl, h3, Or.inr ⟨g, 0, rfl, lt_of_block hg, fun i hi => ?_⟩⟩, fun e => by cases e⟩
    rw [cell_of_row w g (0 + i) cur 5 (0, 0) hg, Nat.zero_add]
    have hi' : i < n := by omega
    have : (cur.toList.take (n * 1))[i]? = (xs.map (Value.int .u8))[i]? := by rw [ht]
    rw [List.getElem?_take, if_pos (by omega), List.getElem?_map, List.getElem?_eq_getElem hi] at this
    rw [List.getD_eq_getElem?_getD, List.getElem?_eq_getElem hi]
    simpa using this
theorem Own.capOk {w : World} {base c n n' : Nat} {a : Option Addr} {xs : List Int} (h : Own w base (.slice a n' c) n xs) : n ≤ c := by
  rcases h.1.2 with ⟨e, rfl⟩ | ⟨g, cap, cur, e, _, _, h, _⟩
  · exact Nat.zero_le _
  · cases e
    exact h
theorem Own.below {w w' : World} {base : Nat} {v : Value} {n : Nat} {xs : List Int} (h : Own w base v n xs) {a : World} {B : Nat} (hb : Below B a w) (hg : w.grownBy w' v.ownBlock) (hB : B ≤ w.heap.size) (hbase : B ≤ base) : Below B a w' :=
  hb.grown hg hB fun k hk => Nat.le_trans hbase (h.1.lt k hk).1
/-- A slice whose block is not the grown one reads on. -/
theorem Bytes.grown {w w' : World} {a : Option Addr} {len : Nat} {l : List Int} {B : Nat} (h : Bytes w a len l) (hB : ∀ x, a = some x → x.block < B) (hb : Below B w w') : Bytes w' a len l := by
  obtain ⟨h1, h2, h3⟩ := h
  refine ⟨h1, h2, ?_⟩
  rcases h3 with h3 | ⟨b, off, ha, hlt, hc⟩
  · exact Or.inl h3
  · exact Or.inr ⟨b, off, ha, Nat.lt_of_lt_of_le hlt hb.size, fun i hi => (hb.cell (p := ⟨b, off + i, none⟩) (show b < B from hB ⟨b, off, none⟩ ha)).trans (hc i hi)⟩
theorem append_bytes {ops : Array Oper} {rest : List Oper} {o : Oper} {a : Act} {w : World} {Q : Exit → Act → World → Prop} (hgd : o.guard = none) (s x : Operand)
    (ho : o.op = .call { callee := .builtin .append, args := #[s, x], argTypes := #[22, 22] }) (base : Nat) (v : Value) (n : Nat) (xs : List Int) (hs : a.eval s = v) (hown : Own w base v n xs)
    (ao : Option Addr) (m c : Nat) (l : List Int) (hx : a.eval x = .slice ao m c) (hnil : ao = none → c = 0) (hB : Bytes w ao m l) (hn : n + m ≤ 100000000) (hbase : base ≤ w.heap.size)
    (h : ∀ a' c' w', Own w' base (.slice a' (n + m) c') (n + m) (xs ++ l) → w.grownBy w' v.ownBlock → wpList Tryz.prog ops Q rest (a.put o.dst (.slice a' (n + m) c')) w') : wpList Tryz.prog ops Q (o :: rest) a w := by
  obtain ⟨i0, hi, hz0, hz1, hz2⟩ := info_parts info5
  have hsm : Small (xs ++ l) := hown.2.append hB.small (by rw [hown.len, hB.1]; omega)
  cases ao with
  | some ad =>
    have hcells : ∀ j u, (l.map (Value.int .u8))[j]? = some u → w.cell? (ad.add j) = some u := by
      intro j u hu
      rw [List.getElem?_map] at hu
      rcases hB.2.2 with h0 | ⟨b, off, ha, _, hc⟩
      · obtain rfl : l = [] := List.eq_nil_of_length_eq_zero (by rw [hB.1]; exact h0)
        simp at hu
      · cases ha
        by_cases hj : j < l.length
        · rw [List.getElem?_eq_getElem hj] at hu
          have := hc j hj
          rw [List.getD_eq_getElem?_getD, List.getElem?_eq_getElem hj] at this
          rw [add_none, this]
          simpa using hu
        · rw [List.getElem?_eq_none (by omega)] at hu
          cases hu
    refine wpList_append_own w hgd s x 22 ho base 5 i0 (.int .u8 0) 1 1 Tryz.underlying22 hi hz0 hz1 hz2 rfl (by decide) v n (xs.map (Value.int .u8)) hs hown.1 ad m c (l.map (Value.int .u8)) hx (by rw [List.length_map, hB.1]; omega) hcells
      (fun u hu => by obtain ⟨q, _, rfl⟩ := List.mem_map.1 hu; rfl) (by unfold maxLen; omega) (by omega) hbase ?_
    intro v' w' h1 h2 _
    rw [← List.map_append] at h1
    obtain ⟨a', c', rfl, _, _⟩ := Own.shape ⟨h1, hsm⟩
    exact h a' c' w' ⟨h1, hsm⟩ h2
  | none =>
    obtain rfl := hnil rfl
    have hm : m = 0 := by
      rcases hB.2.2 with h0 | ⟨b, off, ha, _, _⟩
      · exact h0
      · cases ha
    subst hm
    obtain rfl : l = [] := List.eq_nil_of_length_eq_zero hB.1
    refine wpList_append_own_none hgd s x 22 ho base 5 i0 1 Tryz.underlying22 hi v n (xs.map (Value.int .u8)) hs hown.1 hx ?_
    obtain ⟨a', c', e, _, _⟩ := Own.shape hown
    subst e
    have := h a' c' w (by rw [List.append_nil]; exact hown) ⟨rfl, rfl, rfl, Nat.le_refl _, fun _ _ _ => rfl⟩
    exact this
theorem Own.bytes {w : World} {base n' c n : Nat} {a : Option Addr} {xs : List Int} (h : Own w base (.slice a n' c) n xs) : Bytes w a n xs ∧ (a = none → c = 0) := by
  obtain ⟨a', c', e, hb, hn⟩ := h.shape
  cases e
  exact ⟨hb, hn⟩
/-- 'append([]byte{}, x...)'. -/
theorem append_copy {ops : Array Oper} {rest : List Oper} {o : Oper} {a : Act} {w0 : World} {Q : Exit → Act → World → Prop} (hgd : o.guard = none) (s x : Operand)
    (ho : o.op = .call { callee := .builtin .append, args := #[s, x], argTypes := #[22, 22] }) (base : Nat) (hs : a.eval s = .slice (some ⟨w0.heap.size, 0, none⟩) 0 0)
    (ao : Option Addr) (m c : Nat) (l : List Int) (hx : a.eval x = .slice ao m c) (hnil : ao = none → c = 0) (hB : Bytes w0 ao m l) (hn : m ≤ 100000000) (hbase : base ≤ w0.heap.size)
    (h : ∀ a' c' w', Own w' base (.slice a' m c') m l → Below w0.heap.size w0 w' → wpList Tryz.prog ops Q rest (a.put o.dst (.slice a' m c')) w') : wpList Tryz.prog ops Q (o :: rest) a (w0.alloc (.cells #[] 5)) := by
  refine append_bytes hgd s x ho base _ 0 [] hs (Own.made w0 base hbase) ao m c l hx hnil (hB.later ((Below.refl _ _).alloc (Nat.le_refl _) _)) (by omega) (by rw [World.size_alloc]; omega) ?_
  intro a' c' w' h1 h2
  have hbel : Below w0.heap.size w0 w' := Own.below (Own.made w0 w0.heap.size (Nat.le_refl _)) ((Below.refl _ _).alloc (Nat.le_refl _) _) h2 (by simp) (Nat.le_refl _)
  rw [Nat.zero_add, List.nil_append] at h1
  have := h a' c' w' h1 hbel
  rw [Nat.zero_add]
  exact this
/-- 'append(own, x...)'. -/
theorem append_more {ops : Array Oper} {rest : List Oper} {o : Oper} {a : Act} {w : World} {Q : Exit → Act → World → Prop} (hgd : o.guard = none) (s x : Operand)
    (ho : o.op = .call { callee := .builtin .append, args := #[s, x], argTypes := #[22, 22] }) (base : Nat) (v : Value) (n : Nat) (xs : List Int) (hs : a.eval s = v) (hown : Own w base v n xs)
    (ao : Option Addr) (m c : Nat) (l : List Int) (hx : a.eval x = .slice ao m c) (hnil : ao = none → c = 0) (hB : Bytes w ao m l) (hn : n + m ≤ 100000000) (hbase : base ≤ w.heap.size)
    (h : ∀ a' c' w', Own w' base (.slice a' (n + m) c') (n + m) (xs ++ l) → Below base w w' → wpList Tryz.prog ops Q rest (a.put o.dst (.slice a' (n + m) c')) w') : wpList Tryz.prog ops Q (o :: rest) a w :=
  append_bytes hgd s x ho base v n xs hs hown ao m c l hx hnil hB hn hbase fun a' c' w' h1 h2 => h a' c' w' h1 (hown.below (Below.refl _ _) h2 hbase (Nat.le_refl _))
/-- An own slice that is not empty lies in a block of its own. -/
theorem Own.lies {w : World} {base c n : Nat} {a : Option Addr} {xs : List Int} (h : Own w base (.slice a n c) n xs) (h0 : 0 < n) : ∃ g, a = some ⟨g, 0, none⟩ ∧ base ≤ g ∧ g < w.heap.size := by
  rcases h.1.2 with ⟨_, rfl⟩ | ⟨g, cap, cur, hv, hb, hg, _⟩
  · omega
  · cases hv
    exact ⟨g, rfl, hb, lt_of_block hg⟩
theorem Own.cell {w : World} {base c n g : Nat} {xs : List Int} (h : Own w base (.slice (some ⟨g, 0, none⟩) n c) n xs) (i : Nat) (hi : i < n) : w.cell? ⟨g, i, none⟩ = some (.int .u8 (xs.getD i 0)) := by
  have hl := h.len
  rw [h.1.cellAt i (by omega), List.getElem?_map, List.getElem?_eq_getElem (by omega), List.getD_eq_getElem?_getD, List.getElem?_eq_getElem (by omega)]
  rfl
theorem Own.free {w : World} {base c n g : Nat} {xs : List Int} (h : Own w base (.slice (some ⟨g, 0, none⟩) n c) n xs) (i : Nat) : w.frozen? ⟨g, i, none⟩ = false := h.1.frozenAt i
theorem Own.put {w : World} {base c n g : Nat} {xs : List Int} (h : Own w base (.slice (some ⟨g, 0, none⟩) n c) n xs) (i : Nat) (e : Int) (he : 0 ≤ e ∧ e < 256) : Own (w.setCell ⟨g, i, none⟩ (.int .u8 e)) base (.slice (some ⟨g, 0, none⟩) n c) n (xs.set i e) := by
  refine ⟨?_, by rw [List.length_set]; exact h.2.1, fun d hd => ?_⟩
  · rw [List.map_set]
    exact (h.1.stored i _).1
  · rcases List.mem_or_eq_of_mem_set hd with h' | rfl
    · exact h.2.2 d h'
    · exact he
theorem Own.drew {w : World} {base n : Nat} {v : Value} {xs : List Int} (h : Own w base v n xs) : Own w.drew base v n xs := ⟨h.1.drew, h.2⟩
theorem Own.alloc {w : World} {base n : Nat} {v : Value} {xs : List Int} (h : Own w base v n xs) (x : Obj) : Own (w.alloc x) base v n xs := ⟨h.1.alloc x, h.2⟩
theorem made_noughts (n : Nat) : (madeCells (Value.int .u8 0).cells (n * 1)).toList = (noughts n).map (Value.int .u8) := by
  rw [Nat.mul_one]
  show (madeCells #[.int .u8 0] n).toList = _
  rw [toList_madeCells_one]
  unfold noughts
  rw [List.map_replicate]
theorem noughts_small (n : Nat) (hn : n ≤ 100000000) : Small (noughts n) := ⟨by unfold noughts; rw [List.length_replicate]; omega, noughts_bd n⟩
/-- 'make([]byte, n)'. -/
theorem make_bytes {ops : Array Oper} {rest : List Oper} {o : Oper} {a : Act} {w : World} {Q : Exit → Act → World → Prop} (hgd : o.guard = none) (l c : Operand) (ho : o.op = Op.makeSlice 22 l c) (base n : Nat)
    (hl : a.eval l = .int .i64 n) (hc : a.eval c = .int .i64 n) (hn : n ≤ 100000000) (hbase : base ≤ w.heap.size)
    (h : ∀ w', Own w' base (.slice (some ⟨w.heap.size, 0, none⟩) n n) n (noughts n) → Below w.heap.size w w' → wpList Tryz.prog ops Q rest (a.put o.dst (.slice (some ⟨w.heap.size, 0, none⟩) n n)) w') : wpList Tryz.prog ops Q (o :: rest) a w := by
  obtain ⟨i0, hi, hz0, hz1, hz2⟩ := info_parts info5
  refine wpList_make_full w hgd l c 22 ho base 5 i0 (.int .u8 0) 1 Tryz.underlying22 hi hz0 hz1 .i64 .i64 n n n hl hc rfl rfl (by rw [hz2]; omega) (by unfold maxLen; omega) hbase ?_
  intro w' h1 h2
  rw [made_noughts] at h1
  exact h w' ⟨h1, noughts_small n hn⟩ ((Below.refl _ _).grown h2 (Nat.le_refl _) (fun k hk => by cases hk))
/-- A literal of one byte. -/
theorem one_byte (w : World) (c : Int) (hc : 0 ≤ c ∧ c < 256) : Bytes (w.alloc (.cells #[.int .u8 c] 5)) (some ⟨w.heap.size, 0, none⟩) 1 [c] := by
  refine ⟨rfl, ⟨by simp, by simpa using hc⟩, Or.inr ⟨w.heap.size, 0, rfl, by simp, fun i hi => ?_⟩⟩
  obtain rfl : i = 0 := by simpa using hi
  simp
/-- The i-th byte of a word. -/
def byteOf (w i : Nat) : Int := ((w / 2 ^ (8 * i) % 256 : Nat) : Int)
theorem byteOf_bd (w i : Nat) : 0 ≤ byteOf w i ∧ byteOf w i < 256 := by
  unfold byteOf
  have : w / 2 ^ (8 * i) % 256 < 256 := Nat.mod_lt _ (by decide)
  omega
end Go.Proofs.YtdffgnpldapciaaGreatDoor
