/-
  Rows of bytes of the disk's own: noughts behind, a sector over, a row cut short, a row anew. Conditions: short rows.
-/
import Derived.Test.YtnhaidofblfopaaA5
import Derived.Deep.RegionHeld3
import Derived.Deep.RegionLaw
import Derived.Laws.CopyOwn
import Derived.Laws.IdiomArrays
import Derived.Lib.AppendZerosOnto
namespace Go.Proofs.Ytnhaidofblfopaa
open Go.RowKit

theorem Moved_refl (v : Value) (w : World) : v.ownBlock = v.ownBlock ∨ ∃ k, w.heap.size ≤ k ∧ v.ownBlock = some k := Or.inl rfl
/-- Noughts behind, where there is room. -/
theorem run_zeros_room {P : Program} (w : World) (t tn ty e : TypeId) (i : TypeInfo) (z : Value) (kq kn : IntKind) (ht : P.underlying t = some (.slice e)) (htn : P.underlying tn = some (.int kn)) (hi : P.info? e = some i) (hz : i.zero = some z) (hzs : z.cells.size = i.size)
    (hone : ∀ k, ∀ u ∈ (Builtin.zeroCells z.cells k).toList, u.oneCell' = true)
    (g n cap k : Nat) (cur : Array Value) (hg : w.heap[g]? = some (.cells cur e (0, 0))) (hroom : n + k ≤ cap) (hfit : (n + k) * i.size ≤ cur.size) (h63 : k ≤ 9223372036854775807) (h48 : k * i.bytes ≤ 281474976710656) :
    (Builtin.append_ #[t, tn] ty #[.slice (some ⟨g, 0, none⟩) n cap, .int kq k]).run P w =
      .ok (.slice (some ⟨g, 0, none⟩) (n + k) cap) (w.setRow g (cur.toList.take (n * i.size) ++ (Builtin.zeroCells z.cells k).toList ++ cur.toList.drop (n * i.size + (Builtin.zeroCells z.cells k).toList.length)).toArray) := by
  have hw : IntKind.i64.wrap (k : Int) = k := by rw [IntKind.wrap_i64]; omega
  have h48i : ¬ (281474976710656 < (k : Int) * (i.bytes : Int)) := by
    rw [← Int.natCast_mul]
    omega
  have hneg : ¬ ((k : Int) < 0) := by omega
  have hlen : (Builtin.zeroCells z.cells k).toList.length = k * i.size := by simp [size_zeroCells, hzs]
  have hst := run_storeCells_at P g (n * i.size) e (Builtin.zeroCells z.cells k).toList 0 cur w hg (by rw [hlen, Nat.add_zero, ← Nat.add_mul]; exact hfit) (hone k)
  simp only [Nat.add_zero] at hst
  by_cases h0 : k * i.size = 0
  · have hnil : Builtin.zeroCells z.cells k = #[] := by
      apply Array.eq_empty_of_size_eq_zero
      rw [size_zeroCells, hzs, h0]
    rw [hnil] at hst ⊢
    simp [Builtin.append_, run_underlying ht, run_underlying htn, sizeOf, typeInfo, zeroValue, hi, hz, asInt, asIntOf, hw, hneg, h48i, hroom, Addr.add_lit, h0] at hst ⊢
    simpa [storeCells] using hst
  · simp [Builtin.append_, run_underlying ht, run_underlying htn, sizeOf, typeInfo, zeroValue, hi, hz, asInt, asIntOf, hw, hneg, h48i, hroom, Addr.add_lit, h0, hst]
theorem zero_u8 : ∀ k, (Builtin.zeroCells (Value.int .u8 0).cells k).toList = (noughts k).map (Value.int .u8) := fun k => by
  simp [Builtin.zeroCells, Value.cells, noughts]
  apply List.ext_getElem
  · simp
  · intro i h1 h2
    simp [Nat.mod_one]
theorem noughts_len (n : Nat) : (noughts n).length = n := by simp [noughts]
theorem noughts_sm (n : Nat) (h : n ≤ 100000000) : Small (noughts n) := ⟨by rw [noughts_len]; omega, noughts_bd n⟩
/-- 'append(own, make([]byte, k)...)'. -/
theorem run_zeros_own {w : World} (ty : TypeId) (kq : IntKind) (v : Value) (n : Nat) (xs : List Int) (hown : Own w 0 v n xs) (k : Nat) (hn : n + k ≤ 100000000) :
    ∃ a' c' w', (Builtin.append_ #[22, 3] ty #[v, .int kq k]).run Try.prog w = .ok (.slice a' (n + k) c') w' ∧ Own w' 0 (.slice a' (n + k) c') (n + k) (xs ++ noughts k) ∧ w.grownBy w' v.ownBlock ∧
      ((Value.slice a' (n + k) c').ownBlock = v.ownBlock ∨ (Value.slice a' (n + k) c').ownBlock = some w.heap.size) := by
  obtain ⟨i0, hi, hz0, hz1, hz2⟩ := info_parts info5
  have hsm : Small (xs ++ noughts k) := hown.2.append (noughts_sm k (by omega)) (by rw [hown.len, noughts_len]; omega)
  have hxl := hown.len
  have hone : ∀ k, ∀ u ∈ (Builtin.zeroCells (Value.int .u8 0).cells k).toList, u.oneCell' = true := fun k u hu => by
    rw [zero_u8] at hu
    obtain ⟨c, _, rfl⟩ := List.mem_map.1 hu
    rfl
  have grown : ∀ (old : Nat), old < n + k →
      (w.drew.alloc (.cells ((xs.map (Value.int .u8)).toArray ++ Builtin.zeroCells (Value.int .u8 0).cells k ++ Builtin.zeroCells (Value.int .u8 0).cells (grownCap w (n + k) old 5 - (n + k))) 5)).ownsRow 0 5 1
        (.slice (some ⟨w.heap.size, 0, none⟩) (n + k) (grownCap w (n + k) old 5)) (n + k) ((xs ++ noughts k).map (Value.int .u8)) := by
    intro old ho
    have hge := grownCap_ge w (n + k) old 5
    have hcm : grownCap w (n + k) old 5 ≤ maxLen := grownCap_le_maxLen w (n + k) old 5 (by unfold maxLen; omega)
    refine ⟨by simp [noughts_len, hxl], .inr ⟨w.heap.size, _, _, rfl, Nat.zero_le _, heap_alloc_new w.drew _, hge, hcm, ?_, ?_⟩⟩
    · simp only [Array.size_append, List.size_toArray, size_zeroCells, List.length_map, hxl, show (Value.int IntKind.u8 0).cells.size = 1 from rfl]
      omega
    · simp only [Array.toList_append, zero_u8, List.map_append]
      rw [List.take_left' (by simp [hxl, noughts_len])]
  rcases hown.1.2 with ⟨rfl, rfl⟩ | ⟨g, cap, cur, rfl, hbg, hg, hnc, hcm, hcs, htake⟩
  · obtain rfl : xs = [] := List.eq_nil_of_length_eq_zero hxl
    by_cases h0 : k = 0
    · subst h0
      refine ⟨none, 0, w, ?_, ⟨⟨by simp [noughts], Or.inl ⟨rfl, rfl⟩⟩, hsm⟩, World.grownBy.refl _ _, Or.inl rfl⟩
      simp [Builtin.append_, run_underlying Try.underlying22, run_underlying Try.underlying3, sizeOf, typeInfo, hi, asInt, asIntOf, IntKind.wrap_i64]
    · have hr := Go.Lib.run_append_grow_zeros w 22 3 ty 5 i0 (.int .u8 0) kq .i64 Try.underlying22 Try.underlying3 hi hz0 none 0 0 [] (by rw [hz1]; exact run_firstCells_none w.drew 1 0 0 0) k (by omega) (by omega) (by omega) (by omega) (by rw [hz2]; omega) (by rw [hz2]; exact growslice_fits (by omega) (by omega))
      have hg := grown 0 (by omega)
      exact ⟨_, _, _, hr, ⟨hg, hsm⟩, ⟨rfl, rfl, rfl, by simp, fun j hj _ => heap_alloc_old w.drew _ hj⟩, Or.inr rfl⟩
  · by_cases hroom : n + k ≤ cap
    · have hr := run_zeros_room (P := Try.prog) w 22 3 ty 5 i0 (.int .u8 0) kq .i64 Try.underlying22 Try.underlying3 hi hz0 (by rw [hz1]; rfl) hone g n cap k cur hg hroom (by rw [hz1, hcs, Nat.mul_one, Nat.mul_one]; exact hroom) (by omega) (by rw [hz2]; omega)
      rw [hz1, Nat.mul_one] at hr
      rw [Nat.mul_one] at htake
      refine ⟨_, _, _, hr, ⟨⟨by simp [noughts_len, hxl], .inr ⟨g, cap, _, rfl, hbg, setRow_heap w g cur _ 5 _ hg, hroom, hcm, ?_, ?_⟩⟩, hsm⟩, ⟨rfl, rfl, rfl, by simp, fun j _ hj => setRow_other w g j _ (fun e => hj (by simp [Value.ownBlock, e]))⟩, Or.inl rfl⟩
      · have : cur.size = cap := by rw [hcs]; omega
        simp only [List.size_toArray, List.length_append, List.length_take, List.length_drop, Array.length_toList, zero_u8, List.length_map, noughts_len]
        omega
      · rw [htake, zero_u8, ← List.map_append, List.take_left' (by simp [hxl, noughts_len])]
    · have hold : (Builtin.firstCells i0.size n (.slice (some ⟨g, 0, none⟩) n cap)).run Try.prog w.drew = .ok (xs.map (Value.int .u8)).toArray w.drew := by
        rw [hz1]
        exact run_firstCells_some w.drew 1 n ⟨g, 0, none⟩ n cap _ (by rw [List.length_map]; omega) (fun j u hu => (hown.1.cells (g := g) rfl) j u hu)
      have hr := Go.Lib.run_append_grow_zeros w 22 3 ty 5 i0 (.int .u8 0) kq .i64 Try.underlying22 Try.underlying3 hi hz0 (some ⟨g, 0, none⟩) n cap _ hold k (by omega) (by omega) (by omega) (by omega) (by rw [hz2]; omega) (by rw [hz2]; exact growslice_fits (by omega) (by omega))
      have hg := grown cap (by omega)
      exact ⟨_, _, _, hr, ⟨hg, hsm⟩, ⟨rfl, rfl, rfl, by simp, fun j hj _ => heap_alloc_old w.drew _ hj⟩, Or.inr rfl⟩
/-- At one operation of a round. -/
theorem wpList_zeros {ops : Array Oper} {rest : List Oper} {o : Oper} {a : Act} {w : World} {Q : Exit → Act → World → Prop} (hgd : o.guard = none) (s x : Operand)
    (ho : o.op = .call { callee := .builtin .append, args := #[s, x], argTypes := #[22, 3] }) (v : Value) (n : Nat) (xs : List Int) (hs : a.eval s = v) (hown : Own w 0 v n xs) (k : Nat) (kq : IntKind) (hx : a.eval x = .int kq k) (hn : n + k ≤ 100000000)
    (h : ∀ a' c' w', Own w' 0 (.slice a' (n + k) c') (n + k) (xs ++ noughts k) → w.grownBy w' v.ownBlock → ((Value.slice a' (n + k) c').ownBlock = v.ownBlock ∨ (Value.slice a' (n + k) c').ownBlock = some w.heap.size) → wpList Try.prog ops Q rest (a.put o.dst (.slice a' (n + k) c')) w') : wpList Try.prog ops Q (o :: rest) a w := by
  refine wpList_plain hgd fun K hK => ?_
  obtain ⟨a', c', w', hr, h2, h3, h4⟩ := run_zeros_own o.type kq v n xs hown k hn
  unfold Oper.wp execOp
  simp only [ho, resolve, invoke, builtin, Sem.run_bind, Sem.run_pure, Result.andThen_ok, List.map_toArray, List.map_cons, List.map_nil, hs, hx, hr]
  exact hK _ _ (h a' c' w' h2 h3 h4)
theorem zeros_flat : ∀ n, (List.replicate n zero16).flatten = noughts (16 * n)
  | 0 => rfl
  | n + 1 => by
    rw [List.replicate_succ, List.flatten_cons, zeros_flat n]
    unfold zero16 noughts
    rw [List.replicate_append_replicate]
    congr 1
    omega
theorem pad_flat (l : List Sec) (n : Nat) : (padS l n).flatten = l.flatten ++ noughts (16 * n - 16 * l.length) := by
  unfold padS
  rw [List.flatten_append, zeros_flat]
  congr 2
  omega
theorem pad16 {l : List Sec} (h : ∀ x ∈ l, x.length = 16) (n : Nat) : ∀ x ∈ padS l n, x.length = 16 := fun x hx => by
  rcases List.mem_append.1 hx with h1 | h1
  · exact h x h1
  · obtain rfl := List.eq_of_mem_replicate h1
    simp [zero16]
/-- grow. -/
theorem grow_any (w : World) (v : Value) (l : List Sec) (hl : l.length ≤ 65536) (hown : Own w 0 v (16 * l.length) l.flatten) (n : Nat) (hn : n ≤ 65536) :
    Calls Try.prog 52 #[v, .int .i64 n] w fun e w' => ∃ a' c', e = .returned (.slice a' (16 * (padS l n).length) c') ∧ Own w' 0 (.slice a' (16 * (padS l n).length) c') (16 * (padS l n).length) (padS l n).flatten ∧ w.grownBy w' v.ownBlock ∧
      ((Value.slice a' (16 * (padS l n).length) c').ownBlock = v.ownBlock ∨ (Value.slice a' (16 * (padS l n).length) c').ownBlock = some w.heap.size) := by
  obtain ⟨a, c, rfl, _, _⟩ := hown.shape
  have hP : 16 * (padS l n).length = 16 * l.length + (16 * n - 16 * l.length) := by rw [padS_len]; omega
  have hF := pad_flat l n
  rw [hP, hF]
  obtain ⟨A, hA⟩ := named (16 * l.length)
  obtain ⟨K, hK⟩ := named (16 * n - 16 * l.length)
  rw [hK.out]
  have hm : (if ((16 * l.length : Nat) : Int) < (n : Int) * 16 then (n : Int) * 16 - ((16 * l.length : Nat) : Int) else 0) = (K : Int) := by have := hK.out; split <;> omega
  have hb : A + K ≤ 100000000 := by have := hA.out; have := hK.out; omega
  rw [hA.out] at hown hm ⊢
  have HO := Lib.hid hown
  clear hown hF hP
  go_enter Try.func52, Try.ntmps52
  go_wp2_with (at_builtin; refine wpList_zeros rfl (.tmp 5) (.tmp 11) rfl _ A l.flatten rfl HO.out K .i64 (by first | rfl | simp [Act.eval, Act.put, hm]) hb ?_; intro a' c' w' h1 h2 h3)
  go_wp2
  go_ret
  exact ⟨a', c', rfl, h1, h2, h3⟩
/-- A sector over, at a step of a region that draws its order. -/
theorem step_over {ops : Array Oper} {o : Oper} {a : Act} {w : World} {K : Act → World → Prop} {Q : Exit → Act → World → Prop} {E : Prop} (hgd : o.guard = none) (d s : Operand)
    (ho : o.op = .call { callee := .builtin .copy, args := #[d, s], argTypes := #[22, 22] }) (g n cap : Nat) (l : List Sec) (h16 : ∀ x ∈ l, x.length = 16) (hown : Own w 0 (.slice (some ⟨g, 0, none⟩) n cap) n l.flatten)
    (i : Nat) (hi : i < l.length) (x : Sec) (hx : SecOk x) (R off dc : Nat) (hd : a.eval d = .slice (some ⟨g, 16 * i, none⟩) (n - 16 * i) dc) (hs : a.eval s = .slice (some ⟨R, off, none⟩) 16 16)
    (hsrc : ∀ j, j < 16 → w.cell? ⟨R, off + j, none⟩ = some (.int .u8 (x.getD j 0)))
    (h : ∀ w', Own w' 0 (.slice (some ⟨g, 0, none⟩) n cap) n (l.set i x).flatten → w.grownBy w' (some g) → K (a.put o.dst (.int .i64 16)) w') :
    if Region.wanted o (yielded ops a.tmps) = true then Oper.wp Try.prog o a w K Q else E := by
  have hw : Region.wanted o (yielded ops a.tmps) = true := by simp [Region.wanted, hgd]
  rw [if_pos hw]
  have hnl := hown.len
  rw [flat_len16 h16] at hnl
  obtain ⟨i0, hi0, _, hz1, _⟩ := info_parts info5
  rcases hown.1.2 with ⟨e, _⟩ | ⟨g', cap', cur, e, _, hg, hnc, hcm, hcs, htake⟩
  · cases e
  cases e
  rw [Nat.mul_one] at hcs htake
  have hcl : (x.map (Value.int .u8)).length = 16 := by rw [List.length_map, hx.1]
  have hr := run_copy_row (P := Try.prog) w 22 22 o.type 5 g (16 * i) (n - 16 * i) dc ⟨R, off, none⟩ 16 16 cur 5 (x.map (Value.int .u8)) Try.underlying22 (by rw [hi0]; simp [hz1]) hg
    (by rw [hcl]; simp only [Nat.min_def]; split <;> omega)
    (fun j v hj => by
      have hlt : j < 16 := by
        rcases Nat.lt_or_ge j 16 with h' | h'
        · exact h'
        · rw [List.getElem?_eq_none (by rw [hcl]; exact h')] at hj
          cases hj
      rw [add_none, hsrc j hlt]
      rw [List.getElem?_map, List.getElem?_eq_getElem (by rw [hx.1]; exact hlt)] at hj
      rw [List.getD_eq_getElem?_getD, List.getElem?_eq_getElem (by rw [hx.1]; exact hlt)]
      simpa using hj) (by rw [hcl]; omega) (fun v hv => by obtain ⟨c, _, rfl⟩ := List.mem_map.1 hv; rfl)
  have hsm : Small (l.set i x).flatten := by
    have hsl := hown.2.1
    rw [flat_len16 h16] at hsl
    refine ⟨by rw [flat_set h16 i hi]; simp [flat_len16 h16, hx.1]; omega, fun c hc => ?_⟩
    rw [flat_set h16 i hi] at hc
    rcases List.mem_append.1 hc with hc | hc
    · rcases List.mem_append.1 hc with hc | hc
      · exact hown.2.2 c (List.mem_of_mem_take hc)
      · exact hx.2 c hc
    · exact hown.2.2 c (List.mem_of_mem_drop hc)
  unfold Oper.wp execOp
  simp only [ho, resolve, invoke, builtin, Sem.run_bind, Sem.run_pure, Result.andThen_ok, List.map_toArray, List.map_cons, List.map_nil, hd, hs, hr]
  rw [hcl]
  refine h _ ⟨⟨?_, Or.inr ⟨g, cap, _, rfl, Nat.zero_le _, setRow_heap w g cur _ 5 _ hg, hnc, hcm, ?_, ?_⟩⟩, hsm⟩ ⟨rfl, rfl, rfl, by simp, fun j _ hj => setRow_other w g j _ (fun e => hj (by simp [e]))⟩
  · rw [List.length_map, flat_set h16 i hi]
    simp [flat_len16 h16, hx.1]
    omega
  · simp [hx.1]
    omega
  · have hlen : (cur.toList.take (16 * i) ++ x.map (Value.int .u8) ++ cur.toList.drop (16 * i + 16)).take n = (l.set i x).flatten.map (Value.int .u8) := by
      rw [flat_set h16 i hi, List.map_append, List.map_append, List.map_take, List.map_drop, ← htake, List.take_take, show min (16 * i) n = 16 * i by omega, List.drop_take, List.take_append, List.take_of_length_le (by simp [hx.1]; omega), show (cur.toList.take (16 * i) ++ x.map (Value.int .u8)).length = 16 * i + 16 by simp [hx.1]; omega]
    simpa [Nat.mul_one, hx.1] using hlen
end Go.Proofs.Ytnhaidofblfopaa
