/-
  The state of Unpack's work: what is left of the data, what has been told, how much there may be. Conditions: bytes from 0 to 255.
-/
import Derived.Test.YtlkpedknhjgdiaaU3
import Derived.Test.YtlkpedknhjgdiaaS2
import Derived.Test.YtlkpedknhjgdiaaH3
import Derived.Deep.RegionHeld3
import Derived.Deep.AppendLies
import Derived.Deep.DrawnRows
import Derived.BigQuiet
import Derived.Laws.Pointers
import Derived.Deep.Draws
namespace Go.Proofs.Ytlkpedknhjgdiaa
open Go.RowKit

/-- The struct lies at block U: what is left, what has been told, how much there may be; the block behind it points to it. -/
def Rec (w : World) (U : Nat) (r o : Value) (most : Nat) : Prop :=
  w.heap[U]? = some (.cells #[r, o, .int .i64 most] 42 (0, 0)) ∧ w.heap[U + 1]? = some (.cells #[.pointer (some ⟨U, 0, none⟩)] 55 (0, 0))
theorem Rec.c0 {w : World} {U : Nat} {r o : Value} {most : Nat} (h : Rec w U r o most) : w.cell? ⟨U, 0, none⟩ = some r := by rw [cell_of_row w U 0 _ _ _ h.1]; rfl
theorem Rec.c1 {w : World} {U : Nat} {r o : Value} {most : Nat} (h : Rec w U r o most) : w.cell? ⟨U, 1, none⟩ = some o := by rw [cell_of_row w U 1 _ _ _ h.1]; rfl
theorem Rec.c2 {w : World} {U : Nat} {r o : Value} {most : Nat} (h : Rec w U r o most) : w.cell? ⟨U, 2, none⟩ = some (.int .i64 most) := by rw [cell_of_row w U 2 _ _ _ h.1]; rfl
theorem Rec.cp {w : World} {U : Nat} {r o : Value} {most : Nat} (h : Rec w U r o most) : w.cell? ⟨U + 1, 0, none⟩ = some (.pointer (some ⟨U, 0, none⟩)) := by rw [cell_of_row w (U + 1) 0 _ _ _ h.2]; rfl
theorem Rec.free {w : World} {U : Nat} {r o : Value} {most : Nat} (h : Rec w U r o most) (i : Nat) : w.frozen? ⟨U, i, none⟩ = false := by
  unfold World.frozen?
  rw [h.1]
  simp
theorem Rec.lt {w : World} {U : Nat} {r o : Value} {most : Nat} (h : Rec w U r o most) : U + 1 < w.heap.size := lt_of_block h.2
theorem Rec.drew {w : World} {U : Nat} {r o : Value} {most : Nat} (h : Rec w U r o most) : Rec w.drew U r o most := h
theorem Rec.set0 {w : World} {U : Nat} {r o : Value} {most : Nat} (h : Rec w U r o most) (r' : Value) : Rec (w.setCell ⟨U, 0, none⟩ r') U r' o most := by
  refine ⟨?_, ?_⟩
  · simp only [World.setCell, Array.getElem?_modify]
    rw [if_pos trivial, h.1]
    rfl
  · rw [Below.heap_setCell _ _ _ _ (by show U + 1 ≠ U; omega)]
    exact h.2
theorem Rec.set1 {w : World} {U : Nat} {r o : Value} {most : Nat} (h : Rec w U r o most) (o' : Value) : Rec (w.setCell ⟨U, 1, none⟩ o') U r o' most := by
  refine ⟨?_, ?_⟩
  · simp only [World.setCell, Array.getElem?_modify]
    rw [if_pos trivial, h.1]
    rfl
  · rw [Below.heap_setCell _ _ _ _ (by show U + 1 ≠ U; omega)]
    exact h.2
theorem Rec.grown {w w' : World} {U : Nat} {r o : Value} {most : Nat} (h : Rec w U r o most) {row : Option Nat} (hg : w.grownBy w' row) (hr : ∀ k, row = some k → U + 2 ≤ k) : Rec w' U r o most := by
  have hl := h.lt
  exact ⟨(hg.block U (by omega) (fun e => by have := hr U e.symm; omega)).trans h.1, (hg.block (U + 1) hl (fun e => by have := hr (U + 1) e.symm; omega)).trans h.2⟩

/-- The state: the data l from place p on are left, 'out' has been told. -/
def Un (w0 : World) (l : List Int) (most p : Nat) (out : List Int) (w : World) : Prop :=
  ∃ (ar : Option Addr) (nr cr : Nat) (ao : Option Addr) (no co : Nat), Rec w w0.heap.size (.slice ar nr cr) (.slice ao no co) most ∧ Bytes w0 ar nr (l.drop p) ∧ nr ≤ cr ∧ (ar = none → cr = 0) ∧ p ≤ l.length ∧ Own w (w0.heap.size + 2) (.slice ao no co) no out ∧ no ≤ most ∧ Below w0.heap.size w0 w
theorem Un.drew {w0 : World} {l : List Int} {most p : Nat} {out : List Int} {w : World} (h : Un w0 l most p out w) : Un w0 l most p out w.drew := by
  obtain ⟨ar, nr, cr, ao, no, co, h1, h2, h3, h4, h5, h6, h7, h8⟩ := h
  exact ⟨ar, nr, cr, ao, no, co, h1.drew, h2, h3, h4, h5, h6.drew, h7, h8.drew⟩
theorem below_drewN {B : Nat} {a w : World} (h : Below B a w) (k : Nat) : Below B a (w.drewN k) := ⟨h.os, h.tape, h.output, h.size, h.block⟩
theorem Un.drewN {w0 : World} {l : List Int} {most p : Nat} {out : List Int} {w : World} (h : Un w0 l most p out w) (k : Nat) : Un w0 l most p out (w.drewN k) := by
  obtain ⟨ar, nr, cr, ao, no, co, h1, h2, h3, h4, h5, h6, h7, h8⟩ := h
  exact ⟨ar, nr, cr, ao, no, co, h1, h2, h3, h4, h5, h6, h7, below_drewN h8 k⟩
theorem Un.below {w0 : World} {l : List Int} {most p : Nat} {out : List Int} {w : World} (h : Un w0 l most p out w) : Below w0.heap.size w0 w := by
  obtain ⟨ar, nr, cr, ao, no, co, h1, h2, h3, h4, h5, h6, h7, h8⟩ := h
  exact h8

theorem room_any (w0 : World) (l : List Int) (most p : Nat) (out : List Int) (w : World) (h : Un w0 l most p out w) (hm : most ≤ 1048576) :
    Calls Try.prog 32 #[.pointer (some ⟨w0.heap.size, 0, none⟩)] w fun e w' => e = .returned (.int .i64 ((most - out.length : Nat) : Int)) ∧ w' = w.drew := by
  obtain ⟨ar, nr, cr, ao, no, co, h1, h2, h3, h4, h5, h6, h7, h8⟩ := h
  have c1 := h1.c1
  have c2 := h1.c2
  have hl := h6.len
  obtain ⟨U, hU⟩ := named w0.heap.size
  rw [hU.out] at c1 c2 ⊢
  have HX : Hid ((most : Int) - (no : Int) = ((most - out.length : Nat) : Int)) := by rw [Hid, hl]; omega
  clear h1 h2 h3 h4 h5 h6 h8
  go_enter Try.func32, Try.ntmps32
  go_wp2
  go_region
  all_goals go_wp2
  all_goals go_ret
  all_goals exact ⟨ret_int HX.out, rfl⟩

/-- 'append(own, x...)' at a step of a region that draws its order. -/
theorem run_append_bytes {w : World} (ty : TypeId) (base : Nat) (v : Value) (n : Nat) (xs : List Int) (hown : Own w base v n xs) (ao : Option Addr) (m c : Nat) (l : List Int) (hnil : ao = none → c = 0) (hB : Bytes w ao m l) (hn : n + m ≤ 100000000) (hbase : base ≤ w.heap.size) :
    ∃ a' c' w', (Builtin.append_ #[22, 22] ty #[v, .slice ao m c]).run Try.prog w = .ok (.slice a' (n + m) c') w' ∧ Own w' base (.slice a' (n + m) c') (n + m) (xs ++ l) ∧ w.grownBy w' v.ownBlock := by
  obtain ⟨i0, hi, hz0, hz1, hz2⟩ := info_parts info5
  have hsm : Small (xs ++ l) := hown.2.append hB.small (by rw [hown.len, hB.1]; omega)
  cases ao with
  | some ad =>
    have hcells : ∀ j u, (l.map (Value.int .u8))[j]? = some u → w.cell? (ad.add j) = some u := by
      intro j u hu
      rw [List.getElem?_map] at hu
      rcases hB.2.2 with h0 | ⟨b, off, ha, _, hc⟩
      · obtain rfl : l = [] := List.eq_nil_of_length_eq_zero (by rw [hB.1]; exact h0)
        simp at hu
      · cases ha
        by_cases hj : j < l.length
        · rw [List.getElem?_eq_getElem hj] at hu
          have := hc j hj
          rw [List.getD_eq_getElem?_getD, List.getElem?_eq_getElem hj] at this
          rw [add_none, this]
          simpa using hu
        · rw [List.getElem?_eq_none (by omega)] at hu
          cases hu
    obtain ⟨v', w', hr, h1, h2, _⟩ := run_append_own w base 22 ty 5 i0 (.int .u8 0) 1 1 Try.underlying22 hi hz0 hz1 hz2 rfl (by decide) v n (xs.map (Value.int .u8)) hown.1 ad m c (l.map (Value.int .u8)) (by rw [List.length_map, hB.1]; omega) hcells
      (fun u hu => by obtain ⟨q, _, rfl⟩ := List.mem_map.1 hu; rfl) (by unfold maxLen; omega) (by omega) hbase
    rw [← List.map_append] at h1
    obtain ⟨a', c', rfl, _, _⟩ := Own.shape ⟨h1, hsm⟩
    exact ⟨a', c', w', hr, ⟨h1, hsm⟩, h2⟩
  | none =>
    obtain rfl := hnil rfl
    have hm : m = 0 := by
      rcases hB.2.2 with h0 | ⟨b, off, ha, _, _⟩
      · exact h0
      · cases ha
    subst hm
    obtain rfl : l = [] := List.eq_nil_of_length_eq_zero hB.1
    have hrun := run_append_owned_none (P := Try.prog) (w := w) base 22 ty 5 i0 1 Try.underlying22 hi v n (xs.map (Value.int .u8)) hown.1
    obtain ⟨a', c', e, _, _⟩ := Own.shape hown
    subst e
    exact ⟨a', c', w, hrun, by rw [List.append_nil]; exact hown, ⟨rfl, rfl, rfl, Nat.le_refl _, fun _ _ _ => rfl⟩⟩
theorem step_append_bytes {ops : Array Oper} {o : Oper} {a : Act} {w : World} {K : Act → World → Prop} {Q : Exit → Act → World → Prop} {E : Prop} (hgd : o.guard = none) (s x : Operand)
    (ho : o.op = .call { callee := .builtin .append, args := #[s, x], argTypes := #[22, 22] })
    (base : Nat) (v : Value) (n : Nat) (xs : List Int) (hs : a.eval s = v) (hown : Own w base v n xs) (ao : Option Addr) (m c : Nat) (l : List Int) (hx : a.eval x = .slice ao m c) (hnil : ao = none → c = 0) (hB : Bytes w ao m l) (hn : n + m ≤ 100000000) (hbase : base ≤ w.heap.size)
    (h : ∀ a' c' w', Own w' base (.slice a' (n + m) c') (n + m) (xs ++ l) → w.grownBy w' v.ownBlock → K (a.put o.dst (.slice a' (n + m) c')) w') :
    if Region.wanted o (yielded ops a.tmps) = true then Oper.wp Try.prog o a w K Q else E := by
  have hw : Region.wanted o (yielded ops a.tmps) = true := by simp [Region.wanted, hgd]
  rw [if_pos hw]
  obtain ⟨a', c', w', hr, h2, h3⟩ := run_append_bytes o.type base v n xs hown ao m c l hnil hB hn hbase
  unfold Oper.wp execOp
  simp only [ho, resolve, invoke, builtin, Sem.run_bind, Sem.run_pure, Result.andThen_ok, List.map_toArray, List.map_cons, List.map_nil, hs, hx, hr]
  exact h a' c' w' h2 h3

/-- What the bytes that stand as they are come to, all at once. -/
theorem lits_all (b : List Int) (most : Nat) : ∀ (k p : Nat) (out : List Int), out.length ≤ most → p ≤ b.length →
    lits b most k p out = if most - out.length < min k (b.length - p) then .bad 2 else if b.length - p < k then .bad 3 else .ok (p + k) (out ++ (b.drop p).take k)
  | 0, p, out, h, hp => by
    rw [lits_done, if_neg (by omega), if_neg (by omega), List.take_zero, List.append_nil]
    rfl
  | k + 1, p, out, h, hp => by
    by_cases h1 : b.length ≤ p
    · rw [lits_form _ _ _ _ _ h1, if_neg (by omega), if_pos (by omega)]
    · by_cases h2 : most ≤ out.length
      · rw [lits_long _ _ _ _ _ h1 h2, if_pos (by omega)]
      · rw [lits_on _ _ _ _ _ h1 h2, lits_all b most k (p + 1) _ (by simp; omega) (by omega)]
        have e1 : most - (out ++ [b.getD p 0]).length = most - out.length - 1 := by simp; omega
        rw [e1]
        by_cases h3 : most - out.length < min (k + 1) (b.length - p)
        · rw [if_pos h3, if_pos (by omega)]
        · rw [if_neg h3, if_neg (by omega)]
          by_cases h4 : b.length - p < k + 1
          · rw [if_pos h4, if_pos (by omega)]
          · rw [if_neg h4, if_neg (by omega), show p + 1 + k = p + (k + 1) by omega, List.append_assoc]
            congr 2
            rw [List.drop_eq_getElem_cons (by omega : p < b.length), List.take_succ_cons, List.getD_eq_getElem?_getD, List.getElem?_eq_getElem (by omega)]
            rfl
end Go.Proofs.Ytlkpedknhjgdiaa
