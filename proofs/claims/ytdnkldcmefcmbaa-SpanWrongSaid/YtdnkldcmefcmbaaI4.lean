/-
  Plain mathematics of lists that are not right, and of spans that could not stand in one (SpanWrong); a slice of spans of the call's own whose cell is written. Conditions: none.
-/
import Derived.Test.YtdnkldcmefcmbaaO4
import Derived.Deep.AppendLies
import Derived.Deep.RegionHeld3
import Derived.Deep.RegionLaw
namespace Go.Proofs.Ytdnkldcmefcmbaa
open Go.RowKit

theorem wrong_of {L : List Sp} {k : Nat} (hk : k < L.length) (h : mayB (spAt L k) = false ∨ (0 < k ∧ (spAt L k).1 ≤ (spAt L (k - 1)).2)) : ¬ Rt (-1) L := fun hr => by
  obtain ⟨h1, h2⟩ := (rt_chain L (-1) (by omega)).1 hr k hk
  rcases h with h | ⟨h3, h4⟩
  · rw [h1] at h; cases h
  · rw [if_neg (by omega)] at h2
    omega
theorem norm_wrong {L : List Sp} (h : ¬ Rt (-1) L) : norm L = [] := if_neg h
/-- What a list that is not right counts as. -/
theorem wrong_all {L : List Sp} (h : ¬ Rt (-1) L) (s : Sp) : decide (Rt (-1) L) = false ∧ sumL (norm L) = 0 ∧ (∀ n, hasB (norm L) n = false) ∧ subL L s = [] ∧ addL L s = addL [] s := by
  have hn := norm_wrong h
  have hn2 : norm [] = ([] : List Sp) := norm_of trivial
  refine ⟨decide_eq_false h, by rw [hn]; rfl, fun n => by rw [hn]; rfl, ?_, ?_⟩
  · unfold subL
    rw [hn]
    split <;> rfl
  · unfold addL
    rw [hn, hn2]
/-- A span that could not stand in a list is nothing. -/
theorem none_all {L : List Sp} (h : Rt (-1) L) {s : Sp} (hs : mayB s = false) : addL L s = L ∧ subL L s = L := by
  unfold addL subL
  rw [hs, norm_of h]
  exact ⟨by simp, by simp⟩
theorem spAt_set (L : List Sp) (k : Nat) (s : Sp) (h : k < L.length) : spAt (L.set k s) k = s := by
  simp [spAt, h]
theorem spAt_end (L : List Sp) (s : Sp) : spAt (L ++ [s]) L.length = s := by simp [spAt]
theorem spAt_pre (L : List Sp) (s : Sp) {k : Nat} (h : k < L.length) : spAt (L ++ [s]) k = spAt L k := by simp [spAt, h, List.getElem?_append_left]
theorem flat_set0 : ∀ (L : List Sp) (k : Nat) (x : Int), k < L.length → (L.flatMap spCells).set (k * 2) (.int .i64 x) = (L.set k (x, (spAt L k).2)).flatMap spCells
  | [], k, _, h => by simp at h
  | s :: L, 0, x, _ => by simp [spCells, spAt]
  | s :: L, k + 1, x, h => by
    have ih := flat_set0 L k x (by simpa using h)
    rw [spAt_cons, List.set_cons_succ, List.flatMap_cons, List.flatMap_cons, ← ih, show (k + 1) * 2 = k * 2 + 2 by omega]
    simp [spCells]
theorem flat_set1 : ∀ (L : List Sp) (k : Nat) (x : Int), k < L.length → (L.flatMap spCells).set (k * 2 + 1) (.int .i64 x) = (L.set k ((spAt L k).1, x)).flatMap spCells
  | [], k, _, h => by simp at h
  | s :: L, 0, x, _ => by simp [spCells, spAt]
  | s :: L, k + 1, x, h => by
    have ih := flat_set1 L k x (by simpa using h)
    rw [spAt_cons, List.set_cons_succ, List.flatMap_cons, List.flatMap_cons, ← ih, show (k + 1) * 2 + 1 = k * 2 + 1 + 2 by omega]
    simp [spCells]

/-! The calls over a list that is not right. -/
section
variable {x : Option Addr} {K c : Nat} {L : List Sp} {w : World}
theorem wrong_right (h : Spans w x K L) (hn : (x = none → c = 0) ∧ K ≤ c) (hK : K ≤ 1000) (hf : SpFit L) (hw : ¬ Rt (-1) L) :
    Calls Try.prog 12 #[.slice x K c] w fun e w' => e = .returned (.bool false) ∧ Below w.heap.size w w' :=
  spanRight_any x K c L w h hn.2 hn.1 (by omega) hf false (decide_eq_false hw)
theorem wrong_count (h : Spans w x K L) (hn : (x = none → c = 0) ∧ K ≤ c) (hK : K ≤ 1000) (hf : SpFit L) (hw : ¬ Rt (-1) L) :
    Calls Try.prog 21 #[.slice x K c] w fun e w' => e = .returned (.int .i64 0) ∧ Below w.heap.size w w' := by
  have := spanCount_any x K c L w h hn.2 hn.1 (by omega) hf
  rw [(wrong_all hw (0, 0)).2.1] at this
  exact this
theorem wrong_has (h : Spans w x K L) (hn : (x = none → c = 0) ∧ K ≤ c) (hK : K ≤ 1000) (hf : SpFit L) (hw : ¬ Rt (-1) L) {n : Int} (hi : I64 n) :
    Calls Try.prog 19 #[.slice x K c, .int .i64 n] w fun e w' => e = .returned (.bool false) ∧ Below w.heap.size w w' := by
  have := spanHas_any x K c L n w h hn.2 hn.1 (by omega) hf hi
  rw [(wrong_all hw (0, 0)).2.2.1 n] at this
  exact this
theorem wrong_sub (h : Spans w x K L) (hn : (x = none → c = 0) ∧ K ≤ c) (hK : K ≤ 1000) (hf : SpFit L) (hw : ¬ Rt (-1) L) {f t : Int} (h1 : I64 f) (h2 : I64 t) :
    Calls Try.prog 17 #[.slice x K c, .agg #[.int .i64 f, .int .i64 t]] w (SpPost w []) := by
  have := spanSub_any x K c L f t w h hn.2 hn.1 (by omega) hf h1 h2
  rw [(wrong_all hw (f, t)).2.2.2.1] at this
  exact this
theorem wrong_add (h : Spans w x K L) (hn : (x = none → c = 0) ∧ K ≤ c) (hK : K ≤ 1000) (hf : SpFit L) (hw : ¬ Rt (-1) L) {f t : Int} (h1 : I64 f) (h2 : I64 t) :
    Calls Try.prog 15 #[.slice x K c, .agg #[.int .i64 f, .int .i64 t]] w (SpPost w (addL [] (f, t))) := by
  have := spanAdd_any x K c L f t w h hn.2 hn.1 (by omega) hf h1 h2
  rw [(wrong_all hw (f, t)).2.2.2.2] at this
  exact this
end
theorem nil_add (w : World) {f t : Int} (h1 : I64 f) (h2 : I64 t) : Calls Try.prog 15 #[.slice none 0 0, .agg #[.int .i64 f, .int .i64 t]] w (SpPost w (addL [] (f, t))) :=
  spanAdd_any none 0 0 [] f t w (Reads.nil _ _ _) (Nat.le_refl _) (fun _ => rfl) (by omega) (fun x hx => by cases hx) h1 h2
theorem same2_any {x y : Option Addr} {K c d : Nat} {L : List Sp} {w : World} (hx : Spans w x K L) (hy : Spans w y K L) : Calls Try.prog 14 #[.slice x K c, .slice y K d] w fun e w' => e = .returned (.bool true) ∧ Below w.heap.size w w' :=
  (refSpans_any x y K K c d L L w hx hy).mono fun _ _ ⟨he, hb⟩ => ⟨by rw [he, decide_eq_true rfl], hb⟩
theorem Held.of3 {w0 w : World} {cs : List (Addr × Value)} {ls : List (Option Addr × List Sp)} {q1 q2 q3 : Prop} (h : q1 ∧ q2 ∧ q3 ∧ Held w0 cs ls w) : Held w0 cs ls w := h.2.2.2
/-- A span's two cells, the first number of a list, and all that is held. -/
theorem Held.first {w0 w : World} {cs : List (Addr × Value)} {ls : List (Option Addr × List Sp)} (h : Held w0 cs ls w) {p1 p2 : Addr} {v1 v2 : Value} (h1 : (p1, v1) ∈ cs) (h2 : (p2, v2) ∈ cs) {b off n : Nat} {L : List Sp} (hm : (some ⟨b, off, none⟩, L) ∈ ls) (hn : L.length = n) (hk : 0 < n) {f : Int} (hf : (spAt L 0).1 = f) :
    w.cell? p1 = some v1 ∧ w.cell? p2 = some v2 ∧ w.cell? ⟨b, off, none⟩ = some (.int .i64 f) ∧ Held w0 cs ls w := by
  have h3 := (h.span hm hn hk hf rfl).1
  rw [Nat.zero_mul, Nat.add_zero] at h3
  exact ⟨h.2.1 _ h1, h.2.1 _ h2, h3, h⟩
/-! A slice of the call's own. -/
theorem own_here {w : World} {base n c : Nat} {a : Option Addr} {L : List Sp} (h : OwnG spCells 24 2 w base (.slice a n c) n L) (h0 : 0 < n) : ∃ g, a = some ⟨g, 0, none⟩ ∧ base ≤ g ∧ (∀ k, k < n → w.cell? ⟨g, k * 2, none⟩ = some (.int .i64 (spAt L k).1) ∧ w.cell? ⟨g, k * 2 + 1, none⟩ = some (.int .i64 (spAt L k).2)) := by
  obtain ⟨g, cap, e, hb, _⟩ := h.1.form h0
  cases e
  refine ⟨g, rfl, hb, fun k hk => ?_⟩
  have := span_cells (h.reads sp_rowed).1 k hk
  rw [Nat.zero_add] at this
  exact this
theorem own_free {w : World} {base n c g : Nat} {L : List Sp} (h : OwnG spCells 24 2 w base (.slice (some ⟨g, 0, none⟩) n c) n L) (i : Nat) : w.frozen? ⟨g, i, none⟩ = false := h.1.frozenAt i
theorem own_set0 {w : World} {base n c g : Nat} {L : List Sp} (h : OwnG spCells 24 2 w base (.slice (some ⟨g, 0, none⟩) n c) n L) {k : Nat} (hk : k < n) (v : Int) : OwnG spCells 24 2 (w.setCell ⟨g, k * 2, none⟩ (.int .i64 v)) base (.slice (some ⟨g, 0, none⟩) n c) n (L.set k (v, (spAt L k).2)) := by
  refine ⟨?_, by rw [List.length_set]; exact h.2.1, h.2.2⟩
  rw [← flat_set0 L k v (by rw [h.2.1]; exact hk)]
  exact (h.1.stored _ _).1
theorem own_set1 {w : World} {base n c g : Nat} {L : List Sp} (h : OwnG spCells 24 2 w base (.slice (some ⟨g, 0, none⟩) n c) n L) {k : Nat} (hk : k < n) (v : Int) : OwnG spCells 24 2 (w.setCell ⟨g, k * 2 + 1, none⟩ (.int .i64 v)) base (.slice (some ⟨g, 0, none⟩) n c) n (L.set k ((spAt L k).1, v)) := by
  refine ⟨?_, by rw [List.length_set]; exact h.2.1, h.2.2⟩
  rw [← flat_set1 L k v (by rw [h.2.1]; exact hk)]
  exact (h.1.stored _ _).1
theorem fit_set {L : List Sp} (h : SpFit L) (k : Nat) {s : Sp} (h1 : I64 s.1) (h2 : I64 s.2) : SpFit (L.set k s) := fun x hx => by
  rcases List.mem_or_eq_of_mem_set hx with h3 | rfl
  · exact h x h3
  · exact ⟨h1, h2⟩
theorem fit_end {L : List Sp} (h : SpFit L) {s : Sp} (h1 : I64 s.1) (h2 : I64 s.2) : SpFit (L ++ [s]) := fun x hx => by
  rcases List.mem_append.1 hx with h3 | h3
  · exact h x h3
  · obtain rfl := List.mem_singleton.1 h3
    exact ⟨h1, h2⟩
theorem step_append_sp {ops : Array Oper} {o : Oper} {a : Act} {w : World} {K : Act → World → Prop} {Q : Exit → Act → World → Prop} {E : Prop} (hgd : o.guard = none) (s x : Operand)
    (ho : o.op = .call { callee := .builtin .append, args := #[s, x], argTypes := #[22, 22] })
    (base : Nat) (v : Value) (n : Nat) (xs : List Sp) (hs : a.eval s = v) (hown : OwnG spCells 24 2 w base v n xs) (ad : Addr) (m c : Nat) (l : List Sp) (hx : a.eval x = .slice (some ad) m c) (hB : Spans w (some ad) m l) (hn : n + m ≤ 1000000) (hbase : base ≤ w.heap.size)
    (h : ∀ a' c' w', OwnG spCells 24 2 w' base (.slice a' (n + m) c') (n + m) (xs ++ l) → w.grownBy w' v.ownBlock → K (a.put o.dst (.slice a' (n + m) c')) w') :
    if Region.wanted o (yielded ops a.tmps) = true then Oper.wp Try.prog o a w K Q else E := by
  have hw : Region.wanted o (yielded ops a.tmps) = true := by simp [Region.wanted, hgd]
  rw [if_pos hw]
  obtain ⟨i0, z, hi, hz0, hz1, hz2, hz3⟩ := (sp_rowed).info
  have hlen := flat_len (sp_rowed).len l
  have hcells : ∀ j u, (l.flatMap spCells)[j]? = some u → w.cell? (ad.add j) = some u := by
    intro j u hu
    rcases hB.2.2 with h0 | ⟨b, off, ha, _, hc⟩
    · obtain rfl : l = [] := List.eq_nil_of_length_eq_zero (by rw [hB.1]; exact h0)
      simp at hu
    · cases ha
      rw [add_none]
      exact hc j u hu
  obtain ⟨v', w', hr, h1, h2, _⟩ := run_append_own w base 22 o.type 24 i0 z 2 16 (sp_rowed).under hi hz0 hz1 hz2 hz3 (sp_rowed).pos v n (xs.flatMap spCells) hown.1 ad m c (l.flatMap spCells) (by rw [hlen, hB.1]) hcells
    (fun u hu => by obtain ⟨y, _, hy⟩ := List.mem_flatMap.1 hu; exact (sp_rowed).one y u hy) (by unfold maxLen; omega) (by omega) hbase
  rw [← List.flatMap_append] at h1
  have hO : OwnG spCells 24 2 w' base v' (n + m) (xs ++ l) := ⟨h1, by rw [List.length_append, hown.2.1, hB.1], by omega⟩
  obtain ⟨a', c', rfl, _, _⟩ := hO.shape sp_rowed
  unfold Oper.wp execOp
  simp only [ho, resolve, invoke, builtin, Sem.run_bind, Sem.run_pure, Result.andThen_ok, List.map_toArray, List.map_cons, List.map_nil, hs, hx, hr]
  exact h a' c' w' hO h2
end Go.Proofs.Ytdnkldcmefcmbaa
