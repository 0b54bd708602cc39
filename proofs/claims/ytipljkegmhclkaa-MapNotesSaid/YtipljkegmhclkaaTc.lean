/-
  A meta that came in and is not great reads as a meta (layer 12). Conditions: none.
-/
import Derived.Test.YtipljkegmhclkaaY0
namespace Go.Proofs.Ytipljkegmhclkaa
open Go.RowKit
set_option linter.unusedVariables false

theorem row3_mk {α : Type} {cv : α → List Value} {P : Program} {t e : TypeId} {bytes : Nat} (R : Rowed P t e 3 bytes cv) (w : World) (a : Option Addr) (len : Nat) (f : Nat → α) (c1 c2 c3 : Nat → Value) (hcv : ∀ i, cv (f i) = [c1 i, c2 i, c3 i]) (hlen : len ≤ 1000) (h : Row3 w a len c1 c2 c3) : Reads cv w a len ((List.range len).map f) := by
  refine ⟨by simp, by omega, ?_⟩
  by_cases h0 : len = 0
  · exact Or.inl h0
  · obtain ⟨b, off, e, hb, hc⟩ := h.2 (by omega)
    refine Or.inr ⟨b, off, e, hb, fun j u hu => ?_⟩
    have hlt : j < len * 3 := by
      rcases Nat.lt_or_ge j (len * 3) with h' | h'
      · exact h'
      · rw [List.getElem?_eq_none (by rw [flat_len R.len, List.length_map, List.length_range]; exact h')] at hu
        cases hu
    have hd : j / 3 < len := by omega
    have hat := flat_at R.len ((List.range len).map f) (j / 3) (j % 3) _ (by rw [List.getElem?_map, List.getElem?_range hd]; rfl) (Nat.mod_lt _ (by omega))
    rw [show j / 3 * 3 + j % 3 = j by omega, hu, hcv] at hat
    obtain ⟨x1, x2, x3⟩ := hc (j / 3) hd
    have hj : j = j / 3 * 3 + j % 3 := by omega
    obtain hr | hr | hr : j % 3 = 0 ∨ j % 3 = 1 ∨ j % 3 = 2 := by omega
    · rw [hr] at hat
      rw [show off + j = off + j / 3 * 3 by omega, x1]
      exact hat.symm
    · rw [hr] at hat
      rw [show off + j = off + j / 3 * 3 + 1 by omega, x2]
      exact hat.symm
    · rw [hr] at hat
      rw [show off + j = off + j / 3 * 3 + 2 by omega, x3]
      exact hat.symm
theorem flat_iv (l : List Int) : l.flatMap ivV = l.map (Value.int .i64) := by
  induction l with
  | nil => rfl
  | cons a r ih => rw [List.flatMap_cons, ih]; rfl
theorem ints_mk {w : World} {a : Option Addr} {len : Nat} {f : Nat → Int} (h : IntsR w a len f) (hlen : len ≤ 1000000) : Reads ivV w a len ((List.range len).map f) := by
  refine ⟨by simp, by omega, ?_⟩
  by_cases h0 : len = 0
  · exact Or.inl h0
  · obtain ⟨b, off, e, hb, hc⟩ := h.2 (by omega)
    refine Or.inr ⟨b, off, e, hb, fun j u hu => ?_⟩
    rw [flat_iv, List.getElem?_map, List.getElem?_map] at hu
    rcases Nat.lt_or_ge j len with h' | h'
    · rw [List.getElem?_range h'] at hu
      cases hu
      exact hc j h'
    · rw [List.getElem?_eq_none (by rw [List.length_range]; exact h')] at hu
      cases hu
theorem GreatQ.mono {S S' : Prop} {w : World} (hs : S → S') {e : Ending} {w' : World} (h : GreatQ S w e w') : GreatQ S' w e w' := by
  obtain ⟨G, h1, h2, h3⟩ := h
  exact ⟨G, h1, h2, fun h => hs (h3 h)⟩
theorem fit_take {z : List Sp} {n : Nat} (h : ∀ i, i < n → (Lit.int .i64 (spAt z i).1).wf = true ∧ (Lit.int .i64 (spAt z i).2).wf = true) (hn : n ≤ z.length) : SpFit (z.take n) := fun x hx => by
  obtain ⟨i, hi⟩ := List.getElem?_of_mem hx
  have hlt : i < n := by
    have := (List.getElem?_eq_some_iff.1 hi).1
    rw [List.length_take] at this
    omega
  rw [List.getElem?_take_of_lt hlt] at hi
  obtain ⟨k1, k2⟩ := h i hlt
  have e : spAt z i = x := by unfold spAt; rw [List.getD_eq_getElem?_getD, hi]; rfl
  rw [e] at k1 k2
  have b1 := bounds_i64 k1
  have b2 := bounds_i64 k2
  unfold I64
  omega
set_option maxHeartbeats 1600000 in
theorem great_md {w : World} {c s : Int} {bk : ByteArray} {a0 : Option Addr} {n0 c0 : Nat} {sa : Option Addr} {sn sc : Nat} {ma : Option Addr} {mn mc : Nat} {ca : Option Addr} {cn cc : Nat} (h : MetaArg w c s bk a0 n0 c0 sa sn sc ma mn mc ca cn cc) :
    Calls Try.prog 5 #[.agg #[.int .i64 c, .int .i64 s, .string bk, .slice a0 n0 c0, .slice sa sn sc, .slice ma mn mc, .slice ca cn cc]] w (GreatQ (∃ M, M.c = c ∧ M.s = s ∧ M.bk = bk ∧ sn ≤ 20 ∧ mn ≤ 20 ∧ cn ≤ 20000 ∧ (∀ b ∈ M.B, b.2.2.length ≤ 500) ∧ MetaD w ⟨a0, n0, c0, sa, sn, sc, ma, mn, mc, ca, cn, cc⟩ M) w) := by
  have hTab := h.tab
  obtain ⟨hcaps, gT, oT, lT⟩ := h.tab
  obtain ⟨gs, hs1, hs2⟩ := h.shots
  obtain ⟨gm, hm1, hm2⟩ := h.maps
  obtain ⟨f, hf⟩ := h.counts
  obtain ⟨hh, hhh⟩ := Go.Deep.choose_lt (α := Nat → Option Addr × Nat × Nat) (fun i (hi : i < sn) => (hs2 i hi).2.2.2)
  have hml : ∀ i, i < mn → (gm i).2.2.2.1 ≤ 9223372036854775807 := fun i hi => by
    obtain ⟨_, z, hz⟩ := hm2 i hi
    rcases hz with ⟨_, h0, _⟩ | ⟨x, _, h1, h2, _⟩
    · omega
    · unfold maxLen at h2
      omega
  refine (greatM_any w c s bk a0 n0 c0 sa sn sc ma mn mc ca cn cc gT gs hh gm oT hs1 (fun i hi => (hhh i hi).1) hm1 h.bk hf.1 (fun i hi => (hs2 i hi).2.1) (fun i hi => (hm2 i hi).1) hml).mono fun e w' hq => hq.mono fun hsm => ?_
  obtain ⟨T, hT⟩ := hTab.tab oT lT hsm.t
  obtain ⟨TT, hTT⟩ := Go.Deep.choose_lt (α := Tb) (fun i (hi : i < sn) => (hs2 i hi).2.2.tab (hhh i hi).1 (hhh i hi).2 (hsm.s i hi))
  have hspan : ∀ i, i < mn → ∃ l : List Sp, SpD w (gm i).2.2.1 (gm i).2.2.2.1 (gm i).2.2.2.2 l ∧ l.length ≤ 500 := fun i hi => by
    obtain ⟨h1, z, hz⟩ := hm2 i hi
    have h5 := hsm.m i hi
    obtain ⟨l, hl, hcap, hn, hfit⟩ := spans_arg hz (by omega)
    exact ⟨l, ⟨hl, ⟨hn, hcap⟩, by omega, by have := fit_take (z := l) (n := l.length) (fun i hi => hfit i (by rw [← hl.1]; exact hi)) (Nat.le_refl _); rwa [List.take_length] at this⟩, by rw [hl.1]; exact h5⟩
  obtain ⟨LL, hLL⟩ := Go.Deep.choose_lt (α := List Sp) hspan
  have hsn := hsm.hsn
  have hmn := hsm.hmn
  have hcn := hsm.hcn
  refine ⟨⟨c, s, bk, T, ((List.range sn).map fun i => ((gs i).1, (gs i).2.1, (gs i).2.2.1, (gs i).2.2.2.1, (gs i).2.2.2.2, TT i)).map shM, ((List.range mn).map fun i => ((gm i).1, (gm i).2.1, (gm i).2.2.1, (gm i).2.2.2.1, (gm i).2.2.2.2, LL i)).map bmM, (List.range cn).map f⟩, rfl, rfl, rfl, hsn, hmn, hcn, fun b hb => ?_, h.c, h.s, h.bk, hT, ⟨_, ⟨row3_mk sh_rowed w sa sn _ _ _ _ (fun i => rfl) (by omega) hs1, fun d hd => ?_⟩, rfl, h.sCaps, by show sn ≤ 1000; omega, fun d hd => ?_⟩, ⟨_, ⟨row3_mk bm_rowed w ma mn _ _ _ _ (fun i => rfl) (by omega) hm1, fun d hd => ?_⟩, rfl, h.mCaps, by show mn ≤ 1000; omega, fun d hd => ?_⟩, ints_mk hf (show cn ≤ 1000000 by omega), h.cCaps, by show cn ≤ 1000000; omega⟩
  · obtain ⟨x, hx, rfl⟩ := List.mem_map.1 hb
    obtain ⟨i, hi, rfl⟩ := List.mem_map.1 hx
    exact (hLL i (List.mem_range.1 hi)).2
  · obtain ⟨i, hi, rfl⟩ := List.mem_map.1 hd
    exact hTT i (List.mem_range.1 hi)
  · obtain ⟨x, hx, rfl⟩ := List.mem_map.1 hd
    obtain ⟨i, hi, rfl⟩ := List.mem_map.1 hx
    have := hs2 i (List.mem_range.1 hi)
    exact ⟨this.1, this.2.1⟩
  · obtain ⟨i, hi, rfl⟩ := List.mem_map.1 hd
    exact (hLL i (List.mem_range.1 hi)).1
  · obtain ⟨x, hx, rfl⟩ := List.mem_map.1 hd
    obtain ⟨i, hi, rfl⟩ := List.mem_map.1 hx
    exact (hm2 i (List.mem_range.1 hi)).1
theorem IsSpans.later {w w' : World} {a : Option Addr} {len cap : Nat} {z : List Sp} (h : IsSpans w a len cap z) (hb : Below w.heap.size w w') : IsSpans w' a len cap z := by
  rcases h with h | ⟨x, h1, h2, h3, h4, h5⟩
  · exact Or.inl h
  · refine Or.inr ⟨x, h1, h2, h3, h4, fun i hi => ?_⟩
    obtain ⟨k1, k2, k3⟩ := h5 i hi
    exact ⟨(hb.cell (block_lt_of_cell k1)).trans k1, (hb.cell (block_lt_of_cell k2)).trans k2, k3⟩
theorem TabArg.later {w w' : World} {a : Option Addr} {len cap : Nat} (h : TabArg w a len cap) (hb : Below w.heap.size w w') : TabArg w' a len cap := by
  obtain ⟨h1, g, h2, h3⟩ := h
  exact ⟨h1, g, h2.later hb, fun i hi h6 => by
    obtain ⟨xs, hx⟩ := h3 i hi h6
    exact ⟨xs, hx.later hb⟩⟩
theorem MetaArg.later {w w' : World} {c s : Int} {bk : ByteArray} {a0 : Option Addr} {n0 c0 : Nat} {sa : Option Addr} {sn sc : Nat} {ma : Option Addr} {mn mc : Nat} {ca : Option Addr} {cn cc : Nat} (h : MetaArg w c s bk a0 n0 c0 sa sn sc ma mn mc ca cn cc) (hb : Below w.heap.size w w') : MetaArg w' c s bk a0 n0 c0 sa sn sc ma mn mc ca cn cc :=
  ⟨h.c, h.s, h.bk, h.tab.later hb, by
    obtain ⟨g, h1, h2⟩ := h.shots
    exact ⟨g, h1.later hb, fun i hi => ⟨(h2 i hi).1, (h2 i hi).2.1, (h2 i hi).2.2.later hb⟩⟩, by
    obtain ⟨g, h1, h2⟩ := h.maps
    exact ⟨g, h1.later hb, fun i hi => ⟨(h2 i hi).1, by obtain ⟨z, hz⟩ := (h2 i hi).2; exact ⟨z, hz.later hb⟩⟩⟩, by
    obtain ⟨f, hf⟩ := h.counts
    exact ⟨f, hf.later hb⟩, h.sCaps, h.mCaps, h.cCaps⟩
end Go.Proofs.Ytipljkegmhclkaa
