/-
  A meta that was read, spoilt in place (14.4). Conditions: its memory lies behind what was there.
-/
import Derived.Test.YtepekaedjpoacaaDoorYz
namespace Go.Proofs.YtepekaedjpoacaaDoor
open Go.RowKit
set_option linter.unusedVariables false

theorem flat_kind : ∀ (xs : List En) (k : Nat) (z : Int), k < xs.length → (xs.flatMap enV).set (k * 5) (.int .i64 z) = (xs.set k (z, (lfAt xs k).2)).flatMap enV
  | [], k, z, h => by simp at h
  | y :: r, 0, z, _ => by rfl
  | y :: r, k + 1, z, h => by
    have ih := flat_kind r k z (by simpa using h)
    have e : lfAt (y :: r) (k + 1) = lfAt r k := rfl
    rw [e, List.set_cons_succ, List.flatMap_cons, List.flatMap_cons, ← ih, List.set_append, if_neg (by rw [enV_len]; omega), enV_len, show (k + 1) * 5 - 5 = k * 5 by omega]
theorem LfO.kind {w : World} {base : Nat} {d : LfD} (h : LfO w base d) {b : Nat} (hb : d.1 = some ⟨b, 0, Option.none⟩) (k : Nat) (hk : k < d.2.1) :
    LfO (w.setCell ⟨b, k * 5, Option.none⟩ (.int .i64 9)) base (d.1, d.2.1, d.2.2.1, d.2.2.2.set k (9, (lfAt d.2.2.2 k).2)) ∧ w.grownBy (w.setCell ⟨b, k * 5, Option.none⟩ (.int .i64 9)) (some b) := by
  obtain ⟨al, ll, cl, xs⟩ := d
  obtain ⟨h1, h2⟩ := h
  dsimp only at hb hk h1 h2
  subst hb
  have hl : xs.length = ll := h1.2.1
  obtain ⟨g1, g2⟩ := h1.1.stored (k * 5) (.int .i64 9)
  refine ⟨⟨⟨?_, by rw [List.length_set]; exact h1.2.1, h1.2.2⟩, fun y hy => ?_⟩, g2⟩
  · rw [← flat_kind xs k 9 (by omega)]
    exact g1
  · rcases List.mem_or_eq_of_mem_set hy with hy | rfl
    · exact h2 y hy
    · have := h2 (lfAt xs k) (by rw [lfAt_in (by omega)]; exact List.getElem_mem _)
      obtain ⟨_, q⟩ := this
      exact ⟨by first | (unfold I64; omega) | omega | decide, q⟩
theorem own_free {α : Type} {cv : α → List Value} {e : TypeId} {sz : Nat} {w : World} {base b c m n : Nat} {l : List α} (h : OwnG cv e sz w base (.slice (some ⟨b, 0, none⟩) m c) n l) (i : Nat) : w.frozen? ⟨b, i, none⟩ = false := by
  rcases h.1.2 with ⟨e1, _⟩ | ⟨g, cap, cur, e1, _, hg, _⟩
  · simp at e1
  · simp only [Value.slice.injEq, Option.some.injEq, Addr.mk.injEq] at e1
    obtain ⟨⟨rfl, _⟩, _⟩ := e1
    exact Blk.free (show Blk w b e cur from hg) i
/-- What a read meta's memory stays while it is spoilt. -/
structure Spo (w4 : World) (X : Nat) (cs : Array Value) (na : Option Addr) (nl nc : Nat) (ia : Option Addr) (il ic : Nat) (W : World) : Prop where
  T : ∃ es, TabQ W w4.heap.size na nl nc es es ∧ ∀ d ∈ es, d.2.1 ≤ 1000000
  K : ∃ K, IntsN W w4.heap.size ia il ic K
  box : Blk W X 29 cs
  low : Below w4.heap.size w4 W
  nb : nl ≤ 6000 ∧ il ≤ 1000000
section
variable {w4 W : World} {X nl nc il ic : Nat} {cs : Array Value} {na ia : Option Addr}
theorem Spo.later (h : Spo w4 X cs na nl nc ia il ic W) {W' : World} (hb : Below W.heap.size W W') : Spo w4 X cs na nl nc ia il ic W' := by
  obtain ⟨es, h1, h2⟩ := h.T
  obtain ⟨K, h3⟩ := h.K
  exact ⟨⟨es, h1.later hb, h2⟩, ⟨K, h3.off (Off.none _ _) (grown_of_below hb)⟩, h.box.later hb, h.low.trans (hb.mono h.low.size), h.nb⟩
theorem Spo.first {w4 w5 : World} {x : Mt} {M : MM} (h : MetaN w5 w4.heap.size Any Any x M) (hb : Below w4.heap.size w4 w5) (cs : Array Value) : Spo w4 w5.heap.size cs x.a0 x.n0 x.c0 x.ca x.cn x.cc (w5.alloc (.cells cs 29)) := by
  have hA := (Below.refl w5.heap.size w5).alloc (Nat.le_refl _) (.cells cs 29)
  have h' := h.later hA
  obtain ⟨es, h1, h2, h3, h4, _⟩ := h'.T
  refine ⟨⟨es, h1, fun d hd => ?_⟩, ⟨_, h'.K⟩, Blk.new _ _ _, hb.trans (hA.mono hb.size), h3, h'.K.2⟩
  have hl : d.2.2.2.length = d.2.1 := (h1.leaf d hd).1.2.1
  rw [← hl]
  exact h4 _ (by rw [← h2]; exact List.mem_map.2 ⟨d, hd, rfl⟩)
theorem Spo.at (h : Spo w4 X cs na nl nc ia il ic W) (i : Nat) (hi : i < nl) : ∃ (g : Nat) (al : Option Addr) (ll cl : Nat), na = some ⟨g, 0, none⟩ ∧ W.cell? ⟨g, i, none⟩ = some (.slice al ll cl) ∧ ll ≤ 1000000 := by
  obtain ⟨es, h1, h2⟩ := h.T
  obtain ⟨g, d, k1, k2, k3, k4, k5, k6⟩ := h1.at i hi
  exact ⟨g, d.1, d.2.1, d.2.2.1, k1, k5, h2 d (List.mem_of_getElem? k4)⟩
theorem Spo.kind (h : Spo w4 X cs na nl nc ia il ic W) (i : Nat) (hi : i < nl) {g : Nat} {al : Option Addr} {ll cl : Nat} (hg : na = some ⟨g, 0, none⟩) (hc : W.cell? ⟨g, i, none⟩ = some (.slice al ll cl)) (k : Nat) (hk : k < ll) :
    ∃ b, al = some ⟨b, 0, none⟩ ∧ (∃ v, W.cell? ⟨b, k * 5, none⟩ = some v) ∧ W.frozen? ⟨b, k * 5, none⟩ = false ∧ Spo w4 X cs na nl nc ia il ic (W.setCell ⟨b, k * 5, none⟩ (.int .i64 9)) ∧ (W.setCell ⟨b, k * 5, none⟩ (.int .i64 9)).cell? ⟨g, i, none⟩ = some (.slice al ll cl) := by
  obtain ⟨es, h1, h2⟩ := h.T
  obtain ⟨K, h3⟩ := h.K
  obtain ⟨g', d, k1, k2, k3, k4, k5, k6⟩ := h1.at i hi
  rw [hg] at k1
  cases k1
  rw [hc] at k5
  obtain ⟨al', ll', cl', xs⟩ := d
  dsimp only at k5
  simp only [Option.some.injEq, Value.slice.injEq] at k5
  obtain ⟨rfl, rfl, rfl⟩ := k5
  have hm := List.mem_of_getElem? k4
  have hL := h1.leaf _ hm
  obtain ⟨b, e, hb1, hb2⟩ := hL.form (by dsimp only; omega)
  dsimp only at e
  subst e
  obtain ⟨L1, L2⟩ := hL.kind rfl k hk
  have hbD : blkD (some ⟨b, 0, none⟩, ll, cl, xs) = some b := rfl
  have hQ := h1.setEs i _ (some ⟨b, 0, none⟩, ll, cl, xs.set k (9, (lfAt xs k).2)) k4 (by rw [hbD]; exact L2) rfl L1
  have hlt : i < es.length := by rw [h1.size]; exact hi
  have hS := hQ.same (List.ext_getElem? fun j => by
    rw [List.getElem?_map, List.getElem?_map, List.getElem?_set]
    by_cases hj : i = j
    · subst hj
      rw [if_pos rfl, if_pos hlt, k4]
      rfl
    · rw [if_neg hj])
  obtain ⟨g2, d2, q1, q2, q3, q4, q5, q6⟩ := hS.at i hi
  rw [hg] at q1
  cases q1
  rw [List.getElem?_set, if_pos rfl, if_pos hlt] at q4
  cases q4
  have hen := en_at (hL.1.reads en_rowed).1 k hk
  obtain ⟨b', off', e1, e2, _⟩ := hen
  cases e1
  rw [Nat.zero_add] at e2
  have hO : Off W (some b) 3 := by
    have := hL.1.off (e := 3) (by decide)
    exact this
  have hX : some X ≠ some b := h.box.not_row (by decide) hL.1
  refine ⟨b, rfl, ⟨_, e2⟩, own_free hL.1 _, ⟨⟨_, hS, fun y hy => ?_⟩, ⟨K, h3.off hO L2⟩, h.box.kept L2 hX, h.low.grown L2 h.low.size fun q hq => (by cases hq; exact hb1), h.nb⟩, q5⟩
  rcases List.mem_or_eq_of_mem_set hy with hy | rfl
  · exact h2 y hy
  · exact h2 (some ⟨b, 0, none⟩, ll, cl, xs) hm
/-- A count is spoilt. -/
theorem Spo.count (h : Spo w4 X cs na nl nc ia il ic W) (i : Nat) (hi : i < il) : ∃ b, ia = some ⟨b, 0, none⟩ ∧ (∃ v, W.cell? ⟨b, i, none⟩ = some v) ∧ W.frozen? ⟨b, i, none⟩ = false ∧ Spo w4 X cs na nl nc ia il ic (W.setCell ⟨b, i, none⟩ (.int .i64 (-1))) := by
  obtain ⟨es, h1, h2⟩ := h.T
  obtain ⟨K, h3, h4⟩ := h.K
  have hl : K.length = il := h3.2.1
  obtain ⟨b, e, hb1, hb2⟩ : ∃ b, ia = some ⟨b, 0, Option.none⟩ ∧ w4.heap.size ≤ b ∧ b < W.heap.size := by
    rcases h3.1.2 with ⟨_, e⟩ | ⟨g, cap, cur, e, hb, hg, _⟩
    · omega
    · simp only [Value.slice.injEq] at e
      exact ⟨g, e.1, hb, lt_of_block hg⟩
  subst e
  obtain ⟨g1, g2⟩ := h3.1.stored i (.int .i64 (-1))
  obtain ⟨b', off', e1, y0, k0⟩ := iv_cell (h3.reads iv_rowed).1 i hi
  cases e1
  rw [Nat.zero_add] at y0
  refine ⟨b, rfl, ⟨_, y0⟩, own_free h3 _, ⟨⟨es, h1.kept g2 (fun q hq e => row_apart h1.out h3 (by decide) q hq e.symm.symm) (fun d hd q hq e => row_apart (h1.leaf d hd).1 h3 (by decide) q hq e), h2⟩, ⟨K.set i (-1), ⟨?_, by rw [List.length_set]; exact h3.2.1, h3.2.2⟩, h4⟩, h.box.kept g2 (h.box.not_row (by decide) h3), h.low.grown g2 h.low.size fun q hq => (by cases hq; exact hb1), h.nb⟩⟩
  have e : (K.set i (-1)).flatMap ivV = (K.flatMap ivV).set i (.int .i64 (-1)) := by
    have : ∀ (l : List Int) (j : Nat), (l.set j (-1)).flatMap ivV = (l.flatMap ivV).set j (.int .i64 (-1)) := fun l => by
      induction l with
      | nil => intro j; rfl
      | cons y r ih =>
        intro j
        cases j with
        | zero => rfl
        | succ j => show ivV y ++ (r.set j (-1)).flatMap ivV = _; rw [ih]; rfl
    exact this K i
  rw [e]
  exact g1
end
end Go.Proofs.YtepekaedjpoacaaDoor
