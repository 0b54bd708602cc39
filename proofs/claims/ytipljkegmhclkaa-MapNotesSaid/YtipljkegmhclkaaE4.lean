/-
  What slices.Collect answers over the spans of a list; an append within a round. Conditions: the slice reads as spans, no more than 100000 of them.
-/
import Derived.Test.YtipljkegmhclkaaC4
import Derived.RangeFuncBox
namespace Go.Proofs.Ytipljkegmhclkaa
open Go.RowKit Go.Shelf
attribute [local go_sem] Oper.semAt_some
set_option linter.unusedVariables false

theorem Reads.low {α : Type} {cv : α → List Value} {w : World} {a : Option Addr} {len : Nat} {l : List α} (h : Reads cv w a len l) (h0 : 0 < len) (b off : Nat) (ha : a = some ⟨b, off, none⟩) : b < w.heap.size := by
  obtain ⟨_, _, h3⟩ := h
  obtain ⟨b', off', e, hlt, _⟩ := h3.resolve_left (by omega)
  rw [ha] at e
  cases e
  exact hlt

/-- 'append(own, x...)' within a round. -/
theorem append_in {α : Type} {F : Fence} {k : Nat} {P : Program} {t e : TypeId} {sz bytes : Nat} {cv : α → List Value} (R : Rowed P t e sz bytes cv) {ops : Array Oper} {rest : List Oper} {o : Oper} {a : Act} {w : World} {Q : Exit → Act → World → Prop} (hgd : o.guard = Option.none) (s x : Operand)
    (ho : o.op = .call { callee := .builtin .append, args := #[s, x], argTypes := #[t, t] }) (base : Nat) (v : Value) (n : Nat) (xs : List α) (hs : a.eval s = v) (hown : OwnG cv e sz w base v n xs)
    (ad : Addr) (m c : Nat) (l : List α) (hx : a.eval x = .slice (some ad) m c) (hB : Reads cv w (some ad) m l) (hn : n + m ≤ 10000000) (hbase : base ≤ w.heap.size)
    (h : ∀ a' c' w', OwnG cv e sz w' base (.slice a' (n + m) c') (n + m) (xs ++ l) → w.grownBy w' v.ownBlock → wpListIn F k P ops Q rest (a.put o.dst (.slice a' (n + m) c')) w') : wpListIn F k P ops Q (o :: rest) a w := by
  obtain ⟨i0, z, hi, hz0, hz1, hz2, hz3⟩ := R.info
  have hlen := flat_len R.len l
  have hsm := R.small
  have hbb : (n + m) * bytes ≤ 140737488355328 := by
    have : (n + m) * bytes ≤ 10000000 * 1000 := Nat.mul_le_mul hn hsm
    omega
  have hcells : ∀ j u, (l.flatMap cv)[j]? = some u → w.cell? (ad.add j) = some u := by
    intro j u hu
    rcases hB.2.2 with h0 | ⟨b, off, ha, _, hc⟩
    · obtain rfl : l = [] := List.eq_nil_of_length_eq_zero (by rw [hB.1]; exact h0)
      simp at hu
    · cases ha
      rw [add_none]
      exact hc j u hu
  refine wpListIn_append_own w hgd s x t ho base e i0 z sz bytes R.under hi hz0 hz1 hz2 hz3 R.pos v n (xs.flatMap cv) hs hown.1 ad m c (l.flatMap cv) hx (by rw [hlen, hB.1]) hcells
    (fun u hu => by obtain ⟨y, _, hy⟩ := List.mem_flatMap.1 hu; exact R.one y u hy) (by unfold maxLen; omega) hbb hbase ?_
  intro v' w' h1 h2 _
  rw [← List.flatMap_append] at h1
  have hO : OwnG cv e sz w' base v' (n + m) (xs ++ l) := ⟨h1, by rw [List.length_append, hown.2.1, hB.1], by omega⟩
  obtain ⟨a', c', rfl, _, _⟩ := hO.shape R
  exact h a' c' w' hO h2
/-- The block holds a slice of the call's own that reads as the list. -/
def HoldsSp (base B : Nat) (l : List Sp) (W : World) : Prop := ∃ a c, Blk W B 41 #[.slice a l.length c] ∧ OwnSp W base (.slice a l.length c) l.length l
theorem HoldsSp.own {β : Type} (base B : Nat) (f : β → List Sp) : Go.Own (fun s W => HoldsSp base B (f s) W) := by
  rintro s X Y row ⟨a, c, hv, hr⟩ hg hrow
  refine ⟨a, c, hv.kept hg (fun e' => ?_), hr.1.kept hg ?_, hr.2⟩
  · obtain ⟨o, ho, hc⟩ := hrow B e'.symm
    rw [show X.heap[B]? = _ from hv] at ho; cases ho; cases hc
  · rcases hr.1.2 with ⟨e, _⟩ | ⟨g, cap, cur, e, _, hgb, _⟩
    · rw [e]; exact .inl rfl
    · refine .inr fun e' => ?_
      obtain ⟨o, ho, hc⟩ := hrow g (by rw [e] at e'; simpa [Value.ownBlock] using e'.symm)
      rw [hgb] at ho; cases ho; cases hc
/-- Behind an append whose result is put back into the block. -/
theorem HoldsSp.put {W w1 : World} {base B n m : Nat} {a a' : Option Addr} {c c' : Nat} {l l' : List Sp} {tmp : Obj} (hv : Blk W B 41 #[.slice a n c]) (hr : OwnSp W base (.slice a n c) n l) (hbase : base ≤ W.heap.size) (hB : base ≤ B)
    (hO : OwnSp w1 base (.slice a' m c') m l') (hg : (W.alloc tmp).grownBy w1 (Value.slice a n c).ownBlock) :
    w1.cell? ⟨B, 0, none⟩ = some (.slice a n c) ∧ w1.frozen? ⟨B, 0, none⟩ = false ∧ Hid (HoldsSp base B l' (w1.setCell ⟨B, 0, none⟩ (.slice a' m c')) ∧ KeepsOthers W (w1.setCell ⟨B, 0, none⟩ (.slice a' m c')) ∧ Below base W (w1.setCell ⟨B, 0, none⟩ (.slice a' m c'))) := by
  have hv0 : Boxed W B 41 (.slice a n c) := hv
  obtain ⟨h1, h2, h3, h4, h5⟩ := hv0.appended (by decide) hr.1 hbase hB hO.1 hg
  have hm := hO.2.1
  subst hm
  exact ⟨h1.cell, h1.frozen, ⟨a', c', h2, h3, hO.2⟩, h4, h5⟩

set_option maxRecDepth 20000 in
set_option maxHeartbeats 1600000 in
theorem appendSeq_any (B : Nat) (a : Option Addr) (len cap : Nat) (l : List Sp) (w : World) (hb : w.cell? ⟨B, 0, none⟩ = some (.slice a len cap)) (hB : Spans w a len l) (hlen : len ≤ 100000) :
    Calls Try.prog 58 #[.slice none 0 0, .func (.func 59) #[] #[.pointer (some ⟨B, 0, none⟩)]] w (SpPost w (norm l)) := by
  have HB := Lib.hid hB
  have HBB := Lib.hid hb
  clear hB hb
  refine (callsIn_wide (n := 3)).1 (callsIn_of_wp_marks Try.func58 rfl trivial (wpIn_wide.2 ?_) rfl)
  simp only [Try.ntmps58, List.size_toArray, List.length_cons, List.length_nil, Nat.reduceAdd, Nat.reduceSub, Array.replicate_succ, Array.replicate_zero, List.push_toArray, List.append_toArray, List.nil_append, List.cons_append]
  go_wp2
  have hs0 := Blk.new w 41 #[.slice none 0 0]
  have hB1 : Below w.heap.size w (w.alloc (.cells #[.slice none 0 0] 41)) := (Below.refl _ w).alloc (Nat.le_refl _) _
  have hsz : (w.alloc (.cells #[.slice none 0 0] 41)).heap.size = w.heap.size + 1 := by simp
  obtain ⟨W0, hW0⟩ : ∃ W0, w.alloc (.cells #[.slice none 0 0] 41) = W0 := ⟨_, rfl⟩
  rw [hW0] at hB1 hs0 hsz ⊢
  clear hW0
  refine range_spans B w.heap.size a len cap l rfl hlen ((hB1.cell (p := ⟨B, 0, none⟩) (block_lt_of_cell HBB.out)).trans HBB.out) (HB.out.later hB1) (by omega) (fun h b off e => HB.out.low h b off e)
    (fun pre W => HoldsSp w.heap.size w.heap.size pre W ∧ Below w.heap.size w W) (fun _ _ _ => False)
    (OwnFrom.and (Own.from (HoldsSp.own _ _ _) _) (ownFrom_below (Nat.le_refl _) (by omega))) (fun _ _ _ _ _ hs _ _ => hs) ⟨⟨none, 0, hs0, OwnG.none _ _ _ _ _⟩, hB1⟩
    (fun f t Bx => #[.slice none 0 0, .func (.func 59) #[] #[.pointer (some ⟨B, 0, none⟩)], .pointer (some ⟨w.heap.size, 0, none⟩), undef, .slice none 0 0, .pointer (some ⟨Bx, 0, none⟩),
      .func (.func 59) #[] #[.pointer (some ⟨B, 0, none⟩)], .agg #[.int .i64 f, .int .i64 t], undef, undef, undef, undef, undef]) (fun _ _ => True) (fun _ => ownFrom_pure _ _) (fun _ _ _ _ _ => trivial) ?assign ?body ?done ?stop
  case assign =>
    intro F l f t W K hF hro hK
    gi_wp2
    exact hK
  case body =>
    rintro F lp pre f t Bx W hF hro hBx hx _ ⟨⟨a1, c1, hs, hO⟩, hG⟩ hpl h0 h1 h2 hv
    have HO := Lib.hid hO
    have HS := Lib.hid hs
    have HG := Lib.hid hG
    have hWs := hG.size
    have x1 := hx.cell 0
    have x2 := hx.cell 1
    have s1 := hs.cell 0
    clear hs hG
    gi_wp2_with (gi_at_builtin; refine append_in sp_rowed rfl (.tmp 8) (.tmp 10) rfl w.heap.size _ pre.length pre rfl (HO.out.alloc _) ⟨W.heap.size, 0, none⟩ 1 1 [(f, t)] rfl (one_reads W (f, t) _ _ rfl) (by omega) (by rw [World.size_alloc]; omega) ?_; intro a2 c2 w2 hO2 hg2; obtain ⟨hv1, hv2, HP⟩ := HoldsSp.put HS.out HO.out hWs (Nat.le_refl _) hO2 hg2; clear hO2 hg2)
    exact ⟨HP.out.2.1.from _, HP.out.2.2, HP.out.1, HG.out.trans HP.out.2.2⟩
  case done =>
    rintro D W hD ⟨⟨a1, c1, hs, hO⟩, hG⟩ hK
    have HO := Lib.hid hO
    have s1 := hs.cell 0
    have HK := Lib.hid hK
    have HG := Lib.hid hG
    clear hs hO hK hG
    go_wp2
    refine ⟨by simp, .inl ⟨_, _, rfl, run_takeDeferred HK.out, ?_⟩⟩
    refine ⟨_, results_tmp rfl _ _ _, ?_⟩
    have hp := SpPost.own (w0 := w) (w := W.putObj D (.deferred none)) (L := norm l) (base := w.heap.size) ⟨ownsRow_putObj HO.out.1 _ HK.out rfl, HO.out.2⟩ (HG.out.trans (belowK_b (w := w) (Nat.le_refl _) W D _ _ (by omega) HK.out rfl rfl))
    exact hp
  case stop =>
    rintro D c pre W _ _ h _
    exact h.elim

theorem collect_any (B : Nat) (a : Option Addr) (len cap : Nat) (l : List Sp) (w : World) (hb : w.cell? ⟨B, 0, none⟩ = some (.slice a len cap)) (hB : Spans w a len l) (hlen : len ≤ 100000) :
    Calls Try.prog 53 #[.func (.func 59) #[] #[.pointer (some ⟨B, 0, none⟩)]] w (SpPost w (norm l)) := by
  have HC := Lib.hid (appendSeq_any B a len cap l w hb hB hlen)
  clear hb hB
  go_enter Try.func53, Try.ntmps53
  go_wp2_with (go_at_call 58; refine HC.out.mono ?_; rintro e w1 ⟨a1, c1, rfl, h1, h2, h3⟩; have H1 := Lib.hid h1; have H2 := Lib.hid h2; have H3 := Lib.hid h3; clear h1 h2 h3)
  go_ret
  exact ⟨a1, c1, rfl, H1.out, H2.out, H3.out⟩
end Go.Proofs.Ytipljkegmhclkaa
