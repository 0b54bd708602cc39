/-
  What the project's own Sub answers (package span). Conditions: the slice reads as spans, no more than 100000 of them.
-/
import Derived.Test.YtipljkegmhclkaaE4
import Derived.Lib.MinMax
namespace Go.Proofs.Ytipljkegmhclkaa
open Go.RowKit Go.Shelf
attribute [local go_sem] Oper.semAt_some
set_option linter.unusedVariables false

/-- Behind a step that turned the row's own block alone, its result put back. -/
theorem HoldsSp.put2 {W w1 : World} {base B n m : Nat} {a a' : Option Addr} {c c' : Nat} {l l' : List Sp} (hv : Blk W B 41 #[.slice a n c]) (hr : OwnSp W base (.slice a n c) n l) (hbase : base ≤ W.heap.size) (hB : base ≤ B)
    (hO : OwnSp w1 base (.slice a' m c') m l') (hg : W.grownBy w1 (Value.slice a n c).ownBlock) :
    w1.cell? ⟨B, 0, none⟩ = some (.slice a n c) ∧ w1.frozen? ⟨B, 0, none⟩ = false ∧ Hid (Blk (w1.setCell ⟨B, 0, none⟩ (.slice a' m c')) B 41 #[.slice a' m c'] ∧ OwnSp (w1.setCell ⟨B, 0, none⟩ (.slice a' m c')) base (.slice a' m c') m l' ∧
      KeepsOthers W (w1.setCell ⟨B, 0, none⟩ (.slice a' m c')) ∧ Below base W (w1.setCell ⟨B, 0, none⟩ (.slice a' m c')) ∧ ∀ (B' : Nat) (t : TypeId) (cs : Array Value), B' ≠ B → (Value.slice a n c).ownBlock ≠ some B' → Blk W B' t cs → Blk w1 B' t cs ∧ Blk (w1.setCell ⟨B, 0, none⟩ (.slice a' m c')) B' t cs) := by
  have hne : 41 ≠ 40 := by decide
  have hv1 := hv.kept hg (hv.not_row hne hr)
  refine ⟨hv1.cell 0, hv1.free 0, hv1.set 0 _, ⟨hO.1.kept (grownBy_setCell4 w1 B 0 _) (.inr (fun e => (hv1.not_row hne hO) e.symm)), hO.2⟩, (KeepsOthers.of_grownBy hg (fun j o ej hj => hr.cells j o ej hj)).trans (KeepsOthers.setCell _ _ _),
    ((Below.refl _ _).grown hg hbase (fun k e => (hr.1.lt k e).1)).setCell (p := ⟨B, 0, none⟩) hB _, fun B' t cs hBB ht hb => ⟨hb.kept hg (fun e => ht e.symm), (hb.kept hg (fun e => ht e.symm)).other hBB _⟩⟩
def addIf (l : List Sp) (f t : Int) : List Sp := if f < t then l ++ [(f, t)] else l
theorem addIf_len (l : List Sp) (f t : Int) : (addIf l f t).length ≤ l.length + 1 := by
  unfold addIf
  split <;> simp
theorem addIf_piece (l : List Sp) (s x : Sp) (hx : x.1 < x.2) : addIf (addIf l x.1 (min x.2 s.1)) (max x.1 s.2) x.2 = l ++ piece s x := by
  unfold addIf piece
  by_cases c1 : x.1 < s.1
  · rw [if_pos (show x.1 < min x.2 s.1 by omega), if_pos c1]
    by_cases c2 : s.2 < x.2
    · rw [if_pos (show max x.1 s.2 < x.2 by omega), if_pos c2]
      simp
    · rw [if_neg (show ¬ max x.1 s.2 < x.2 by omega), if_neg c2]
      simp
  · rw [if_neg (show ¬ x.1 < min x.2 s.1 by omega), if_neg c1]
    by_cases c2 : s.2 < x.2
    · rw [if_pos (show max x.1 s.2 < x.2 by omega), if_pos c2]
      simp
    · rw [if_neg (show ¬ max x.1 s.2 < x.2 by omega), if_neg c2]
      simp

set_option maxHeartbeats 1600000 in
theorem appendNumbers_any (base : Nat) (a : Option Addr) (n c : Nat) (l : List Sp) (f t : Int) (w : World) (hO : OwnSp w base (.slice a n c) n l) (hn : n + 1 ≤ 1000000) (hbase : base ≤ w.heap.size) :
    Calls Try.prog 57 #[.slice a n c, .int .i64 f, .int .i64 t] w fun e w' => ∃ a' m c', e = .returned (.slice a' m c') ∧ OwnSp w' base (.slice a' m c') m (addIf l f t) ∧ w.grownBy w' (Value.slice a n c).ownBlock := by
  have HO := Lib.hid hO
  clear hO
  unfold addIf
  by_cases h : f < t
  · rw [if_pos h]
    go_enter Try.func57, Try.ntmps57
    go_wp2_with (at_builtin; refine append_gg sp_rowed rfl (.tmp 11) (.tmp 15) rfl base _ n l rfl (HO.out.alloc _) (some ⟨w.heap.size, 0, none⟩) 1 1 [(f, t)] rfl (fun e => by cases e) (one_reads w (f, t) _ _ rfl) (by omega) (by rw [World.size_alloc]; omega) ?_; intro a2 c2 w2 g1 g2 g3; have HO2 := Lib.hid g1; have HG2 := Lib.hid g3; clear g1 g2 g3)
    go_ret
    exact ⟨a2, _, c2, rfl, HO2.out, grown_alloc HG2.out⟩
  · rw [if_neg h]
    go_enter Try.func57, Try.ntmps57
    go_wp2
    go_ret
    exact ⟨a, _, c, rfl, HO.out, World.grownBy.refl _ _⟩


set_option maxHeartbeats 1600000 in
/-- What is no span takes nothing away (and adds nothing). -/
theorem spanSub_no (a : Option Addr) (len cap : Nat) (l : List Sp) (sf st : Int) (w : World) (hB : Spans w a len l) (hlen : len ≤ 100000) (hm : mayB (sf, st) = false) :
    Calls Try.prog 49 #[.slice a len cap, .agg #[.int .i64 sf, .int .i64 st]] w (SpPost w (norm l)) := by
  have HA0 : Hid (Below w.heap.size w (w.alloc (.cells #[.int .i64 sf, .int .i64 st] 40))) := (Below.refl _ _).alloc (Nat.le_refl _) _
  have HB := Lib.hid hB
  have HM := Lib.hid (fun w => isSpan_is hm w)
  have HC := Lib.hid collect_any
  clear hB hm
  go_enter Try.func49, Try.ntmps49
  go_wp2_with (first
    | (go_at_call 52; refine (HM.out _).mono ?_; rintro e w1 ⟨rfl, hb⟩; have HG := Lib.hid (HA0.out.trans (hb.mono HA0.out.size)); clear hb)
    | (go_at_call 54; refine (spans_any _ _ _ _).mono ?_; rintro e w2 ⟨rfl, rfl⟩; have HG2 := Lib.hid (HG.out.alloc HG.out.size (.cells #[.slice a len cap] 41)); have HC2 := Lib.hid (HC.out w1.heap.size a len cap l (w1.alloc (.cells #[.slice a len cap] 41)) ((Blk.new _ _ _).cell 0) (HB.out.later HG2.out) hlen))
    | (go_at_call 53; refine HC2.out.mono ?_; rintro e w3 ⟨a3, c3, rfl, h1, h2, h3⟩; have H1 := Lib.hid (h1.monoB HG2.out.size); have H2 := Lib.hid h2; have H3 := Lib.hid (HG2.out.trans (h3.mono HG2.out.size)); clear h1 h2 h3))
  go_ret
  exact ⟨a3, c3, rfl, H1.out, H2.out, H3.out⟩

set_option maxRecDepth 20000 in
set_option maxHeartbeats 4000000 in
theorem spanSub_yes (a : Option Addr) (len cap : Nat) (l : List Sp) (sf st : Int) (w : World) (hB : Spans w a len l) (hlen : len ≤ 100000) (hm : mayB (sf, st) = true) :
    Calls Try.prog 49 #[.slice a len cap, .agg #[.int .i64 sf, .int .i64 st]] w (SpPost w (subs (norm l) (sf, st))) := by
  have HB := Lib.hid hB
  have HM := Lib.hid (fun w => isSpan_is hm w)
  clear hB hm
  refine (callsIn_wide (n := 3)).1 (callsIn_of_wp_marks Try.func49 rfl trivial (wpIn_wide.2 ?_) rfl)
  simp only [Try.ntmps49, List.size_toArray, List.length_cons, List.length_nil, Nat.reduceAdd, Nat.reduceSub, Array.replicate_succ, Array.replicate_zero, List.push_toArray, List.append_toArray, List.nil_append, List.cons_append]
  have HS0 := Lib.hid (Blk.new w 40 #[.int .i64 sf, .int .i64 st])
  have HA0 : Hid (Below w.heap.size w (w.alloc (.cells #[.int .i64 sf, .int .i64 st] 40))) := (Below.refl _ _).alloc (Nat.le_refl _) _
  go_wp2_with (first
    | (go_at_call 52; refine (HM.out _).mono ?_; rintro e w1 ⟨rfl, hb⟩; have HG := Lib.hid (HA0.out.trans (hb.mono HA0.out.size)); have HS1 := Lib.hid (HS0.out.later hb); clear hb)
    | (go_at_call 54; refine (spans_any _ _ _ _).mono ?_; rintro e w2 ⟨rfl, rfl⟩))
  have hlt : w.heap.size < w1.heap.size := HS1.out.lt
  have hs0 := (HS1.out.alloc (.cells #[.slice none 0 0] 41)).alloc (.cells #[.slice a len cap] 41)
  have ho0 := (Blk.new w1 41 #[.slice none 0 0]).alloc (.cells #[.slice a len cap] 41)
  have hb0 := Blk.new (w1.alloc (.cells #[.slice none 0 0] 41)) 41 #[.slice a len cap]
  rw [World.size_alloc] at hb0
  have hB1 : Below w.heap.size w ((w1.alloc (.cells #[.slice none 0 0] 41)).alloc (.cells #[.slice a len cap] 41)) := (HG.out.alloc HG.out.size _).alloc (by rw [World.size_alloc]; have := HG.out.size; omega) _
  have hsz : ((w1.alloc (.cells #[.slice none 0 0] 41)).alloc (.cells #[.slice a len cap] 41)).heap.size = w1.heap.size + 2 := by simp
  obtain ⟨W0, hW0⟩ : ∃ W0, (w1.alloc (.cells #[.slice none 0 0] 41)).alloc (.cells #[.slice a len cap] 41) = W0 := ⟨_, rfl⟩
  rw [hW0] at hs0 ho0 hb0 hB1 hsz ⊢
  clear hW0
  have HHG := Lib.hid HG.out.size
  refine range_spans (w1.heap.size + 1) w.heap.size a len cap l rfl hlen (hb0.cell 0) (HB.out.later hB1) (by omega) (fun h b off e => HB.out.low h b off e)
    (fun pre W => (HoldsSp w1.heap.size w1.heap.size (subs pre (sf, st)) W ∧ Blk W w.heap.size 40 #[.int .i64 sf, .int .i64 st]) ∧ Below w.heap.size w W) (fun _ _ _ => False)
    (OwnFrom.and (OwnFrom.and (Own.from (HoldsSp.own _ _ _) _) (Own.from (Blk.own _ _ _) _)) (ownFrom_below (Nat.le_refl _) (by omega))) (fun _ _ _ _ _ hs _ _ => hs) ⟨⟨⟨none, 0, ho0, OwnG.none _ _ _ _ _⟩, hs0⟩, hB1⟩
    (fun f t Bx => #[.slice a len cap, .agg #[.int .i64 sf, .int .i64 st], undef, .pointer (some ⟨w.heap.size, 0, none⟩), .slice none 0 0, .pointer (some ⟨w1.heap.size, 0, none⟩), .pointer (some ⟨Bx, 0, none⟩),
      .agg #[.int .i64 sf, .int .i64 st], .bool true, .bool false, undef, undef, undef, .slice a len cap,
      .func (.func 59) #[] #[.pointer (some ⟨w1.heap.size + 1, 0, none⟩)], .agg #[.int .i64 f, .int .i64 t], undef, undef, undef, undef, undef, undef, undef, undef, undef, undef, undef, undef, undef, undef, undef, undef, undef, undef, undef])
    (fun Bx W => ∃ a n c, Blk W w1.heap.size 41 #[.slice a n c] ∧ (Value.slice a n c).ownBlock ≠ some Bx) ?nown ?nnew ?assign ?body ?done ?stop
  case nown =>
    rintro Bx u X Y row ⟨a1, n1, c1, h1, h2⟩ hg' hr
    exact ⟨a1, n1, c1, h1.kept hg' (fun e' => by obtain ⟨_, o, ho, hc⟩ := hr _ e'.symm; rw [show X.heap[_]? = _ from h1] at ho; cases ho; cases hc), h2⟩
  case nnew =>
    rintro pre W o ⟨⟨⟨a1, c1, hs, hO⟩, _⟩, _⟩ hsz1
    exact ⟨a1, _, c1, hs.alloc _, hO.low _ (Or.inr (Nat.le_refl _))⟩
  case assign =>
    intro F l f t W K hF hro hK
    gi_wp2
    exact hK
  case body =>
    rintro F lp pre f t Bx W hF hro hBx hx ⟨a0, n0, c0, hs', hne⟩ ⟨⟨⟨a1, c1, hs, hO⟩, hss⟩, hG⟩ hpl h0 h1 h2 hv
    have hin := hs'.inj hs
    simp at hin
    obtain ⟨rfl, rfl, rfl⟩ := hin
    have hlen2 := subs_len (sf, st) pre
    have hap := addIf_piece (subs pre (sf, st)) (sf, st) (f, t) h1
    have hsn : subs (pre ++ [(f, t)]) (sf, st) = subs pre (sf, st) ++ piece (sf, st) (f, t) := by simp [subs]
    have HSN := Lib.hid (hsn.trans hap.symm)
    have hal := addIf_len (subs pre (sf, st)) f (min t sf)
    obtain ⟨L0, HL0⟩ := named (subs pre (sf, st))
    rw [HL0.out] at hlen2 hs hO hal HSN hne hs'
    obtain ⟨K0, HK0⟩ := named L0.length
    rw [HK0.out] at hlen2 hs hO hal hne hs'
    have hn1 : w1.heap.size ≠ w.heap.size := by omega
    have hn2 : Bx ≠ w1.heap.size := by omega
    have hWs : w1.heap.size ≤ W.heap.size := Nat.le_of_lt hs.lt
    have HO := Lib.hid hO
    have HS := Lib.hid hs
    have HSS := Lib.hid hss
    have HX := Lib.hid hx
    have HGG := Lib.hid hG
    have HNE := Lib.hid hne
    have x1 := hx.cell 0
    have x2 := hx.cell 1
    have s1 := hs.cell 0
    have z1 := hss.cell 0
    have z2 := hss.cell 1
    have h33 := wide_fn hF.out 57
    have HA1 := Lib.hid (appendNumbers_any w1.heap.size a0 K0 c0 L0 f (min t sf) W hO (by omega) hWs)
    clear hs hss hG hO hs' hne hap hsn
    gi_wp2_with (first
      | (gi_at_call 57; refine (CallsIn.inRound lp (callsF hF.out HA1.out)).mono ?_; clear HA1; rintro e w2 ⟨a2, m2, c2, rfl, hO2, hg2⟩; obtain ⟨v1, v2, HP⟩ := HoldsSp.put2 HS.out HO.out hWs (Nat.le_refl _) hO2 hg2; obtain ⟨q1, q2, q3, q4, q5⟩ := HP.out; obtain ⟨X1, X2⟩ := q5 _ _ _ hn2 HNE.out HX.out; obtain ⟨Z1, Z2⟩ := q5 _ _ _ hn1.symm (HO.out.low _ (Or.inl (by omega))) HSS.out; have x3 := X2.cell 0; have x4 := X2.cell 1; have s3 := q1.cell 0; have z3 := Z2.cell 0; have z4 := Z2.cell 1; have hm2 := hO2.2.1; have HA2 := Lib.hid (appendNumbers_any w1.heap.size a2 m2 c2 _ (max f st) t _ q2 (by omega) (Nat.le_of_lt q1.lt)); have HQ1 := Lib.hid q1; have HQ2 := Lib.hid q2; have HQ3 := Lib.hid q3; have HQ4 := Lib.hid q4; have HZ := Lib.hid Z2; have hWs2 : w1.heap.size ≤ (w2.setCell ⟨w1.heap.size, 0, none⟩ (.slice a2 m2 c2)).heap.size := Nat.le_of_lt q1.lt; clear hO2 hg2 q1 q2 q3 q4 q5 X1 X2 Z1 Z2)
      | (gi_at_call 57; refine (CallsIn.inRound lp (callsF hF.out HA2.out)).mono ?_; clear HA2; rintro e w4 ⟨a4, m4, c4, rfl, hO4, hg4⟩; obtain ⟨v3, v4, HP2⟩ := HoldsSp.put2 HQ1.out HQ2.out hWs2 (Nat.le_refl _) hO4 hg4; have HZ2 := Lib.hid ((HP2.out.2.2.2.2 _ _ _ hn1.symm (HQ2.out.low _ (Or.inl (by omega))) HZ.out).2); have hm4 := hO4.2.1; clear hO4 hg4))
    refine ⟨(HQ3.out.trans HP2.out.2.2.1).from _, (HQ4.out.trans HP2.out.2.2.2.1).mono (by omega), ⟨?_, HZ2.out⟩, HGG.out.trans ((HQ4.out.trans HP2.out.2.2.2.1).mono (by omega))⟩
    rw [HSN.out]
    have hm4' := hm4
    subst hm4'
    exact ⟨a4, c4, HP2.out.1, HP2.out.2.1⟩
  case done =>
    rintro D W hD ⟨⟨⟨a1, c1, hs, hO⟩, _⟩, hG⟩ hK
    have HO := Lib.hid hO
    have s1 := hs.cell 0
    have HK := Lib.hid hK
    have HGG := Lib.hid hG
    clear hs hO hK hG
    go_wp2
    refine ⟨by simp, .inl ⟨_, _, rfl, run_takeDeferred HK.out, ?_⟩⟩
    refine ⟨_, results_tmp rfl _ _ _, ?_⟩
    have hp := SpPost.own (w0 := w) (w := W.putObj D (.deferred none)) (base := w1.heap.size) ⟨ownsRow_putObj HO.out.1 _ HK.out rfl, HO.out.2⟩ (HGG.out.trans (belowK_b (w := w) (Nat.le_refl _) W D _ _ (by omega) HK.out rfl rfl))
    exact hp
  case stop =>
    rintro D c pre W _ _ h _
    exact h.elim

theorem spanSub_any (a : Option Addr) (len cap : Nat) (l : List Sp) (sf st : Int) (w : World) (hB : Spans w a len l) (hcap : len ≤ cap) (hnil : a = none → cap = 0) (hlen : len ≤ 100000) (hf : SpFit l) (h1 : I64 sf) (h2 : I64 st) :
    Calls Try.prog 49 #[.slice a len cap, .agg #[.int .i64 sf, .int .i64 st]] w (SpPost w (subL l (sf, st))) := by
  unfold subL
  cases hm : mayB (sf, st) with
  | true => exact spanSub_yes a len cap l sf st w hB hlen hm
  | false => exact spanSub_no a len cap l sf st w hB hlen hm
end Go.Proofs.Ytipljkegmhclkaa
