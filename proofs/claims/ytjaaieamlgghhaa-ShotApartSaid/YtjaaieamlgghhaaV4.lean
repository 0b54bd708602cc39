/-
  What the reference's Add answers. Conditions: the slice reads as spans, no more than 100000 of them.
-/
import Derived.Test.YtjaaieamlgghhaaU4
import Derived.Deep.AppendLies
namespace Go.Proofs.Ytjaaieamlgghhaa
open Go.RowKit

/-- One span more, as the text does it: the spans from here on, the span, what is put so far, whether the span is put. -/
def addGo : List Sp → Sp → List Sp → Bool → List Sp
  | [], s, out, put => if put then out else out ++ [s]
  | x :: r, s, out, put => if x.2 < s.1 then addGo r s (out ++ [x]) put else if s.2 < x.1 then addGo r s ((if put then out else out ++ [s]) ++ [x]) true else addGo r (min s.1 x.1, max s.2 x.2) out put
theorem addGo_put (s : Sp) : ∀ (r out : List Sp) (lo : Int), Rt lo r → s.2 ≤ lo → s.1 < s.2 → addGo r s out true = out ++ r
  | [], out, _, _, _, _ => by simp [addGo]
  | x :: r, out, lo, h, h1, h2 => by
    have g0 := h.1
    have g1 := h.2.1
    rw [addGo, if_neg (by omega), if_pos (by omega), if_pos rfl, addGo_put s r (out ++ [x]) x.2 h.2.2.2 (by omega) h2]
    simp
theorem addGo_ins : ∀ (l : List Sp) (s : Sp) (out : List Sp) (lo : Int), Rt lo l → s.1 < s.2 → addGo l s out false = out ++ ins l s
  | [], s, out, _, _, _ => by simp [addGo, ins]
  | x :: r, s, out, lo, h, h2 => by
    have g1 := h.2.1
    unfold addGo ins
    by_cases c1 : x.2 < s.1
    · rw [if_pos c1, if_pos c1, addGo_ins r s (out ++ [x]) x.2 h.2.2.2 h2]
      simp
    · rw [if_neg c1, if_neg c1]
      by_cases c2 : s.2 < x.1
      · rw [if_pos c2, if_pos c2, if_neg Bool.false_ne_true, addGo_put s r _ x.2 h.2.2.2 (by omega) h2]
        simp
      · rw [if_neg c2, if_neg c2]
        refine addGo_ins r _ out x.2 h.2.2.2 ?_
        show min s.1 x.1 < max s.2 x.2
        omega
theorem drop_at (L : List Sp) (j : Nat) (h : j < L.length) : L.drop j = spAt L j :: L.drop (j + 1) := by
  have e : spAt L j = L[j] := by
    have := spAt_some L j h
    rw [List.getElem?_eq_getElem h] at this
    injection this with this
    exact this.symm
  rw [List.drop_eq_getElem_cons h, e]
theorem ins_len : ∀ (l : List Sp) (s : Sp), (ins l s).length ≤ l.length + 1
  | [], _ => by simp [ins]
  | x :: r, s => by
    unfold ins
    have h1 := ins_len r s
    have h2 := ins_len r (min s.1 x.1, max s.2 x.2)
    split
    · simp; omega
    · split
      · simp
      · simp; omega

/-- All that was there stays, but for one block. -/
def Kept (w2 wr : World) (B : Nat) : Prop := w2.heap.size ≤ wr.heap.size ∧ ∀ p v, p.block ≠ B → p.block < w2.heap.size → w2.cell? p = some v → wr.cell? p = some v
theorem Kept.refl (w : World) (B : Nat) : Kept w w B := ⟨Nat.le_refl _, fun _ _ _ _ h => h⟩
theorem Kept.alloc {w2 wr : World} {B : Nat} (h : Kept w2 wr B) (X : Obj) : Kept w2 (wr.alloc X) B :=
  ⟨by rw [World.size_alloc]; have := h.1; omega, fun p v h1 h2 h3 => (World.cell?_alloc_lt wr X p (Nat.lt_of_lt_of_le h2 h.1)).trans (h.2 p v h1 h2 h3)⟩
theorem Kept.setCell {w2 wr : World} {B i : Nat} (h : Kept w2 wr B) (v : Value) : Kept w2 (wr.setCell ⟨B, i, none⟩ v) B :=
  ⟨by rw [World.size_setCell]; exact h.1, fun p u h1 h2 h3 => by
    rw [World.cell?_setCell_other _ _ _ _ (fun e => h1 (by rw [← e]))]
    exact h.2 p u h1 h2 h3⟩
theorem Kept.grown {w2 wr w0 w' : World} {B base n c : Nat} {a : Option Addr} {l : List Sp} (h : Kept w2 wr B) (hO : OwnSp w0 base (.slice a n c) n l) (hb : w2.heap.size ≤ base) (hs : wr.heap.size ≤ w'.heap.size) (hg : wr.grownBy w' (Value.slice a n c).ownBlock) : Kept w2 w' B :=
  ⟨Nat.le_trans h.1 hs, fun p v h1 h2 h3 => hO.far hg (h.2 p v h1 h2 h3) (Or.inl (Nat.lt_of_lt_of_le h2 hb))⟩
theorem Kept.spans {w2 wr : World} {B b off K : Nat} {L : List Sp} (h : Kept w2 wr B) (hb : b ≠ B) (hS : Spans w2 (some ⟨b, off, none⟩) K L) (j : Nat) (hj : j < K) :
    wr.cell? ⟨b, off + j * 2, none⟩ = some (.int .i64 (spAt L j).1) ∧ wr.cell? ⟨b, off + j * 2 + 1, none⟩ = some (.int .i64 (spAt L j).2) := by
  obtain ⟨h1, h2⟩ := span_cells hS j hj
  exact ⟨h.2 _ _ hb (block_lt_of_cell h1) h1, h.2 _ _ hb (block_lt_of_cell h2) h2⟩

theorem OwnG.farF {α : Type} {cv : α → List Value} {e : TypeId} {sz : Nat} {w w0 w' : World} {base n c : Nat} {a : Option Addr} {l : List α} (h : OwnG cv e sz w0 base (.slice a n c) n l) (hg : w.grownBy w' (Value.slice a n c).ownBlock) {p : Addr}
    (hp : w.frozen? p = false) (hlt : p.block < w.heap.size) (hb : p.block < base ∨ w0.heap.size ≤ p.block) : w'.frozen? p = false :=
  (hg.frozen_far p hlt fun e => by
    have := h.1.lt p.block e.symm
    omega).trans hp
theorem OwnG.setFar {α : Type} {cv : α → List Value} {e : TypeId} {sz : Nat} {w : World} {base n c B i : Nat} {a : Option Addr} {l : List α} (h : OwnG cv e sz w base (.slice a n c) n l) (hB : B < base) (v : Value) : OwnG cv e sz (w.setCell ⟨B, i, Option.none⟩ v) base (.slice a n c) n l :=
  ⟨h.1.kept (row := some B) ⟨rfl, rfl, rfl, by rw [World.size_setCell]; exact Nat.le_refl _, fun k hk hne => Below.heap_setCell _ _ _ _ (fun e => hne (by rw [e]))⟩ (Or.inr fun e => by
    have := h.1.lt B e
    omega), h.2⟩

set_option maxHeartbeats 800000 in
/-- 'right': a row of the call's own. -/
theorem refNorm_own (a : Option Addr) (len cap : Nat) (l : List Sp) (w : World) (hB : Spans w a len l) (hnil : a = none → cap = 0) (hlen : len ≤ 100000) (K : Nat) (hK : (norm l).length = K) :
    Calls Try.prog 77 #[.slice a len cap] w fun e w' => ∃ x c, e = .returned (.slice x K c) ∧ OwnSp w' w.heap.size (.slice x K c) K (norm l) ∧ Below w.heap.size w w' := by
  have HRR := Lib.hid (fun R hR => refRight_any a len cap l w hB hlen R hR)
  have HB := Lib.hid hB
  have HN := Lib.hid hnil
  have hl := hB.1
  clear hB hnil
  by_cases h : Rt (-1) l
  · have HR := Lib.hid (HRR.out true (by rw [decide_eq_true_iff]; exact h))
    rw [norm_of h] at hK ⊢
    obtain rfl : len = K := by omega
    clear HRR h
    go_enter Try.func77, Try.ntmps77
    go_wp2_with (first
      | (go_at_call 48; refine HR.out.mono ?_; rintro e w1 ⟨rfl, hb⟩; have HG := Lib.hid hb; clear hb)
      | (at_builtin; refine append_g_copy sp_rowed rfl (.tmp 6) (.tmp 7) rfl w.heap.size rfl a len cap l rfl HN.out (HB.out.later HG.out) (by omega) HG.out.size ?_; intro a2 c2 w2 g1 g2; have HO := Lib.hid g1; have HG2 := Lib.hid (HG.out.trans g2); clear g1 g2))
    go_ret
    exact ⟨_, _, rfl, HO.out, HG2.out⟩
  · have HR := Lib.hid (HRR.out false (by rw [decide_eq_false_iff_not]; exact h))
    have e : norm l = [] := if_neg h
    rw [e] at hK ⊢
    obtain rfl : 0 = K := hK
    clear HRR h e
    go_enter Try.func77, Try.ntmps77
    go_wp2_with (go_at_call 48; refine HR.out.mono ?_; rintro e w1 ⟨rfl, hb⟩; have HG := Lib.hid hb; clear hb)
    go_ret
    exact ⟨none, 0, rfl, OwnG.none _ _ _ _ _, HG.out⟩

set_option maxRecDepth 100000 in
set_option maxHeartbeats 16000000 in
theorem refAdd_any (a : Option Addr) (len cap : Nat) (l : List Sp) (sf0 st0 : Int) (w : World) (hB : Spans w a len l) (hnil : a = none → cap = 0) (hlen : len ≤ 100000) :
    Calls Try.prog 67 #[.slice a len cap, .agg #[.int .i64 sf0, .int .i64 st0]] w (SpPost w (addL l (sf0, st0))) := by
  have HA0 : Hid (Below w.heap.size w (w.alloc (.cells #[.int .i64 sf0, .int .i64 st0] 50))) := (Below.refl _ _).alloc (Nat.le_refl _) _
  have hk := norm_len l
  rw [hB.1] at hk
  have hrt := norm_right l
  have HR0 := fun K hK => refNorm_own a len cap l (w.alloc (.cells #[.int .i64 sf0, .int .i64 st0] 50)) (hB.later HA0.out) hnil hlen K hK
  unfold addL
  obtain ⟨L, HL⟩ := named (norm l)
  rw [HL.out] at HR0 hk hrt ⊢
  obtain ⟨K, HK⟩ := named L.length
  rw [HK.out] at hk
  have HR := Lib.hid (HR0 K HK.out)
  have HM := Lib.hid (fun w => may_any sf0 st0 w)
  obtain ⟨M, HMM⟩ := named (mayB (sf0, st0))
  rw [HMM.out] at HM ⊢
  have c1 : Hid (∀ w1, Below (w.alloc (.cells #[.int .i64 sf0, .int .i64 st0] 50)).heap.size (w.alloc (.cells #[.int .i64 sf0, .int .i64 st0] 50)) w1 → w1.cell? ⟨w.heap.size, 0, none⟩ = some (.int .i64 sf0) ∧ w1.cell? ⟨w.heap.size, 1, none⟩ = some (.int .i64 st0) ∧ w1.frozen? ⟨w.heap.size, 0, none⟩ = false ∧ w1.frozen? ⟨w.heap.size, 1, none⟩ = false) := fun w1 hb =>
    ⟨(hb.cell (by simp)).trans (by simp), (hb.cell (by simp)).trans (by simp), (hb.frozen (by simp)).trans (by simp), (hb.frozen (by simp)).trans (by simp)⟩
  clear hB hnil HR0
  cases M with
  | false =>
    rw [if_neg Bool.false_ne_true]
    go_enter Try.func67, Try.ntmps67
    go_wp2_with (first
      | (go_at_call 77; refine HR.out.mono ?_; rintro e w1 ⟨a1, k1, rfl, hO, hb⟩; obtain ⟨d1, d2, d3, d4⟩ := c1.out w1 hb; have HO := Lib.hid hO; have HG := Lib.hid (HA0.out.trans (hb.mono HA0.out.size)); clear hO hb)
      | (go_at_call 78; refine (HM.out _).mono ?_; rintro e w2 ⟨rfl, hb⟩; have HS2 := Lib.hid (HO.out.laterB hb); have HG2 := Lib.hid (HG.out.trans (hb.mono HG.out.size)); clear hb))
    go_ret
    have h2 := HS2.out
    have h3 := (HO.out.reads sp_rowed).2
    have hk2 := HK.out
    subst hk2
    exact ⟨a1, k1, rfl, h2.monoB HA0.out.size, h3, HG2.out⟩
  | true =>
    rw [if_pos rfl]
    have hss : sf0 < st0 := ((mayB_iff _).1 HMM.out).2.1
    have hadd := addGo_ins L (sf0, st0) [] (-1) hrt hss
    rw [List.nil_append] at hadd
    rw [← hadd]
    obtain ⟨F, HF⟩ := named (addGo L (sf0, st0) [] false)
    rw [HF.out]
    clear hadd hrt
    go_enter Try.func67, Try.ntmps67
    go_wp2_with (first
      | (go_at_call 77; refine HR.out.mono ?_; rintro e w1 ⟨a1, k1, rfl, hO, hb⟩; obtain ⟨d1, d2, d3, d4⟩ := c1.out w1 hb; have HO := Lib.hid hO; have HI := Lib.hid hb; have HG := Lib.hid (HA0.out.trans (hb.mono HA0.out.size)); clear hO hb)
      | (go_at_call 78; refine (HM.out _).mono ?_; rintro e w2 ⟨rfl, hb⟩; have HS2 := Lib.hid ((HO.out.reads sp_rowed).1.later hb); have HI2 := Lib.hid (HI.out.trans (hb.mono HI.out.size)); have HG2 := Lib.hid (HG.out.trans (hb.mono HG.out.size)); clear hb d1 d2 d3 d4))
    have HNB : Hid (∀ b off, a1 = some ⟨b, off, none⟩ → b ≠ w.heap.size) := fun b off e => by
      subst e
      have := HO.out.1.lt b rfl
      rw [World.size_alloc] at this
      omega
    go_loopw [6, 7, 8] (fun o p i wr => ∃ (j n : Nat) (x : Option Addr) (c : Nat) (ol : List Sp) (sf st : Int) (put : Bool), j ≤ K ∧ n ≤ j + 1 ∧ (put = false → n ≤ j) ∧ i = .int .i64 j ∧ o = .slice x n c ∧ p = .bool put ∧ Hid (OwnSp wr w2.heap.size (.slice x n c) n ol) ∧ Hid (Below w.heap.size w wr) ∧ Hid (Kept w2 wr w.heap.size) ∧ Hid (addGo (L.drop j) (sf, st) ol put = F) ∧ wr.cell? ⟨w.heap.size, 0, none⟩ = some (.int .i64 sf) ∧ wr.cell? ⟨w.heap.size, 1, none⟩ = some (.int .i64 st) ∧ wr.frozen? ⟨w.heap.size, 0, none⟩ = false ∧ wr.frozen? ⟨w.heap.size, 1, none⟩ = false) (fun _ _ i _ => K - (intOf i).toNat)
    case atStart =>
      obtain ⟨d1, d2, d3, d4⟩ := c1.out w2 HI2.out
      exact ⟨0, 0, none, 0, [], sf0, st0, false, Nat.zero_le _, Nat.zero_le _, fun _ => Nat.zero_le _, rfl, rfl, rfl, OwnG.none _ _ _ _ _, HG2.out, Kept.refl _ _, HF.out, d1, d2, d3, d4⟩
    case round =>
      obtain ⟨j, n, x, c, ol, sf, st, put, hj, hn, hnp, rfl, rfl, rfl, HOj, HGj, HKj, HFj, d1, d2, d3, d4⟩ := hrel
      by_cases hlt : j < K
      · obtain ⟨b, off, rfl⟩ := HS2.out.lies (by omega)
        obtain ⟨e1, e2⟩ := HKj.out.spans (HNB.out b off rfl) HS2.out j hlt
        have hbl : w.heap.size < wr.heap.size := block_lt_of_cell d1
        have hbw : w.heap.size < w2.heap.size := block_lt_of_cell (c1.out w2 HI2.out).1
        have hdr := drop_at L j (by rw [HK.out]; exact hlt)
        have hF := HFj.out
        rw [hdr, addGo] at hF
        obtain ⟨⟨f, t⟩, HFT⟩ := named (spAt L j)
        rw [HFT.out] at e1 e2 hF
        have hws : w2.heap.size ≤ wr.heap.size := HKj.out.1
        have HOA : Hid (∀ X Y : Obj, OwnSp ((wr.alloc X).alloc Y) w2.heap.size (.slice x n c) n ol) := fun X Y => (HOj.out.alloc X).alloc Y
        have HGX : Hid (∀ X : Obj, Below w.heap.size w (wr.alloc X)) := fun X => HGj.out.alloc HGj.out.size X
        have HGY : Hid (∀ X Y : Obj, Below w.heap.size w ((wr.alloc X).alloc Y)) := fun X Y => (HGX.out X).alloc (HGX.out X).size Y
        have HKY : Hid (∀ X Y : Obj, Kept w2 ((wr.alloc X).alloc Y) w.heap.size) := fun X Y => (HKj.out.alloc X).alloc Y
        clear hdr
        by_cases h1 : t < sf
        · rw [if_pos h1] at hF
          have HFN := Lib.hid hF
          clear hF
          have hn2 : n + 1 ≤ j + 1 + 1 := by omega
          go_wp2_with (at_builtin; refine append_gg sp_rowed rfl (.tmp 43) (.tmp 45) rfl w2.heap.size _ n _ rfl (HOA.out _ _) _ 1 1 [(f, t)] rfl (fun e => by cases e) (one_reads2 _ _ (f, t) _ _ rfl) (by omega) (HKY.out _ _).1 ?_; intro x2 k2 w3 g1 g2 g3; have HO2 := Lib.hid g1; have HG29 := Lib.hid ((HGY.out _ _).trans (g2.mono (Nat.le_of_lt hbw))); have HK29 := Lib.hid ((HKY.out _ _).grown HOj.out (Nat.le_refl _) g2.size g3); have r1 := HOj.out.far g3 (p := ⟨w.heap.size, 0, none⟩) (v := .int .i64 sf) (by simp [go_sem, d1, hbl]) (Or.inl hbw); have r2 := HOj.out.far g3 (p := ⟨w.heap.size, 1, none⟩) (v := .int .i64 st) (by simp [go_sem, d2, hbl]) (Or.inl hbw); have r3 := HOj.out.farF g3 (p := ⟨w.heap.size, 0, none⟩) (by simp [go_sem, d3, hbl]) (by simp; omega) (Or.inl hbw); have r4 := HOj.out.farF g3 (p := ⟨w.heap.size, 1, none⟩) (by simp [go_sem, d4, hbl]) (by simp; omega) (Or.inl hbw); clear g1 g2 g3)
          go_roundw
          case rel => exact ⟨j + 1, n + 1, x2, k2, ol ++ [(f, t)], sf, st, put, by omega, hn2, fun h => by have := hnp h; omega, by go_num, rfl, rfl, HO2.out, HG29.out, HK29.out, HFN.out, r1, r2, r3, r4⟩
          case measure => simp [intOf]; omega
        · rw [if_neg h1] at hF
          by_cases h2 : st < f
          · rw [if_pos h2] at hF
            cases put with
            | true =>
              rw [if_pos rfl] at hF
              have HFN := Lib.hid hF
              clear hF
              go_wp2_with (at_builtin; refine append_gg sp_rowed rfl (.tmp 59) (.tmp 61) rfl w2.heap.size _ n _ rfl (HOA.out _ _) _ 1 1 [(f, t)] rfl (fun e => by cases e) (one_reads2 _ _ (f, t) _ _ rfl) (by omega) (HKY.out _ _).1 ?_; intro x2 k2 w3 g1 g2 g3; have HO2 := Lib.hid g1; have HG29 := Lib.hid ((HGY.out _ _).trans (g2.mono (Nat.le_of_lt hbw))); have HK29 := Lib.hid ((HKY.out _ _).grown HOj.out (Nat.le_refl _) g2.size g3); have r1 := HOj.out.far g3 (p := ⟨w.heap.size, 0, none⟩) (v := .int .i64 sf) (by simp [go_sem, d1, hbl]) (Or.inl hbw); have r2 := HOj.out.far g3 (p := ⟨w.heap.size, 1, none⟩) (v := .int .i64 st) (by simp [go_sem, d2, hbl]) (Or.inl hbw); have r3 := HOj.out.farF g3 (p := ⟨w.heap.size, 0, none⟩) (by simp [go_sem, d3, hbl]) (by simp; omega) (Or.inl hbw); have r4 := HOj.out.farF g3 (p := ⟨w.heap.size, 1, none⟩) (by simp [go_sem, d4, hbl]) (by simp; omega) (Or.inl hbw); clear g1 g2 g3)
              go_roundw
              case rel => exact ⟨j + 1, n + 1, x2, k2, ol ++ [(f, t)], sf, st, true, by omega, by omega, (fun h => by cases h), by go_num, rfl, rfl, HO2.out, HG29.out, HK29.out, HFN.out, r1, r2, r3, r4⟩
              case measure => simp [intOf]; omega
            | false =>
              rw [if_neg Bool.false_ne_true] at hF
              have HFN := Lib.hid hF
              have hn2 := hnp rfl
              clear hF
              go_wp2_with (first
                | (at_builtin; refine append_gg sp_rowed rfl (.tmp 55) (.tmp 57) rfl w2.heap.size _ n _ rfl (HOA.out _ _) _ 1 1 [(sf, st)] rfl (fun e => by cases e) (one_reads2 _ _ (sf, st) _ _ rfl) (by omega) (HKY.out _ _).1 ?_; intro x2 k2 w3 g1 g2 g3; have HO2 := Lib.hid g1; have HG29 := Lib.hid ((HGY.out _ _).trans (g2.mono (Nat.le_of_lt hbw))); have HK29 := Lib.hid ((HKY.out _ _).grown HOj.out (Nat.le_refl _) g2.size g3); have r1 := HOj.out.far g3 (p := ⟨w.heap.size, 0, none⟩) (v := .int .i64 sf) (by simp [go_sem, d1, hbl]) (Or.inl hbw); have r2 := HOj.out.far g3 (p := ⟨w.heap.size, 1, none⟩) (v := .int .i64 st) (by simp [go_sem, d2, hbl]) (Or.inl hbw); have y1 := HOj.out.far g3 (p := ⟨wr.heap.size, 0, none⟩) (v := .int .i64 f) (by simp [go_sem]) (Or.inr (Nat.le_refl _)); have y2 := HOj.out.far g3 (p := ⟨wr.heap.size, 1, none⟩) (v := .int .i64 t) (by simp [go_sem]) (Or.inr (Nat.le_refl _)); have r3 := HOj.out.farF g3 (p := ⟨w.heap.size, 0, none⟩) (by simp [go_sem, d3, hbl]) (by simp; omega) (Or.inl hbw); have r4 := HOj.out.farF g3 (p := ⟨w.heap.size, 1, none⟩) (by simp [go_sem, d4, hbl]) (by simp; omega) (Or.inl hbw); have hb3 : w.heap.size < w3.heap.size := block_lt_of_cell r1; clear g1 g2 g3)
                | (at_builtin; refine append_gg sp_rowed rfl (.tmp 59) (.tmp 61) rfl w2.heap.size _ (n + 1) _ rfl (HO2.out.alloc _) _ 1 1 [(f, t)] rfl (fun e => by cases e) (one_reads _ (f, t) _ _ rfl) (by omega) (Nat.le_trans HK29.out.1 (by simp)) ?_; intro x3 k3 w4 g1 g2 g3; have HO3 := Lib.hid g1; have HG39 := Lib.hid ((HG29.out.alloc HG29.out.size _).trans (g2.mono (Nat.le_of_lt hbw))); have HK39 := Lib.hid ((HK29.out.alloc _).grown HO2.out (Nat.le_refl _) g2.size g3); have s1 := HO2.out.far g3 (p := ⟨w.heap.size, 0, none⟩) (v := .int .i64 sf) (by simp [go_sem, r1, hb3]) (Or.inl hbw); have s2 := HO2.out.far g3 (p := ⟨w.heap.size, 1, none⟩) (v := .int .i64 st) (by simp [go_sem, r2, hb3]) (Or.inl hbw); have s3 := HO2.out.farF g3 (p := ⟨w.heap.size, 0, none⟩) (by simp [go_sem, r3, hb3]) (by simp; omega) (Or.inl hbw); have s4 := HO2.out.farF g3 (p := ⟨w.heap.size, 1, none⟩) (by simp [go_sem, r4, hb3]) (by simp; omega) (Or.inl hbw); clear g1 g2 g3))
              go_roundw
              case rel => exact ⟨j + 1, n + 1 + 1, x3, k3, ol ++ [(sf, st)] ++ [(f, t)], sf, st, true, by omega, by omega, (fun h => by cases h), by go_num, rfl, rfl, HO3.out, HG39.out, HK39.out, HFN.out, s1, s2, s3, s4⟩
              case measure => simp [intOf]; omega
          · rw [if_neg h2] at hF
            have HFN := Lib.hid hF
            clear hF
            have HZ : Hid (∀ X : Obj, ((((wr.setCell ⟨w.heap.size, 0, none⟩ (.int .i64 (min sf f))).setCell ⟨w.heap.size, 1, none⟩ (.int .i64 (max st t))).alloc X).cell? ⟨w.heap.size, 0, none⟩ = some (.int .i64 (min sf f)) ∧ (((wr.setCell ⟨w.heap.size, 0, none⟩ (.int .i64 (min sf f))).setCell ⟨w.heap.size, 1, none⟩ (.int .i64 (max st t))).alloc X).cell? ⟨w.heap.size, 1, none⟩ = some (.int .i64 (max st t)) ∧ (((wr.setCell ⟨w.heap.size, 0, none⟩ (.int .i64 (min sf f))).setCell ⟨w.heap.size, 1, none⟩ (.int .i64 (max st t))).alloc X).frozen? ⟨w.heap.size, 0, none⟩ = false ∧ (((wr.setCell ⟨w.heap.size, 0, none⟩ (.int .i64 (min sf f))).setCell ⟨w.heap.size, 1, none⟩ (.int .i64 (max st t))).alloc X).frozen? ⟨w.heap.size, 1, none⟩ = false)) := fun X => by
              have d2' : (wr.setCell ⟨w.heap.size, 0, none⟩ (.int .i64 (min sf f))).cell? ⟨w.heap.size, 1, none⟩ = some (.int .i64 st) := (World.cell?_setCell_other _ _ _ _ (by simp)).trans d2
              refine ⟨?_, ?_, ?_, ?_⟩
              · rw [World.cell?_alloc_lt _ _ _ (by simp; exact hbl), World.cell?_setCell_other _ _ _ _ (by simp)]
                exact World.cell?_setCell_same _ _ _ d1
              · rw [World.cell?_alloc_lt _ _ _ (by simp; exact hbl)]
                exact World.cell?_setCell_same _ _ _ d2'
              · rw [World.frozen?_alloc_old _ _ _ (by simp; omega), World.frozen?_setCell, World.frozen?_setCell]
                exact d3
              · rw [World.frozen?_alloc_old _ _ _ (by simp; omega), World.frozen?_setCell, World.frozen?_setCell]
                exact d4
            have HOZ : Hid (∀ X : Obj, OwnSp (((wr.setCell ⟨w.heap.size, 0, none⟩ (.int .i64 (min sf f))).setCell ⟨w.heap.size, 1, none⟩ (.int .i64 (max st t))).alloc X) w2.heap.size (.slice x n c) n ol) := fun X => ((HOj.out.setFar hbw _).setFar hbw _).alloc X
            have HGZ : Hid (∀ X : Obj, Below w.heap.size w (((wr.setCell ⟨w.heap.size, 0, none⟩ (.int .i64 (min sf f))).setCell ⟨w.heap.size, 1, none⟩ (.int .i64 (max st t))).alloc X)) := fun X => (Below.setCell (Below.setCell HGj.out (Nat.le_refl _) _) (Nat.le_refl _) _).alloc (by simp; omega) X
            have HKZ : Hid (∀ X : Obj, Kept w2 (((wr.setCell ⟨w.heap.size, 0, none⟩ (.int .i64 (min sf f))).setCell ⟨w.heap.size, 1, none⟩ (.int .i64 (max st t))).alloc X) w.heap.size) := fun X => ((HKj.out.setCell _).setCell _).alloc X
            go_wp2
            go_roundw
            case rel =>
              obtain ⟨z1, z2, z3, z4⟩ := HZ.out (.cells #[.int .i64 f, .int .i64 t] 50)
              exact ⟨j + 1, n, x, c, ol, min sf f, max st t, put, by omega, by omega, fun h => by have := hnp h; omega, by go_num, rfl, rfl, HOZ.out _, HGZ.out _, HKZ.out _, HFN.out, z1, z2, z3, z4⟩
            case measure => simp [intOf]; omega
      · obtain rfl : j = K := by omega
        have hF := HFj.out
        have hbw : w.heap.size < w2.heap.size := block_lt_of_cell (c1.out w2 HI2.out).1
        have hbl : w.heap.size < wr.heap.size := block_lt_of_cell d1
        rw [List.drop_of_length_le (by rw [HK.out]; exact Nat.le_refl _), addGo] at hF
        cases put with
        | true =>
          rw [if_pos rfl] at hF
          subst hF
          go_wp2
          go_ret
          exact SpPost.own HOj.out HGj.out
        | false =>
          rw [if_neg Bool.false_ne_true] at hF
          subst hF
          go_wp2_with (at_builtin; refine append_gg sp_rowed rfl (.tmp 65) (.tmp 67) rfl w2.heap.size _ n _ rfl (HOj.out.alloc _) _ 1 1 [(sf, st)] rfl (fun e => by cases e) (one_reads _ (sf, st) _ _ rfl) (by omega) (Nat.le_trans HKj.out.1 (by simp)) ?_; intro x2 k2 w3 g1 g2 g3; have HO2 := Lib.hid g1; have HG29 := Lib.hid ((HGj.out.alloc HGj.out.size _).trans (g2.mono (Nat.le_of_lt hbw))); have HK29 := Lib.hid ((HKj.out.alloc _).grown HOj.out (Nat.le_refl _) g2.size g3); clear g1 g2 g3)
          go_ret
          exact SpPost.own HO2.out HG29.out
end Go.Proofs.Ytjaaieamlgghhaa
