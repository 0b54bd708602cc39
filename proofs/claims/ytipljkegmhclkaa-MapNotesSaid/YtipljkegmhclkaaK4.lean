/-
  What the project's own Add answers (package span). Conditions: the slice reads as spans, no more than 100000 of them.
-/
import Derived.Test.YtipljkegmhclkaaH4
namespace Go.Proofs.Ytipljkegmhclkaa
open Go.RowKit Go.Shelf
attribute [local go_sem] Oper.semAt_some
set_option linter.unusedVariables false

set_option maxHeartbeats 1600000 in
theorem spanAdd_no (a : Option Addr) (len cap : Nat) (l : List Sp) (sf st : Int) (w : World) (hB : Spans w a len l) (hlen : len ≤ 100000) (hm : mayB (sf, st) = false) :
    Calls Try.prog 40 #[.slice a len cap, .agg #[.int .i64 sf, .int .i64 st]] w (SpPost w (norm l)) := by
  have HA0 : Hid (Below w.heap.size w (w.alloc (.cells #[.int .i64 sf, .int .i64 st] 40))) := (Below.refl _ _).alloc (Nat.le_refl _) _
  have HB := Lib.hid hB
  have HM := Lib.hid (fun w => isSpan_is hm w)
  have HC := Lib.hid collect_any
  clear hB hm
  go_enter Try.func40, Try.ntmps40
  go_wp2_with (first
    | (go_at_call 52; refine (HM.out _).mono ?_; rintro e w1 ⟨rfl, hb⟩; have HG := Lib.hid (HA0.out.trans (hb.mono HA0.out.size)); clear hb)
    | (go_at_call 54; refine (spans_any _ _ _ _).mono ?_; rintro e w2 ⟨rfl, rfl⟩; have HG2 := Lib.hid (HG.out.alloc HG.out.size (.cells #[.slice a len cap] 41)); have HC2 := Lib.hid (HC.out w1.heap.size a len cap l (w1.alloc (.cells #[.slice a len cap] 41)) ((Blk.new _ _ _).cell 0) (HB.out.later HG2.out) hlen))
    | (go_at_call 53; refine HC2.out.mono ?_; rintro e w3 ⟨a3, c3, rfl, h1, h2, h3⟩; have H1 := Lib.hid (h1.monoB HG2.out.size); have H2 := Lib.hid h2; have H3 := Lib.hid (HG2.out.trans (h3.mono HG2.out.size)); clear h1 h2 h3))
  go_ret
  exact ⟨a3, c3, rfl, H1.out, H2.out, H3.out⟩

set_option maxRecDepth 20000 in
set_option maxHeartbeats 8000000 in
theorem spanAdd_yes (a : Option Addr) (len cap : Nat) (l : List Sp) (sf st : Int) (w : World) (hB : Spans w a len l) (hlen : len ≤ 100000) (hm : mayB (sf, st) = true) :
    Calls Try.prog 40 #[.slice a len cap, .agg #[.int .i64 sf, .int .i64 st]] w (SpPost w (ins (norm l) (sf, st))) := by
  have HB := Lib.hid hB
  have HM := Lib.hid (fun w => isSpan_is hm w)
  have HLT : Hid (sf < st) := ((mayB_iff _).1 hm).2.1
  have hnl := norm_len l
  rw [hB.1] at hnl
  clear hB hm
  refine (callsIn_wide (n := 3)).1 (callsIn_of_wp_marks Try.func40 rfl trivial (wpIn_wide.2 ?_) rfl)
  simp only [Try.ntmps40, List.size_toArray, List.length_cons, List.length_nil, Nat.reduceAdd, Nat.reduceSub, Array.replicate_succ, Array.replicate_zero, List.push_toArray, List.append_toArray, List.nil_append, List.cons_append]
  have HS0 := Lib.hid (Blk.new w 40 #[.int .i64 sf, .int .i64 st])
  have HA0 : Hid (Below w.heap.size w (w.alloc (.cells #[.int .i64 sf, .int .i64 st] 40))) := (Below.refl _ _).alloc (Nat.le_refl _) _
  go_wp2_with (first
    | (go_at_call 52; refine (HM.out _).mono ?_; rintro e w1 ⟨rfl, hb⟩; have HG := Lib.hid (HA0.out.trans (hb.mono HA0.out.size)); have HS1 := Lib.hid (HS0.out.later hb); clear hb)
    | (go_at_call 54; refine (spans_any _ _ _ _).mono ?_; rintro e w2 ⟨rfl, rfl⟩))
  have hlt : w.heap.size < w1.heap.size := HS1.out.lt
  have hs0 := ((HS1.out.alloc (.cells #[.slice none 0 0] 41)).alloc (.cells #[.slice none 0 0] 41)).alloc (.cells #[.slice a len cap] 41)
  have ho0 := ((Blk.new w1 41 #[.slice none 0 0]).alloc (.cells #[.slice none 0 0] 41)).alloc (.cells #[.slice a len cap] 41)
  have ho1 := (Blk.new (w1.alloc (.cells #[.slice none 0 0] 41)) 41 #[.slice none 0 0]).alloc (.cells #[.slice a len cap] 41)
  have hb0 := Blk.new ((w1.alloc (.cells #[.slice none 0 0] 41)).alloc (.cells #[.slice none 0 0] 41)) 41 #[.slice a len cap]
  simp only [World.size_alloc] at hb0 ho1
  have hB1 : Below w.heap.size w (((w1.alloc (.cells #[.slice none 0 0] 41)).alloc (.cells #[.slice none 0 0] 41)).alloc (.cells #[.slice a len cap] 41)) := ((HG.out.alloc HG.out.size _).alloc (by rw [World.size_alloc]; have := HG.out.size; omega) _).alloc (by simp only [World.size_alloc]; have := HG.out.size; omega) _
  have hsz : (((w1.alloc (.cells #[.slice none 0 0] 41)).alloc (.cells #[.slice none 0 0] 41)).alloc (.cells #[.slice a len cap] 41)).heap.size = w1.heap.size + 3 := by simp
  obtain ⟨W0, hW0⟩ : ∃ W0, ((w1.alloc (.cells #[.slice none 0 0] 41)).alloc (.cells #[.slice none 0 0] 41)).alloc (.cells #[.slice a len cap] 41) = W0 := ⟨_, rfl⟩
  rw [hW0] at hs0 ho0 ho1 hb0 hB1 hsz ⊢
  clear hW0
  refine range_spans (w1.heap.size + 1 + 1) w.heap.size a len cap l rfl hlen (hb0.cell 0) (HB.out.later hB1) (by omega) (fun h b off e => HB.out.low h b off e)
    (fun pre W => (Two w1.heap.size w1.heap.size (w1.heap.size + 1) (foldA (sf, st) pre).1 (foldA (sf, st) pre).2.2 W ∧ Blk W w.heap.size 40 #[.int .i64 (foldA (sf, st) pre).2.1.1, .int .i64 (foldA (sf, st) pre).2.1.2]) ∧ Below w.heap.size w W) (fun _ _ _ => False)
    (OwnFrom.and (OwnFrom.and (Own.from (Two.own _ _ _ _ _) _) (Own.from (Blk.own _ _ _) _)) (ownFrom_below (Nat.le_refl _) (by omega))) (fun _ _ _ _ _ hs _ _ => hs) ⟨⟨⟨none, 0, 0, none, 0, 0, ⟨ho0, OwnG.none _ _ _ _ _⟩, ⟨ho1, OwnG.none _ _ _ _ _⟩, fun k e => by cases e⟩, hs0⟩, hB1⟩
    (fun f t Bx => #[.slice a len cap, .agg #[.int .i64 sf, .int .i64 st], undef, .pointer (some ⟨w.heap.size, 0, none⟩), .slice none 0 0, .pointer (some ⟨w1.heap.size, 0, none⟩), .pointer (some ⟨w1.heap.size + 1, 0, none⟩), .pointer (some ⟨Bx, 0, none⟩),
      .agg #[.int .i64 sf, .int .i64 st], .bool true, .bool false, undef, undef, undef, .slice a len cap,
      .func (.func 59) #[] #[.pointer (some ⟨w1.heap.size + 1 + 1, 0, none⟩)], .agg #[.int .i64 f, .int .i64 t], undef, undef, undef, undef, undef, undef, undef, undef, undef, undef, undef, undef, undef, undef, undef, undef, undef, undef, undef, undef, undef, undef, undef, undef, undef, undef, undef, undef, undef, undef, undef, undef, undef, undef, undef, undef, undef])
    (fun _ _ => True) (fun _ => ownFrom_pure _ _) (fun _ _ _ _ _ => trivial) ?assign ?body ?done ?stop
  case assign =>
    intro F l f t W K hF hro hK
    gi_wp2
    exact hK
  case body =>
    rintro F lp pre f t Bx W hF hro hBx hx _ ⟨⟨htwo, hss⟩, hG⟩ hpl h0 h1 h2 hv
    have hfl := foldA_len (sf, st) pre
    have HSN := Lib.hid (foldA_snoc (sf, st) pre (f, t))
    obtain ⟨⟨A, ⟨s1, s2⟩, Z⟩, HF⟩ := named (foldA (sf, st) pre)
    rw [HF.out] at htwo hss hfl HSN
    obtain ⟨a1, n1, c1, a2, n2, c2, ⟨hb1, hr1⟩, ⟨hb2, hr2⟩, hd⟩ := htwo
    have hl1 : A.length = n1 := hr1.2.1
    have hl2 : Z.length = n2 := hr2.2.1
    replace hfl : A.length + Z.length ≤ pre.length := hfl
    have hn1 : n1 ≤ 100000 := by omega
    have hn2 : n2 ≤ 100000 := by omega
    clear hl1 hl2 hfl
    have hWs : w1.heap.size ≤ W.heap.size := Nat.le_of_lt hb1.lt
    have HB1 := Lib.hid hb1
    have HB2 := Lib.hid hb2
    have HR1 := Lib.hid hr1
    have HR2 := Lib.hid hr2
    have HD := Lib.hid hd
    have HSS := Lib.hid hss
    have HGG := Lib.hid hG
    have x1 := hx.cell 0
    have x2 := hx.cell 1
    have y1 := hb1.cell 0
    have y2 := hb2.cell 0
    have z1 := hss.cell 0
    have z2 := hss.cell 1
    have z3 := hss.free 0
    have z4 := hss.free 1
    clear hb1 hb2 hr1 hr2 hd hss hG hx
    by_cases c1 : t < s1
    · have e : stepA (A, (s1, s2), Z) (f, t) = (A ++ [(f, t)], (s1, s2), Z) := by
        unfold stepA
        rw [if_pos (by exact c1)]
      rw [e] at HSN
      clear e
      gi_wp2_with (gi_at_builtin; refine appendIn_lg sp_rowed rfl (.tmp 34) (.tmp 36) rfl w1.heap.size _ n1 A rfl (HR1.out.alloc _) (some ⟨W.heap.size, 0, none⟩) 1 1 [(f, t)] rfl (fun e => by cases e) (one_reads W (f, t) _ _ rfl) (by omega) (by rw [World.size_alloc]; omega) ?_; intro a3 c3 w3 hO3 hg3 hat3; obtain ⟨v1, v2, HP⟩ := Two.put HB1.out HR1.out HB2.out HR2.out HD.out (by omega) hWs (Nat.le_refl _) hO3 hg3 hat3; clear hO3 hg3 hat3)
      refine ⟨HP.out.2.1.from _, HP.out.2.2.1.mono (by omega), ⟨?_, ?_⟩, HGG.out.trans (HP.out.2.2.1.mono (by omega))⟩
      · rw [HSN.out]
        exact HP.out.1
      · rw [HSN.out]
        exact HP.out.2.2.2 _ _ _ (by omega) (HR1.out.low _ (Or.inl (by omega))) HSS.out
    · by_cases c2' : s2 < f
      · have e : stepA (A, (s1, s2), Z) (f, t) = (A, (s1, s2), Z ++ [(f, t)]) := by
          unfold stepA
          rw [if_neg (by exact c1), if_pos (by exact c2')]
        rw [e] at HSN
        clear e
        gi_wp2_with (gi_at_builtin; refine appendIn_lg sp_rowed rfl (.tmp 44) (.tmp 46) rfl w1.heap.size _ n2 Z rfl (HR2.out.alloc _) (some ⟨W.heap.size, 0, none⟩) 1 1 [(f, t)] rfl (fun e => by cases e) (one_reads W (f, t) _ _ rfl) (by omega) (by rw [World.size_alloc]; omega) ?_; intro a3 c3 w3 hO3 hg3 hat3; obtain ⟨v1, v2, HP⟩ := Two.put HB2.out HR2.out HB1.out HR1.out (fun k e e' => HD.out k e' e) (by omega) hWs (by omega) hO3 hg3 hat3; clear hO3 hg3 hat3)
        refine ⟨HP.out.2.1.from _, HP.out.2.2.1.mono (by omega), ⟨?_, ?_⟩, HGG.out.trans (HP.out.2.2.1.mono (by omega))⟩
        · rw [HSN.out]
          exact HP.out.1.swap
        · rw [HSN.out]
          exact HP.out.2.2.2 _ _ _ (by omega) (HR2.out.low _ (Or.inl (by omega))) HSS.out
      · have e : stepA (A, (s1, s2), Z) (f, t) = (A, (min s1 f, max s2 t), Z) := by
          unfold stepA
          rw [if_neg (by exact c1), if_neg (by exact c2')]
        rw [e] at HSN
        clear e
        gi_wp2
        refine ⟨((KeepsOthers.setCell _ _ _).trans (KeepsOthers.setCell _ _ _)).from _, ((Below.refl _ _).setCell (p := ⟨w.heap.size, 0, none⟩) (Nat.le_refl _) _).setCell (p := ⟨w.heap.size, 1, none⟩) (Nat.le_refl _) _, ⟨?_, ?_⟩, (HGG.out.setCell (p := ⟨w.heap.size, 0, none⟩) (Nat.le_refl _) _).setCell (p := ⟨w.heap.size, 1, none⟩) (Nat.le_refl _) _⟩
        · rw [HSN.out]
          have ht : Two w1.heap.size w1.heap.size (w1.heap.size + 1) A Z W := ⟨_, _, _, _, _, _, ⟨HB1.out, HR1.out⟩, ⟨HB2.out, HR2.out⟩, HD.out⟩
          exact (ht.setFar (by omega) (by omega) (by omega) _).setFar (by omega) (by omega) (by omega) _
        · rw [HSN.out]
          exact (HSS.out.set 0 _).set 1 _
  case done =>
    rintro D W hD ⟨⟨htwo, hss⟩, hG⟩ hK
    have hfl := foldA_len (sf, st) (norm l)
    have HI := Lib.hid (foldA_ins l (sf, st) HLT.out)
    obtain ⟨⟨A, ⟨s1, s2⟩, Z⟩, HF⟩ := named (foldA (sf, st) (norm l))
    rw [HF.out] at htwo hss hfl HI
    obtain ⟨a1, n1, c1, a2, n2, c2, ⟨hb1, hr1⟩, ⟨hb2, hr2⟩, hd⟩ := htwo
    have hl1 : A.length = n1 := hr1.2.1
    have hl2 : Z.length = n2 := hr2.2.1
    replace hfl : A.length + Z.length ≤ (norm l).length := hfl
    have hn1 : n1 + n2 ≤ 100000 := by omega
    have hWs : w1.heap.size ≤ W.heap.size := Nat.le_of_lt hb1.lt
    have hbx : Boxes w1.heap.size (w1.heap.size + 1) w.heap.size (.slice a1 n1 c1) (.slice a2 n2 c2) s1 s2 W := ⟨⟨hb1, hb2⟩, hss⟩
    have HR1 := Lib.hid hr1
    have HR2 := Lib.hid hr2
    have HD := Lib.hid hd
    have HK := Lib.hid hK
    have HGG := Lib.hid hG
    have y1 := hb1.cell 0
    have y2 := hb2.cell 0
    have z1 := hss.cell 0
    have z2 := hss.cell 1
    clear hb1 hb2 hr1 hr2 hd hss hG hK hl1 hl2 hfl
    go_wp2
    refine Code.wp_mono (Q := fun e2 a2 w2 => (∀ c, e2 ≠ .panic c) ∧ Exit.then _ (bodyPostM Fence.wide 3 Try.prog Try.f40 (SpPost w (ins (norm l) (sf, st)))) e2 a2 w2) (fun _ _ _ h => h.2) ?_
    refine wp_region_held_drew (S := fun w' => w'.cell? ⟨w1.heap.size, 0, none⟩ = some (.slice a1 n1 c1) ∧ w'.cell? ⟨w1.heap.size + 1, 0, none⟩ = some (.slice a2 n2 c2) ∧ w'.cell? ⟨w.heap.size, 0, none⟩ = some (.int .i64 s1) ∧ w'.cell? ⟨w.heap.size, 1, none⟩ = some (.int .i64 s2)) (by kernel_rfl) (by first | exact Boxes.cells (by assumption) | exact Boxes.cells (Boxes.drew (by assumption)) | exact Boxes.cells (Boxes.alloc (by assumption) _) | exact Boxes.cells (Boxes.alloc (Boxes.drew (by assumption)) _) | exact Boxes.cells (Boxes.drew (Boxes.alloc (by assumption) _))) (fun hHeld => ?_)
    refine wpAnyH_take (i := 0) (oi := _) (v := ?vr0) rfl (by kernel_rfl) (by kernel_rfl) (by kernel_rfl) (fun c _ _ h => absurd rfl (h.1 c)) (Or.inl ⟨by rfl, ?hyr0⟩) (by assumption) ?restr0
    case hyr0 => (intro wz hSw; (try dsimp only at hSw); go_simp; try with_reducible rfl)
    (try simp only [List.getElem_toArray, List.getElem_cons_zero, Act.put, List.setIfInBounds_toArray, List.set_cons_zero, List.set_cons_succ])
    refine wpAnyH_take (i := 1) (oi := _) (v := ?vr1) rfl (by kernel_rfl) (by kernel_rfl) (by kernel_rfl) (fun c _ _ h => absurd rfl (h.1 c)) (Or.inl ⟨by rfl, ?hyr1⟩) (by assumption) ?restr1
    case hyr1 => (intro wz hSw; (try dsimp only at hSw); go_simp; try with_reducible rfl)
    (try simp only [List.getElem_toArray, List.getElem_cons_zero, List.getElem_cons_succ, Act.put, List.setIfInBounds_toArray, List.set_cons_zero, List.set_cons_succ])
    refine wpAnyH_take (i := 4) (oi := _) (v := ?vr4) rfl (by kernel_rfl) (by kernel_rfl) (by kernel_rfl) (fun c _ _ h => absurd rfl (h.1 c)) (Or.inl ⟨by rfl, ?hyr4⟩) (by assumption) ?restr4
    case hyr4 => (intro wz hSw; (try dsimp only at hSw); go_simp; try with_reducible rfl)
    (try simp only [List.getElem_toArray, List.getElem_cons_zero, List.getElem_cons_succ, Act.put, List.setIfInBounds_toArray, List.set_cons_zero, List.set_cons_succ])
    refine wpAnyH_ready (rs := [2]) (by kernel_rfl) (by simp) ?_
    refine AllReadyH.cons (o := _) rfl (fun K hK => ?_) AllReadyH.nil
    rw [if_pos (by rfl)]
    go_simp
    obtain ⟨w4, hw4⟩ : ∃ w4, (W.alloc (.cells #[.int .i64 s1, .int .i64 s2] 40)).drew = w4 := ⟨_, rfl⟩
    have hbx4 : Boxes w1.heap.size (w1.heap.size + 1) w.heap.size (.slice a1 n1 c1) (.slice a2 n2 c2) s1 s2 w4 := by rw [← hw4]; exact hbx.alloc _
    have HR14 : Hid (OwnSp w4 w1.heap.size (.slice a1 n1 c1) n1 A) := by rw [← hw4]; exact (HR1.out.alloc _).drew
    have HR24 : Hid (OwnSp w4 w1.heap.size (.slice a2 n2 c2) n2 Z) := by rw [← hw4]; exact (HR2.out.alloc _).drew
    have HL4 : Hid (Spans w4 (some ⟨W.heap.size, 0, none⟩) 1 [(s1, s2)]) := by rw [← hw4]; exact (one_reads W (s1, s2) _ _ rfl).drew
    have HG4 : Hid (Below w.heap.size w w4) := by rw [← hw4]; exact (HGG.out.alloc HGG.out.size _).drew
    have hs4 : w1.heap.size ≤ w4.heap.size := by rw [← hw4]; show w1.heap.size ≤ (W.alloc _).heap.size; rw [World.size_alloc]; omega
    have HK4 : Hid (w4.heap[D]? = some (.deferred (some []))) := by rw [← hw4]; exact (Below.heap_alloc _ _ _ (Array.getElem?_eq_some_iff.1 HK.out).1).trans HK.out
    rw [hw4]
    clear hw4
    refine hK.out _ _ (by exact Boxes.cells (by assumption)) (fun hHeld => ?_)
    clear hK K
    (try simp only [List.getElem_toArray, List.getElem_cons_zero, List.getElem_cons_succ, Act.put, List.setIfInBounds_toArray, List.set_cons_zero, List.set_cons_succ])
    refine wpAnyH_ready (rs := [3]) (by kernel_rfl) (by simp) ?_
    refine AllReadyH.cons (o := _) rfl (fun K hK => ?_) AllReadyH.nil
    rw [if_pos (by rfl)]
    refine wp_append_lg sp_rowed (.tmp 48) (.tmp 50) rfl w1.heap.size _ n1 A rfl HR14.out (some ⟨W.heap.size, 0, none⟩) 1 1 [(s1, s2)] rfl (fun e => by cases e) HL4.out (by omega) hs4 ?_
    intro a5 c5 w5 hO5 hg5 _
    have hbx5 := hbx4.grown HR14.out hlt hg5
    have HR5 := Lib.hid hO5
    have HR25 := Lib.hid (HR24.out.kept' hg5 (fun k e e' => HD.out k e' e))
    have HG5 := Lib.hid (HG4.out.grown hg5 (by omega) (fun k e => by have := (HR14.out.1.lt k e).1; omega))
    have HK5 : Hid (w5.heap[D]? = some (.deferred (some []))) := (hg5.block D (Array.getElem?_eq_some_iff.1 HK4.out).1 (fun e => by have := HR14.out.cells D _ e.symm HK4.out; cases this)).trans HK4.out
    have hs5 : w1.heap.size ≤ w5.heap.size := Nat.le_trans hs4 hg5.size
    clear hO5 hg5
    refine hK.out _ _ (by exact Boxes.cells (by assumption)) (fun hHeld => ?_)
    clear hK K
    (try simp only [List.getElem_toArray, List.getElem_cons_zero, List.getElem_cons_succ, Act.put, List.setIfInBounds_toArray, List.set_cons_zero, List.set_cons_succ])
    refine wpAnyH_ready (rs := [5]) (by kernel_rfl) (by simp) ?_
    refine AllReadyH.cons (o := _) rfl (fun K hK => ?_) AllReadyH.nil
    rw [if_pos (by rfl)]
    refine wp_append_lg sp_rowed (.tmp 51) (.tmp 52) rfl w1.heap.size _ (n1 + 1) (A ++ [(s1, s2)]) rfl HR5.out a2 n2 c2 Z rfl (HR25.out.reads sp_rowed).2.1 (HR25.out.reads sp_rowed).1 (by omega) hs5 ?_
    intro a6 c6 w6 hO6 hg6 _
    have hbx6 := hbx5.grown HR5.out hlt hg6
    have HR6 := Lib.hid hO6
    have HG6 := Lib.hid (HG5.out.grown hg6 (by omega) (fun k e => by have := (HR5.out.1.lt k e).1; omega))
    have HK6 : Hid (w6.heap[D]? = some (.deferred (some []))) := (hg6.block D (Array.getElem?_eq_some_iff.1 HK5.out).1 (fun e => by have := HR5.out.cells D _ e.symm HK5.out; cases this)).trans HK5.out
    clear hO6 hg6
    refine hK.out _ _ (by exact Boxes.cells (by assumption)) (fun hHeld => ?_)
    clear hK K
    (try simp only [List.getElem_toArray, List.getElem_cons_zero, List.getElem_cons_succ, Act.put, List.setIfInBounds_toArray, List.set_cons_zero, List.set_cons_succ])
    refine wpAnyH_ready (rs := [6]) (by kernel_rfl) (by simp) ?_
    refine AllReadyH.cons (o := _) rfl (fun K hK => ?_) AllReadyH.nil
    rw [if_pos (by rfl)]
    go_simp
    refine hK.out _ _ (by exact Boxes.cells (by assumption)) (fun hHeld => ?_)
    clear hK K
    (try simp only [List.getElem_toArray, List.getElem_cons_zero, List.getElem_cons_succ, Act.put, List.setIfInBounds_toArray, List.set_cons_zero, List.set_cons_succ])
    refine wpAnyH_done (by kernel_rfl) ?_ _
    refine ⟨fun c e => (by cases e), ?_⟩
    go_wp2
    refine ⟨by simp, .inl ⟨_, _, rfl, run_takeDeferred HK6.out, ?_⟩⟩
    refine ⟨_, results_tmp rfl _ _ _, ?_⟩
    have hp := SpPost.own (w0 := w) (w := w6.putObj D (.deferred none)) (base := w1.heap.size) ⟨ownsRow_putObj HR6.out.1 _ HK6.out rfl, HR6.out.2⟩ (HG6.out.trans (belowK_b (w := w) (Nat.le_refl _) w6 D _ _ (by omega) HK6.out rfl rfl))
    rw [HI.out] at hp
    exact hp
  case stop =>
    rintro D c pre W _ _ h _
    exact h.elim

theorem spanAdd_any (a : Option Addr) (len cap : Nat) (l : List Sp) (sf st : Int) (w : World) (hB : Spans w a len l) (hcap : len ≤ cap) (hnil : a = none → cap = 0) (hlen : len ≤ 100000) (hf : SpFit l) (h1 : I64 sf) (h2 : I64 st) :
    Calls Try.prog 40 #[.slice a len cap, .agg #[.int .i64 sf, .int .i64 st]] w (SpPost w (addL l (sf, st))) := by
  unfold addL
  cases hm : mayB (sf, st) with
  | true => exact spanAdd_yes a len cap l sf st w hB hlen hm
  | false => exact spanAdd_no a len cap l sf st w hB hlen hm
end Go.Proofs.Ytipljkegmhclkaa
