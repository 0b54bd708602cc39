/-
  What the project's own Has and Count answer (package span). Conditions: the slice reads as spans, no more than 100000 of them.
-/
import Derived.Test.YtdnkldcmefcmbaaC4
namespace Go.Proofs.Ytdnkldcmefcmbaa
open Go.RowKit Go.Shelf
attribute [local go_sem] Oper.semAt_some
set_option linter.unusedVariables false

theorem Reads.low {α : Type} {cv : α → List Value} {w : World} {a : Option Addr} {len : Nat} {l : List α} (h : Reads cv w a len l) (h0 : 0 < len) (b off : Nat) (ha : a = some ⟨b, off, none⟩) : b < w.heap.size := by
  obtain ⟨_, _, h3⟩ := h
  obtain ⟨b', off', e, hlt, _⟩ := h3.resolve_left (by omega)
  rw [ha] at e
  cases e
  exact hlt
theorem sumTo_pre (l : List Sp) (x : Sp) : ∀ j, j ≤ l.length → sumTo4 (l ++ [x]) j = sumTo4 l j
  | 0, _ => rfl
  | j + 1, h => by
    have e : spAt (l ++ [x]) j = spAt l j := by
      unfold spAt
      rw [List.getD_eq_getElem?_getD, List.getD_eq_getElem?_getD, List.getElem?_append_left (by omega)]
    show sumTo4 (l ++ [x]) j + (spAt (l ++ [x]) j).2 - (spAt (l ++ [x]) j).1 = sumTo4 l j + (spAt l j).2 - (spAt l j).1
    rw [sumTo_pre l x j (by omega), e]
theorem sumL_snoc (l : List Sp) (x : Sp) : sumL (l ++ [x]) = sumL l + x.2 - x.1 := by
  have e : spAt (l ++ [x]) l.length = x := by
    unfold spAt
    rw [List.getD_eq_getElem?_getD, List.getElem?_append_right (Nat.le_refl _)]
    simp
  unfold sumL
  rw [List.length_append]
  show sumTo4 (l ++ [x]) l.length + (spAt (l ++ [x]) l.length).2 - (spAt (l ++ [x]) l.length).1 = _
  rw [sumTo_pre l x _ (Nat.le_refl _), e]
theorem sum_vals {pre : List Sp} (h : ∀ x ∈ pre, 0 ≤ x.1 ∧ x.1 < x.2 ∧ x.2 ≤ 1073741824) : ∀ j, j ≤ pre.length → 0 ≤ sumTo4 pre j ∧ sumTo4 pre j ≤ 1073741824 * j
  | 0, _ => by simp [sumTo4]
  | j + 1, hj => by
    have ih := sum_vals h j (by omega)
    have hx := h _ (List.mem_of_getElem? (spAt_some pre j hj))
    show 0 ≤ sumTo4 pre j + (spAt pre j).2 - (spAt pre j).1 ∧ sumTo4 pre j + (spAt pre j).2 - (spAt pre j).1 ≤ 1073741824 * ((j + 1 : Nat) : Int)
    omega

set_option maxRecDepth 20000 in
set_option maxHeartbeats 1600000 in
theorem spanCount_any (a : Option Addr) (len cap : Nat) (l : List Sp) (w : World) (hB : Spans w a len l) (hcap : len ≤ cap) (hnil : a = none → cap = 0) (hlen : len ≤ 100000) (hf : SpFit l) :
    Calls Try.prog 21 #[.slice a len cap] w fun e w' => e = .returned (.int .i64 (sumL (norm l))) ∧ Below w.heap.size w w' := by
  have HB := Lib.hid hB
  clear hB hcap hnil hf
  refine (callsIn_wide (n := 3)).1 (callsIn_of_wp_marks Try.func21 rfl trivial (wpIn_wide.2 ?_) rfl)
  simp only [Try.ntmps21, List.size_toArray, List.length_cons, List.length_nil, Nat.reduceAdd, Nat.reduceSub, Array.replicate_succ, Array.replicate_zero, List.push_toArray, List.append_toArray, List.nil_append, List.cons_append]
  go_wp2_with (go_at_call 31; refine (spans_any _ _ _ _).mono ?_; rintro e w1 ⟨rfl, rfl⟩)
  have hB1 : Below w.heap.size w ((w.alloc (.cells #[.int .i64 0] 3)).alloc (.cells #[.slice a len cap] 22)) := ((Below.refl _ w).alloc (Nat.le_refl _) _).alloc (by simp) _
  have hc := (Blk.new w 3 #[.int .i64 0]).alloc (.cells #[.slice a len cap] 22)
  have hb := Blk.new (w.alloc (.cells #[.int .i64 0] 3)) 22 #[.slice a len cap]
  rw [World.size_alloc] at hb
  have hsz : ((w.alloc (.cells #[.int .i64 0] 3)).alloc (.cells #[.slice a len cap] 22)).heap.size = w.heap.size + 2 := by simp
  obtain ⟨W0, hW0⟩ : ∃ W0, (w.alloc (.cells #[.int .i64 0] 3)).alloc (.cells #[.slice a len cap] 22) = W0 := ⟨_, rfl⟩
  rw [hW0] at hB1 hc hb hsz ⊢
  clear hW0
  refine range_spans (w.heap.size + 1) w.heap.size a len cap l rfl hlen (hb.cell 0) (HB.out.later hB1) (by omega) (fun h b off e => HB.out.low h b off e)
    (fun pre W => Blk W w.heap.size 3 #[.int .i64 (sumL pre)] ∧ Below w.heap.size w W) (fun _ _ _ => False)
    (OwnFrom.and (Own.from (Blk.own _ _ _) _) (ownFrom_below (Nat.le_refl _) (by omega))) (fun _ _ _ _ _ hs _ _ => hs) ⟨hc, hB1⟩
    (fun f t Bx => #[.slice a len cap, undef, .int .i64 0, .pointer (some ⟨w.heap.size, 0, none⟩), .pointer (some ⟨Bx, 0, none⟩), .slice a len cap,
      .func (.func 37) #[] #[.pointer (some ⟨w.heap.size + 1, 0, none⟩)], .agg #[.int .i64 f, .int .i64 t], undef, undef, undef, undef, undef, undef, undef, undef]) (fun _ _ => True) (fun _ => ownFrom_pure _ _) (fun _ _ _ _ _ => trivial) ?assign ?body ?done ?stop
  case assign =>
    intro F l f t W K hF hro hK
    gi_wp2
    exact hK
  case body =>
    rintro F lp pre f t Bx W hF hro hBx hx _ ⟨hs, hG⟩ hpl h0 h1 h2 hv
    have hbd := sum_vals hv.out pre.length (Nat.le_refl _)
    have hsn := sumL_snoc pre (f, t)
    obtain ⟨S, HS⟩ := named (sumL pre)
    rw [show sumTo4 pre pre.length = S from HS.out] at hbd
    rw [HS.out] at hs hsn
    have HSN := Lib.hid hsn
    have e1 : IntKind.i64.wrap (S + (t - f)) = S + t - f := by rw [IntKind.wrap_i64] <;> omega
    have HX := Lib.hid hs
    have x1 := hx.cell 0
    have x2 := hx.cell 1
    have s1 := hs.cell 0
    have s2 := hs.free 0
    clear hsn hs
    gi_wp2
    refine ⟨(KeepsOthers.setCell _ _ _).from _, (Below.refl _ _).setCell (p := ⟨w.heap.size, 0, none⟩) (Nat.le_refl _) _, ?_, hG.setCell (p := ⟨w.heap.size, 0, none⟩) (Nat.le_refl _) _⟩
    rw [HSN.out]
    exact HX.out.set 0 _
  case done =>
    rintro D W hD ⟨hs, hG⟩ hK
    have s1 := hs.cell 0
    go_wp2
    refine ⟨by simp, .inl ⟨_, _, rfl, run_takeDeferred hK, ?_⟩⟩
    exact ⟨_, results_tmp rfl _ _ _, rfl, hG.trans (belowK_b (w := w) (Nat.le_refl _) W D _ _ (by omega) hK rfl rfl)⟩
  case stop =>
    rintro D c pre W _ _ h _
    exact h.elim

theorem results_cell_bool {fn : Func} {p : Tmp} (h : fn.results = #[.cell p 4]) (tmps : Array Value) (w : World) (g : Nat) (b : Bool) (hp : tmps.getD p undef = .pointer (some ⟨g, 0, none⟩)) (hg : Blk w g 4 #[.bool b]) :
    (results fn tmps).run Try.prog w = .ok (.bool b) w := by
  have hp' : tmps[p]?.getD undef = .pointer (some ⟨g, 0, none⟩) := by simpa using hp
  have hc := hg.cell 0
  simp [results, h, hp', asAddr, go_sem, Result.andThen]
  rw [hc]
  rfl

set_option maxRecDepth 20000 in
set_option maxHeartbeats 1600000 in
theorem spanHas_any (a : Option Addr) (len cap : Nat) (l : List Sp) (n : Int) (w : World) (hB : Spans w a len l) (hcap : len ≤ cap) (hnil : a = none → cap = 0) (hlen : len ≤ 100000) (hf : SpFit l) (hn : I64 n) :
    Calls Try.prog 19 #[.slice a len cap, .int .i64 n] w fun e w' => e = .returned (.bool (hasB (norm l) n)) ∧ Below w.heap.size w w' := by
  have HB := Lib.hid hB
  clear hB hcap hnil hf hn
  refine (callsIn_wide (n := 3)).1 (callsIn_of_wp_marks Try.func19 rfl trivial (wpIn_wide.2 ?_) rfl)
  simp only [Try.ntmps19, List.size_toArray, List.length_cons, List.length_nil, Nat.reduceAdd, Nat.reduceSub, Array.replicate_succ, Array.replicate_zero, List.push_toArray, List.append_toArray, List.nil_append, List.cons_append]
  go_wp2_with (go_at_call 31; refine (spans_any _ _ _ _).mono ?_; rintro e w1 ⟨rfl, rfl⟩)
  have hn0 := ((Blk.new w 3 #[.int .i64 n]).alloc (.cells #[.bool false] 4)).alloc (.cells #[.slice a len cap] 22)
  have hr0 := (Blk.new (w.alloc (.cells #[.int .i64 n] 3)) 4 #[.bool false]).alloc (.cells #[.slice a len cap] 22)
  have hb := Blk.new ((w.alloc (.cells #[.int .i64 n] 3)).alloc (.cells #[.bool false] 4)) 22 #[.slice a len cap]
  have hB1 : Below w.heap.size w (((w.alloc (.cells #[.int .i64 n] 3)).alloc (.cells #[.bool false] 4)).alloc (.cells #[.slice a len cap] 22)) := (((Below.refl _ w).alloc (Nat.le_refl _) _).alloc (by simp) _).alloc (by simp; omega) _
  have hsz : (((w.alloc (.cells #[.int .i64 n] 3)).alloc (.cells #[.bool false] 4)).alloc (.cells #[.slice a len cap] 22)).heap.size = w.heap.size + 3 := by simp
  simp only [World.size_alloc] at hr0 hb
  obtain ⟨W0, hW0⟩ : ∃ W0, (((w.alloc (.cells #[.int .i64 n] 3)).alloc (.cells #[.bool false] 4)).alloc (.cells #[.slice a len cap] 22)) = W0 := ⟨_, rfl⟩
  rw [hW0] at hB1 hn0 hr0 hb hsz ⊢
  clear hW0
  refine range_spans (w.heap.size + 1 + 1) w.heap.size a len cap l rfl hlen (hb.cell 0) (HB.out.later hB1) (by omega) (fun h b off e => HB.out.low h b off e)
    (fun pre W => ((Blk W w.heap.size 3 #[.int .i64 n] ∧ Blk W (w.heap.size + 1) 4 #[.bool false]) ∧ Below w.heap.size w W) ∧ hasB pre n = false)
    (fun c pre W => ((Blk W (w.heap.size + 1) 4 #[.bool true]) ∧ Below w.heap.size w W) ∧ hasB pre n = true ∧ c = .ret)
    (OwnFrom.and (OwnFrom.and (OwnFrom.and (Own.from (Blk.own _ _ _) _) (Own.from (Blk.own _ _ _) _)) (ownFrom_below (Nat.le_refl _) (by omega))) (ownFrom_pure _ _))
    (fun c => OwnFrom.and (OwnFrom.and (Own.from (Blk.own _ _ _) _) (ownFrom_below (Nat.le_refl _) (by omega))) (ownFrom_pure _ _)) ⟨⟨⟨hn0, hr0⟩, hB1⟩, rfl⟩
    (fun f t Bx => #[.slice a len cap, .int .i64 n, undef, .pointer (some ⟨w.heap.size, 0, none⟩), .pointer (some ⟨w.heap.size + 1, 0, none⟩), .pointer (some ⟨Bx, 0, none⟩), .slice a len cap,
      .func (.func 37) #[] #[.pointer (some ⟨w.heap.size + 1 + 1, 0, none⟩)], .agg #[.int .i64 f, .int .i64 t], undef, undef, undef, undef, undef, undef, undef, undef, undef, undef]) (fun _ _ => True) (fun _ => ownFrom_pure _ _) (fun _ _ _ _ _ => trivial) ?assign ?body ?done ?stop
  case assign =>
    intro F l f t W K hF hro hK
    gi_wp2
    exact hK
  case body =>
    rintro F lp pre f t Bx W hF hro hBx hx _ ⟨⟨⟨hn1, hr1⟩, hG⟩, hh⟩ hpl h0 h1 h2 hv
    have hsn : hasB (pre ++ [(f, t)]) n = (decide (f ≤ n) && decide (n < t)) := by
      unfold hasB at hh ⊢
      rw [List.any_append, hh]
      simp
    have HSN := Lib.hid hsn
    have HR := Lib.hid hr1
    have HN := Lib.hid hn1
    have x1 := hx.cell 0
    have x2 := hx.cell 1
    have n1 := hn1.cell 0
    have s1 := hr1.cell 0
    have s2 := hr1.free 0
    clear hsn hr1 hn1 hh
    by_cases c1 : f ≤ n
    · by_cases c2 : n < t
      · gi_wp2
        exact ⟨(KeepsOthers.setCell _ _ _).from _, ⟨HR.out.set 0 _, hG.setCell (p := ⟨w.heap.size + 1, 0, none⟩) (by simp) _⟩, by rw [HSN.out]; simp [c1, c2], rfl⟩
      · gi_wp2
        exact ⟨KeepsFrom.refl _ _, Below.refl _ _, ⟨⟨HN.out, HR.out⟩, hG⟩, by rw [HSN.out]; simp; omega⟩
    · gi_wp2
      exact ⟨KeepsFrom.refl _ _, Below.refl _ _, ⟨⟨HN.out, HR.out⟩, hG⟩, by rw [HSN.out]; simp; omega⟩
  case done =>
    rintro D W hD ⟨⟨⟨hn1, hr1⟩, hG⟩, hh⟩ hK
    have s1 := hr1.cell 0
    have s2 := hr1.free 0
    have HR := Lib.hid (hr1.set 0 (.bool false))
    have HK := Lib.hid ((KeepsOthers.setCell W ⟨w.heap.size + 1, 0, none⟩ (.bool false)).same _ _ hK rfl)
    have HG := Lib.hid (hG.setCell (p := ⟨w.heap.size + 1, 0, none⟩) (by simp) (.bool false))
    have HH := Lib.hid hh
    clear hr1 hK hG hh
    go_wp2
    refine ⟨by simp, .inl ⟨_, _, rfl, run_takeDeferred HK.out, ?_⟩⟩
    exact ⟨_, results_cell_bool rfl _ _ (w.heap.size + 1) false rfl (HR.out.putObj HK.out rfl), by rw [HH.out], HG.out.trans (belowK_b (w := w) (Nat.le_refl _) _ D _ _ (by omega) HK.out rfl rfl)⟩
  case stop =>
    rintro D c pre W hD hp ⟨⟨hr1, hG⟩, hh, rfl⟩ hK
    have hT : hasB (norm l) n = true := by
      obtain ⟨r, hr⟩ := hp
      rw [← hr]
      unfold hasB at hh ⊢
      rw [List.any_append, hh]
      rfl
    have HR := Lib.hid hr1
    have HK := Lib.hid hK
    have HG := Lib.hid hG
    have HH := Lib.hid hT
    clear hr1 hK hG hh hT hp
    go_wp2
    refine ⟨by simp, .inl ⟨_, _, rfl, run_takeDeferred HK.out, ?_⟩⟩
    exact ⟨_, results_cell_bool rfl _ _ (w.heap.size + 1) true rfl (HR.out.putObj HK.out rfl), by rw [HH.out], HG.out.trans (belowK_b (w := w) (Nat.le_refl _) _ D _ _ (by omega) HK.out rfl rfl)⟩
end Go.Proofs.Ytdnkldcmefcmbaa
