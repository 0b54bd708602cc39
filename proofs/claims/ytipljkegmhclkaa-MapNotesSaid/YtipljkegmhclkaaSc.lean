/-
  What slices.Clone and the project's copies.Table answer (package copies). Conditions: what came in reads.
-/
import Derived.Test.YtipljkegmhclkaaSa
import Derived.Lib.SliceRun
import Derived.Deep.RegionHeld3
namespace Go.Proofs.Ytipljkegmhclkaa
open Go.RowKit
set_option linter.unusedVariables false

set_option maxHeartbeats 1600000 in
theorem cloneE9 (w : World) (d : LfD) (h : LfR w d) (hlen : d.2.1 ≤ 1000000) : Calls Try.prog 56 #[.slice d.1 d.2.1 d.2.2.1] w fun e w' => ∃ d' : LfD, e = .returned (.slice d'.1 d'.2.1 d'.2.2.1) ∧ d'.2.2.2 = d.2.2.2 ∧ LfO w' w.heap.size d' ∧ Below w.heap.size w w' := by
  have q0 : ∀ (w : World) (a : Option Addr) (n c n' c' : Nat), (binOp .eql 69 (.slice a n c) (.slice none n' c')).run Try.prog w = .ok (.bool a.isNone) w := fun w a n c n' c' => Lib.run_eql_slice_nil w _ _ a n c n' c' Try.underlying69
  obtain ⟨a, len, cap, xs⟩ := d
  obtain ⟨h1, h2, h3, h4⟩ := h
  dsimp only at h1 h2 h3 h4 hlen ⊢
  cases a with
  | none =>
    obtain rfl := h3 rfl
    obtain rfl : len = 0 := by omega
    obtain rfl : xs = [] := List.eq_nil_of_length_eq_zero h1.1
    go_enter Try.func56, Try.ntmps56
    go_wp2
    go_ret
    first | exact ⟨(none, 0, 0, []), rfl, rfl, LfO.none _ _, Below.refl _ _⟩ | exact ⟨none, 0, 0, [], rfl, rfl, LfO.none _ _, Below.refl _ _⟩ | exact ⟨none, 0, 0, rfl, LfO.none _ _, Below.refl _ _⟩
  | some x =>
    have HX := Lib.hid h1
    have H4 := Lib.hid h4
    obtain ⟨xb, xo, xs'⟩ := x
    clear h1 h4
    go_enter Try.func56, Try.ntmps56
    go_wp2_with (at_builtin; refine append_g_copy en_rowed rfl _ _ rfl w.heap.size rfl _ len cap xs rfl (fun e => by cases e) HX.out (by omega) (Nat.le_refl _) ?_; intro a1 c1 w1 hO hg; have HO := Lib.hid hO; have HG := Lib.hid hg; clear hO hg)
    go_ret
    exact ⟨(a1, len, c1, xs), rfl, rfl, ⟨HO.out, H4.out⟩, HG.out⟩
set_option maxHeartbeats 1600000 in
theorem cloneL9 (w : World) (a : Option Addr) (len cap : Nat) (ds : List LfD) (h1 : Reads cvD w a len ds) (h2 : len ≤ cap) (h3 : a = none → cap = 0) (hlen : len ≤ 1000000) : Calls Try.prog 55 #[.slice a len cap] w fun e w' => ∃ a' c', e = .returned (.slice a' len c') ∧ OwnG cvD 69 1 w' w.heap.size (.slice a' len c') len ds ∧ Below w.heap.size w w' := by
  have q0 : ∀ (w : World) (a : Option Addr) (n c n' c' : Nat), (binOp .eql 22 (.slice a n c) (.slice none n' c')).run Try.prog w = .ok (.bool a.isNone) w := fun w a n c n' c' => Lib.run_eql_slice_nil w _ _ a n c n' c' Try.underlying22
  cases a with
  | none =>
    obtain rfl := h3 rfl
    obtain rfl : len = 0 := by omega
    obtain rfl : ds = [] := List.eq_nil_of_length_eq_zero h1.1
    go_enter Try.func55, Try.ntmps55
    go_wp2
    go_ret
    exact ⟨none, 0, rfl, OwnG.none _ _ _ _ _, Below.refl _ _⟩
  | some x =>
    have HX := Lib.hid h1
    obtain ⟨xb, xo, xs'⟩ := x
    clear h1
    go_enter Try.func55, Try.ntmps55
    go_wp2_with (at_builtin; refine append_g_copy lf_rowed rfl _ _ rfl w.heap.size rfl _ len cap ds rfl (fun e => by cases e) HX.out (by omega) (Nat.le_refl _) ?_; intro a1 c1 w1 hO hg; have HO := Lib.hid hO; have HG := Lib.hid hg; clear hO hg)
    go_ret
    exact ⟨a1, c1, rfl, HO.out, HG.out⟩
set_option maxHeartbeats 1600000 in
theorem cloneSh (w : World) (a : Option Addr) (len cap : Nat) (ds : List Sh) (h1 : Reads shV w a len ds) (hc : Caps a len cap) (hlen : len ≤ 1000000) : Calls Try.prog 47 #[.slice a len cap] w fun e w' => ∃ a' c', e = .returned (.slice a' len c') ∧ OwnG shV 62 3 w' w.heap.size (.slice a' len c') len ds ∧ Below w.heap.size w w' := by
  have q0 : ∀ (w : World) (a : Option Addr) (n c n' c' : Nat), (binOp .eql 25 (.slice a n c) (.slice none n' c')).run Try.prog w = .ok (.bool a.isNone) w := fun w a n c n' c' => Lib.run_eql_slice_nil w _ _ a n c n' c' Try.underlying25
  obtain ⟨h3, h2⟩ := hc
  cases a with
  | none =>
    obtain rfl := h3 rfl
    obtain rfl : len = 0 := by omega
    obtain rfl : ds = [] := List.eq_nil_of_length_eq_zero h1.1
    go_enter Try.func47, Try.ntmps47
    go_wp2
    go_ret
    exact ⟨none, 0, rfl, OwnG.none _ _ _ _ _, Below.refl _ _⟩
  | some x =>
    have HX := Lib.hid h1
    obtain ⟨xb, xo, xs'⟩ := x
    clear h1
    go_enter Try.func47, Try.ntmps47
    go_wp2_with (at_builtin; refine append_g_copy sh_rowed rfl _ _ rfl w.heap.size rfl _ len cap ds rfl (fun e => by cases e) HX.out (by omega) (Nat.le_refl _) ?_; intro a1 c1 w1 hO hg; have HO := Lib.hid hO; have HG := Lib.hid hg; clear hO hg)
    go_ret
    exact ⟨a1, c1, rfl, HO.out, HG.out⟩
set_option maxHeartbeats 1600000 in
theorem cloneBm (w : World) (a : Option Addr) (len cap : Nat) (ds : List Bm) (h1 : Reads bmV w a len ds) (hc : Caps a len cap) (hlen : len ≤ 1000000) : Calls Try.prog 50 #[.slice a len cap] w fun e w' => ∃ a' c', e = .returned (.slice a' len c') ∧ OwnG bmV 43 3 w' w.heap.size (.slice a' len c') len ds ∧ Below w.heap.size w w' := by
  have q0 : ∀ (w : World) (a : Option Addr) (n c n' c' : Nat), (binOp .eql 26 (.slice a n c) (.slice none n' c')).run Try.prog w = .ok (.bool a.isNone) w := fun w a n c n' c' => Lib.run_eql_slice_nil w _ _ a n c n' c' Try.underlying26
  obtain ⟨h3, h2⟩ := hc
  cases a with
  | none =>
    obtain rfl := h3 rfl
    obtain rfl : len = 0 := by omega
    obtain rfl : ds = [] := List.eq_nil_of_length_eq_zero h1.1
    go_enter Try.func50, Try.ntmps50
    go_wp2
    go_ret
    exact ⟨none, 0, rfl, OwnG.none _ _ _ _ _, Below.refl _ _⟩
  | some x =>
    have HX := Lib.hid h1
    obtain ⟨xb, xo, xs'⟩ := x
    clear h1
    go_enter Try.func50, Try.ntmps50
    go_wp2_with (at_builtin; refine append_g_copy bm_rowed rfl _ _ rfl w.heap.size rfl _ len cap ds rfl (fun e => by cases e) HX.out (by omega) (Nat.le_refl _) ?_; intro a1 c1 w1 hO hg; have HO := Lib.hid hO; have HG := Lib.hid hg; clear hO hg)
    go_ret
    exact ⟨a1, c1, rfl, HO.out, HG.out⟩
set_option maxHeartbeats 1600000 in
theorem cloneSp (w : World) (a : Option Addr) (len cap : Nat) (ds : List Sp) (h1 : Reads spCells w a len ds) (hc : Caps a len cap) (hlen : len ≤ 1000000) : Calls Try.prog 51 #[.slice a len cap] w fun e w' => ∃ a' c', e = .returned (.slice a' len c') ∧ OwnG spCells 40 2 w' w.heap.size (.slice a' len c') len ds ∧ Below w.heap.size w w' := by
  have q0 : ∀ (w : World) (a : Option Addr) (n c n' c' : Nat), (binOp .eql 41 (.slice a n c) (.slice none n' c')).run Try.prog w = .ok (.bool a.isNone) w := fun w a n c n' c' => Lib.run_eql_slice_nil w _ _ a n c n' c' Try.underlying41
  obtain ⟨h3, h2⟩ := hc
  cases a with
  | none =>
    obtain rfl := h3 rfl
    obtain rfl : len = 0 := by omega
    obtain rfl : ds = [] := List.eq_nil_of_length_eq_zero h1.1
    go_enter Try.func51, Try.ntmps51
    go_wp2
    go_ret
    exact ⟨none, 0, rfl, OwnG.none _ _ _ _ _, Below.refl _ _⟩
  | some x =>
    have HX := Lib.hid h1
    obtain ⟨xb, xo, xs'⟩ := x
    clear h1
    go_enter Try.func51, Try.ntmps51
    go_wp2_with (at_builtin; refine append_g_copy sp_rowed rfl _ _ rfl w.heap.size rfl _ len cap ds rfl (fun e => by cases e) HX.out (by omega) (Nat.le_refl _) ?_; intro a1 c1 w1 hO hg; have HO := Lib.hid hO; have HG := Lib.hid hg; clear hO hg)
    go_ret
    exact ⟨a1, c1, rfl, HO.out, HG.out⟩
set_option maxHeartbeats 1600000 in
theorem cloneIv (w : World) (a : Option Addr) (len cap : Nat) (ds : List Int) (h1 : Reads ivV w a len ds) (hc : Caps a len cap) (hlen : len ≤ 1000000) : Calls Try.prog 48 #[.slice a len cap] w fun e w' => ∃ a' c', e = .returned (.slice a' len c') ∧ OwnG ivV 3 1 w' w.heap.size (.slice a' len c') len ds ∧ Below w.heap.size w w' := by
  have q0 : ∀ (w : World) (a : Option Addr) (n c n' c' : Nat), (binOp .eql 27 (.slice a n c) (.slice none n' c')).run Try.prog w = .ok (.bool a.isNone) w := fun w a n c n' c' => Lib.run_eql_slice_nil w _ _ a n c n' c' Try.underlying27
  obtain ⟨h3, h2⟩ := hc
  cases a with
  | none =>
    obtain rfl := h3 rfl
    obtain rfl : len = 0 := by omega
    obtain rfl : ds = [] := List.eq_nil_of_length_eq_zero h1.1
    go_enter Try.func48, Try.ntmps48
    go_wp2
    go_ret
    exact ⟨none, 0, rfl, OwnG.none _ _ _ _ _, Below.refl _ _⟩
  | some x =>
    have HX := Lib.hid h1
    obtain ⟨xb, xo, xs'⟩ := x
    clear h1
    go_enter Try.func48, Try.ntmps48
    go_wp2_with (at_builtin; refine append_g_copy iv_rowed rfl _ _ rfl w.heap.size rfl _ len cap ds rfl (fun e => by cases e) HX.out (by omega) (Nat.le_refl _) ?_; intro a1 c1 w1 hO hg; have HO := Lib.hid hO; have HG := Lib.hid hg; clear hO hg)
    go_ret
    exact ⟨a1, c1, rfl, HO.out, HG.out⟩
/-- A boxed table and a boxed result; all else below the base as it was. -/
def BoxB (X base : Nat) (s r : Value) (w0 W : World) : Prop := Blk W X 24 #[s] ∧ Blk W (X + 1) 24 #[r] ∧ Below base w0 W ∧ base ≤ X
section
variable {X base : Nat} {s r : Value} {w0 W W' : World}
theorem BoxB.first (w : World) (base : Nat) (hb : base ≤ w.heap.size) (s r : Value) : BoxB w.heap.size base s r w ((w.alloc (.cells #[s] 24)).alloc (.cells #[r] 24)) := ⟨(Blk.new w _ _).alloc _, blk_next9 _ _ _ _ _, ((Below.refl _ _).alloc hb _).alloc (by simp; omega) _, hb⟩
theorem BoxB.later (h : BoxB X base s r w0 W) (hb : Below W.heap.size W W') : BoxB X base s r w0 W' := ⟨h.1.later hb, h.2.1.later hb, h.2.2.1.trans (hb.mono (by have := h.1.lt; have := h.2.2.2; omega)), h.2.2.2⟩
theorem BoxB.alloc (h : BoxB X base s r w0 W) (o : Obj) : BoxB X base s r w0 (W.alloc o) := h.later ((Below.refl _ _).alloc (Nat.le_refl _) _)
theorem BoxB.row (h : BoxB X base s r w0 W) {g : Nat} (hg : base ≤ g) (h1 : g ≠ X) (h2 : g ≠ X + 1) (hr : W.grownBy W' (some g)) : BoxB X base s r w0 W' :=
  ⟨h.1.kept hr (fun e => by simp at e; omega), h.2.1.kept hr (fun e => by simp at e; omega), h.2.2.1.grown hr (by have := h.1.lt; have := h.2.2.2; omega) (fun k hk => by cases hk; exact hg), h.2.2.2⟩
theorem BoxB.res (h : BoxB X base s r w0 W) (v : Value) : BoxB X base s v w0 (W.setCell ⟨X + 1, 0, none⟩ v) :=
  ⟨h.1.other (by omega) _, h.2.1.set 0 v, h.2.2.1.setCell (by show base ≤ X + 1; have := h.2.2.2; omega) _, h.2.2.2⟩
theorem BoxB.below (h : BoxB X base s r w0 W) : Below base w0 W := h.2.2.1
end
theorem mid_set {α : Type} (es ds : List α) (j : Nat) (d' : α) (he : es.length = j) (hj : j < ds.length) : (es ++ ds.drop j).set j d' = (es ++ [d']) ++ ds.drop (j + 1) := by
  rw [List.set_append_right _ _ (by omega), he, Nat.sub_self, List.drop_eq_getElem_cons hj, List.set_cons_zero, List.append_assoc]
  rfl
set_option maxRecDepth 100000 in
set_option maxHeartbeats 3200000 in
theorem copy9 (w : World) (a : Option Addr) (len cap : Nat) (ds : List LfD) (h : TabR w a len ds) (hc : Caps a len cap) (hlen : len ≤ 6000) (hll : ∀ d ∈ ds, d.2.1 ≤ 1000000) :
    Calls Try.prog 46 #[.agg #[.slice a len cap]] w fun e w' => ∃ (a' : Option Addr) (c' : Nat) (es : List LfD), e = .returned (.agg #[.slice a' len c']) ∧ tbOf es = tbOf ds ∧ TabQ w' w.heap.size a' len c' es es ∧ Below w.heap.size w w' := by
  have HB0 := Lib.hid (BoxB.first w _ (Nat.le_refl _) (.slice a len cap) (.slice none 0 0))
  have HT := Lib.hid h
  have HLL := Lib.hid hll
  have hdl := h.len
  obtain ⟨X, hX⟩ := named w.heap.size
  have hXX := hX.out
  rw [hX.out] at HB0 ⊢
  have HCL : Hid (∀ W, Below X w W → _) := fun W hb => cloneL9 W a len cap ds (h.1.later (hX.out.symm ▸ hb)) hc.2 hc.1 (by omega)
  clear h hll hc
  go_enter Try.func46, Try.ntmps46
  go_wp2_with (go_at_call 55; refine (HCL.out _ HB0.out.below).mono ?_; rintro e w1 ⟨a1, c1, rfl, g1, g2⟩; have HB1 := Lib.hid (HB0.out.later g2); have HO := Lib.hid g1; have HG := Lib.hid g2; clear g1 g2 HCL)
  go_loopw [11] (fun i wr => ∃ (j : Nat) (es : List LfD), j ≤ len ∧ i = .int .i64 j ∧ es.length = j ∧ Hid (tbOf es = (tbOf ds).take j) ∧ Hid (BoxB X X (.slice a len cap) (.slice none 0 0) w wr) ∧ Hid (TabQ wr (X + 2) a1 len c1 (es ++ ds.drop j) es)) (fun i _ => len - (intOf i).toNat)
  case atStart =>
    refine ⟨0, [], Nat.zero_le _, rfl, rfl, rfl, HB1.out, ?_, by simp, fun i j d d' hi => by simp at hi⟩
    have := HO.out
    rw [World.size_alloc, World.size_alloc, hX.out] at this
    exact this
  case round =>
    obtain ⟨j, es, hj, rfl, hes, HE, HB, HQ⟩ := hrel
    by_cases hlt : j < len
    · obtain ⟨g, d, rfl, hg1, hg2, hd, hcell, hfz⟩ := HQ.out.at j hlt
      have hd2 : ds[j]? = some d := by
        rw [List.getElem?_append_right (by omega), hes, Nat.sub_self, List.getElem?_drop, Nat.add_zero] at hd
        exact hd
      have hL : LfR wr d := (HT.out.later (hX.out.symm ▸ HB.out.below)).2 d (List.mem_of_getElem? hd2)
      have HC := Lib.hid (cloneE9 wr d hL (HLL.out d (List.mem_of_getElem? hd2)))
      have HD2 := Lib.hid hd2
      obtain ⟨al, ll, cl, xs⟩ := d
      clear hd hd2 hL
      go_wp2_with (go_at_call 56; refine HC.out.mono ?_; rintro e w2 ⟨d', rfl, g1, g2, g3⟩; have hb2 := HB.out.later g3; have hq2 := HQ.out.later g3; have h5 := (hq2.addEs d' (g2.mono (by have := hb2.2.1.lt; have := HB.out.2.1.lt; omega)) (fun x hx b hb hb' => by have := HQ.out.lt x hx b hb; have := (g2.lt hb').1; omega)).setOut g j rfl d'; rw [mid_set es ds j d' hes (by rw [hdl]; exact hlt)] at h5; have HB2 := Lib.hid (hb2.row (by omega) (by omega) (by omega) h5.2); have HQ2 := Lib.hid h5.1; have HE2 : Hid (tbOf (es ++ [d']) = (tbOf ds).take (j + 1)) := Lib.hid (by rw [tb_take_succ HD2.out, ← HE.out, ← g1]; unfold tbOf; rw [List.map_append]; rfl); obtain ⟨x1, x2⟩ := cell_kept9 g3 hg2 hcell hfz; clear hb2 hq2 h5 g1 g2 g3 HC)
      go_roundw
      case rel => exact ⟨j + 1, es ++ [d'], by omega, by go_num, by rw [List.length_append, hes]; rfl, HE2, HB2, HQ2⟩
      case measure => simp [intOf]; omega
    · have hjl : j = len := by omega
      subst hjl
      have hq : TabQ (wr.setCell ⟨X + 1, 0, none⟩ (.slice a1 j c1)) (X + 2) a1 j c1 es es := by
        have := HQ.out.low (X := X + 1) (by omega) (grownBy_setCell4 wr (X + 1) 0 (.slice a1 j c1))
        rwa [List.drop_eq_nil_of_le (Nat.le_of_eq hdl), List.append_nil] at this
      have HQ2 := Lib.hid hq
      have HB2 := Lib.hid (HB.out.res (.slice a1 j c1))
      have r1 := one_cell9 HB.out.2.1
      have r2 := HB.out.2.1.free 0
      have HE2 : Hid (tbOf es = tbOf ds) := Lib.hid (by
        rw [HE.out, List.take_of_length_le]
        unfold tbOf
        rw [List.length_map]
        exact Nat.le_of_eq hdl)
      clear hq
      go_wp2
      refine bodyPost_ret (v := .agg #[.slice a1 j c1]) (results_cell_row rfl _ _ (X + 1) 24 #[.slice a1 j c1] (0, 0) _ rfl HB2.out.2.1 Try.underlying24 rfl tbl_size) rfl ⟨a1, c1, es, rfl, HE2.out, HQ2.out.mono (by omega), HB2.out.below⟩
theorem pcopyT {a : Option Addr} {len cap : Nat} {T : Tb} (w : World) (h : Tab w a len cap T) : Calls Try.prog 46 #[.agg #[.slice a len cap]] w fun e w' => ∃ (a' : Option Addr) (c' : Nat), e = .returned (.agg #[.slice a' len c']) ∧ TabN w' w.heap.size a' len c' T ∧ Below w.heap.size w w' := by
  have hl := h.lens
  obtain ⟨ds, h1, h2, rfl, h3, h4⟩ := h
  refine (copy9 w a len cap ds h1 h2 h3 h4).mono ?_
  rintro e w' ⟨a', c', es, rfl, g1, g2, g3⟩
  exact ⟨a', c', rfl, g2.tabN g1 h3 hl.2.2.1 (Nat.le_refl _), g3⟩
end Go.Proofs.Ytipljkegmhclkaa
