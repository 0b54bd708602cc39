/-
  What the project's own Cut answers (package table). Conditions: the table reads, no more than 6000 leaves; the place is an int.
-/
import Derived.Test.YtbdidgfbonkneaaDoorP9
namespace Go.Proofs.YtbdidgfbonkneaaDoor
open Go.RowKit
set_option linter.unusedVariables false

theorem clear_none9 {P : Program} {w : World} {t e ty : TypeId} {z : Value} (ht : P.underlying t = some (.slice e)) (hv : ∀ w, (zeroValue e).run P w = .ok z w) (a : Option Addr) (c : Nat) : (Builtin.clear_ #[t] ty #[.slice a 0 c]).run P w = .ok (.tuple #[]) w := by
  cases a <;> simp [Builtin.clear_, run_underlying ht]
theorem zeroV9 : ∀ w, (zeroValue 47).run Tryd.prog w = .ok (.agg (enV enZ).toArray) w := fun w => by kernel_rfl
/-- The entries of a leaf from K on become none. -/
theorem LfO.clear {w : World} {base : Nat} {d : LfD} (h : LfO w base d) {b : Nat} (hb : d.1 = some ⟨b, 0, Option.none⟩) (K O c : Nat) (hK : K ≤ d.2.1) (hO : O = 0 + K * 5 ∨ K = d.2.1) (ty : TypeId) :
    ∃ w', (Builtin.clear_ #[51] ty #[.slice (some ⟨b, O, Option.none⟩) (d.2.1 - K) c]).run Tryd.prog w = .ok (.tuple #[]) w' ∧ LfO w' base (d.1, d.2.1, d.2.2.1, cutL d.2.2.2 K) ∧ w.grownBy w' (some b) := by
  obtain ⟨al, ll, cl, xs⟩ := d
  obtain ⟨h1, h2⟩ := h
  dsimp only at hb hK hO h1 h2 ⊢
  subst hb
  have hl : xs.length = ll := h1.2.1
  by_cases hk : K = ll
  · subst hk
    refine ⟨w, ?_, ⟨?_, fun x hx => ?_⟩, World.grownBy.refl _ _⟩
    · rw [Nat.sub_self]
      exact clear_none9 Tryd.underlying51 zeroV9 _ _
    · have e : cutL xs K = xs := by unfold cutL; rw [← hl]; simp
      rw [e]
      exact h1
    · have e : cutL xs K = xs := by unfold cutL; rw [← hl]; simp
      rw [e] at hx
      exact h2 x hx
  · obtain rfl : O = K * 5 := by omega
    have hz := zero_en (ll - K)
    have hzl : ((List.replicate (ll - K) enZ).flatMap enV).length = (ll - K) * 5 := by rw [flat_len enV_len, List.length_replicate]
    obtain ⟨cur, g1, g2, g3, g4⟩ := own_mid enV_len h1 (M' := cutL xs K) (K * 5) ((List.replicate (ll - K) enZ).flatMap enV) (by rw [cutL_len]; exact hl) (by
      have hs : xs.flatMap enV = (xs.take K).flatMap enV ++ (xs.drop K).flatMap enV := by rw [← List.flatMap_append, List.take_append_drop]
      have hl1 : ((xs.take K).flatMap enV).length = K * 5 := by rw [flat_len enV_len, List.length_take, Nat.min_eq_left (by omega)]
      have e1 : (xs.flatMap enV).take (K * 5) = (xs.take K).flatMap enV := by
        conv => lhs; rw [hs]
        rw [List.take_append_of_le_length (by omega), List.take_of_length_le (by omega)]
      have e2 : (xs.flatMap enV).drop (K * 5 + (ll - K) * 5) = [] := List.drop_eq_nil_of_le (by rw [flat_len enV_len]; omega)
      unfold cutL
      rw [List.flatMap_append, hzl, e1, e2, List.append_nil, hl]) (by rw [hzl]; omega)
    obtain ⟨_, hcl⟩ := run_clear9 (P := Tryd.prog) w 51 47 ty (.agg (enV enZ).toArray) 5 Tryd.underlying51 zeroV9 rfl (fun u hu => enV_one enZ u (by simpa [Value.cells] using hu)) b (K * 5) (ll - K) c cur (by omega) g1 (by rw [← hzl]; exact g2)
    rw [hz] at hcl
    refine ⟨_, hcl, ⟨g3, fun x hx => ?_⟩, g4⟩
    unfold cutL at hx
    rcases List.mem_append.1 hx with hx | hx
    · exact h2 x (List.mem_of_mem_take hx)
    · obtain ⟨_, rfl⟩ := List.mem_replicate.1 hx
      unfold EnOk enZ I64
      dsimp only
      omega
def cutD (K : Nat) (d : LfD) : LfD := (d.1, d.2.1, d.2.2.1, cutL d.2.2.2 K)
def cutsD (es : List LfD) (N j : Nat) : List LfD := es.mapIdx fun i d => if i < j then cutD (belowN N i) d else d
theorem cutsD_zero (es : List LfD) (N : Nat) : cutsD es N 0 = es := by
  unfold cutsD
  refine List.ext_getElem? fun i => ?_
  rw [List.getElem?_mapIdx]
  cases es[i]? <;> simp
theorem cutsD_at (es : List LfD) (N j : Nat) : (cutsD es N j)[j]? = es[j]? := by
  unfold cutsD
  rw [List.getElem?_mapIdx]
  cases es[j]? <;> simp
theorem cutsD_succ (es : List LfD) (N j : Nat) (d : LfD) (h : es[j]? = some d) : (cutsD es N j).set j (cutD (belowN N j) d) = cutsD es N (j + 1) := by
  unfold cutsD
  refine List.ext_getElem? fun i => ?_
  rw [List.getElem?_set, List.getElem?_mapIdx, List.getElem?_mapIdx, List.length_mapIdx]
  by_cases hi : j = i
  · subst hi
    have := (List.getElem?_eq_some_iff.1 h).1
    rw [if_pos rfl, if_pos this, h]
    simp
  · rw [if_neg hi]
    cases es[i]? with
    | none => rfl
    | some x =>
      simp only [Option.map_some]
      by_cases h1 : i < j
      · rw [if_pos h1, if_pos (by omega)]
      · rw [if_neg h1, if_neg (by omega)]
theorem cutsD_skip (es : List LfD) (N j : Nat) (d : LfD) (h : es[j]? = some d) (h0 : d.2.2.2 = []) : cutsD es N j = cutsD es N (j + 1) := by
  rw [← cutsD_succ es N j d h]
  have e : cutD (belowN N j) d = d := by
    obtain ⟨al, ll, cl, xs⟩ := d
    dsimp only at h0
    subst h0
    unfold cutD
    dsimp only
    rw [cutL_nil]
  rw [e]
  refine List.ext_getElem? fun i => ?_
  rw [List.getElem?_set]
  by_cases hi : j = i
  · subst hi
    rw [if_pos rfl, cutsD_at, h]
    have := (List.getElem?_eq_some_iff.1 h).1
    rw [if_pos (by unfold cutsD; rw [List.length_mapIdx]; exact this)]
  · rw [if_neg hi]
theorem cutsD_map (es : List LfD) (N j : Nat) : (cutsD es N j).map cvD = es.map cvD := by
  unfold cutsD
  refine List.ext_getElem? fun i => ?_
  rw [List.getElem?_map, List.getElem?_map, List.getElem?_mapIdx]
  cases es[i]? with
  | none => rfl
  | some x =>
    simp only [Option.map_some]
    split <;> rfl
theorem cutsD_all (es : List LfD) (N : Nat) : tbOf (cutsD es N es.length) = cutsT (tbOf es) N := by
  unfold cutsD cutsT tbOf
  refine List.ext_getElem? fun i => ?_
  rw [List.getElem?_map, List.getElem?_mapIdx, List.getElem?_mapIdx, List.getElem?_map]
  cases h : es[i]? with
  | none => rfl
  | some x =>
    have := (List.getElem?_eq_some_iff.1 h).1
    simp [cutD, this]
/-- The boxes of Cut. -/
def BoxC (X Y : Nat) (s r o : Value) (w0 W : World) : Prop := Blk W X 24 #[s] ∧ Blk W (X + 1) 24 #[r] ∧ Blk W Y 24 #[o] ∧ Below X w0 W ∧ X + 2 ≤ Y
section
variable {X Y : Nat} {s r o : Value} {w0 W W' : World}
theorem BoxC.later (h : BoxC X Y s r o w0 W) (hb : Below W.heap.size W W') : BoxC X Y s r o w0 W' := ⟨h.1.later hb, h.2.1.later hb, h.2.2.1.later hb, h.2.2.2.1.trans (hb.mono (Nat.le_of_lt h.1.lt)), h.2.2.2.2⟩
theorem BoxC.row (h : BoxC X Y s r o w0 W) {g : Nat} (hg : X + 2 ≤ g) (hY : g ≠ Y) (hr : W.grownBy W' (some g)) : BoxC X Y s r o w0 W' :=
  ⟨h.1.kept hr (fun e => by simp at e; omega), h.2.1.kept hr (fun e => by simp at e; omega), h.2.2.1.kept hr (fun e => by simp at e; omega), h.2.2.2.1.grown hr (Nat.le_of_lt h.1.lt) (fun k hk => by cases hk; omega), h.2.2.2.2⟩
theorem BoxC.res (h : BoxC X Y s r o w0 W) (v : Value) : BoxC X Y s v o w0 (W.setCell ⟨X + 1, 0, none⟩ v) :=
  ⟨h.1.other (by omega) _, h.2.1.set 0 v, h.2.2.1.other (by have := h.2.2.2.2; omega) _, h.2.2.2.1.setCell (by show X ≤ X + 1; omega) _, h.2.2.2.2⟩
theorem BoxC.cells (h : BoxC X Y s r o w0 W) : W.cell? ⟨X, 0, none⟩ = some s ∧ W.cell? ⟨X + 1, 0, none⟩ = some r ∧ W.frozen? ⟨X + 1, 0, none⟩ = false ∧ W.cell? ⟨Y, 0, none⟩ = some o ∧ W.frozen? ⟨Y, 0, none⟩ = false :=
  ⟨one_cell9 h.1, one_cell9 h.2.1, h.2.1.free 0, one_cell9 h.2.2.1, h.2.2.1.free 0⟩
theorem BoxC.first {w w1 : World} {s r o : Value} (hb : Below ((w.alloc (.cells #[s] 24)).alloc (.cells #[r] 24)).heap.size ((w.alloc (.cells #[s] 24)).alloc (.cells #[r] 24)) w1) :
    BoxC w.heap.size w1.heap.size s r o w (w1.alloc (.cells #[o] 24)) := by
  have hs := hb.size
  rw [World.size_alloc, World.size_alloc] at hs
  have h1 : Blk w1 w.heap.size 24 #[s] := ((Blk.new w _ _).alloc _).later hb
  have h2 : Blk w1 (w.heap.size + 1) 24 #[r] := Blk.later (blk_next9 _ _ _ _ _) hb
  refine ⟨h1.alloc _, h2.alloc _, Blk.new _ _ _, ?_, by omega⟩
  refine Below.alloc (Below.trans ?_ (hb.mono (by rw [World.size_alloc, World.size_alloc]; omega))) (by omega) _
  exact ((Below.refl _ _).alloc (Nat.le_refl _) _).alloc (by simp) _
end
set_option maxRecDepth 100000 in
set_option maxHeartbeats 3200000 in
theorem cut9_any (w : World) (a : Option Addr) (len cap : Nat) (T : Tb) (n : Int) (h : Tab w a len cap T) (hn : I64 n) :
    Calls Tryd.prog 15 #[.agg #[.slice a len cap], .int .i64 n] w fun e w' => ∃ (a' : Option Addr) (l' c' : Nat), e = .returned (.agg #[.slice a' l' c']) ∧ TabN w' w.heap.size a' l' c' (cutT T n) ∧ Below w.heap.size w w' := by
  have hls := h.lens
  obtain ⟨ds, hT, hc, rfl, hlen, hll⟩ := h
  have HLS := Lib.hid hls
  have HTR := Lib.hid hT
  have HCP : Hid (∀ W, Below w.heap.size w W → _) := fun W hb => copy9 W a len cap ds (hT.later hb) hc hlen hll
  have hg0 : Below w.heap.size w ((w.alloc (.cells #[.slice a len cap] 24)).alloc (.cells #[.slice none 0 0] 24)) := ((Below.refl _ _).alloc (Nat.le_refl _) _).alloc (by simp) _
  have HG0 := Lib.hid hg0
  have HFB : Hid (∀ w1 a1 c1, Below ((w.alloc (.cells #[.slice a len cap] 24)).alloc (.cells #[.slice none 0 0] 24)).heap.size ((w.alloc (.cells #[.slice a len cap] 24)).alloc (.cells #[.slice none 0 0] 24)) w1 → BoxC w.heap.size w1.heap.size (.slice a len cap) (.slice none 0 0) (.slice a1 len c1) w (w1.alloc (.cells #[.slice a1 len c1] 24))) := fun w1 a1 c1 hb => BoxC.first hb
  have hsz : ((w.alloc (.cells #[.slice a len cap] 24)).alloc (.cells #[.slice none 0 0] 24)).heap.size = w.heap.size + 2 := by rw [World.size_alloc, World.size_alloc]
  have HSZ := Lib.hid hsz
  have ho : EnOk (0, 0, 0, 0, 0) := by unfold EnOk I64; dsimp only; omega
  obtain ⟨X, hX⟩ := named w.heap.size
  have hXX := hX.out
  rw [hX.out] at HG0 HCP HFB HSZ ⊢
  clear hg0 hsz hls hc hll
  by_cases hf : fitsT (tbOf ds) enZ
  · have HM := Lib.hid (fun w h => standC (a := a) (cap := cap) hlen ho (decide_eq_true hf) w h)
    have HOK : Hid (∀ j, (tbAt (tbOf ds) j = [] ∨ (tbAt (tbOf ds) j).length = 8)) := fun j => by
      obtain ⟨c0, h0, _⟩ := hf
      exact (h0.ok j).imp id (fun h => h.1)
    obtain ⟨N, hNn⟩ := named n.toNat
    have hN64 : (N : Int) ≤ 9223372036854775807 := by
      have h1 := hNn.out
      have h2 := hn.2
      omega
    have hmax : ∀ w : World, (Builtin.max_ #[3, 3] 3 #[.int .i64 n, .int .i64 0]).run Tryd.prog w = .ok (.int .i64 N) w := fun w => by
      have h1 := hNn.out
      rw [run_max9]
      congr 2
      split <;> omega
    clear hT ho
    go_enter Tryd.func15, Tryd.ntmps15
    go_wp2_with (first
      | (go_at_call 32; refine (HCP.out _ HG0.out).mono ?_; rintro e w1 ⟨a1, c1, es, rfl, g1, g2, g3⟩; have hb1 := HFB.out w1 a1 c1 g3; rw [HSZ.out] at g2; have HQ1 := Lib.hid (g2.alloc (.cells #[.slice a1 len c1] 24)); have HE1 := Lib.hid g1; have HB1 := Lib.hid hb1; have HT1 := Lib.hid (HTR.out.later (hX.out.symm ▸ hb1.2.2.2.1)); obtain ⟨b1, _, _, _, _⟩ := hb1.cells; clear g1 g2 g3 hb1)
      | (go_at_call 33; (with_reducible refine (HM.out _ HT1.out).mono ?_); rintro e w3 ⟨rfl, g⟩; have HB3 := Lib.hid (HB1.out.later g); have HQ3 := Lib.hid (HQ1.out.later g); obtain ⟨d1, d2, d3, d4, d5⟩ := (HB1.out.later g).cells; clear g))
    obtain ⟨Y, hY⟩ := named w1.heap.size
    have hYY := hY.out
    rw [hY.out] at HB3 ⊢
    go_loopw [18] (fun i wr => ∃ (j : Nat), j ≤ len ∧ i = .int .i64 j ∧ Hid (BoxC X Y (.slice a len cap) (.slice none 0 0) (.slice a1 len c1) w wr) ∧ Hid (TabQ wr (X + 2) a1 len c1 (cutsD es N j) (cutsD es N j))) (fun i _ => len - (intOf i).toNat)
    case atStart => exact ⟨0, Nat.zero_le _, rfl, HB3.out, by rw [cutsD_zero]; exact HQ3.out⟩
    case round =>
      obtain ⟨j, hj, rfl, HB, HQ⟩ := hrel
      obtain ⟨x1, x2, x3, x4, x5⟩ := HB.out.cells
      by_cases hlt : j < len
      · obtain ⟨g, d, rfl, hg1, hg2, hd, hcell, hfz⟩ := HQ.out.at j hlt
        have hd0 : es[j]? = some d := (cutsD_at es N j).symm.trans hd
        have hLO := HQ.out.leaf d (List.mem_of_getElem? hd)
        have hLl := hLO.reads.len
        have htb : tbAt (tbOf ds) j = d.2.2.2 := by
          rw [← HE1.out]
          unfold tbAt tbOf
          rw [List.getD_eq_getElem?_getD, List.getElem?_map, hd0]
          rfl
        have hok := HOK.out j
        rw [htb] at hok
        obtain ⟨al, ll, cl, xs⟩ := d
        dsimp only at hcell hLl hok
        by_cases h0 : ll = 0
        · subst h0
          have HN : Hid (TabQ wr (X + 2) (some ⟨g, 0, none⟩) len c1 (cutsD es N (j + 1)) (cutsD es N (j + 1))) := by
            rw [← cutsD_skip es N j _ hd0 (List.eq_nil_of_length_eq_zero hLl)]
            exact HQ.out
          have HA := Lib.hid (fun w => absent9 al 0 cl true (by decide) w)
          clear hok hLO hd hd0 htb
          go_wp2_with (go_at_call 19; (with_reducible refine (HA.out _).mono ?_); rintro e w2 ⟨rfl, rfl⟩)
          go_roundw
          case rel => exact ⟨j + 1, by omega, by go_num, HB.out, HN.out⟩
          case measure => simp [intOf]; omega
        · have h8 : ll = 8 := by
            rcases hok with h | h
            · rw [h] at hLl
              exact absurd hLl.symm h0
            · omega
          subst h8
          have HA := Lib.hid (fun w => absent9 al 8 cl false (by decide) w)
          have HW := Lib.hid (fun w => below9 (N : Int) j (by omega) (by omega) (by have := hN64; omega) w)
          rw [Int.toNat_natCast] at HW
          have hst := cutsD_succ es N j _ hd0
          obtain ⟨K, hK⟩ := named (belowN N j)
          rw [hK.out] at HW hst
          have hK8 : K ≤ 8 := by rw [← hK.out]; unfold belowN; omega
          obtain ⟨b, hb, hb1, hb2⟩ := hLO.form (by show 0 < 8; omega)
          dsimp only at hb
          subst hb
          obtain ⟨O, hsl, hO⟩ := slice_tail9 (b := b) (off := 0) (len := 8) (cap := cl) (p := K) hK8 hLO.reads.2.1
          obtain ⟨w2, hcl, hl2, hg2'⟩ := hLO.clear rfl K O (cl - K) hK8 hO 0
          have hq2 := HQ.out.setEs j _ (cutD K (some ⟨b, 0, none⟩, 8, cl, xs)) hd hg2' rfl hl2
          rw [hst] at hq2
          have HQ2 := Lib.hid (hq2.same (by rw [cutsD_map, cutsD_map]))
          have HB2 := Lib.hid (HB.out.row (by omega) (fun e => by
            have h9 := HB.out.2.2.1
            rw [← e] at h9
            exact h9.not_row (by decide) hLO.1 rfl) hg2')
          have HCL := Lib.hid hcl
          dsimp only at HCL
          have HM1 := Lib.hid hmax
          clear hok hLO hd hd0 htb hst hK hl2 hg2' hq2 hcl hO
          go_wp2_with (first
            | (go_at_call 19; (with_reducible refine (HA.out _).mono ?_); rintro e w2 ⟨rfl, rfl⟩)
            | (go_at_call 34; (with_reducible refine (HW.out _).mono ?_); rintro e w2 ⟨rfl, rfl⟩)
            | (simp only [HCL.out]))
          go_roundw
          case rel => exact ⟨j + 1, by omega, by go_num, HB2.out, HQ2.out⟩
          case measure => simp [intOf]; omega
      · have hjl : j = len := by omega
        subst hjl
        have hel : es.length = j := by
          have := HQ3.out.size
          exact this
        have hcs : tbOf (cutsD es N j) = cutsT (tbOf ds) N := by
          rw [← HE1.out, ← hel]
          exact cutsD_all es N
        have HBL := Lib.hid (blanks9 wr (X + 2) _ j c1 _ HQ.out (by have := HB.out.2.2.1.lt; have := HB.out.2.2.2.2; omega) (by omega))
        have HCT : Hid (wbT (tbOf (cutsD es N j)) = cutT (tbOf ds) n) := by
          rw [hcs]
          unfold cutT
          rw [if_pos hf, hNn.out]
          rfl
        clear hcs
        go_wp2_with (go_at_call 35; refine HBL.out.mono ?_; rintro e w7 ⟨l7, es7, rfl, g1, g2, g3⟩; have HE7 := Lib.hid (g1.trans HCT.out); have h8 : Blk w7 (X + 1) 24 #[.slice none 0 0] := (g3.block (X + 1) (by omega)).trans HB.out.2.1; have hbX : Below X w w7 := HB.out.2.2.2.1.trans (g3.mono (by omega)); have o1 : w7.cell? ⟨X + 1, 0, none⟩ = some (.slice none 0 0) := one_cell9 h8; have o2 : w7.frozen? ⟨X + 1, 0, none⟩ = false := h8.free 0; have HB8 := Lib.hid (h8.set 0 (.slice a1 l7 c1)); have HQ8 := Lib.hid (g2.low (X := X + 1) (by omega) (grownBy_setCell4 w7 (X + 1) 0 (.slice a1 l7 c1))); have HX8 := Lib.hid (hbX.setCell (p := ⟨X + 1, 0, none⟩) (by show X ≤ X + 1; omega) (.slice a1 l7 c1)); clear g1 g2 g3 h8 hbX)
        obtain ⟨c9, hc9, _⟩ := id hf
        obtain ⟨n1, n2⟩ := right_lens (cutT_at hc9 n).1
        have hl7 : l7 ≤ 512 := by
          have h1 := HQ8.out.size
          have h2 := congrArg List.length HE7.out
          rw [tbOf_len] at h2
          omega
        refine bodyPost_ret (v := .agg #[.slice a1 l7 c1]) (results_cell_row rfl _ _ (X + 1) 24 #[.slice a1 l7 c1] (0, 0) _ rfl HB8.out Tryd.underlying24 rfl tbl_size) rfl ⟨_, l7, c1, rfl, HQ8.out.tabN HE7.out (by omega) (fun lf hlf => by have := n2 lf hlf; omega) (by omega), HX8.out⟩
  · have HM := Lib.hid (fun w h => standC (a := a) (cap := cap) hlen ho (decide_eq_false hf) w h)
    have he : cutT (tbOf ds) n = tbOf ds := by unfold cutT; rw [if_neg hf]
    rw [he]
    clear hT ho he hf
    go_enter Tryd.func15, Tryd.ntmps15
    go_wp2_with (first
      | (go_at_call 32; refine (HCP.out _ HG0.out).mono ?_; rintro e w1 ⟨a1, c1, es, rfl, g1, g2, g3⟩; have hb1 := HFB.out w1 a1 c1 g3; rw [HSZ.out] at g2; have HQ1 := Lib.hid (g2.alloc (.cells #[.slice a1 len c1] 24)); have HE1 := Lib.hid g1; have HB1 := Lib.hid hb1; have HT1 := Lib.hid (HTR.out.later (hX.out.symm ▸ hb1.2.2.2.1)); obtain ⟨b1, _, _, _, _⟩ := hb1.cells; clear g1 g2 g3 hb1)
      | (go_at_call 33; (with_reducible refine (HM.out _ HT1.out).mono ?_); rintro e w3 ⟨rfl, g⟩; have HB3 := Lib.hid ((HB1.out.later g).res (.slice a1 len c1)); have HQ3 := Lib.hid ((HQ1.out.later g).low (X := X + 1) (by omega) (grownBy_setCell4 w3 (X + 1) 0 (.slice a1 len c1))); obtain ⟨d1, d2, d3, d4, d5⟩ := (HB1.out.later g).cells; clear g))
    refine bodyPost_ret (v := .agg #[.slice a1 len c1]) (results_cell_row rfl _ _ (X + 1) 24 #[.slice a1 len c1] (0, 0) _ rfl HB3.out.2.1 Tryd.underlying24 rfl tbl_size) rfl ⟨a1, len, c1, rfl, HQ3.out.tabN HE1.out HLS.out.2.1 HLS.out.2.2.1 (by omega), HB3.out.2.2.2.1⟩
end Go.Proofs.YtbdidgfbonkneaaDoor
