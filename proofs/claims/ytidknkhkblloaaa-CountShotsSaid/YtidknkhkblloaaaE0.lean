/-
  What the project's own Each answers (package count). Conditions: the meta reads and is right.
-/
import Derived.Test.YtidknkhkblloaaaP0
namespace Go.Proofs.Ytidknkhkblloaaa
open Go.RowKit Go.Shelf
attribute [local go_sem] Oper.semAt_some
set_option linter.unusedVariables false

theorem ln_rowed : Rowed Try.prog 35 41 7 56 lnV where
  under := Try.underlying35
  info := by
    have h : (Try.prog.info? 41).map (fun i => (i.zero.map (fun z => z.cells.size), i.size, i.bytes)) = some (some 7, 7, 56) := by kernel_rfl
    obtain ⟨i, hi, he⟩ := Option.map_eq_some_iff.1 h
    simp only [Prod.mk.injEq] at he
    obtain ⟨z, hz, hzs⟩ := Option.map_eq_some_iff.1 he.1
    exact ⟨i, z, hi, hz, he.2.1, he.2.2, hzs⟩
  pos := by decide
  small := by decide
  len := fun _ => rfl
  one := fun d u hu => by
    simp only [lnV, enV, List.mem_cons, List.not_mem_nil, or_false] at hu
    rcases hu with rfl | rfl | rfl | rfl | rfl | rfl | rfl <;> rfl
abbrev OwnLn (w : World) (base : Nat) (v : Value) (n : Nat) (l : List Ln) : Prop := OwnG lnV 41 7 w base v n l
theorem OwnG.ownF {α : Type} {cv : α → List Value} {e : TypeId} {sz : Nat} {w w' : World} {base n B : Nat} {v : Value} {l : List α} {row : Option Nat} (h : OwnG cv e sz w base v n l) (hg : w.grownBy w' row) (hr : ∀ r, row = some r → B ≤ r ∧ ∃ o : Obj, w.heap[r]? = some o ∧ o.isCells = false) : OwnG cv e sz w' base v n l :=
  h.kept' hg fun k hk e' => by
    obtain ⟨_, o, ho, hf⟩ := hr k e'
    have := h.cells k o hk ho
    rw [hf] at this
    cases this
/-- Between two lines. -/
def EaS (w V : World) (l : List Ln) : Prop := ∃ (a' : Option Addr) (c' : Nat), Blk V w.heap.size 35 #[.slice a' l.length c'] ∧ OwnLn V (w.heap.size + 1) (.slice a' l.length c') l.length l ∧ Below w.heap.size w V
theorem EaS.own {β : Type} {w : World} {B : Nat} {L : β → List Ln} (hB : w.heap.size ≤ B) : OwnFrom B (fun s V => EaS w V (L s)) := fun s V V' row hs hg hr => by
  obtain ⟨a', c', h1, h2, h3⟩ := hs
  exact ⟨a', c', (Own.from (Blk.own (β := β) w.heap.size 35 (fun s => #[.slice a' (L s).length c'])) B) s V V' row h1 hg hr, h2.ownF hg hr, h3.trans ⟨hg.os, hg.tape, hg.output, hg.size, fun k hk => hg.block k (Nat.lt_of_lt_of_le hk h3.size) fun e' => by have := (hr k e'.symm).1; omega⟩⟩
/-- One line more. -/
theorem eas_put {w V w3 : World} {l : List Ln} {a0 a' : Option Addr} {c0 c' : Nat} {x : Ln} {o : Obj} (hX : Blk V w.heap.size 35 #[.slice a0 l.length c0]) (hO : OwnLn V (w.heap.size + 1) (.slice a0 l.length c0) l.length l) (hB : Below w.heap.size w V) (hlt : w.heap.size < V.heap.size)
    (hO3 : OwnLn w3 (w.heap.size + 1) (.slice a' (l.length + 1) c') (l.length + 1) (l ++ [x])) (hg : (V.alloc o).grownBy w3 (Value.slice a0 l.length c0).ownBlock)
    (hat : (Value.slice a' (l.length + 1) c').ownBlock = (Value.slice a0 l.length c0).ownBlock ∨ (Value.slice a' (l.length + 1) c').ownBlock = some (V.alloc o).heap.size) :
    w3.cell? ⟨w.heap.size, 0, none⟩ = some (.slice a0 l.length c0) ∧ w3.frozen? ⟨w.heap.size, 0, none⟩ = false ∧ Hid (KX w.heap.size w.heap.size V (w3.setCell ⟨w.heap.size, 0, none⟩ (.slice a' (l.length + 1) c')) ∧ EaS w (w3.setCell ⟨w.heap.size, 0, none⟩ (.slice a' (l.length + 1) c')) (l ++ [x])) := by
  have hXa := hX.alloc o
  have hOa := hO.alloc o
  have hne : (Value.slice a0 l.length c0).ownBlock ≠ some w.heap.size := hO.low _ (Or.inl (by omega))
  have hX3 := hXa.kept hg (fun e => hne e.symm)
  have hne' : (Value.slice a' (l.length + 1) c').ownBlock ≠ some w.heap.size := hO3.low _ (Or.inl (by omega))
  refine ⟨hX3.cell 0, hX3.free 0, (KX.alloc hlt o).trans (KX.append (by rw [World.size_alloc]; omega) (hXa.cell 0) hg hne hOa.cells (hat.imp id fun e => ⟨_, e, Nat.le_refl _⟩) (fun k hk => (hO3.1.lt k hk).2)), a', c', ?_, ?_, ?_⟩
  · have := hX3.set 0 (.slice a' (l.length + 1) c')
    rw [List.length_append]
    exact this
  · rw [List.length_append]
    exact hO3.kept' (grownBy_setCell4 w3 w.heap.size 0 _) fun k hk e => by cases e; exact hne' hk
  · exact ((hB.alloc (by omega) o).grown hg (by rw [World.size_alloc]; omega) (fun k hk => by have := (hO.1.lt k hk).1; omega)).setCell (p := ⟨w.heap.size, 0, none⟩) (Nat.le_refl _) _

set_option maxRecDepth 100000 in
set_option maxHeartbeats 4000000 in
theorem appendSeq_any (M : Nat) (w0 w : World) (c s : Int) (bk : ByteArray) (a0 : Option Addr) (n0 c0 : Nat) (sa : Option Addr) (sn sc : Nat) (a5 : Option Addr) (n5 c5 : Nat) (a6 : Option Addr) (n6 c6 : Nat) (T : Tb) (S : List Sh)
    (hS : ShsR w0 sa sn S) (v : List (VTx w0)) (hv : v.map (·.1) = tabsX a0 n0 c0 T S) (hW : Below w0.heap.size w0 w) (hM : Blk w M 29 (mtC c s bk a0 n0 c0 sa sn sc (.slice a5 n5 c5) (.slice a6 n6 c6))) (hM0 : w0.heap.size ≤ M) (hvl : v.length ≤ 901) :
    Calls Try.prog 43 #[.slice none 0 0, .func (.func 39) #[] #[.pointer (some ⟨M, 0, none⟩)]] w fun e w' => ∃ (a' : Option Addr) (N c' : Nat), e = .returned (.slice a' N c') ∧ OwnLn w' w.heap.size (.slice a' N c') N (linesOf v) ∧ Below w.heap.size w w' := by
  have hMlt := hM.lt
  have HM := Lib.hid hM
  have HS := Lib.hid hS
  have HV := Lib.hid hv
  have HW := Lib.hid hW
  have hsz0 := hW.size
  clear hM hS hv hW
  refine (callsIn_wide (n := 9)).1 (callsIn_of_wp_marks Try.func43 rfl trivial (wpIn_wide.2 ?_) rfl)
  simp only [Try.ntmps43, List.size_toArray, List.length_cons, List.length_nil, Nat.reduceAdd, Nat.reduceSub, Array.replicate_succ, Array.replicate_zero, List.push_toArray, List.append_toArray, List.nil_append, List.cons_append]
  go_wp2
  have hX1 := Blk.new w 35 #[.slice none 0 0]
  have hb1 : Below w.heap.size w (w.alloc (.cells #[.slice none 0 0] 35)) := (Below.refl _ w).alloc (Nat.le_refl _) _
  have hz1 : (w.alloc (.cells #[.slice none 0 0] 35)).heap.size = w.heap.size + 1 := World.size_alloc ..
  have hE1 : EaS w (w.alloc (.cells #[.slice none 0 0] 35)) [] := ⟨none, 0, hX1, OwnG.none _ _ _ _ _, hb1⟩
  have hM1 := HM.out.alloc (.cells #[.slice none 0 0] 35)
  obtain ⟨A1, hA1⟩ : ∃ A1, w.alloc (.cells #[.slice none 0 0] 35) = A1 := ⟨_, rfl⟩
  rw [hA1] at hX1 hb1 hz1 hE1 hM1 ⊢
  clear hA1
  refine range_x w.heap.size (by omega) (gf := 39) (lb := #[.pointer (some ⟨M, 0, none⟩)]) rfl (enters_of Try.func39 (by kernel_rfl) rfl)
    (lines_seq w.heap.size M w0 A1 c s bk a0 n0 c0 sa sn sc a5 n5 c5 a6 n6 c6 T S HS.out v HV.out (HW.out.trans (hb1.mono hsz0)) hM1 hsz0 (by omega) (by omega) hM0
      (fun k hk => by rw [ownX_is (hX1.cell 0)] at hk; cases hk)) (fun _ => rfl)
    (fun ys V => EaS w V (ys.map (·.1))) (EaS.own (by omega)) hE1
    (fun x a' V => ∃ Bx, Blk V Bx 41 #[.int .i64 x.1.1, .int .i64 x.1.2.1, .int .i64 x.1.2.2.1, .int .i64 x.1.2.2.2.1, .int .i64 x.1.2.2.2.2.1, .int .i64 x.1.2.2.2.2.2.1, .int .u32 x.1.2.2.2.2.2.2] ∧ a' = { tmps := #[.slice none 0 0, .func (.func 39) #[] #[.pointer (some ⟨M, 0, none⟩)], .pointer (some ⟨w.heap.size, 0, none⟩), undef, .slice none 0 0, .pointer (some ⟨Bx, 0, none⟩),
      .func (.func 39) #[] #[.pointer (some ⟨M, 0, none⟩)], .agg #[.int .i64 x.1.1, .int .i64 x.1.2.1, .int .i64 x.1.2.2.1, .int .i64 x.1.2.2.2.1, .int .i64 x.1.2.2.2.2.1, .int .i64 x.1.2.2.2.2.2.1, .int .u32 x.1.2.2.2.2.2.2], undef, undef, undef, undef, undef], defers := [] })
    (fun x a' u V V' row h hg hr => by
      obtain ⟨Bx, h2, h5⟩ := h
      refine ⟨Bx, h2.kept hg fun e' => ?_, h5⟩
      obtain ⟨_, o, ho, hf⟩ := hr Bx e'.symm
      rw [show V.heap[Bx]? = _ from h2] at ho
      cases ho
      cases hf) ?assign ?body ?done
  case assign =>
    intro F lp pre x V K hF hro hi hsz hK
    have e : ∀ A : Array Value, ((#[7] : Array Tmp).zip (lnArg x)).foldl (fun t (p, v) => t.setIfInBounds p v) A = A.setIfInBounds 7 (.agg #[.int .i64 x.1.1, .int .i64 x.1.2.1, .int .i64 x.1.2.2.1, .int .i64 x.1.2.2.2.1, .int .i64 x.1.2.2.2.2.1, .int .i64 x.1.2.2.2.2.2.1, .int .u32 x.1.2.2.2.2.2.2]) := fun A => by simp [lnArg]
    rw [e]
    clear e
    gi_wp2
    refine hK _ _ (KX.alloc (by omega) _) ?_ ⟨_, Blk.new _ _ _, rfl⟩
    obtain ⟨a', c', h1, h2, h3⟩ := hi
    exact ⟨a', c', h1.alloc _, h2.alloc _, h3.alloc h3.size _⟩
  case body =>
    rintro F lp pre x a' V hF hro hi hsz ⟨Bx, hbx, rfl⟩ hlen
    obtain ⟨ac, cc, hX, hO, hB⟩ := hi
    obtain ⟨L, hL⟩ := named (pre.map (·.1))
    have HLS : Hid ((pre ++ [x]).map (·.1) = L ++ [x.1]) := by
      show _ = _
      rw [List.map_append, hL.out]
      rfl
    have hpl : L.length = pre.length := by rw [← hL.out, List.length_map]
    obtain ⟨L', hL'⟩ := named ((pre ++ [x]).map (·.1))
    rw [hL'.out] at HLS ⊢
    rw [hL.out] at hX hO
    obtain ⟨⟨sh, cl, k, st, ct, z, m⟩, hx⟩ := x
    dsimp only at hbx HLS ⊢
    have x1 := hX.cell 0
    have y0 := hbx.cell 0
    have y1 := hbx.cell 1
    have y2 := hbx.cell 2
    have y3 := hbx.cell 3
    have y4 := hbx.cell 4
    have y5 := hbx.cell 5
    have y6 := hbx.cell 6
    have HX := Lib.hid hX
    have HO := Lib.hid hO
    have HB := Lib.hid hB
    have hVlt : w.heap.size < V.heap.size := by omega
    have hbl := hbx.lt
    have hll : L.length + 1 ≤ 10000000 := by omega
    clear hX hO hB hL hL' hbx hpl hlen
    gi_wp2_with (gi_at_builtin; refine appendIn_lg ln_rowed rfl (.tmp 8) (.tmp 10) rfl (w.heap.size + 1) _ L.length L rfl (HO.out.alloc _) (some ⟨V.heap.size, 0, none⟩) 1 1 [(sh, cl, k, st, ct, z, m)] rfl (fun e => by cases e) (one_reads V (sh, cl, k, st, ct, z, m) _ _ rfl) (by omega) (by rw [World.size_alloc]; omega) ?_; intro a3 c3 w3 hO3 hg3 hat3; obtain ⟨p1, p2, HP⟩ := eas_put HX.out HO.out HB.out hVlt hO3 hg3 hat3; clear hO3 hg3 hat3)
    rw [HLS.out]
    exact HP.out
  case done =>
    rintro D xs V hD hxs ⟨ac, cc, hX, hO, hB⟩ hK
    have x1 := hX.cell 0
    have HO := Lib.hid hO
    have HB := Lib.hid hB
    have HK := Lib.hid hK
    rw [hxs] at HO x1
    clear hX hO hB hK
    go_wp2
    refine ⟨by simp, .inl ⟨_, _, rfl, run_takeDeferred HK.out, ?_⟩⟩
    exact ⟨_, results_tmp rfl _ _ _, _, _, _, rfl, ⟨ownsRow_putObj (HO.out.mono9 (by omega)).1 _ HK.out rfl, HO.out.2⟩, HB.out.trans (belowK_b (w := w) (Nat.le_refl _) V D _ _ (by omega) HK.out rfl rfl)⟩
theorem collect_any (M : Nat) (w0 w : World) (c s : Int) (bk : ByteArray) (a0 : Option Addr) (n0 c0 : Nat) (sa : Option Addr) (sn sc : Nat) (a5 : Option Addr) (n5 c5 : Nat) (a6 : Option Addr) (n6 c6 : Nat) (T : Tb) (S : List Sh)
    (hS : ShsR w0 sa sn S) (v : List (VTx w0)) (hv : v.map (·.1) = tabsX a0 n0 c0 T S) (hW : Below w0.heap.size w0 w) (hM : Blk w M 29 (mtC c s bk a0 n0 c0 sa sn sc (.slice a5 n5 c5) (.slice a6 n6 c6))) (hM0 : w0.heap.size ≤ M) (hvl : v.length ≤ 901) :
    Calls Try.prog 34 #[.func (.func 39) #[] #[.pointer (some ⟨M, 0, none⟩)]] w fun e w' => ∃ (a' : Option Addr) (N c' : Nat), e = .returned (.slice a' N c') ∧ OwnLn w' w.heap.size (.slice a' N c') N (linesOf v) ∧ Below w.heap.size w w' := by
  have HA := Lib.hid (appendSeq_any M w0 w c s bk a0 n0 c0 sa sn sc a5 n5 c5 a6 n6 c6 T S hS v hv hW hM hM0 hvl)
  clear hS hv hW hM
  go_enter Try.func34, Try.ntmps34
  go_wp2_with (go_at_call 43; refine HA.out.mono ?_; rintro e w6 ⟨a', N, c', rfl, h1, h2⟩)
  go_ret
  exact ⟨_, _, _, rfl, h1, h2⟩
theorem each_any (w : World) (c s : Int) (bk : ByteArray) (a0 : Option Addr) (n0 c0 : Nat) (sa : Option Addr) (sn sc : Nat) (a5 : Option Addr) (n5 c5 : Nat) (a6 : Option Addr) (n6 c6 : Nat) (T : Tb) (S : List Sh)
    (hT : Tab w a0 n0 c0 T) (hS : ShsR w sa sn S) (hR : RightX T S) (hsn : sn ≤ 900) :
    Calls Try.prog 18 #[.agg #[.int .i64 c, .int .i64 s, .string bk, .slice a0 n0 c0, .slice sa sn sc, .slice a5 n5 c5, .slice a6 n6 c6]] w fun e w' => ∃ (a' : Option Addr) (N c' : Nat), e = .returned (.slice a' N c') ∧ OwnLn w' w.heap.size (.slice a' N c') N (allLines T (S.map shT)) ∧ Below w.heap.size w w' := by
  obtain ⟨v, hv⟩ := vtx_of (tabsX_ok hT hS hR hsn)
  have HLI := Lib.hid (lines_is hv)
  have hvl : v.length = sn + 1 := by
    have := congrArg List.length hv
    rw [List.length_map] at this
    rw [this]
    simp [tabsX, shX, hS.len]
  have hM := Blk.new (w.alloc (.cells (mtC c s bk a0 n0 c0 sa sn sc (.slice a5 n5 c5) (.slice a6 n6 c6)) 29)) 29 (mtC c s bk a0 n0 c0 sa sn sc (.slice a5 n5 c5) (.slice a6 n6 c6))
  have hb : Below w.heap.size w ((w.alloc (.cells (mtC c s bk a0 n0 c0 sa sn sc (.slice a5 n5 c5) (.slice a6 n6 c6)) 29)).alloc (.cells (mtC c s bk a0 n0 c0 sa sn sc (.slice a5 n5 c5) (.slice a6 n6 c6)) 29)) := ((Below.refl _ w).alloc (Nat.le_refl _) _).alloc (by simp) _
  rw [World.size_alloc] at hM
  have HC := Lib.hid (collect_any (w.heap.size + 1) w _ c s bk a0 n0 c0 sa sn sc a5 n5 c5 a6 n6 c6 T S hS v hv hb hM (by omega) (by omega))
  have HB := Lib.hid hb
  clear hv hT hS hR hM hb
  go_enter Try.func18, Try.ntmps18
  go_wp2_with (first
    | (go_at_call 31; refine (lines_any _ _ _ _ _ _ _ _ _ _ _ _ _ _ _ _).mono ?_; rintro e w5 ⟨rfl, rfl⟩)
    | (go_at_call 34; refine HC.out.mono ?_; rintro e w6 ⟨a', N, c', rfl, h1, h2⟩))
  go_ret
  rw [← HLI.out]
  exact ⟨_, _, _, rfl, h1.mono9 HB.out.size, HB.out.trans (h2.mono HB.out.size)⟩
end Go.Proofs.Ytidknkhkblloaaa
