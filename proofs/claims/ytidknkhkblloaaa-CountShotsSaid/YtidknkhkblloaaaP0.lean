/-
  What the project's own Of answers (package count). Conditions: the meta reads and is right, no more than 65536 sectors.
-/
import Derived.Test.YtidknkhkblloaaaO0
namespace Go.Proofs.Ytidknkhkblloaaa
open Go.RowKit Go.Shelf
attribute [local go_sem] Oper.semAt_some
set_option linter.unusedVariables false

/-- The state between two lines. -/
structure OfS (w V : World) (H R X n : Nat) (L : List Sg) : Prop where
  row : IRow V R n (stepS L)
  box : Blk V X 27 #[.slice (some ⟨R, 0, none⟩) n n]
  below : Below w.heap.size w V
theorem OfS.own {β : Type} {w : World} {H R X n B : Nat} {L : β → List Sg} (hB : w.heap.size ≤ B) : OwnFrom B (fun s V => OfS w V H R X n (L s)) := fun s V V' row hs hg hr => by
  refine ⟨IRow.ownI (β := β) B R n (fun s => stepS (L s)) s V V' row hs.row hg hr, (Own.from (Blk.own (β := β) X 27 (fun _ => #[.slice (some ⟨R, 0, none⟩) n n])) B) s V V' row hs.box hg hr, hs.below.trans ⟨hg.os, hg.tape, hg.output, hg.size, fun k hk => hg.block k (Nat.lt_of_lt_of_le hk hs.below.size) fun e' => by have := (hr k e'.symm).1; omega⟩⟩
theorem OfS.ownX {w V : World} {H R X n : Nat} {L : List Sg} (h : OfS w V H R X n L) : ownX X V = some R := ownX_is (h.box.cell 0)
theorem lines_len {w : World} (v : List (VTx w)) : (linesOf v).length ≤ 4096 * v.length := linesOf_len v

theorem of_steps0 (w : World) (cs : Array Value) (n : Nat) (hn : n ≤ 65536) :
    Calls Try.prog 30 #[.slice (some ⟨w.heap.size + 1, 0, none⟩) n n, .int .i64 0, .int .i64 2] (((w.alloc (.cells cs 29)).alloc (.cells (zerosI n) 3)).alloc (.cells #[.slice (some ⟨w.heap.size + 1, 0, none⟩) n n] 27)) fun e A4 =>
      (∃ v, e = .returned v) ∧ Blk A4 w.heap.size 29 cs ∧ IRow A4 (w.heap.size + 1) n (stepS [(0, 2)]) ∧ Blk A4 (w.heap.size + 1 + 1) 27 #[.slice (some ⟨w.heap.size + 1, 0, none⟩) n n] ∧ Below w.heap.size w A4 ∧ w.heap.size + 3 ≤ A4.heap.size := by
  have hm3 := ((Blk.new w 29 cs).alloc (.cells (zerosI n) 3)).alloc (.cells #[.slice (some ⟨w.heap.size + 1, 0, none⟩) n n] 27)
  have hr3 := (IRow.made (w.alloc (.cells cs 29)) n).alloc (.cells #[.slice (some ⟨w.heap.size + 1, 0, none⟩) n n] 27)
  have hx3 := Blk.new ((w.alloc (.cells cs 29)).alloc (.cells (zerosI n) 3)) 27 #[.slice (some ⟨w.heap.size + 1, 0, none⟩) n n]
  have hb3 : Below w.heap.size w (((w.alloc (.cells cs 29)).alloc (.cells (zerosI n) 3)).alloc (.cells #[.slice (some ⟨w.heap.size + 1, 0, none⟩) n n] 27)) := (((Below.refl _ w).alloc (Nat.le_refl _) _).alloc (by simp) _).alloc (by simp; omega) _
  have hs3 : (((w.alloc (.cells cs 29)).alloc (.cells (zerosI n) 3)).alloc (.cells #[.slice (some ⟨w.heap.size + 1, 0, none⟩) n n] 27)).heap.size = w.heap.size + 3 := by simp
  simp only [World.size_alloc] at hr3 hx3
  obtain ⟨W3, hW3⟩ : ∃ W3, ((w.alloc (.cells cs 29)).alloc (.cells (zerosI n) 3)).alloc (.cells #[.slice (some ⟨w.heap.size + 1, 0, none⟩) n n] 27) = W3 := ⟨_, rfl⟩
  rw [hW3] at hm3 hr3 hx3 hb3 hs3 ⊢
  clear hW3
  refine (addSteps_any W3 _ n (fun _ => 0) 0 2 hr3 (fun _ => by omega) hn (by omega) (by omega)).mono ?_
  rintro e A4 ⟨hv, hr4, hg4⟩
  have hs4 := hg4.size
  exact ⟨hv, hm3.kept hg4 (by simp), hr4.congr fun j _ => by simp [stepS], hx3.kept hg4 (by simp), hb3.grown hg4 (by omega) (fun k e => by cases e; omega), by omega⟩

set_option maxRecDepth 100000 in
set_option maxHeartbeats 4000000 in
theorem of_any (w : World) (c s : Int) (bk : ByteArray) (a0 : Option Addr) (n0 c0 : Nat) (sa : Option Addr) (sn sc : Nat) (a5 : Option Addr) (n5 c5 : Nat) (a6 : Option Addr) (n6 c6 : Nat) (T : Tb) (S : List Sh)
    (hT : Tab w a0 n0 c0 T) (hS : ShsR w sa sn S) (hR : RightX T S) (hsn : sn ≤ 900) (n : Nat) (hn : n ≤ 65536) :
    Calls Try.prog 15 #[.agg #[.int .i64 c, .int .i64 s, .string bk, .slice a0 n0 c0, .slice sa sn sc, .slice a5 n5 c5, .slice a6 n6 c6], .int .i64 n] w fun e w' => ∃ R, e = .returned (.slice (some ⟨R, 0, none⟩) n n) ∧ w.heap.size ≤ R ∧ IRow w' R n (ofL (allLines T (S.map shT))) ∧ Below w.heap.size w w' := by
  obtain ⟨v, hv⟩ := vtx_of (tabsX_ok hT hS hR hsn)
  have hli := lines_is hv
  have HV := Lib.hid hv
  have HS := Lib.hid hS
  have HLI := Lib.hid hli
  have HLN := Lib.hid (lnOk_all v)
  have hvl : v.length = sn + 1 := by
    have := congrArg List.length hv
    rw [List.length_map] at this
    rw [this]
    simp [tabsX, shX, hS.len]
  have hmk := make_i n (by omega)
  have hwi : decide (0 ≤ (n : Int) ∧ (n : Int) ≤ 65536) = true := decide_eq_true (by omega)
  have HWI := Lib.hid (fun w => within0 n 0 65536 hwi w)
  clear hv hli hwi hT hR
  refine (callsIn_wide (n := 9)).1 (callsIn_of_wp_marks Try.func15 rfl trivial (wpIn_wide.2 ?_) rfl)
  simp only [Try.ntmps15, List.size_toArray, List.length_cons, List.length_nil, Nat.reduceAdd, Nat.reduceSub, Array.replicate_succ, Array.replicate_zero, List.push_toArray, List.append_toArray, List.nil_append, List.cons_append]
  go_wp2_with (first
    | (go_at_call 29; refine (HWI.out _).mono ?_; rintro e w1 ⟨rfl, rfl⟩)
    | (go_at_call 30
       refine (of_steps0 w (mtC c s bk a0 n0 c0 sa sn sc (.slice a5 n5 c5) (.slice a6 n6 c6)) n hn).mono ?_
       rintro e A4 ⟨⟨vv, rfl⟩, hm4, hr4, hx4, hb4, hs4⟩
       obtain ⟨m0, m1, m2, m3, m4, m5, m6⟩ := mt_cells hm4
       have HR4 := Lib.hid hr4
       have HX4 := Lib.hid hx4
       have HB4 := Lib.hid hb4
       have hlt4 : w.heap.size < A4.heap.size := by omega
       clear hm4 hr4 hx4 hb4)
    | (go_at_call 31; refine (lines_any _ _ _ _ _ _ _ _ _ _ _ _ _ _ _ _).mono ?_; rintro e w5 ⟨rfl, rfl⟩))
  have hM5 := Blk.new A4 29 (mtC c s bk a0 n0 c0 sa sn sc (.slice a5 n5 c5) (.slice a6 n6 c6))
  have hb5 : Below w.heap.size w (A4.alloc (.cells (mtC c s bk a0 n0 c0 sa sn sc (.slice a5 n5 c5) (.slice a6 n6 c6)) 29)) := HB4.out.alloc HB4.out.size _
  have hz5 : (A4.alloc (.cells (mtC c s bk a0 n0 c0 sa sn sc (.slice a5 n5 c5) (.slice a6 n6 c6)) 29)).heap.size = A4.heap.size + 1 := World.size_alloc ..
  have hOF : OfS w (A4.alloc (.cells (mtC c s bk a0 n0 c0 sa sn sc (.slice a5 n5 c5) (.slice a6 n6 c6)) 29)) 0 (w.heap.size + 1) (w.heap.size + 1 + 1) n ((0, 2) :: ([] : List VLn).map fun y => sgOf y.1) :=
    ⟨HR4.out.alloc _, HX4.out.alloc _, hb5⟩
  have HOF := Lib.hid hOF
  clear hOF
  obtain ⟨A5, hA5⟩ : ∃ A5, A4.alloc (.cells (mtC c s bk a0 n0 c0 sa sn sc (.slice a5 n5 c5) (.slice a6 n6 c6)) 29) = A5 := ⟨_, rfl⟩
  rw [hA5] at hM5 hb5 hz5 HOF ⊢
  clear hA5
  refine range_x (w.heap.size + 1 + 1) (by omega) (gf := 39) (lb := #[.pointer (some ⟨A4.heap.size, 0, none⟩)]) rfl (enters_of Try.func39 (by kernel_rfl) rfl)
    (lines_seq (w.heap.size + 1 + 1) A4.heap.size w A5 c s bk a0 n0 c0 sa sn sc a5 n5 c5 a6 n6 c6 T S HS.out v HV.out hb5 hM5 (by omega) (by omega) (by omega) (by omega)
      (fun k hk => by rw [HOF.out.ownX] at hk; cases hk; omega)) (fun _ => rfl)
    (fun ys V => OfS w V 0 (w.heap.size + 1) (w.heap.size + 1 + 1) n ((0, 2) :: ys.map fun y => sgOf y.1)) (OfS.own (by omega)) HOF.out
    (fun x a' V => ∃ Bx, Blk V Bx 41 #[.int .i64 x.1.1, .int .i64 x.1.2.1, .int .i64 x.1.2.2.1, .int .i64 x.1.2.2.2.1, .int .i64 x.1.2.2.2.2.1, .int .i64 x.1.2.2.2.2.2.1, .int .u32 x.1.2.2.2.2.2.2] ∧ a' = { tmps := #[.agg #[.int .i64 c, .int .i64 s, .string bk, .slice a0 n0 c0, .slice sa sn sc, .slice a5 n5 c5, .slice a6 n6 c6], .int .i64 n, .pointer (some ⟨w.heap.size, 0, none⟩), undef, .slice none 0 0, .pointer (some ⟨w.heap.size + 1 + 1, 0, none⟩),
      .pointer (some ⟨Bx, 0, none⟩), undef, .int .i64 n, .bool true, .bool false, .int .i64 n, .slice (some ⟨w.heap.size + 1, 0, none⟩) n n, .slice (some ⟨w.heap.size + 1, 0, none⟩) n n, vv, .agg #[.int .i64 c, .int .i64 s, .string bk, .slice a0 n0 c0, .slice sa sn sc, .slice a5 n5 c5, .slice a6 n6 c6],
      .func (.func 39) #[] #[.pointer (some ⟨A4.heap.size, 0, none⟩)], .agg #[.int .i64 x.1.1, .int .i64 x.1.2.1, .int .i64 x.1.2.2.1, .int .i64 x.1.2.2.2.1, .int .i64 x.1.2.2.2.2.1, .int .i64 x.1.2.2.2.2.2.1, .int .u32 x.1.2.2.2.2.2.2], undef, undef, undef, undef, undef, undef, undef, undef, undef, undef, undef, undef, undef, undef, undef, undef, undef, undef, undef, undef, undef, undef, undef, undef, undef], defers := [] })
    (fun x a' u V V' row h hg hr => by
      obtain ⟨Bx, h2, h5⟩ := h
      refine ⟨Bx, h2.kept hg fun e' => ?_, h5⟩
      obtain ⟨_, o, ho, hf⟩ := hr Bx e'.symm
      rw [show V.heap[Bx]? = _ from h2] at ho
      cases ho
      cases hf) ?assign ?body ?done
  case assign =>
    intro F lp pre x V K hF hro hi hsz hK
    have e : ∀ A : Array Value, ((#[17] : Array Tmp).zip (lnArg x)).foldl (fun t (p, v) => t.setIfInBounds p v) A = A.setIfInBounds 17 (.agg #[.int .i64 x.1.1, .int .i64 x.1.2.1, .int .i64 x.1.2.2.1, .int .i64 x.1.2.2.2.1, .int .i64 x.1.2.2.2.2.1, .int .i64 x.1.2.2.2.2.2.1, .int .u32 x.1.2.2.2.2.2.2]) := fun A => by simp [lnArg]
    rw [e]
    clear e
    gi_wp2
    refine hK _ _ (KX.alloc hi.box.lt _) ⟨hi.row.alloc _, hi.box.alloc _, hi.below.alloc hi.below.size _⟩ ⟨_, Blk.new _ _ _, rfl⟩
  case body =>
    rintro F lp pre x a' V hF hro hi hsz ⟨Bx, hbx, rfl⟩ hlen
    obtain ⟨⟨sh, cl, k, st, ct, z, m⟩, hx⟩ := x
    have HLS : Hid ((0, 2) :: (pre ++ [(⟨(sh, cl, k, st, ct, z, m), hx⟩ : VLn)]).map (fun y => sgOf y.1) = ((0, 2) :: pre.map fun y => sgOf y.1) ++ [(st, ct)]) := by
      show _ = _
      rw [List.map_append]
      rfl
    obtain ⟨L', hL'⟩ := named ((0, 2) :: (pre ++ [(⟨(sh, cl, k, st, ct, z, m), hx⟩ : VLn)]).map (fun y => sgOf y.1))
    rw [hL'.out] at HLS ⊢
    obtain ⟨_, _, _, b1, b2, b3⟩ := hx
    dsimp only at b1 b2 b3 hbx ⊢
    have hbd : ∀ j, -1000000000 ≤ stepS ((0, 2) :: pre.map fun y => sgOf y.1) j ∧ stepS ((0, 2) :: pre.map fun y => sgOf y.1) j ≤ 1000000000 := fun j => by
      have := step_bound j ((0, 2) :: pre.map fun y => sgOf y.1)
      rw [List.length_cons, List.length_map] at this
      omega
    have HADD := Lib.hid (addSteps_any V _ n _ st ct hi.row hbd hn (by omega) (by omega))
    have HI := Lib.hid hi
    have x1 := hi.box.cell 0
    have y3 := hbx.cell 3
    have y4 := hbx.cell 4
    have hXlt := hi.box.lt
    have hfa : F.fn 30 := by rw [hF.out]; trivial
    clear hi hbd
    gi_wp2_with (gi_at_call 30; refine (CallsIn.inRound lp (callsW hF.out HADD.out)).mono ?_; rintro e V1 ⟨⟨v2, rfl⟩, hr1, hg1⟩)
    have ho := HI.out.ownX
    refine ⟨KX.grown hXlt hg1 (Or.inr ho.symm) (by simp) (fun k o e hk => ?_), ⟨?_, HI.out.box.kept hg1 (by simp), HI.out.below.grown hg1 HI.out.below.size (fun k e => by cases e; omega)⟩⟩
    · cases e
      obtain ⟨cs, hc, _⟩ := HI.out.row
      rw [show V.heap[w.heap.size + 1]? = _ from hc] at hk
      cases hk
      rfl
    · refine hr1.congr fun j _ => ?_
      rw [HLS.out, stepS_snoc]
  case done =>
    rintro D xs V hD hxs hi hK
    have hll : ∀ {α : Type} (g : Ln → α), xs.map (fun y => g y.1) = (allLines T (S.map shT)).map g := fun g => by
      rw [← HLI.out, ← hxs, List.map_map]
      rfl
    have hxl : xs.length ≤ 4096 * v.length := by
      have := congrArg List.length hxs
      rw [List.length_map] at this
      rw [this]
      exact linesOf_len v
    have hok : ∀ x ∈ ((0, 2) :: xs.map fun y => sgOf y.1 : List Sg), SgOk x := fun x hx => by
      rcases List.mem_cons.1 hx with rfl | hx
      · exact ⟨by decide, by decide⟩
      · obtain ⟨y, _, rfl⟩ := List.mem_map.1 hx
        obtain ⟨_, _, _, b1, b2, _⟩ := y.2
        exact ⟨by show 0 ≤ y.1.2.2.2.1; omega, by show 1 ≤ y.1.2.2.2.2.1; omega⟩
    have HOL : Hid (∀ j, cntS ((0, 2) :: xs.map fun y => sgOf y.1) j = ofL (allLines T (S.map shT)) j) := fun j => by
      unfold ofL
      rw [hll sgOf]
    have HC0 : Hid (cntS ((0, 2) :: xs.map fun y => sgOf y.1) 0 = stepS ((0, 2) :: xs.map fun y => sgOf y.1) 0) := cnt_zero _ hok
    have HCS : Hid (∀ k, cntS ((0, 2) :: xs.map fun y => sgOf y.1) (k + 1) = cntS ((0, 2) :: xs.map fun y => sgOf y.1) k + stepS ((0, 2) :: xs.map fun y => sgOf y.1) (k + 1)) := fun k => cnt_succ k _ hok
    have HBD : Hid (∀ j, (0 ≤ cntS ((0, 2) :: xs.map fun y => sgOf y.1) j ∧ cntS ((0, 2) :: xs.map fun y => sgOf y.1) j ≤ 1000000000) ∧ -1000000000 ≤ stepS ((0, 2) :: xs.map fun y => sgOf y.1) j ∧ stepS ((0, 2) :: xs.map fun y => sgOf y.1) j ≤ 1000000000) := fun j => by
      have h1 := cnt_bound j ((0, 2) :: xs.map fun y => sgOf y.1)
      have h2 := step_bound j ((0, 2) :: xs.map fun y => sgOf y.1)
      rw [List.length_cons, List.length_map] at h1 h2
      omega
    obtain ⟨L, hL⟩ := named ((0, 2) :: xs.map fun y => sgOf y.1)
    rw [hL.out] at HOL HC0 HCS HBD hi
    have HR := Lib.hid hi.row
    have HX := Lib.hid hi.box
    have HBB := Lib.hid hi.below
    have HK := Lib.hid hK
    clear hok hll hL hxl hxs hi hK
    go_wp2
    go_loopw [7] (fun i wr => ∃ j : Nat, 1 ≤ j ∧ (j ≤ n ∨ j = 1) ∧ i = .int .i64 j ∧ Hid (IRow wr (w.heap.size + 1) n (fun q => if q < j then cntS L q else stepS L q)) ∧ Hid (Blk wr (w.heap.size + 1 + 1) 27 #[.slice (some ⟨w.heap.size + 1, 0, none⟩) n n]) ∧ Hid (Below w.heap.size w wr) ∧ Hid (wr.heap[D]? = some (.deferred (some []))))
      (fun i _ => n - (intOf i).toNat)
    case atStart =>
      refine ⟨1, Nat.le_refl _, Or.inr rfl, rfl, HR.out.congr fun q _ => ?_, HX.out, HBB.out, HK.out⟩
      by_cases h0 : q = 0
      · subst h0
        rw [if_pos (by omega)]
        exact HC0.out.symm
      · rw [if_neg (by omega)]
    case round =>
      obtain ⟨j, hj1, hj2, rfl, HRj, HXj, HBj, HKj⟩ := hrel
      have x1 : wr.cell? ⟨w.heap.size + 1 + 1, 0, none⟩ = some (.slice (some ⟨w.heap.size + 1, 0, none⟩) n n) := HXj.out.cell 0
      by_cases hlt : j < n
      · obtain ⟨K, hKj⟩ : ∃ K, Hid (K + 1 = j) := ⟨j - 1, by show j - 1 + 1 = j; omega⟩
        have hKn : K < n := by have := hKj.out; omega
        have e1 : IntKind.i64.wrap ((j : Int) - 1) = (K : Int) := by have := hKj.out; rw [IntKind.wrap_i64] <;> omega
        have c1 := HRj.out.cell hlt
        have c2 := HRj.out.cell hKn
        have f1 := HRj.out.free j
        rw [if_neg (Nat.lt_irrefl j)] at c1
        rw [if_pos (by have := hKj.out; omega)] at c2
        have hb1 := (HBD.out j).2
        have hb2 := (HBD.out K).1
        have hrl := HRj.out.lt
        have HN : Hid (cntS L j = stepS L j + cntS L K) := by
          have := HCS.out K
          rw [hKj.out] at this
          show _ = _
          omega
        have HSET := Lib.hid (fun x => HRj.out.set hlt x)
        obtain ⟨s1, hs1⟩ := named (stepS L j)
        obtain ⟨s2, hs2⟩ := named (cntS L K)
        rw [hs1.out] at c1 hb1 HN
        rw [hs2.out] at c2 hb2 HN
        have e2 : IntKind.i64.wrap (s1 + s2) = s1 + s2 := by rw [IntKind.wrap_i64] <;> omega
        have e2' : wrap64 (s1 + s2) = s1 + s2 := by unfold wrap64; omega
        go_wp2
        go_region
        all_goals go_wp2
        refine ⟨⟨j + 1, by omega, by omega, by go_num, (HSET.out (s1 + s2)).congr fun q _ => ?_, HXj.out.other (by omega) _, (HBj.out.setCell (p := ⟨w.heap.size + 1, j, none⟩) (by show w.heap.size ≤ w.heap.size + 1; omega) _).drew, ?_⟩, by simp [intOf]; omega⟩
        · have h1 := HN.out
          by_cases x1 : q = j
          · subst x1
            rw [if_pos rfl, if_pos (by omega), h1]
          · rw [if_neg x1]
            by_cases x2 : q < j
            · rw [if_pos x2, if_pos (by omega)]
            · rw [if_neg x2, if_neg (by omega)]
        · exact (Below.heap_setCell _ _ _ _ (by show D ≠ w.heap.size + 1; omega)).trans HKj.out
      · go_wp2
        refine ⟨by simp, .inl ⟨_, _, rfl, run_takeDeferred HKj.out, ?_⟩⟩
        exact ⟨_, results_tmp rfl _ _ _, w.heap.size + 1, rfl, by omega,
          IRow.ownI (β := Unit) 0 (w.heap.size + 1) n (fun _ => ofL (allLines T (S.map shT))) () wr _ (some D) (HRj.out.congr fun q hq => by rw [if_pos (by omega)]; exact HOL.out q) (grownBy_putObj' wr D (.deferred none)) (fun r e => by cases e; exact ⟨Nat.zero_le _, _, HKj.out, rfl⟩),
          HBj.out.trans (belowK_b (w := w) (Nat.le_refl _) wr D _ _ (by omega) HKj.out rfl rfl)⟩
end Go.Proofs.Ytidknkhkblloaaa
