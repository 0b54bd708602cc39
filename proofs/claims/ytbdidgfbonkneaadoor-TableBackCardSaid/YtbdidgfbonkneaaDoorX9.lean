/-
  The tables that the laws make of places and kinds (layer 8). Conditions: the numbers are of 16 bits.
-/
import Derived.Test.YtbdidgfbonkneaaDoorW9
import Derived.Test.YtbdidgfbonkneaaDoorT9
namespace Go.Proofs.YtbdidgfbonkneaaDoor
open Go.RowKit
set_option linter.unusedVariables false

/-- A slice of numbers of 16 bits reads. -/
def R16 (w : World) (a : Option Addr) (len : Nat) (zs : Nat → Nat) : Prop := ∀ i, i < len → ∃ b off, a = some ⟨b, off, none⟩ ∧ b < w.heap.size ∧ w.cell? ⟨b, off + i, none⟩ = some (.int .u16 (zs i)) ∧ zs i < 65536
theorem R16.later {w w' : World} {a : Option Addr} {len : Nat} {zs : Nat → Nat} (h : R16 w a len zs) (hb : Below w.heap.size w w') : R16 w' a len zs := fun i hi => by
  obtain ⟨b, off, h1, h2, h3, h4⟩ := h i hi
  exact ⟨b, off, h1, Nat.lt_of_lt_of_le h2 hb.size, (hb.cell (p := ⟨b, off + i, none⟩) h2).trans h3, h4⟩
theorem r16_of {w : World} {a : Option Addr} {len cap : Nat} {zs : List Int}
    (h : (a = none ∧ len = 0 ∧ cap = 0 ∧ zs = []) ∨ ∃ x, a = some x ∧ len ≤ cap ∧ cap ≤ maxLen ∧ zs.length = cap ∧ (∀ i, i < zs.length → w.cell? (x.add i) = some (.int .u16 (zs.getD i 0))) ∧ ∀ n ∈ zs, (Lit.int .u16 n).wf = true) :
    R16 w a len (fun i => (zs.getD i 0).toNat) ∧ len ≤ maxLen := by
  rcases h with ⟨rfl, rfl, rfl, rfl⟩ | ⟨x, rfl, h1, h2, h3, h4, h5⟩
  · exact ⟨fun i hi => by omega, Nat.zero_le _⟩
  · refine ⟨fun i hi => ?_, Nat.le_trans h1 h2⟩
    obtain ⟨b, off, spot⟩ := x
    have hc := h4 0 (by omega)
    have hspot : spot = none := by simpa [Addr.add] using World.cell?_spot hc
    subst hspot
    have hi' : i < zs.length := by omega
    have hci := h4 i hi'
    rw [add_none] at hci
    have hm : zs.getD i 0 ∈ zs := by rw [List.getD_eq_getElem?_getD, List.getElem?_eq_getElem hi']; exact List.getElem_mem _
    have hw := h5 _ hm
    obtain ⟨v, hv⟩ := named (zs.getD i 0)
    rw [hv.out] at hci hw
    have hb := bounds_u16 hw
    refine ⟨b, off, rfl, block_lt_of_cell hc, ?_, ?_⟩
    · rw [hci]
      show some (Value.int .u16 v) = some (.int .u16 (((zs.getD i 0).toNat : Nat) : Int))
      rw [hv.out, Int.toNat_of_nonneg (by omega)]
    · show (zs.getD i 0).toNat < 65536
      rw [hv.out]
      omega
def enM (v : Nat) : En := if v % 3 = 0 then (2, ((2 + v % 900 : Nat) : Int), 4, 0, (v : Int)) else (1, 0, 0, 0, 0)
noncomputable def madeT (zs : Nat → Nat) : Nat → Tb
  | 0 => []
  | i + 1 => setT (madeT zs i) ((zs i % 300 : Nat) : Int) (enM (zs i))
theorem enM_may {v : Nat} (hv : v < 65536) : MayE (enM v) 2 ∧ EnOk (enM v) := by
  unfold enM
  by_cases h : v % 3 = 0
  · rw [if_pos h]
    have e4 : (2 : Int) ^ (2 : Int).toNat = 4 := by decide
    refine ⟨⟨by omega, Or.inr (Or.inl ?_)⟩, ?_⟩
    · dsimp only
      rw [e4]
      omega
    · unfold EnOk I64
      dsimp only
      omega
  · rw [if_neg h]
    refine ⟨⟨by omega, Or.inl ⟨Or.inr rfl, rfl, rfl, rfl, rfl⟩⟩, ?_⟩
    unfold EnOk I64
    dsimp only
    omega
theorem madeT_right {zs : Nat → Nat} : ∀ n, (∀ i, i < n → zs i < 65536) → rightT (madeT zs n) 4096 2
  | 0, _ => right_nil (by omega)
  | n + 1, h => (setT_at (madeT_right n fun i hi => h i (by omega)) (enM_may (h n (by omega))).1 (i := ((zs n % 300 : Nat) : Int)) (by omega)).1
theorem madeT_at {zs : Nat → Nat} (n : Nat) (h : ∀ i, i < n + 1 → zs i < 65536) (j : Nat) : atN (madeT zs (n + 1)) j = if j = zs n % 300 then enM (zs n) else atN (madeT zs n) j := by
  have := (setT_at (madeT_right n fun i hi => h i (by omega)) (enM_may (h n (by omega))).1 (i := ((zs n % 300 : Nat) : Int)) (by omega)).2 j
  rw [Int.toNat_natCast] at this
  exact this
/-- What a round of made holds. -/
def MkS (X E : Nat) (r : Value) (e1 e2 e3 e4 e5 : Int) (w0 W : World) : Prop := BoxB X X (.slice none 0 0) r w0 W ∧ Blk W E 47 #[.int .i64 e1, .int .i64 e2, .int .i64 e3, .int .i64 e4, .int .u32 e5] ∧ X + 1 < E
theorem MkS.later {X E : Nat} {r : Value} {e1 e2 e3 e4 e5 : Int} {w0 W W' : World} (h : MkS X E r e1 e2 e3 e4 e5 w0 W) (hb : Below W.heap.size W W') : MkS X E r e1 e2 e3 e4 e5 w0 W' := ⟨h.1.later hb, h.2.1.later hb, h.2.2⟩
theorem MkS.put {X E : Nat} {r : Value} {e1 e2 e3 e4 e5 : Int} {w0 W : World} (h : MkS X E r e1 e2 e3 e4 e5 w0 W) (v : Value) : MkS X E v e1 e2 e3 e4 e5 w0 (W.setCell ⟨X + 1, 0, none⟩ v) := ⟨h.1.res v, h.2.1.other (by have := h.2.2; omega) _, h.2.2⟩
theorem grown_row9 (w : World) (g : Nat) (cs : Array Value) : w.grownBy (w.setRow g cs) (some g) := ⟨rfl, rfl, rfl, by simp [World.setRow], fun k _ hk => setRow_other w g k _ (fun e => hk (by rw [e]))⟩
theorem below_row9 {B g : Nat} {a W : World} (h : Below B a W) (hg : B ≤ g) (hs : B ≤ W.heap.size) (cs : Array Value) : Below B a (W.setRow g cs) := h.grown (grown_row9 W g cs) hs (fun k hk => by cases hk; exact hg)
theorem MkS.turn {X E : Nat} {r : Value} {e1 e2 e3 e4 e5 : Int} {w0 W : World} (h : MkS X E r e1 e2 e3 e4 e5 w0 W) (f1 f2 f3 f4 f5 : Int) (cs : Array Value) (hcs : cs = #[.int .i64 f1, .int .i64 f2, .int .i64 f3, .int .i64 f4, .int .u32 f5]) : MkS X E r f1 f2 f3 f4 f5 w0 (W.setRow E cs) := by
  obtain ⟨⟨h1, h2, h3, h4⟩, h5, h6⟩ := h
  subst hcs
  exact ⟨⟨(setRow_other _ _ _ _ (by omega)).trans h1, (setRow_other _ _ _ _ (by omega)).trans h2, below_row9 h3 (by omega) (by have := h1.lt; omega) _, h4⟩, setRow_heap _ _ _ _ _ _ h5, h6⟩
theorem MkS.S {X E : Nat} {r : Value} {e1 e2 e3 e4 e5 : Int} {w0 W : World} (h : MkS X E r e1 e2 e3 e4 e5 w0 W) {b o : Nat} {u : Value} (hX : w0.heap.size = X) (hb : b < w0.heap.size) (hc : w0.cell? ⟨b, o, none⟩ = some u) : W.cell? ⟨b, o, none⟩ = some u ∧ W.cell? ⟨E, 0, none⟩ = some (.int .i64 e1) ∧ W.cell? ⟨E, 1, none⟩ = some (.int .i64 e2) ∧ W.cell? ⟨E, 2, none⟩ = some (.int .i64 e3) ∧ W.cell? ⟨E, 3, none⟩ = some (.int .i64 e4) ∧ W.cell? ⟨E, 4, none⟩ = some (.int .u32 e5) :=
  ⟨(h.1.below.cell (p := ⟨b, o, none⟩) (by rw [← hX]; exact hb)).trans hc, cells5 h.2.1⟩
set_option maxRecDepth 100000 in
set_option maxHeartbeats 3200000 in
theorem made9 (w : World) (a : Option Addr) (len cap : Nat) (zs : Nat → Nat) (h : R16 w a len zs) (hlen : len ≤ maxLen) : Calls Tryd.prog 14 #[.slice a len cap] w fun e w' => ∃ (a' : Option Addr) (l' c' : Nat), e = .returned (.agg #[.slice a' l' c']) ∧ TabN w' w.heap.size a' l' c' (madeT zs (min len 60)) ∧ Below w.heap.size w w' := by
  have HZ := Lib.hid h
  have hl := hlen
  unfold maxLen at hl
  obtain ⟨X, hX⟩ := named w.heap.size
  have hXX := hX.out
  rw [hX.out]
  clear h hlen
  go_enter Tryd.func14, Tryd.ntmps14
  go_wp2
  have HB0 : Hid (BoxB X X (.slice none 0 0) (.slice none 0 0) w ((w.alloc (.cells #[.slice none 0 0] 24)).alloc (.cells #[.slice none 0 0] 24))) := by
    rw [← hX.out]
    exact BoxB.first w _ (Nat.le_refl _) _ _
  go_loopw [4] (fun i wr => ∃ (j : Nat) (a' : Option Addr) (l' c' : Nat), i = .int .i64 j ∧ j ≤ min len 60 ∧ Hid (BoxB X X (.slice none 0 0) (.slice a' l' c') w wr) ∧ Hid (TabN wr X a' l' c' (madeT zs j))) (fun i _ => min len 60 - (intOf i).toNat)
  case atStart => exact ⟨0, none, 0, 0, rfl, Nat.zero_le _, HB0.out, TabN.first _ _⟩
  case round =>
    obtain ⟨j, a', l', c', rfl, hj, HB, HN⟩ := hrel
    have b1 := one_cell9 HB.out.1
    have b1f := HB.out.1.free 0
    have b2 := one_cell9 HB.out.2.1
    by_cases hlt : j < min len 60
    · obtain ⟨b, off, rfl, hb, hc, hv⟩ := HZ.out j (by omega)
      have hjl : j < len := by omega
      have hj60 : j < 60 := by omega
      obtain ⟨v, hvn⟩ := named (zs j)
      have hmT : madeT zs (j + 1) = setT (madeT zs j) ((v % 300 : Nat) : Int) (enM v) := by rw [← hvn.out]; rfl
      obtain ⟨hme, hoe⟩ := enM_may (v := v) (by rw [← hvn.out]; exact hv)
      rw [hvn.out] at hc hv
      have hr3 : (v : Int) % 300 = ((v % 300 : Nat) : Int) := by omega
      have hSZ : X + 1 < wr.heap.size := HB.out.2.1.lt
      obtain ⟨wa, hwa0⟩ : ∃ wa, wr.alloc (.cells #[.int .i64 1, .int .i64 0, .int .i64 0, .int .i64 0, .int .u32 0] 47) = wa := ⟨_, rfl⟩
      have HWA := Lib.hid hwa0
      clear hwa0
      have hMA : MkS X wr.heap.size (.slice a' l' c') 1 0 0 0 0 w wa := by
        rw [← HWA.out]
        exact ⟨HB.out.alloc _, Blk.new _ _ _, hSZ⟩
      have hNA : TabN wa X a' l' c' (madeT zs j) := by
        rw [← HWA.out]
        exact HN.out.later ((Below.refl _ _).alloc (Nat.le_refl _) _)
      have HSC : Hid (∀ r e1 e2 e3 e4 e5 W, MkS X wr.heap.size r e1 e2 e3 e4 e5 w W → W.cell? ⟨b, off + j, none⟩ = some (.int .u16 v) ∧ W.cell? ⟨wr.heap.size, 0, none⟩ = some (.int .i64 e1) ∧ W.cell? ⟨wr.heap.size, 1, none⟩ = some (.int .i64 e2) ∧ W.cell? ⟨wr.heap.size, 2, none⟩ = some (.int .i64 e3) ∧ W.cell? ⟨wr.heap.size, 3, none⟩ = some (.int .i64 e4) ∧ W.cell? ⟨wr.heap.size, 4, none⟩ = some (.int .u32 e5)) := fun r e1 e2 e3 e4 e5 W h => h.S hX.out hb hc
      have sa : (wr.alloc (.cells #[.int .i64 1, .int .i64 0, .int .i64 0, .int .i64 0, .int .u32 0] 47)).cell? ⟨b, off + j, none⟩ = some (.int .u16 v) := by rw [HWA.out]; exact (HSC.out _ _ _ _ _ _ _ hMA).1
      obtain ⟨RM, hRM⟩ := named (v % 300)
      rw [hRM.out] at hmT hr3
      have htm : (v : Int).tmod 300 = (RM : Int) := by rw [Int.tmod_eq_emod_of_nonneg (by omega)]; exact hr3
      have hRM3 : RM < 300 := by rw [← hRM.out]; omega
      have wv : IntKind.i64.wrap (v : Int) = v := by rw [IntKind.wrap_i64]; omega
      have wu : IntKind.u32.wrap (v : Int) = v := by rw [IntKind.wrap_u32]; omega
      by_cases h3 : v % 3 = 0
      · have hen : enM v = (2, ((2 + v % 900 : Nat) : Int), 4, 0, (v : Int)) := by unfold enM; rw [if_pos h3]
        rw [hen] at hmT hoe
        have hv3 : ((v : Int) % 3 == 0) = true := by simp; omega
        obtain ⟨N9, hN9⟩ := named (v % 900)
        have e9t : (v : Int).tmod 900 = (N9 : Int) := by rw [Int.tmod_eq_emod_of_nonneg (by omega), ← hN9.out]; omega
        have e9 : IntKind.i64.wrap (2 + (N9 : Int)) = ((2 + v % 900 : Nat) : Int) := by rw [IntKind.wrap_i64, ← hN9.out]; omega
        obtain ⟨Q9, hQ9⟩ := named ((2 + v % 900 : Nat) : Int)
        rw [hQ9.out] at hmT hoe e9
        have HS := Lib.hid (fun w h => refSet9 w a' l' c' (madeT zs j) (RM : Int) 2 Q9 4 0 v h (by unfold I64; omega) hoe)
        rw [← hmT] at HS
        have HMD := Lib.hid (hMA.later (Below.refl _ _).drew)
        have HND := Lib.hid (hNA.later (Below.refl _ _).drew)
        clear hen hme
        go_wp2
        rw [HWA.out]
        clear sa hMA hNA
        refine wp_region_held_drew (S := fun w' => w'.cell? ⟨b, off + j, none⟩ = some (.int .u16 v)) (by kernel_rfl) (by first | exact (HSC.out _ _ _ _ _ _ _ HMT.out).1 | exact (HSC.out _ _ _ _ _ _ _ HMD.out).1) (fun hHeld => ?_)
        refine wpAnyH_take (i := 0) (oi := _) (v := ?vo0) rfl (by kernel_rfl) (by kernel_rfl) (by kernel_rfl) (fun _ _ _ h => h) (Or.inl ⟨by rfl, ?hyo0⟩) (by assumption) ?resto0
        case hyo0 => (intro wz hSw; (try dsimp only at hSw); go_simp; try with_reducible rfl)
        (try simp only [List.getElem_toArray, List.getElem_cons_zero, Act.put, List.setIfInBounds_toArray, List.set_cons_zero, List.set_cons_succ])
        refine wpAnyH_take (i := 1) (oi := _) (v := ?vo1) rfl (by kernel_rfl) (by kernel_rfl) (by kernel_rfl) (fun _ _ _ h => h) (Or.inl ⟨by rfl, ?hyo1⟩) (by assumption) ?resto1
        case hyo1 => (intro wz hSw; (try dsimp only at hSw); go_simp; try with_reducible rfl)
        (try simp only [List.getElem_toArray, List.getElem_cons_zero, List.getElem_cons_succ, Act.put, List.setIfInBounds_toArray, List.set_cons_zero, List.set_cons_succ])
        refine wpAnyH_take (i := 2) (oi := _) (v := ?vo2) rfl (by kernel_rfl) (by kernel_rfl) (by kernel_rfl) (fun _ _ _ h => h) (Or.inl ⟨by rfl, ?hyo2⟩) (by assumption) ?resto2
        case hyo2 => (intro wz hSw; (try dsimp only at hSw); go_simp; try with_reducible rfl)
        (try simp only [List.getElem_toArray, List.getElem_cons_zero, List.getElem_cons_succ, Act.put, List.setIfInBounds_toArray, List.set_cons_zero, List.set_cons_succ])
        refine wpAnyH_take (i := 3) (oi := _) (v := ?vo3) rfl (by kernel_rfl) (by kernel_rfl) (by kernel_rfl) (fun _ _ _ h => h) (Or.inl ⟨by rfl, ?hyo3⟩) (by assumption) ?resto3
        case hyo3 => (intro wz hSw; (try dsimp only at hSw); go_simp; try with_reducible rfl)
        (try simp only [List.getElem_toArray, List.getElem_cons_zero, List.getElem_cons_succ, Act.put, List.setIfInBounds_toArray, List.set_cons_zero, List.set_cons_succ])
        refine wpAnyH_take (i := 4) (oi := _) (v := ?vo4) rfl (by kernel_rfl) (by kernel_rfl) (by kernel_rfl) (fun _ _ _ h => h) (Or.inl ⟨by rfl, ?hyo4⟩) (by assumption) ?resto4
        case hyo4 => (intro wz hSw; (try dsimp only at hSw); go_simp; try with_reducible rfl)
        (try simp only [List.getElem_toArray, List.getElem_cons_zero, List.getElem_cons_succ, Act.put, List.setIfInBounds_toArray, List.set_cons_zero, List.set_cons_succ])
        refine wpAnyH_take (i := 5) (oi := _) (v := ?vo5) rfl (by kernel_rfl) (by kernel_rfl) (by kernel_rfl) (fun _ _ _ h => h) (Or.inl ⟨by rfl, ?hyo5⟩) (by assumption) ?resto5
        case hyo5 => (intro wz hSw; (try dsimp only at hSw); go_simp; try with_reducible rfl)
        (try simp only [List.getElem_toArray, List.getElem_cons_zero, List.getElem_cons_succ, Act.put, List.setIfInBounds_toArray, List.set_cons_zero, List.set_cons_succ])
        refine wpAnyH_take (i := 6) (oi := _) (v := ?vo6) rfl (by kernel_rfl) (by kernel_rfl) (by kernel_rfl) (fun _ _ _ h => h) (Or.inl ⟨by rfl, ?hyo6⟩) (by assumption) ?resto6
        case hyo6 => (intro wz hSw; (try dsimp only at hSw); go_simp; try with_reducible rfl)
        (try simp only [List.getElem_toArray, List.getElem_cons_zero, List.getElem_cons_succ, Act.put, List.setIfInBounds_toArray, List.set_cons_zero, List.set_cons_succ])
        refine wpAnyH_take (i := 7) (oi := _) (v := ?vo7) rfl (by kernel_rfl) (by kernel_rfl) (by kernel_rfl) (fun _ _ _ h => h) (Or.inl ⟨by rfl, ?hyo7⟩) (by assumption) ?resto7
        case hyo7 => (intro wz hSw; (try dsimp only at hSw); go_simp; try with_reducible rfl)
        (try simp only [List.getElem_toArray, List.getElem_cons_zero, List.getElem_cons_succ, Act.put, List.setIfInBounds_toArray, List.set_cons_zero, List.set_cons_succ])
        refine wpAnyH_take (i := 8) (oi := _) (v := ?vo8) rfl (by kernel_rfl) (by kernel_rfl) (by kernel_rfl) (fun _ _ _ h => h) (Or.inl ⟨by rfl, ?hyo8⟩) (by assumption) ?resto8
        case hyo8 => (intro wz hSw; (try dsimp only at hSw); go_simp; try with_reducible rfl)
        (try simp only [List.getElem_toArray, List.getElem_cons_zero, List.getElem_cons_succ, Act.put, List.setIfInBounds_toArray, List.set_cons_zero, List.set_cons_succ])
        refine wpAnyH_take (i := 9) (oi := _) (v := ?vo9) rfl (by kernel_rfl) (by kernel_rfl) (by kernel_rfl) (fun _ _ _ h => h) (Or.inl ⟨by rfl, ?hyo9⟩) (by assumption) ?resto9
        case hyo9 => (intro wz hSw; (try dsimp only at hSw); go_simp; try with_reducible rfl)
        (try simp only [List.getElem_toArray, List.getElem_cons_zero, List.getElem_cons_succ, Act.put, List.setIfInBounds_toArray, List.set_cons_zero, List.set_cons_succ])
        refine wpAnyH_take (i := 10) (oi := _) (v := ?vo10) rfl (by kernel_rfl) (by kernel_rfl) (by kernel_rfl) (fun _ _ _ h => h) (Or.inl ⟨by rfl, ?hyo10⟩) (by assumption) ?resto10
        case hyo10 => (intro wz hSw; (try dsimp only at hSw); go_simp; try with_reducible rfl)
        (try simp only [List.getElem_toArray, List.getElem_cons_zero, List.getElem_cons_succ, Act.put, List.setIfInBounds_toArray, List.set_cons_zero, List.set_cons_succ])
        refine wpAnyH_take (i := 11) (oi := _) (v := ?vo11) rfl (by kernel_rfl) (by kernel_rfl) (by kernel_rfl) (fun _ _ _ h => h) (Or.inl ⟨by rfl, ?hyo11⟩) (by assumption) ?resto11
        case hyo11 => (intro wz hSw; (try dsimp only at hSw); go_simp; try with_reducible rfl)
        (try simp only [List.getElem_toArray, List.getElem_cons_zero, List.getElem_cons_succ, Act.put, List.setIfInBounds_toArray, List.set_cons_zero, List.set_cons_succ])
        refine wpAnyH_take (i := 12) (oi := _) (v := ?vo12) rfl (by kernel_rfl) (by kernel_rfl) (by kernel_rfl) (fun _ _ _ h => h) (Or.inl ⟨by rfl, ?hyo12⟩) (by assumption) ?resto12
        case hyo12 => (intro wz hSw; (try dsimp only at hSw); go_simp; try with_reducible rfl)
        (try simp only [List.getElem_toArray, List.getElem_cons_zero, List.getElem_cons_succ, Act.put, List.setIfInBounds_toArray, List.set_cons_zero, List.set_cons_succ])
        refine wpAnyH_ready (rs := [13]) (by kernel_rfl) (by simp) ?_
        refine AllReadyH.cons (o := _) rfl (fun K hK => ?_) AllReadyH.nil
        rw [if_pos (by rfl)]
        refine wp_store_in9 (.tmp 5) (.tmp 35) rfl wr.heap.size 0 _ (enV (2, Q9, 4, 0, (v : Int))).toArray rfl rfl HMD.out.2.1 entry_size (by show 0 + 5 ≤ 5; omega) (enV_one _) ?_
        obtain ⟨w2, hw2⟩ : ∃ w2, World.setRow wa.drew wr.heap.size ((#[Value.int .i64 1, .int .i64 0, .int .i64 0, .int .i64 0, .int .u32 0] : Array Value).toList.take 0 ++ (enV (2, Q9, 4, 0, (v : Int))).toArray.toList ++ (#[Value.int .i64 1, .int .i64 0, .int .i64 0, .int .i64 0, .int .u32 0] : Array Value).toList.drop (0 + (enV (2, Q9, 4, 0, (v : Int))).toArray.toList.length)).toArray = w2 := ⟨_, rfl⟩
        have HMT : Hid (MkS X wr.heap.size (.slice a' l' c') 2 Q9 4 0 v w w2) := by rw [← hw2]; exact HMD.out.turn 2 Q9 4 0 (v : Int) _ rfl
        have HNT : Hid (TabN w2 X a' l' c' (madeT zs j)) := by rw [← hw2, ← HWA.out]; exact HN.out.later (below_row9 ((Below.refl _ _).alloc (Nat.le_refl _) _).drew (Nat.le_refl _) (by show _ ≤ (World.alloc _ _).heap.size; rw [World.size_alloc]; omega) _)
        rw [hw2]
        (try dsimp only)
        refine hK.out _ _ (by first | exact (HSC.out _ _ _ _ _ _ _ HMT.out).1 | exact (HSC.out _ _ _ _ _ _ _ HMD.out).1) (fun hHeld => ?_)
        clear hK K
        (try simp only [List.getElem_toArray, List.getElem_cons_zero, List.getElem_cons_succ, Act.put])
        refine wpAnyH_done (by kernel_rfl) ?_ _
        have HTB := Lib.hid (HNT.out.later (Below.refl _ _).drew).tab
        have HM1 := Lib.hid (HMT.out.later (Below.refl _ _).drew)
        have t1 := one_cell9 HM1.out.1.2.1
        go_wp2
        refine wp_region_held_drew (S := fun w' => w'.cell? ⟨b, off + j, none⟩ = some (.int .u16 v) ∧ w'.cell? ⟨wr.heap.size, 0, none⟩ = some (.int .i64 2) ∧ w'.cell? ⟨wr.heap.size, 1, none⟩ = some (.int .i64 Q9) ∧ w'.cell? ⟨wr.heap.size, 2, none⟩ = some (.int .i64 4) ∧ w'.cell? ⟨wr.heap.size, 3, none⟩ = some (.int .i64 0) ∧ w'.cell? ⟨wr.heap.size, 4, none⟩ = some (.int .u32 v)) (by kernel_rfl) (by first | exact HSC.out _ _ _ _ _ _ _ HM5.out | exact HSC.out _ _ _ _ _ _ _ HM4.out | exact HSC.out _ _ _ _ _ _ _ HM1.out) (fun hHeld => ?_)
        refine wpAnyH_take (i := 1) (oi := _) (v := ?vp1) rfl (by kernel_rfl) (by kernel_rfl) (by kernel_rfl) (fun _ _ _ h => h) (Or.inl ⟨by rfl, ?hyp1⟩) (by assumption) ?restp1
        case hyp1 => (intro wz hSw; (try dsimp only at hSw); go_simp; try with_reducible rfl)
        (try simp only [List.getElem_toArray, List.getElem_cons_zero, List.getElem_cons_succ, Act.put, List.setIfInBounds_toArray, List.set_cons_zero, List.set_cons_succ])
        refine wpAnyH_take (i := 2) (oi := _) (v := ?vp2) rfl (by kernel_rfl) (by kernel_rfl) (by kernel_rfl) (fun _ _ _ h => h) (Or.inl ⟨by rfl, ?hyp2⟩) (by assumption) ?restp2
        case hyp2 => (intro wz hSw; (try dsimp only at hSw); go_simp; try with_reducible rfl)
        (try simp only [List.getElem_toArray, List.getElem_cons_zero, List.getElem_cons_succ, Act.put, List.setIfInBounds_toArray, List.set_cons_zero, List.set_cons_succ])
        refine wpAnyH_take (i := 3) (oi := _) (v := ?vp3) rfl (by kernel_rfl) (by kernel_rfl) (by kernel_rfl) (fun _ _ _ h => h) (Or.inl ⟨by rfl, ?hyp3⟩) (by assumption) ?restp3
        case hyp3 => (intro wz hSw; (try dsimp only at hSw); go_simp; try with_reducible rfl)
        (try simp only [List.getElem_toArray, List.getElem_cons_zero, List.getElem_cons_succ, Act.put, List.setIfInBounds_toArray, List.set_cons_zero, List.set_cons_succ])
        refine wpAnyH_take (i := 4) (oi := _) (v := ?vp4) rfl (by kernel_rfl) (by kernel_rfl) (by kernel_rfl) (fun _ _ _ h => h) (Or.inl ⟨by rfl, ?hyp4⟩) (by assumption) ?restp4
        case hyp4 => (intro wz hSw; (try dsimp only at hSw); go_simp; try with_reducible rfl)
        (try simp only [List.getElem_toArray, List.getElem_cons_zero, List.getElem_cons_succ, Act.put, List.setIfInBounds_toArray, List.set_cons_zero, List.set_cons_succ])
        refine wpAnyH_take (i := 5) (oi := _) (v := ?vp5) rfl (by kernel_rfl) (by kernel_rfl) (by kernel_rfl) (fun _ _ _ h => h) (Or.inl ⟨by rfl, ?hyp5⟩) (by assumption) ?restp5
        case hyp5 => (intro wz hSw; (try dsimp only at hSw); go_simp; try with_reducible rfl)
        (try simp only [List.getElem_toArray, List.getElem_cons_zero, List.getElem_cons_succ, Act.put, List.setIfInBounds_toArray, List.set_cons_zero, List.set_cons_succ])
        refine wpAnyH_take (i := 6) (oi := _) (v := ?vp6) rfl (by kernel_rfl) (by kernel_rfl) (by kernel_rfl) (fun _ _ _ h => h) (Or.inl ⟨by rfl, ?hyp6⟩) (by assumption) ?restp6
        case hyp6 => (intro wz hSw; (try dsimp only at hSw); go_simp; try with_reducible rfl)
        (try simp only [List.getElem_toArray, List.getElem_cons_zero, List.getElem_cons_succ, Act.put, List.setIfInBounds_toArray, List.set_cons_zero, List.set_cons_succ])
        refine wpAnyH_take (i := 7) (oi := _) (v := ?vp7) rfl (by kernel_rfl) (by kernel_rfl) (by kernel_rfl) (fun _ _ _ h => h) (Or.inl ⟨by rfl, ?hyp7⟩) (by assumption) ?restp7
        case hyp7 => (intro wz hSw; (try dsimp only at hSw); go_simp; try with_reducible rfl)
        (try simp only [List.getElem_toArray, List.getElem_cons_zero, List.getElem_cons_succ, Act.put, List.setIfInBounds_toArray, List.set_cons_zero, List.set_cons_succ])
        refine wpAnyH_ready (rs := [0]) (by kernel_rfl) (by simp) ?_
        refine AllReadyH.cons (o := _) rfl (fun K hK => ?_) AllReadyH.nil
        rw [if_pos (by rfl)]
        go_simp
        refine hK.out _ _ (by first | exact HSC.out _ _ _ _ _ _ _ HM5.out | exact HSC.out _ _ _ _ _ _ _ HM4.out | exact HSC.out _ _ _ _ _ _ _ HM1.out) (fun hHeld => ?_)
        clear hK K
        (try simp only [List.getElem_toArray, List.getElem_cons_zero, List.getElem_cons_succ, Act.put, List.setIfInBounds_toArray, List.set_cons_zero, List.set_cons_succ])
        refine wpAnyH_ready (rs := [8]) (by kernel_rfl) (by simp) ?_
        refine AllReadyH.cons (o := _) rfl (fun K hK => ?_) AllReadyH.nil
        rw [if_pos (by rfl)]
        go_simp
        (go_at_call 31; refine (HS.out _ HTB.out).mono ?_; rintro e w3 ⟨a3, l3, c3, rfl, g1, g2⟩; have HM4 := Lib.hid (HM1.out.later g2); have HM5 := Lib.hid ((HM1.out.later g2).put (.slice a3 l3 c3)); have HN5 := Lib.hid ((g1.mono (base' := X) (by have := HM1.out.1.1.lt; omega)).box (HM1.out.later g2).1.2.1 (grownBy_setCell4 w3 (X + 1) 0 (.slice a3 l3 c3))); have z4 := one_cell9 (HM1.out.later g2).1.2.1; have z5 := (HM1.out.later g2).1.2.1.free 0; clear g1 g2)
        dsimp only
        refine hK.out _ _ (by first | exact HSC.out _ _ _ _ _ _ _ HM5.out | exact HSC.out _ _ _ _ _ _ _ HM4.out | exact HSC.out _ _ _ _ _ _ _ HM1.out) (fun hHeld => ?_)
        clear hK K
        (try simp only [List.getElem_toArray, List.getElem_cons_zero, List.getElem_cons_succ, Act.put, List.setIfInBounds_toArray, List.set_cons_zero, List.set_cons_succ])
        refine wpAnyH_ready (rs := [9]) (by kernel_rfl) (by simp) ?_
        refine AllReadyH.cons (o := _) rfl (fun K hK => ?_) AllReadyH.nil
        rw [if_pos (by rfl)]
        go_simp
        refine hK.out _ _ (by first | exact HSC.out _ _ _ _ _ _ _ HM5.out | exact HSC.out _ _ _ _ _ _ _ HM4.out | exact HSC.out _ _ _ _ _ _ _ HM1.out) (fun hHeld => ?_)
        clear hK K
        (try simp only [List.getElem_toArray, List.getElem_cons_zero, List.getElem_cons_succ, Act.put, List.setIfInBounds_toArray, List.set_cons_zero, List.set_cons_succ])
        refine wpAnyH_done (by kernel_rfl) ?_ _
        go_wp2
        go_roundw
        case rel => exact ⟨j + 1, a3, l3, c3, by go_num, by omega, HM5.out.1, HN5.out⟩
        case measure => simp [intOf]; omega
      · have hen : enM v = (1, 0, 0, 0, 0) := by unfold enM; rw [if_neg h3]
        rw [hen] at hmT hoe
        have hv3 : ((v : Int) % 3 == 0) = false := by simp; omega
        have HS := Lib.hid (fun w h => refSet9 w a' l' c' (madeT zs j) (RM : Int) 1 0 0 0 0 h (by unfold I64; omega) hoe)
        rw [← hmT] at HS
        have HTB := Lib.hid (hNA.later (Below.refl _ _).drew).tab
        have HM1 := Lib.hid (hMA.later (Below.refl _ _).drew)
        have t1 := one_cell9 HM1.out.1.2.1
        clear hen hme
        go_wp2
        rw [HWA.out]
        clear sa hMA hNA
        refine wp_region_held_drew (S := fun w' => w'.cell? ⟨b, off + j, none⟩ = some (.int .u16 v) ∧ w'.cell? ⟨wr.heap.size, 0, none⟩ = some (.int .i64 1) ∧ w'.cell? ⟨wr.heap.size, 1, none⟩ = some (.int .i64 0) ∧ w'.cell? ⟨wr.heap.size, 2, none⟩ = some (.int .i64 0) ∧ w'.cell? ⟨wr.heap.size, 3, none⟩ = some (.int .i64 0) ∧ w'.cell? ⟨wr.heap.size, 4, none⟩ = some (.int .u32 0)) (by kernel_rfl) (by first | exact HSC.out _ _ _ _ _ _ _ HM5.out | exact HSC.out _ _ _ _ _ _ _ HM4.out | exact HSC.out _ _ _ _ _ _ _ HM1.out) (fun hHeld => ?_)
        refine wpAnyH_take (i := 1) (oi := _) (v := ?vn1) rfl (by kernel_rfl) (by kernel_rfl) (by kernel_rfl) (fun _ _ _ h => h) (Or.inl ⟨by rfl, ?hyn1⟩) (by assumption) ?restn1
        case hyn1 => (intro wz hSw; (try dsimp only at hSw); go_simp; try with_reducible rfl)
        (try simp only [List.getElem_toArray, List.getElem_cons_zero, List.getElem_cons_succ, Act.put, List.setIfInBounds_toArray, List.set_cons_zero, List.set_cons_succ])
        refine wpAnyH_take (i := 2) (oi := _) (v := ?vn2) rfl (by kernel_rfl) (by kernel_rfl) (by kernel_rfl) (fun _ _ _ h => h) (Or.inl ⟨by rfl, ?hyn2⟩) (by assumption) ?restn2
        case hyn2 => (intro wz hSw; (try dsimp only at hSw); go_simp; try with_reducible rfl)
        (try simp only [List.getElem_toArray, List.getElem_cons_zero, List.getElem_cons_succ, Act.put, List.setIfInBounds_toArray, List.set_cons_zero, List.set_cons_succ])
        refine wpAnyH_take (i := 3) (oi := _) (v := ?vn3) rfl (by kernel_rfl) (by kernel_rfl) (by kernel_rfl) (fun _ _ _ h => h) (Or.inl ⟨by rfl, ?hyn3⟩) (by assumption) ?restn3
        case hyn3 => (intro wz hSw; (try dsimp only at hSw); go_simp; try with_reducible rfl)
        (try simp only [List.getElem_toArray, List.getElem_cons_zero, List.getElem_cons_succ, Act.put, List.setIfInBounds_toArray, List.set_cons_zero, List.set_cons_succ])
        refine wpAnyH_take (i := 4) (oi := _) (v := ?vn4) rfl (by kernel_rfl) (by kernel_rfl) (by kernel_rfl) (fun _ _ _ h => h) (Or.inl ⟨by rfl, ?hyn4⟩) (by assumption) ?restn4
        case hyn4 => (intro wz hSw; (try dsimp only at hSw); go_simp; try with_reducible rfl)
        (try simp only [List.getElem_toArray, List.getElem_cons_zero, List.getElem_cons_succ, Act.put, List.setIfInBounds_toArray, List.set_cons_zero, List.set_cons_succ])
        refine wpAnyH_take (i := 5) (oi := _) (v := ?vn5) rfl (by kernel_rfl) (by kernel_rfl) (by kernel_rfl) (fun _ _ _ h => h) (Or.inl ⟨by rfl, ?hyn5⟩) (by assumption) ?restn5
        case hyn5 => (intro wz hSw; (try dsimp only at hSw); go_simp; try with_reducible rfl)
        (try simp only [List.getElem_toArray, List.getElem_cons_zero, List.getElem_cons_succ, Act.put, List.setIfInBounds_toArray, List.set_cons_zero, List.set_cons_succ])
        refine wpAnyH_take (i := 6) (oi := _) (v := ?vn6) rfl (by kernel_rfl) (by kernel_rfl) (by kernel_rfl) (fun _ _ _ h => h) (Or.inl ⟨by rfl, ?hyn6⟩) (by assumption) ?restn6
        case hyn6 => (intro wz hSw; (try dsimp only at hSw); go_simp; try with_reducible rfl)
        (try simp only [List.getElem_toArray, List.getElem_cons_zero, List.getElem_cons_succ, Act.put, List.setIfInBounds_toArray, List.set_cons_zero, List.set_cons_succ])
        refine wpAnyH_take (i := 7) (oi := _) (v := ?vn7) rfl (by kernel_rfl) (by kernel_rfl) (by kernel_rfl) (fun _ _ _ h => h) (Or.inl ⟨by rfl, ?hyn7⟩) (by assumption) ?restn7
        case hyn7 => (intro wz hSw; (try dsimp only at hSw); go_simp; try with_reducible rfl)
        (try simp only [List.getElem_toArray, List.getElem_cons_zero, List.getElem_cons_succ, Act.put, List.setIfInBounds_toArray, List.set_cons_zero, List.set_cons_succ])
        refine wpAnyH_ready (rs := [0]) (by kernel_rfl) (by simp) ?_
        refine AllReadyH.cons (o := _) rfl (fun K hK => ?_) AllReadyH.nil
        rw [if_pos (by rfl)]
        go_simp
        refine hK.out _ _ (by first | exact HSC.out _ _ _ _ _ _ _ HM5.out | exact HSC.out _ _ _ _ _ _ _ HM4.out | exact HSC.out _ _ _ _ _ _ _ HM1.out) (fun hHeld => ?_)
        clear hK K
        (try simp only [List.getElem_toArray, List.getElem_cons_zero, List.getElem_cons_succ, Act.put, List.setIfInBounds_toArray, List.set_cons_zero, List.set_cons_succ])
        refine wpAnyH_ready (rs := [8]) (by kernel_rfl) (by simp) ?_
        refine AllReadyH.cons (o := _) rfl (fun K hK => ?_) AllReadyH.nil
        rw [if_pos (by rfl)]
        go_simp
        (go_at_call 31; refine (HS.out _ HTB.out).mono ?_; rintro e w3 ⟨a3, l3, c3, rfl, g1, g2⟩; have HM4 := Lib.hid (HM1.out.later g2); have HM5 := Lib.hid ((HM1.out.later g2).put (.slice a3 l3 c3)); have HN5 := Lib.hid ((g1.mono (base' := X) (by have := HM1.out.1.1.lt; omega)).box (HM1.out.later g2).1.2.1 (grownBy_setCell4 w3 (X + 1) 0 (.slice a3 l3 c3))); have z4 := one_cell9 (HM1.out.later g2).1.2.1; have z5 := (HM1.out.later g2).1.2.1.free 0; clear g1 g2)
        dsimp only
        refine hK.out _ _ (by first | exact HSC.out _ _ _ _ _ _ _ HM5.out | exact HSC.out _ _ _ _ _ _ _ HM4.out | exact HSC.out _ _ _ _ _ _ _ HM1.out) (fun hHeld => ?_)
        clear hK K
        (try simp only [List.getElem_toArray, List.getElem_cons_zero, List.getElem_cons_succ, Act.put, List.setIfInBounds_toArray, List.set_cons_zero, List.set_cons_succ])
        refine wpAnyH_ready (rs := [9]) (by kernel_rfl) (by simp) ?_
        refine AllReadyH.cons (o := _) rfl (fun K hK => ?_) AllReadyH.nil
        rw [if_pos (by rfl)]
        go_simp
        refine hK.out _ _ (by first | exact HSC.out _ _ _ _ _ _ _ HM5.out | exact HSC.out _ _ _ _ _ _ _ HM4.out | exact HSC.out _ _ _ _ _ _ _ HM1.out) (fun hHeld => ?_)
        clear hK K
        (try simp only [List.getElem_toArray, List.getElem_cons_zero, List.getElem_cons_succ, Act.put, List.setIfInBounds_toArray, List.set_cons_zero, List.set_cons_succ])
        refine wpAnyH_done (by kernel_rfl) ?_ _
        go_wp2
        go_roundw
        case rel => exact ⟨j + 1, a3, l3, c3, by go_num, by omega, HM5.out.1, HN5.out⟩
        case measure => simp [intOf]; omega
    · have hjl : j = min len 60 := by omega
      subst hjl
      have HNF : Hid (TabN (wr.setCell ⟨X, 0, none⟩ (.slice a' l' c')) X a' l' c' (madeT zs (min len 60))) := Lib.hid (HN.out.box HB.out.1 (grownBy_setCell4 wr X 0 (.slice a' l' c')))
      have HBF : Hid (Below X w (wr.setCell ⟨X, 0, none⟩ (.slice a' l' c'))) := Lib.hid (HB.out.below.setCell (p := ⟨X, 0, none⟩) (Nat.le_refl _) _)
      have HXF := Lib.hid (HB.out.1.set 0 (.slice a' l' c'))
      have hcs : ¬ (min len 60 < len) ∨ (min len 60 < len ∧ ¬ min len 60 < 60) := by omega
      obtain ⟨M, hM⟩ := named (min len 60)
      rw [hM.out] at hcs HNF ⊢
      have hMe := hM.out
      rcases hcs with h1 | ⟨h1, h2⟩
      all_goals
        go_wp2
        refine bodyPost_ret (v := .agg #[.slice a' l' c']) (results_cell_row rfl _ _ X 24 #[.slice a' l' c'] (0, 0) _ rfl HXF.out Tryd.underlying24 rfl tbl_size) rfl ⟨a', l', c', rfl, (by rw [hMe]; exact HNF.out), HBF.out⟩
end Go.Proofs.YtbdidgfbonkneaaDoor
