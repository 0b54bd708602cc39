/-
  Proved: 'matryoshkalaw8.TableEmpties' returns true for every input (any numbers, any place far off), and each argument reads afterwards as before: the statement TableEmptiesSaid as given. Conditions: none beyond the statement's own.
-/
import Derived.Test.YtbmgcofcjkcaaaaRows
import Derived.Test.YtbmgcofcjkcaaaaX9
import Derived.Deep.RegionHeld3
import Derived.WalkKit
import Derived.ProofKit
import Derived.OpenShut
import Derived.ShutString
import Derived.ChangeOld
import Derived.Below
namespace Go.Proofs.Ytbmgcofcjkcaaaa.tableEmpties
open Go.ChangeShapes Go.WideShapes Go.ChangeAt Go.RowKit
open Go.ChangeMaps (open_string shut_string)
set_option linter.unusedVariables false

theorem own : ownKnob Try.prog.godebug = none := by kernel_rfl
theorem laidOut : laidOutB Try.prog = true := by kernel_rfl

/-- A slice of integers that came in: nil, or a row of cells. -/
def IsRow (k : IntKind) (w : World) (a : Option Addr) (len cap : Nat) (zs : List Int) : Prop :=
  (a = none ∧ len = 0 ∧ cap = 0 ∧ zs = []) ∨
  ∃ x, a = some x ∧ len ≤ cap ∧ cap ≤ maxLen ∧ zs.length = cap ∧ (∀ i, i < zs.length → w.cell? (x.add i) = some (.int k (zs.getD i 0))) ∧ ∀ n ∈ zs, (Lit.int k n).wf = true

noncomputable def emT (zs : Nat → Nat) (T : Tb) : Nat → Tb
  | 0 => T
  | i + 1 => setT (emT zs T i) ((zs i % 300 : Nat) : Int) (0, 0, 0, 0, 0)
theorem emT_at {zs : Nat → Nat} {T : Tb} (hT : rightT T 4096 2) : ∀ n, rightT (emT zs T n) 4096 2 ∧ (∀ j, (∃ i, i < n ∧ zs i % 300 = j) → atN (emT zs T n) j = enZ) ∧ ∀ j, atN T j = enZ → atN (emT zs T n) j = enZ
  | 0 => ⟨hT, fun j ⟨i, h, _⟩ => by omega, fun j h => h⟩
  | n + 1 => by
    obtain ⟨h1, h2, h3⟩ := emT_at hT n
    obtain ⟨g1, g2⟩ := setT_at h1 (none_may h1.2.1) (i := ((zs n % 300 : Nat) : Int)) (by omega)
    rw [Int.toNat_natCast] at g2
    refine ⟨g1, fun j ⟨i, hi, hj⟩ => ?_, fun j hj => ?_⟩
    · show atN (setT _ _ enZ) j = enZ
      rw [g2]
      by_cases h : j = zs n % 300
      · rw [if_pos h]
      · rw [if_neg h]
        refine h2 j ⟨i, ?_, hj⟩
        by_cases e : i = n
        · subst e
          exact absurd hj.symm h
        · omega
    · show atN (setT _ _ enZ) j = enZ
      rw [g2]
      by_cases h : j = zs n % 300
      · rw [if_pos h]
      · rw [if_neg h]
        exact h3 j hj
theorem made_none {zs : Nat → Nat} : ∀ n, (∀ i, i < n → zs i < 65536) → ∀ j, (¬ ∃ i, i < n ∧ zs i % 300 = j) → atN (madeT zs n) j = enZ
  | 0, _, j, _ => atN_nil j
  | n + 1, h, j, hno => by
    rw [madeT_at n h, if_neg (fun e => hno ⟨n, by omega, e.symm⟩)]
    exact made_none n (fun i hi => h i (by omega)) j (fun ⟨i, h1, h2⟩ => hno ⟨i, by omega, h2⟩)
theorem none_nil {T : Tb} (hT : rightT T 4096 2) (h : ∀ j, atN T j = enZ) : T = [] := right_ext hT (right_nil hT.2.1) fun j => by rw [h, atN_nil]
theorem emptied {zs : Nat → Nat} {n : Nat} (h : ∀ i, i < n → zs i < 65536) : emT zs (madeT zs n) n = [] := by
  obtain ⟨h1, h2, h3⟩ := emT_at (zs := zs) (madeT_right n h) n
  refine none_nil h1 fun j => ?_
  by_cases hj : ∃ i, i < n ∧ zs i % 300 = j
  · exact h2 j hj
  · exact h3 j (made_none n h j hj)
theorem far_set {T : Tb} (hT : rightT T 4096 2) : (setT T 4095 (1, 0, 0, 0, 0)).length = 512 ∧ atN (setT T 4095 (1, 0, 0, 0, 0)) 4095 = (1, 0, 0, 0, 0) := by
  have hm : MayE (1, 0, 0, 0, 0) 2 := by decide
  obtain ⟨g1, g2⟩ := setT_at hT hm (i := 4095) (by omega)
  have h2 := g2 4095
  rw [if_pos (by rfl)] at h2
  refine ⟨?_, h2⟩
  have hle := g1.2.2.2.1
  rcases Nat.lt_or_ge 511 (setT T 4095 (1, 0, 0, 0, 0)).length with h | h
  · omega
  · unfold atN at h2
    rw [tbAt_out (by omega), lfAt_nil] at h2
    cases h2
theorem cut_all {T : Tb} (hT : rightT T 4096 2) : cutT T 0 = [] := by
  obtain ⟨g1, g2⟩ := cutT_at hT 0
  exact none_nil g1 fun j => by rw [g2, if_neg (by simp)]
theorem rows24 (v : Value) (w : World) : (Instr.field 24 (.agg #[v]) 0).run Try.prog w = .ok v w := by kernel_rfl
/-- A box that holds an own table. -/
def TB (p : Nat) (a : Option Addr) (l c : Nat) (T : Tb) (W : World) : Prop := Blk W p 24 #[.slice a l c] ∧ TabN W 0 a l c T
section
variable {p q l c l' c' : Nat} {a a' : Option Addr} {T T' : Tb} {W W' : World}
theorem TB.later (h : TB p a l c T W) (hb : Below W.heap.size W W') : TB p a l c T W' := ⟨h.1.later hb, h.2.later hb⟩
theorem TB.cell (h : TB p a l c T W) : W.cell? ⟨p, 0, none⟩ = some (.slice a l c) := one_cell9 h.1
theorem TB.alloc (h : TB p a l c T W) (o : Obj) : TB p a l c T (W.alloc o) := h.later ((Below.refl _ _).alloc (Nat.le_refl _) _)
theorem TB.other {cs : Array Value} (h : TB p a l c T W) (hq : Blk W q 24 cs) (hne : p ≠ q) (v : Value) : TB p a l c T (W.setCell ⟨q, 0, none⟩ v) := ⟨h.1.other hne _, h.2.box hq (grownBy_setCell4 _ _ _ _)⟩
theorem TB.put {B : Nat} (h : TB p a l c T W) (hn : TabN W B a' l' c' T') : TB p a' l' c' T' (W.setCell ⟨p, 0, none⟩ (.slice a' l' c')) := ⟨h.1.set 0 _, (hn.mono (Nat.zero_le _)).box h.1 (grownBy_setCell4 _ _ _ _)⟩
theorem TB.first {B : Nat} (hn : TabN W B a l c T) : TB W.heap.size a l c T (W.alloc (.cells #[.slice a l c] 24)) := ⟨Blk.new _ _ _, (hn.later ((Below.refl _ _).alloc (Nat.le_refl _) _)).mono (Nat.zero_le _)⟩
end
/-- What the rounds hold. -/
def ES (Y Z : Nat) (a3 : Option Addr) (l3 c3 : Nat) (T3 : Tb) (a4 : Option Addr) (l4 c4 : Nat) (T4 : Tb) (w0 W : World) : Prop := TB Y a3 l3 c3 T3 W ∧ TB Z a4 l4 c4 T4 W ∧ Below w0.heap.size w0 W ∧ Y < Z ∧ w0.heap.size ≤ Y
section
variable {Y Z l3 c3 l4 c4 l' c' : Nat} {a3 a4 a' : Option Addr} {T3 T4 T' : Tb} {w0 W W' : World}
theorem ES.later (h : ES Y Z a3 l3 c3 T3 a4 l4 c4 T4 w0 W) (hb : Below W.heap.size W W') : ES Y Z a3 l3 c3 T3 a4 l4 c4 T4 w0 W' := ⟨h.1.later hb, h.2.1.later hb, h.2.2.1.trans (hb.mono h.2.2.1.size), h.2.2.2⟩
theorem ES.put {B : Nat} (h : ES Y Z a3 l3 c3 T3 a4 l4 c4 T4 w0 W) (hn : TabN W B a' l' c' T') : ES Y Z a' l' c' T' a4 l4 c4 T4 w0 (W.setCell ⟨Y, 0, none⟩ (.slice a' l' c')) := ⟨h.1.put hn, h.2.1.other h.1.1 (by have := h.2.2.2.1; omega) _, h.2.2.1.setCell (by exact h.2.2.2.2) _, h.2.2.2⟩
theorem ES.cells (h : ES Y Z a3 l3 c3 T3 a4 l4 c4 T4 w0 W) : W.cell? ⟨Y, 0, none⟩ = some (.slice a3 l3 c3) ∧ W.frozen? ⟨Y, 0, none⟩ = false ∧ W.cell? ⟨Z, 0, none⟩ = some (.slice a4 l4 c4) := ⟨h.1.cell, h.1.1.free 0, h.2.1.cell⟩
end

set_option maxRecDepth 100000 in
set_option maxHeartbeats 4000000 in
theorem walk (a0 : Option Addr) (len0 cap0 : Nat) (z0 : List Int) (a1 : Int) (w : World) (w0 : IsRow .u16 w a0 len0 cap0 z0) (w1 : (Lit.int .u16 a1).wf = true) :
    Calls Try.prog 6 #[.slice a0 len0 cap0, .int .u16 a1] w fun e w' => e = .returned (.bool true) ∧ Below w.heap.size w w' := by
  obtain ⟨hz, hlen⟩ := r16_of w0
  obtain ⟨zs, hzs⟩ := named (fun i => (z0.getD i 0).toNat)
  rw [hzs.out] at hz
  have HMD := Lib.hid (made9 w a0 len0 cap0 _ hz hlen)
  have HZ := Lib.hid hz
  have hl := hlen
  unfold maxLen at hl
  have hzb : ∀ i, i < min len0 60 → zs i < 65536 := fun i hi => by
    obtain ⟨_, _, _, _, _, h⟩ := hz i (by omega)
    exact h
  have hT := madeT_right (min len0 60) hzb
  have hem := emptied hzb
  obtain ⟨T, hTn⟩ := named (madeT zs (min len0 60))
  rw [hTn.out] at HMD hT hem
  obtain ⟨N, hN⟩ := named (min len0 60)
  rw [hN.out] at hem
  have HEM := Lib.hid hem
  have HNN := Lib.hid (show N ≤ len0 ∧ N ≤ 60 ∧ (N < len0 → ¬ N < 60) by have := hN.out; omega)
  have hb1 := bounds_u16 w1
  obtain ⟨F, rfl⟩ : ∃ F : Nat, a1 = F := ⟨a1.toNat, by omega⟩
  have hAW := Lib.hid (fun w => awake9 w)
  have hfar := far_set hT
  have hcut := cut_all hT
  have HTO := Lib.hid hT
  have HCP := Lib.hid (fun w a l c h => copyT (a := a) (len := l) (cap := c) (T := T) w h)
  have ho1 : EnOk (1, 0, 0, 0, 0) := by unfold EnOk I64; dsimp only; omega
  have ho0 : EnOk (0, 0, 0, 0, 0) := by unfold EnOk I64; dsimp only; omega
  obtain ⟨Q1, hQ1⟩ := named ((4096 : Int) + (F : Int))
  obtain ⟨Q2, hQ2⟩ := named ((-1 : Int) - (F : Int))
  have e1 : IntKind.i64.wrap ((4096 : Int) + (F : Int)) = Q1 := by rw [IntKind.wrap_i64, ← hQ1.out]; omega
  have e2 : IntKind.i64.wrap ((-1 : Int) - (F : Int)) = Q2 := by rw [IntKind.wrap_i64, ← hQ2.out]; omega
  have HA := Lib.hid (fun w a l c h => set9_any w a l c T Q1 1 0 0 0 0 h (by unfold I64; have := hQ1.out; omega) ho1)
  rw [setT_out (fun h => by have := hQ1.out; have := h.1; omega)] at HA
  have HB := Lib.hid (fun w a l c h => set9_any w a l c T Q2 1 0 0 0 0 h (by unfold I64; have := hQ2.out; omega) ho1)
  rw [setT_out (fun h => by have := hQ2.out; have := h.1; omega)] at HB
  have HC := Lib.hid (fun w a l c h => set9_any w a l c T 4095 1 0 0 0 0 h (by unfold I64; omega) ho1)
  obtain ⟨C, hC⟩ := named (setT T 4095 (1, 0, 0, 0, 0))
  rw [hC.out] at HC hfar
  have HCL := Lib.hid hfar.1
  have HG := Lib.hid (fun w a l c h => getT (a := a) (len := l) (cap := c) (T := C) w h 4095 (by unfold I64; omega) ((atT_nat C 4095).trans hfar.2))
  have HK := Lib.hid (fun w a l c h => cut9_any w a l c T 0 h (by unfold I64; omega))
  rw [hcut] at HK
  have hk9 := fun w => kind9 1 0 0 0 0 w
  have hk24 := fun a c w => rows24 (.slice a 0 c) w
  have HS0 : Hid (∀ w a l c U (v : Nat), v < 300 → Tab w a l c U → _) := Lib.hid (fun w a l c U v hv h => set9_any w a l c U (v : Int) 0 0 0 0 0 h (by unfold I64; omega) ho0)
  clear hz hzb w0 w1 hlen hfar hcut hT hem hTn hzs ho1 ho0 hC hQ1 hQ2
  go_enter Try.func6, Try.ntmps6
  go_wp2_with (first
    | (go_at_call 16; refine HMD.out.mono ?_; rintro e w1 ⟨a3, l3, c3, rfl, g1, g2⟩; have HM1 := Lib.hid (TB.first g1); have HM2 := Lib.hid (g2.alloc g2.size (.cells #[.slice a3 l3 c3] 24)); have hX0 := HM1.out.cell; have HX := Lib.hid HM1.out.2.tab; have hszz := g2.size; clear g1 g2)
    | (go_at_call 10; (with_reducible refine (HCP.out _ _ _ _ HX.out).mono ?_); rintro e w2 ⟨a4, c4, rfl, g1, g2⟩; have HE0 : Hid (ES w1.heap.size w2.heap.size a3 l3 c3 T a4 l3 c4 T w (w2.alloc (.cells #[.slice a4 l3 c4] 24))) := ⟨(HM1.out.later g2).alloc _, TB.first g1, (HM2.out.trans (g2.mono HM2.out.size)).alloc (HM2.out.trans (g2.mono HM2.out.size)).size _, (HM1.out.later g2).1.lt, hszz⟩; clear g1 g2))
  obtain ⟨W0, hW0⟩ := named (w2.alloc (.cells #[.slice a4 l3 c4] 24))
  obtain ⟨Y, hY⟩ := named w1.heap.size
  obtain ⟨Z, hZ⟩ := named w2.heap.size
  have hYY := hY.out
  have hZZ := hZ.out
  rw [hW0.out, hY.out, hZ.out] at HE0
  rw [hW0.out, hY.out, hZ.out]
  clear HM1 HM2 HX hX0 hszz
  go_loopw [7] (fun i wr => ∃ (j : Nat) (a' : Option Addr) (l' c' : Nat), i = .int .i64 j ∧ j ≤ N ∧ Hid (ES Y Z a' l' c' (emT zs T j) a4 l3 c4 T w wr)) (fun i _ => N - (intOf i).toNat)
  case atStart => exact ⟨0, a3, l3, c3, rfl, Nat.zero_le _, HE0.out⟩
  case round =>
    obtain ⟨j, a', l', c', rfl, hj, HE⟩ := hrel
    obtain ⟨c1, c2, c3⟩ := HE.out.cells
    obtain ⟨n1, n2, n3⟩ := HNN.out
    by_cases hlt : j < N
    · obtain ⟨b, off, rfl, hb, hc, hv⟩ := HZ.out j (by omega)
      have hjl : j < len0 := by omega
      have hj60 : j < 60 := by omega
      have hmT : emT zs T (j + 1) = setT (emT zs T j) ((zs j % 300 : Nat) : Int) (0, 0, 0, 0, 0) := rfl
      obtain ⟨v, hvn⟩ := named (zs j)
      rw [hvn.out] at hc hv hmT
      obtain ⟨R, hR⟩ := named (v % 300)
      rw [hR.out] at hmT
      have hR3 : R < 300 := by rw [← hR.out]; omega
      have htm : (v : Int).tmod 300 = (R : Int) := by rw [Int.tmod_eq_emod_of_nonneg (by omega), ← hR.out]; omega
      have wv : IntKind.i64.wrap (v : Int) = v := by rw [IntKind.wrap_i64]; omega
      have HSj := Lib.hid (fun w a l c h => HS0.out w a l c (emT zs T j) R hR3 h)
      rw [← hmT] at HSj
      have HSC : Hid (∀ a1 l1 k1 T1 W, ES Y Z a1 l1 k1 T1 a4 l3 c4 T w W → W.cell? ⟨b, off + j, none⟩ = some (.int .u16 v)) := Lib.hid (fun a1 l1 k1 T1 W h => (h.2.2.1.cell (p := ⟨b, off + j, none⟩) hb).trans hc)
      have HM1 := Lib.hid (HE.out.later (Below.refl _ _).drew)
      have t1 := HM1.out.1.cell
      have HTB := Lib.hid HM1.out.1.2.tab
      have sa := HSC.out _ _ _ _ _ HE.out
      clear hc hb
      go_wp2
      clear sa
      refine wp_region_held_drew (S := fun w' => w'.cell? ⟨b, off + j, none⟩ = some (.int .u16 v)) (by kernel_rfl) (by first | exact HSC.out _ _ _ _ _ HM5.out | exact HSC.out _ _ _ _ _ HM4.out | exact HSC.out _ _ _ _ _ HM1.out) (fun hHeld => ?_)
      refine wpAnyH_take (i := 1) (oi := _) (v := ?vp1) rfl (by kernel_rfl) (by kernel_rfl) (by kernel_rfl) (fun _ _ _ h => h) (Or.inl ⟨by rfl, ?hyp1⟩) (by assumption) ?restp1
      case hyp1 => (intro wz hSw; (try dsimp only at hSw); go_simp; try with_reducible rfl)
      (try simp only [List.getElem_toArray, List.getElem_cons_zero, List.getElem_cons_succ, Act.put, List.setIfInBounds_toArray, List.set_cons_zero, List.set_cons_succ])
      refine wpAnyH_take (i := 2) (oi := _) (v := ?vp2) rfl (by kernel_rfl) (by kernel_rfl) (by kernel_rfl) (fun _ _ _ h => h) (Or.inl ⟨by rfl, ?hyp2⟩) (by assumption) ?restp2
      case hyp2 => (intro wz hSw; (try dsimp only at hSw); go_simp; try with_reducible rfl)
      (try simp only [List.getElem_toArray, List.getElem_cons_zero, List.getElem_cons_succ, Act.put, List.setIfInBounds_toArray, List.set_cons_zero, List.set_cons_succ])
      refine wpAnyH_take (i := 3) (oi := _) (v := ?vp3) rfl (by kernel_rfl) (by kernel_rfl) (by kernel_rfl) (fun _ _ _ h => h) (Or.inl ⟨by rfl, ?hyp3⟩) (by assumption) ?restp3
      case hyp3 => (intro wz hSw; (try dsimp only at hSw); go_simp; try with_reducible rfl)
      (try simp only [List.getElem_toArray, List.getElem_cons_zero, List.getElem_cons_succ, Act.put, List.setIfInBounds_toArray, List.set_cons_zero, List.set_cons_succ])
      refine wpAnyH_take (i := 4) (oi := _) (v := ?vp4) rfl (by kernel_rfl) (by kernel_rfl) (by kernel_rfl) (fun _ _ _ h => h) (Or.inl ⟨by rfl, ?hyp4⟩) (by assumption) ?restp4
      case hyp4 => (intro wz hSw; (try dsimp only at hSw); go_simp; try with_reducible rfl)
      (try simp only [List.getElem_toArray, List.getElem_cons_zero, List.getElem_cons_succ, Act.put, List.setIfInBounds_toArray, List.set_cons_zero, List.set_cons_succ])
      refine wpAnyH_take (i := 5) (oi := _) (v := ?vp5) rfl (by kernel_rfl) (by kernel_rfl) (by kernel_rfl) (fun _ _ _ h => h) (Or.inl ⟨by rfl, ?hyp5⟩) (by assumption) ?restp5
      case hyp5 => (intro wz hSw; (try dsimp only at hSw); go_simp; try with_reducible rfl)
      (try simp only [List.getElem_toArray, List.getElem_cons_zero, List.getElem_cons_succ, Act.put, List.setIfInBounds_toArray, List.set_cons_zero, List.set_cons_succ])
      refine wpAnyH_take (i := 6) (oi := _) (v := ?vp6) rfl (by kernel_rfl) (by kernel_rfl) (by kernel_rfl) (fun _ _ _ h => h) (Or.inl ⟨by rfl, ?hyp6⟩) (by assumption) ?restp6
      case hyp6 => (intro wz hSw; (try dsimp only at hSw); go_simp; try with_reducible rfl)
      (try simp only [List.getElem_toArray, List.getElem_cons_zero, List.getElem_cons_succ, Act.put, List.setIfInBounds_toArray, List.set_cons_zero, List.set_cons_succ])
      refine wpAnyH_take (i := 7) (oi := _) (v := ?vp7) rfl (by kernel_rfl) (by kernel_rfl) (by kernel_rfl) (fun _ _ _ h => h) (Or.inl ⟨by rfl, ?hyp7⟩) (by assumption) ?restp7
      case hyp7 => (intro wz hSw; (try dsimp only at hSw); go_simp; try with_reducible rfl)
      (try simp only [List.getElem_toArray, List.getElem_cons_zero, List.getElem_cons_succ, Act.put, List.setIfInBounds_toArray, List.set_cons_zero, List.set_cons_succ])
      refine wpAnyH_ready (rs := [0]) (by kernel_rfl) (by simp) ?_
      refine AllReadyH.cons (o := _) rfl (fun K hK => ?_) AllReadyH.nil
      rw [if_pos (by rfl)]
      go_simp
      refine hK.out _ _ (by first | exact HSC.out _ _ _ _ _ HM5.out | exact HSC.out _ _ _ _ _ HM4.out | exact HSC.out _ _ _ _ _ HM1.out) (fun hHeld => ?_)
      clear hK K
      (try simp only [List.getElem_toArray, List.getElem_cons_zero, List.getElem_cons_succ, Act.put, List.setIfInBounds_toArray, List.set_cons_zero, List.set_cons_succ])
      refine wpAnyH_ready (rs := [8]) (by kernel_rfl) (by simp) ?_
      refine AllReadyH.cons (o := _) rfl (fun K hK => ?_) AllReadyH.nil
      rw [if_pos (by rfl)]
      go_simp
      (go_at_call 11; (with_reducible refine (HSj.out _ _ _ _ HTB.out).mono ?_); rintro e wx ⟨ax, lx, cx, rfl, g1, g2⟩; have HM4 := Lib.hid (HM1.out.later g2); have HM5 := Lib.hid (HM4.out.put g1); obtain ⟨z4, z5, _⟩ := HM4.out.cells; clear g1 g2)
      dsimp only
      refine hK.out _ _ (by first | exact HSC.out _ _ _ _ _ HM5.out | exact HSC.out _ _ _ _ _ HM4.out | exact HSC.out _ _ _ _ _ HM1.out) (fun hHeld => ?_)
      clear hK K
      (try simp only [List.getElem_toArray, List.getElem_cons_zero, List.getElem_cons_succ, Act.put, List.setIfInBounds_toArray, List.set_cons_zero, List.set_cons_succ])
      refine wpAnyH_ready (rs := [9]) (by kernel_rfl) (by simp) ?_
      refine AllReadyH.cons (o := _) rfl (fun K hK => ?_) AllReadyH.nil
      rw [if_pos (by rfl)]
      go_simp
      refine hK.out _ _ (by first | exact HSC.out _ _ _ _ _ HM5.out | exact HSC.out _ _ _ _ _ HM4.out | exact HSC.out _ _ _ _ _ HM1.out) (fun hHeld => ?_)
      clear hK K
      (try simp only [List.getElem_toArray, List.getElem_cons_zero, List.getElem_cons_succ, Act.put, List.setIfInBounds_toArray, List.set_cons_zero, List.set_cons_succ])
      refine wpAnyH_done (by kernel_rfl) ?_ _
      go_wp2
      go_roundw
      case rel => exact ⟨j + 1, ax, lx, cx, by go_num, by omega, HM5.out⟩
      case measure => simp [intOf]; omega
    · have hjN : j = N := by omega
      subst hjN
      rw [HEM.out] at HE
      obtain rfl : l' = 0 := HE.out.1.2.tab.lens.1.symm
      have hg := (Below.refl wr.heap.size wr)
      have HTw := Lib.hid HE.out.2.1.2.tab
      go_wp2_with (first
        | (go_at_call 11; (with_reducible refine (HA.out _ _ _ _ HTw.out).mono ?_); rintro e wa ⟨aa, la, ca, rfl, g1, g2⟩; have HE1 := Lib.hid (HE.out.later g2); have HA1 := Lib.hid (TB.first g1); obtain ⟨_, _, p1⟩ := HE1.out.cells; have HEa := Lib.hid (HE1.out.later ((Below.refl _ _).alloc (Nat.le_refl _) (.cells #[.slice aa la ca] 24))); obtain ⟨_, _, p2⟩ := HEa.out.cells; have HTa := Lib.hid HEa.out.2.1.2.tab; clear g1 g2)
        | (go_at_call 11; (with_reducible refine (HB.out _ _ _ _ HTa.out).mono ?_); rintro e wb ⟨ab, lb, cb, rfl, g1, g2⟩; have HE2 := Lib.hid (HEa.out.later g2); have hal := (Below.refl wb.heap.size wb).alloc (Nat.le_refl _) (.cells #[.slice ab lb cb] 24); have HA2 := Lib.hid ((HA1.out.later g2).later hal); have HB2 := Lib.hid (TB.first g1); obtain ⟨_, _, q1⟩ := HE2.out.cells; have HEb := Lib.hid (HE2.out.later hal); obtain ⟨_, _, q2⟩ := HEb.out.cells; have HTb := Lib.hid HEb.out.2.1.2.tab; clear g1 g2 hal)
        | (go_at_call 11; (with_reducible refine (HC.out _ _ _ _ HTb.out).mono ?_); rintro e wc ⟨ac, lc, cc, rfl, g1, g2⟩; obtain rfl : lc = 512 := (g1.tab.lens.1.symm.trans HCL.out); have hal := (Below.refl wc.heap.size wc).alloc (Nat.le_refl _) (.cells #[.slice ac 512 cc] 24); have HEc := Lib.hid ((HEb.out.later g2).later hal); have HA3 := Lib.hid ((HA2.out.later g2).later hal); have HB3 := Lib.hid ((HB2.out.later g2).later hal); have HC3 := Lib.hid (TB.first g1); obtain ⟨r1, _, r2⟩ := (HEb.out.later g2).cells; have r3 := (HA2.out.later g2).cell; have r4 := (HB2.out.later g2).cell; obtain ⟨s1, _, s2⟩ := HEc.out.cells; have s3 := HA3.out.cell; have s4 := HB3.out.cell; have s5 := HC3.out.cell; have HTAa := Lib.hid HA3.out.2.tab; have HTWa := Lib.hid HEc.out.2.1.2.tab; clear g1 g2 hal)
        | (go_at_call 13; (with_reducible refine (tablesT (R := true) (decide_eq_true rfl) _ HTAa.out HTWa.out).mono ?_); rintro e wd ⟨rfl, g⟩; have HE4 := Lib.hid (HEc.out.later g); have HB4 := Lib.hid (HB3.out.later g); have HC4 := Lib.hid (HC3.out.later g); obtain ⟨_, _, t2⟩ := HE4.out.cells; have t4 := HB4.out.cell; have t5 := HC4.out.cell; have HTBb := Lib.hid HB4.out.2.tab; have HTWb := Lib.hid HE4.out.2.1.2.tab; clear g)
        | (go_at_call 13; (with_reducible refine (tablesT (R := true) (decide_eq_true rfl) _ HTBb.out HTWb.out).mono ?_); rintro e we ⟨rfl, g⟩; have HE5 := Lib.hid (HE4.out.later g); have HC5 := Lib.hid (HC4.out.later g); obtain ⟨_, _, u2⟩ := HE5.out.cells; have u5 := HC5.out.cell; have HTCc := Lib.hid HC5.out.2.tab; clear g)
        | (go_at_call 17; (with_reducible refine (HG.out _ _ _ _ HTCc.out).mono ?_); rintro e wf ⟨rfl, g⟩; have HE6 := Lib.hid (HE5.out.later g); obtain ⟨_, _, v2⟩ := HE6.out.cells; have HTWd := Lib.hid HE6.out.2.1.2.tab; clear g)
        | (go_at_call 12; (with_reducible refine (HK.out _ _ _ _ HTWd.out).mono ?_); rintro e wg ⟨ag, lg, cg, rfl, g1, g2⟩; obtain rfl : lg = 0 := g1.tab.lens.1.symm; have HE7 := Lib.hid (HE6.out.later g2); clear g1 g2)
        | (go_at_call 9; (with_reducible refine (hAW.out _).mono ?_); rintro e wh ⟨rfl, g⟩; have HE8 := Lib.hid (HE7.out.later g); clear g))
      all_goals (go_ret; exact ⟨rfl, HE8.out.2.2.1⟩)

set_option maxRecDepth 100000 in
theorem lifted (os : Os) (started : os.Started) (H : Type) (enc : TypeId × Value → H) :
    ReturnsInHanded {} Try.checked os 6 .any (Rows.tableEmptiesSpec.pre6 enc Try.prog Try.f6 Rows.tableEmptiesRow.domain false) (Rows.tableEmptiesSpec.post enc Try.prog Try.f6 false true false false) := by
  refine returnsInHanded_of_change (C := Try.checked) own started (by kernel_rfl) Try.func6
    (ChangeSpec.witness6 (enc := enc) (C := Try.checked) false ⟨#[], #[.slice none 0 0, .int .u16 0], []⟩ 8 (by kernel_rfl) (by kernel_rfl) (by kernel_rfl) (by kernel_rfl)) ?_
  intro W base args ds gs before hval0 hW hcnd _
  have hval : ∀ (j : Nat) t v, Try.f6.params[j]? = some t → args[j]? = some v → Value.okWide Try.prog W .any base t v := hval0
  have hW' := hW
  obtain ⟨p, q, hA0, hV, rfl, hfz, hnd⟩ := hW
  have hA : DataW.TrodAll enc Try.prog W 0 (fun _ => true) true Try.f6.params.toList args.toList ds p := hA0
  rw [Try.params6] at hA hval
  obtain ⟨v0, vs0, d0, ds0, p0, q0, hargs, rfl, rfl, h0, r0⟩ := trodAll_cons hA
  obtain ⟨v1, vs1, d1, ds1, p1, q1, rfl, rfl, rfl, h1, r1⟩ := trodAll_cons r0
  obtain ⟨rfl, rfl, rfl⟩ := trodAll_nil r1
  obtain rfl : args = #[v0, v1] := by cases args; simp_all
  obtain ⟨rfl, rfl⟩ := trodVars_none hV
  have k0 := h0
  have lt0 : ∀ x ∈ p0, x.block < W.heap.size := by obtain ⟨m, hm⟩ := k0; exact DataW.trod_lt m _ _ _ hm
  obtain ⟨a0, len0, cap0, rfl⟩ := okWide_slice Try.underlying35 (hval 0 35 v0 rfl rfl)
  obtain ⟨z0, w0⟩ : ∃ zs, IsRow .u16 W a0 len0 cap0 zs := by
    obtain ⟨fuel, hf⟩ := h0
    rcases open_ints Try.underlying35 Try.underlying36 (by kernel_rfl) hf with ⟨hcs, _⟩ | ⟨x, l, c, zs, hcs, _, hl, hm, hz, _, hcell, hwz⟩
    · simp [Value.cells] at hcs
      obtain ⟨rfl, rfl, rfl⟩ := hcs
      exact ⟨[], .inl ⟨rfl, rfl, rfl, rfl⟩⟩
    · simp [Value.cells] at hcs
      obtain ⟨rfl, rfl, rfl⟩ := hcs
      exact ⟨zs, .inr ⟨_, rfl, hl, hm, by simpa using hz, hcell, hwz⟩⟩
  have k1 := h1
  have lt1 : ∀ x ∈ p1, x.block < W.heap.size := by obtain ⟨m, hm⟩ := k1; exact DataW.trod_lt m _ _ _ hm
  obtain ⟨a1, rfl, _, _, w1⟩ := open_int Try.underlying36 (hval 1 36 v1 rfl rfl) h1
  clear hA0 hval0
  refine (walk a0 len0 cap0 z0 a1 W w0 w1).mono fun e W' ⟨he, bel⟩ => ?_
  subst he
  exact ⟨_, rfl, _, _, _, [], _, [], hW', trodAll_mk1 (shut_bool Try.underlying4 _), (trodAll_cons_mk (Below.trod laidOut (by kernel_rfl) (of_decide_eq_true (by kernel_rfl)) k0 bel lt0) (trodAll_cons_mk (Below.trod laidOut (by kernel_rfl) (of_decide_eq_true (by kernel_rfl)) k1 bel lt1) trodAll_mk0)), rfl, bel.frame _, fun h => by cases h⟩

theorem over : Rows.tableEmptiesRow.holds Try.pinned (OpenSpec.ofChange Rows.tableEmptiesSpec) :=
  OpenClaim.holds_of_wide 6 Try.f6 rfl rfl rfl rfl rfl rfl rfl ⟨rfl, rfl, rfl, rfl, rfl⟩ rfl rfl rfl rfl rfl (by kernel_rfl) Try.func6 (by kernel_rfl)
    (of_decide_eq_true (by kernel_rfl)) (by unfold Func.isWrapper; first | (rw [if_pos (by decide +kernel)]; kernel_rfl) | (rw [if_neg (by decide +kernel)]; exact ⟨rfl, rfl⟩))
    (fun os started H enc _ => lifted os started H enc)

/-- The statement. -/
theorem proved : Rows.TableEmptiesSaid := over
#print axioms proved
end Go.Proofs.Ytbmgcofcjkcaaaa.tableEmpties
