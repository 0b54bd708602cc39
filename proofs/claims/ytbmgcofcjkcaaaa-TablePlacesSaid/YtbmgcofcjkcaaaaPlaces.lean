/-
  Proved: 'matryoshkalaw8.TablePlaces' returns true for every input (any numbers, any place, any kind), and each argument reads afterwards as before: the statement TablePlacesSaid as given. Conditions: none beyond the statement's own.
-/
import Derived.Test.YtbmgcofcjkcaaaaRows
import Derived.Test.YtbmgcofcjkcaaaaX9
import Derived.Deep.RegionHeld3
import Derived.WalkKit
import Derived.ProofKit
import Derived.OpenShut
import Derived.ShutString
import Derived.ChangeOld
import Derived.Below
namespace Go.Proofs.Ytbmgcofcjkcaaaa.tablePlaces
open Go.ChangeShapes Go.WideShapes Go.ChangeAt Go.RowKit
open Go.ChangeMaps (open_string shut_string)
set_option linter.unusedVariables false

theorem own : ownKnob Try.prog.godebug = none := by kernel_rfl
theorem laidOut : laidOutB Try.prog = true := by kernel_rfl

/-- A slice of integers that came in: nil, or a row of cells. -/
def IsRow (k : IntKind) (w : World) (a : Option Addr) (len cap : Nat) (zs : List Int) : Prop :=
  (a = none ∧ len = 0 ∧ cap = 0 ∧ zs = []) ∨
  ∃ x, a = some x ∧ len ≤ cap ∧ cap ≤ maxLen ∧ zs.length = cap ∧ (∀ i, i < zs.length → w.cell? (x.add i) = some (.int k (zs.getD i 0))) ∧ ∀ n ∈ zs, (Lit.int k n).wf = true

def enP (v : Nat) : En := if 128 ≤ v then (2, 7, 4, 0, 9) else (((v % 2 : Nat) : Int), 0, 0, 0, 0)
theorem enP_may (v : Nat) : MayE (enP v) 2 ∧ EnOk (enP v) := by
  unfold enP
  by_cases h : 128 ≤ v
  · rw [if_pos h]
    refine ⟨by decide, ?_⟩
    unfold EnOk I64
    dsimp only
    omega
  · rw [if_neg h]
    refine ⟨⟨by omega, Or.inl ⟨by dsimp only; omega, rfl, rfl, rfl, rfl⟩⟩, ?_⟩
    unfold EnOk I64
    dsimp only
    omega
/-- What the law holds. -/
def PS (Y Z : Nat) (s3 s4 : Value) (e1 e2 e3 e4 e5 : Int) (a3 : Option Addr) (l3 c3 : Nat) (T : Tb) (a4 : Option Addr) (l4 c4 : Nat) (U : Tb) (w0 W : World) : Prop := Blk W Y 24 #[s3] ∧ Blk W (Y + 1) 27 #[.int .i64 e1, .int .i64 e2, .int .i64 e3, .int .i64 e4, .int .u32 e5] ∧ Blk W Z 24 #[s4] ∧ TabN W 0 a3 l3 c3 T ∧ TabN W 0 a4 l4 c4 U ∧ Below w0.heap.size w0 W
section
variable {Y Z : Nat} {s3 s4 : Value} {e1 e2 e3 e4 e5 : Int} {a3 : Option Addr} {l3 c3 : Nat} {T : Tb} {a4 : Option Addr} {l4 c4 : Nat} {U : Tb} {w0 W W' : World}
theorem PS.later (h : PS Y Z s3 s4 e1 e2 e3 e4 e5 a3 l3 c3 T a4 l4 c4 U w0 W) (hb : Below W.heap.size W W') : PS Y Z s3 s4 e1 e2 e3 e4 e5 a3 l3 c3 T a4 l4 c4 U w0 W' := ⟨h.1.later hb, h.2.1.later hb, h.2.2.1.later hb, h.2.2.2.1.later hb, h.2.2.2.2.1.later hb, h.2.2.2.2.2.trans (hb.mono h.2.2.2.2.2.size)⟩
theorem PS.cells (h : PS Y Z s3 s4 e1 e2 e3 e4 e5 a3 l3 c3 T a4 l4 c4 U w0 W) : W.cell? ⟨Y, 0, none⟩ = some s3 ∧ (W.cell? ⟨Y + 1, 0, none⟩ = some (.int .i64 e1) ∧ W.cell? ⟨Y + 1, 1, none⟩ = some (.int .i64 e2) ∧ W.cell? ⟨Y + 1, 2, none⟩ = some (.int .i64 e3) ∧ W.cell? ⟨Y + 1, 3, none⟩ = some (.int .i64 e4) ∧ W.cell? ⟨Y + 1, 4, none⟩ = some (.int .u32 e5)) ∧ W.cell? ⟨Z, 0, none⟩ = some s4 := ⟨one_cell9 h.1, cells5 h.2.1, one_cell9 h.2.2.1⟩
end
theorem PS.first {w0 w1 w2 : World} {a3 a4 : Option Addr} {l3 c3 l4 c4 : Nat} {e1 e2 e3 e4 e5 : Int} {T U : Tb} (h1 : TabN w1 w0.heap.size a3 l3 c3 T) (hb1 : Below w0.heap.size w0 w1) {B : Nat} (h2 : TabN w2 B a4 l4 c4 U)
    (hb2 : Below ((w1.alloc (.cells #[.slice a3 l3 c3] 24)).alloc (.cells #[.int .i64 e1, .int .i64 e2, .int .i64 e3, .int .i64 e4, .int .u32 e5] 27)).heap.size ((w1.alloc (.cells #[.slice a3 l3 c3] 24)).alloc (.cells #[.int .i64 e1, .int .i64 e2, .int .i64 e3, .int .i64 e4, .int .u32 e5] 27)) w2) :
    PS w1.heap.size w2.heap.size (.slice a3 l3 c3) (.slice a4 l4 c4) e1 e2 e3 e4 e5 a3 l3 c3 T a4 l4 c4 U w0 (w2.alloc (.cells #[.slice a4 l4 c4] 24)) := by
  have hg : Below w1.heap.size w1 ((w1.alloc (.cells #[.slice a3 l3 c3] 24)).alloc (.cells #[.int .i64 e1, .int .i64 e2, .int .i64 e3, .int .i64 e4, .int .u32 e5] 27)) := ((Below.refl _ _).alloc (Nat.le_refl _) _).alloc (by simp) _
  have hg2 : Below w1.heap.size w1 w2 := hg.trans (hb2.mono hg.size)
  exact ⟨(((Blk.new w1 _ _).alloc _).later hb2).alloc _, (Blk.later (blk_next9 _ _ _ _ _) hb2).alloc _, Blk.new _ _ _, ((h1.later hg2).later ((Below.refl _ _).alloc (Nat.le_refl _) _)).mono (Nat.zero_le _), (h2.later ((Below.refl _ _).alloc (Nat.le_refl _) _)).mono (Nat.zero_le _), (hb1.trans (hg2.mono hb1.size)).alloc (Nat.le_trans hb1.size hg2.size) _⟩
theorem PS.store {Y Z : Nat} {s3 s4 : Value} {e1 e2 e3 e4 e5 : Int} {a3 : Option Addr} {l3 c3 : Nat} {T : Tb} {a4 : Option Addr} {l4 c4 : Nat} {U : Tb} {w0 W : World} (h : PS Y Z s3 s4 e1 e2 e3 e4 e5 a3 l3 c3 T a4 l4 c4 U w0 W) {p : Nat} {cs : Array Value} (hp : Blk W p 24 cs) (h1 : Y + 1 < p) (h2 : Z < p) (h0 : w0.heap.size ≤ p) (v : Value) : PS Y Z s3 s4 e1 e2 e3 e4 e5 a3 l3 c3 T a4 l4 c4 U w0 (W.setCell ⟨p, 0, none⟩ v) := by
  obtain ⟨g1, g2, g3, g4, g5, g6⟩ := h
  exact ⟨g1.other (by omega) _, g2.other (by omega) _, g3.other (by omega) _, g4.box hp (grownBy_setCell4 _ _ _ _), g5.box hp (grownBy_setCell4 _ _ _ _), g6.setCell (by exact h0) _⟩
theorem PS.more {Y Z : Nat} {s3 s4 : Value} {e1 e2 e3 e4 e5 : Int} {a3 : Option Addr} {l3 c3 : Nat} {T : Tb} {a4 : Option Addr} {l4 c4 : Nat} {U : Tb} {w0 W : World} (h : PS Y Z s3 s4 e1 e2 e3 e4 e5 a3 l3 c3 T a4 l4 c4 U w0 W) : ∃ W', W.alloc (.cells #[.slice none 0 0] 24) = W' ∧ Below W.heap.size W W' ∧ Blk W' W.heap.size 24 #[.slice none 0 0] ∧ Y + 1 < W.heap.size ∧ Z < W.heap.size ∧ w0.heap.size ≤ W.heap.size := ⟨_, rfl, (Below.refl _ _).alloc (Nat.le_refl _) _, Blk.new _ _ _, h.2.1.lt, h.2.2.1.lt, h.2.2.2.2.2.size⟩
theorem PS.S {Y Z : Nat} {s3 s4 : Value} {e1 e2 e3 e4 e5 : Int} {a3 : Option Addr} {l3 c3 : Nat} {T : Tb} {a4 : Option Addr} {l4 c4 : Nat} {U : Tb} {w0 W : World} (h : PS Y Z s3 s4 e1 e2 e3 e4 e5 a3 l3 c3 T a4 l4 c4 U w0 W) : W.cell? ⟨Y, 0, none⟩ = some s3 ∧ W.cell? ⟨Z, 0, none⟩ = some s4 := ⟨h.cells.1, h.cells.2.2⟩
theorem atN_ok {T : Tb} (h : ∀ lf ∈ T, ∀ x ∈ lf, EnOk x) (i : Nat) : EnOk (atN T i) := by
  have hz : EnOk enZ := by unfold EnOk enZ I64; dsimp only; omega
  unfold atN
  by_cases h1 : i / 8 < T.length
  · by_cases h2 : i % 8 < (tbAt T (i / 8)).length
    · rw [lfAt_in h2]
      exact h _ (by rw [tbAt_in h1]; exact List.getElem_mem _) _ (List.getElem_mem _)
    · rw [lfAt_out (Nat.le_of_not_lt h2)]
      exact hz
  · rw [tbAt_out (Nat.le_of_not_lt h1), lfAt_nil]
    exact hz
theorem set_back {T : Tb} {e : En} {K : Nat} (hT : rightT T 4096 2) (he : MayE e 2) (hK : K < 4096) : setT (setT T K e) K (atN T K) = T := by
  have h1 := setT_at hT he (i := (K : Int)) (by omega)
  have h2 := setT_at h1.1 (right_may hT K) (i := (K : Int)) (by omega)
  refine right_ext h2.1 hT fun j => ?_
  rw [h2.2, h1.2, Int.toNat_natCast]
  by_cases h : j = K
  · rw [if_pos h, h]
  · rw [if_neg h, if_neg h]

set_option maxRecDepth 100000 in
set_option maxHeartbeats 4000000 in
theorem walk (a0 : Option Addr) (len0 cap0 : Nat) (z0 : List Int) (a1 : Int) (a2 : Int) (w : World) (w0 : IsRow .u16 w a0 len0 cap0 z0) (w1 : (Lit.int .u16 a1).wf = true) (w2 : (Lit.int .u8 a2).wf = true) :
    Calls Try.prog 4 #[.slice a0 len0 cap0, .int .u16 a1, .int .u8 a2] w fun e w' => e = .returned (.bool true) ∧ Below w.heap.size w w' := by
  obtain ⟨hz, hlen⟩ := r16_of w0
  have HMD := Lib.hid (made9 w a0 len0 cap0 _ hz hlen)
  have hT := madeT_right (min len0 60) (fun i hi => by
    obtain ⟨_, _, _, _, _, h⟩ := hz i (by omega)
    exact h)
  obtain ⟨T, hTn⟩ := named (madeT (fun i => (z0.getD i 0).toNat) (min len0 60))
  rw [hTn.out] at HMD hT
  have hb1 := bounds_u16 w1
  have hb2 := bounds_u8 w2
  obtain ⟨I, rfl⟩ : ∃ I : Nat, a1 = I := ⟨a1.toNat, by omega⟩
  obtain ⟨V, rfl⟩ : ∃ V : Nat, a2 = V := ⟨a2.toNat, by omega⟩
  obtain ⟨hme, hoe⟩ := enP_may V
  obtain ⟨K, hK⟩ := named (I % 320)
  have hK3 : K < 320 := by rw [← hK.out]; omega
  have htK : (I : Int).tmod 320 = (K : Int) := by rw [Int.tmod_eq_emod_of_nonneg (by omega), ← hK.out]; omega
  have hmK : (I : Int) % 320 = (K : Int) := by rw [← hK.out]; omega
  have hAW := Lib.hid (fun w => awake9 w)
  have hU := setT_at hT hme (i := (K : Int)) (by omega)
  rw [Int.toNat_natCast] at hU
  clear hz w0 w1 w2 hlen hTn
  by_cases hv : 128 ≤ V
  · have hen : enP V = (2, 7, 4, 0, 9) := by unfold enP; rw [if_pos hv]
    rw [hen] at hme hoe hU
    have HS := Lib.hid (fun w a l c h => set9_any w a l c T (K : Int) 2 7 4 0 9 h (by unfold I64; omega) hoe)
    go_enter Try.func4, Try.ntmps4
    go_wp2_with (first
      | (go_at_call 16; refine HMD.out.mono ?_; rintro e w1 ⟨a3, l3, c3, rfl, g1, g2⟩; have HB1 := Lib.hid g2; have HT1 := Lib.hid g1; have HTA := Lib.hid (g1.later (((Below.refl _ _).alloc (Nat.le_refl _) (.cells #[.slice a3 l3 c3] 24)).alloc (by simp) (.cells #[.int .i64 2, .int .i64 7, .int .i64 4, .int .i64 0, .int .u32 9] 27))).tab; clear g1 g2)
      | (go_at_call 11; refine (HS.out _ _ _ _ HTA.out).mono ?_; rintro e w2 ⟨a4, l4, c4, rfl, g1, g2⟩; have HP0 := Lib.hid (PS.first HT1.out HB1.out g1 g2); clear g1 g2))
    obtain ⟨W0, hW0⟩ := named (w2.alloc (.cells #[.slice a4 l4 c4] 24))
    obtain ⟨Y, hY⟩ := named w1.heap.size
    obtain ⟨Z, hZ⟩ := named w2.heap.size
    have hYY := hY.out
    have hZZ := hZ.out
    rw [hW0.out, hY.out, hZ.out] at HP0
    rw [hW0.out, hY.out, hZ.out]
    clear HTA HB1 HT1
    go_loopw [11] (fun i wr => ∃ (j : Nat), j ≤ 340 ∧ i = .int .i64 j ∧ Hid (PS Y Z (.slice a3 l3 c3) (.slice a4 l4 c4) 2 7 4 0 9 a3 l3 c3 T a4 l4 c4 (setT T K (2, 7, 4, 0, 9)) w wr)) (fun i _ => 340 - (intOf i).toNat)
    case atStart => exact ⟨0, Nat.zero_le _, rfl, HP0.out⟩
    case round =>
      obtain ⟨j, hj, rfl, HP⟩ := hrel
      obtain ⟨p1, p2, p3⟩ := HP.out.cells
      by_cases hlt : j < 340
      · obtain ⟨⟨v1, v2, v3, v4, v5⟩, hv⟩ := named (atN T j)
        have HTt := Lib.hid HP.out.2.2.2.1.tab
        have HG1 := Lib.hid (fun w h => getT (a := a3) (len := l3) (cap := c3) (T := T) w h (j : Int) (by unfold I64; omega) ((atT_nat T j).trans hv.out))
        by_cases hjk : j = K
        · subst hjk
          have hu : atT (setT T (j : Int) (2, 7, 4, 0, 9)) (j : Int) = (2, 7, 4, 0, 9) := by rw [atT_nat, hU.2, if_pos rfl]
          have HG2 := Lib.hid (fun w h => getT (a := a4) (len := l4) (cap := c4) (T := setT T (j : Int) (2, 7, 4, 0, 9)) w h (j : Int) (by unfold I64; omega) hu)
          have hjj : ((j : Int) == (j : Int)) = true := by simp
          go_wp2_with (go_at_call 17; (with_reducible refine (HG1.out _ HTt.out).mono ?_); rintro e w5 ⟨rfl, g⟩; obtain ⟨WX, hWX⟩ : ∃ WX, w5.alloc (.cells #[.int .i64 2, .int .i64 7, .int .i64 4, .int .i64 0, .int .u32 9] 27) = WX := ⟨_, rfl⟩; have HP5 := Lib.hid (HP.out.later g); have HPX := Lib.hid ((HP.out.later g).later ((Below.refl _ _).alloc (Nat.le_refl _) (.cells #[.int .i64 2, .int .i64 7, .int .i64 4, .int .i64 0, .int .u32 9] 27))); have HXX := Lib.hid (Blk.new w5 27 #[.int .i64 2, .int .i64 7, .int .i64 4, .int .i64 0, .int .u32 9]); rw [hWX] at HPX HXX; have HWX := Lib.hid hWX; have y0 := (HP.out.later g).cells.2.1; obtain ⟨y0, y1, y2, y3, y4⟩ := ((HP.out.later g).later ((Below.refl _ _).alloc (Nat.le_refl _) (.cells #[.int .i64 v1, .int .i64 v2, .int .i64 v3, .int .i64 v4, .int .u32 v5] 27))).cells.2.1; clear g hWX)
          rw [HWX.out]
          have HPd := Lib.hid (HPX.out.later (Below.refl _ _).drew)
          have HXd := Lib.hid (HXX.out.later (Below.refl _ _).drew)
          have HTd := Lib.hid HPd.out.2.2.2.2.1.tab
          clear HWX
          refine wp_region_held_drew (S := fun w' => w'.cell? ⟨Z, 0, none⟩ = some (.slice a4 l4 c4) ∧ w'.cell? ⟨w5.heap.size, 0, none⟩ = some (.int .i64 2) ∧ w'.cell? ⟨w5.heap.size, 1, none⟩ = some (.int .i64 7) ∧ w'.cell? ⟨w5.heap.size, 2, none⟩ = some (.int .i64 4) ∧ w'.cell? ⟨w5.heap.size, 3, none⟩ = some (.int .i64 0) ∧ w'.cell? ⟨w5.heap.size, 4, none⟩ = some (.int .u32 9)) (by kernel_rfl) (by first | exact ⟨HP6.out.cells.2.2, cells5 HX6.out⟩ | exact ⟨HPd.out.cells.2.2, cells5 HXd.out⟩) (fun hHeld => ?_)
          refine wpAnyH_take (i := 0) (oi := _) (v := ?vak0) rfl (by kernel_rfl) (by kernel_rfl) (by kernel_rfl) (fun _ _ _ h => h) (Or.inl ⟨by rfl, ?hyak0⟩) (by assumption) ?restak0
          case hyak0 => (intro wz hSw; (try dsimp only at hSw); go_simp; try with_reducible rfl)
          (try simp only [List.getElem_toArray, List.getElem_cons_zero, Act.put, List.setIfInBounds_toArray, List.set_cons_zero, List.set_cons_succ])
          refine wpAnyH_take (i := 1) (oi := _) (v := ?vak1) rfl (by kernel_rfl) (by kernel_rfl) (by kernel_rfl) (fun _ _ _ h => h) (Or.inl ⟨by rfl, ?hyak1⟩) (by assumption) ?restak1
          case hyak1 => (intro wz hSw; (try dsimp only at hSw); go_simp; try with_reducible rfl)
          (try simp only [List.getElem_toArray, List.getElem_cons_zero, List.getElem_cons_succ, Act.put, List.setIfInBounds_toArray, List.set_cons_zero, List.set_cons_succ])
          refine wpAnyH_take (i := 3) (oi := _) (v := ?vak3) rfl (by kernel_rfl) (by kernel_rfl) (by kernel_rfl) (fun _ _ _ h => h) (Or.inl ⟨by rfl, ?hyak3⟩) (by assumption) ?restak3
          case hyak3 => (intro wz hSw; (try dsimp only at hSw); go_simp; try with_reducible rfl)
          (try simp only [List.getElem_toArray, List.getElem_cons_zero, List.getElem_cons_succ, Act.put, List.setIfInBounds_toArray, List.set_cons_zero, List.set_cons_succ])
          refine wpAnyH_ready (rs := [2]) (by kernel_rfl) (by simp) ?_
          refine AllReadyH.cons (o := _) rfl (fun K hK => ?_) AllReadyH.nil
          rw [if_pos (by rfl)]
          go_simp
          (go_at_call 17; (with_reducible refine (HG2.out _ HTd.out).mono ?_); rintro e w6 ⟨rfl, g⟩; have HP6 := Lib.hid (HPd.out.later g); have HX6 := Lib.hid (HXd.out.later g); clear g)
          dsimp only
          refine hK.out _ _ (by first | exact ⟨HP6.out.cells.2.2, cells5 HX6.out⟩ | exact ⟨HPd.out.cells.2.2, cells5 HXd.out⟩) (fun hHeld => ?_)
          clear hK K
          (try simp only [List.getElem_toArray, List.getElem_cons_zero, List.getElem_cons_succ, Act.put, List.setIfInBounds_toArray, List.set_cons_zero, List.set_cons_succ])
          refine wpAnyH_take (i := 4) (oi := _) (v := ?vak4) rfl (by kernel_rfl) (by kernel_rfl) (by kernel_rfl) (fun _ _ _ h => h) (Or.inl ⟨by rfl, ?hyak4⟩) (by assumption) ?restak4
          case hyak4 => (intro wz hSw; (try dsimp only at hSw); go_simp; try with_reducible rfl)
          (try simp only [List.getElem_toArray, List.getElem_cons_zero, List.getElem_cons_succ, Act.put, List.setIfInBounds_toArray, List.set_cons_zero, List.set_cons_succ])
          refine wpAnyH_done (by kernel_rfl) ?_ _
          go_wp2
          go_roundw
          case rel => exact ⟨j + 1, by omega, by go_num, HP6.out⟩
          case measure => simp [intOf]; omega
        · have hu : atT (setT T (K : Int) (2, 7, 4, 0, 9)) (j : Int) = (v1, v2, v3, v4, v5) := by rw [atT_nat, hU.2, if_neg hjk, hv.out]
          have HG2 := Lib.hid (fun w h => getT (a := a4) (len := l4) (cap := c4) (T := setT T (K : Int) (2, 7, 4, 0, 9)) w h (j : Int) (by unfold I64; omega) hu)
          have hjj : ((j : Int) == (K : Int)) = false := by simp; omega
          go_wp2_with (go_at_call 17; (with_reducible refine (HG1.out _ HTt.out).mono ?_); rintro e w5 ⟨rfl, g⟩; obtain ⟨WX, hWX⟩ : ∃ WX, w5.alloc (.cells #[.int .i64 v1, .int .i64 v2, .int .i64 v3, .int .i64 v4, .int .u32 v5] 27) = WX := ⟨_, rfl⟩; have HP5 := Lib.hid (HP.out.later g); have HPX := Lib.hid ((HP.out.later g).later ((Below.refl _ _).alloc (Nat.le_refl _) (.cells #[.int .i64 v1, .int .i64 v2, .int .i64 v3, .int .i64 v4, .int .u32 v5] 27))); have HXX := Lib.hid (Blk.new w5 27 #[.int .i64 v1, .int .i64 v2, .int .i64 v3, .int .i64 v4, .int .u32 v5]); rw [hWX] at HPX HXX; have HWX := Lib.hid hWX; have y0 := (HP.out.later g).cells.2.1; obtain ⟨y0, y1, y2, y3, y4⟩ := ((HP.out.later g).later ((Below.refl _ _).alloc (Nat.le_refl _) (.cells #[.int .i64 v1, .int .i64 v2, .int .i64 v3, .int .i64 v4, .int .u32 v5] 27))).cells.2.1; clear g hWX)
          rw [HWX.out]
          have HPd := Lib.hid (HPX.out.later (Below.refl _ _).drew)
          have HXd := Lib.hid (HXX.out.later (Below.refl _ _).drew)
          have HTd := Lib.hid HPd.out.2.2.2.2.1.tab
          clear HWX
          refine wp_region_held_drew (S := fun w' => w'.cell? ⟨Z, 0, none⟩ = some (.slice a4 l4 c4) ∧ w'.cell? ⟨w5.heap.size, 0, none⟩ = some (.int .i64 v1) ∧ w'.cell? ⟨w5.heap.size, 1, none⟩ = some (.int .i64 v2) ∧ w'.cell? ⟨w5.heap.size, 2, none⟩ = some (.int .i64 v3) ∧ w'.cell? ⟨w5.heap.size, 3, none⟩ = some (.int .i64 v4) ∧ w'.cell? ⟨w5.heap.size, 4, none⟩ = some (.int .u32 v5)) (by kernel_rfl) (by first | exact ⟨HP6.out.cells.2.2, cells5 HX6.out⟩ | exact ⟨HPd.out.cells.2.2, cells5 HXd.out⟩) (fun hHeld => ?_)
          refine wpAnyH_take (i := 0) (oi := _) (v := ?van0) rfl (by kernel_rfl) (by kernel_rfl) (by kernel_rfl) (fun _ _ _ h => h) (Or.inl ⟨by rfl, ?hyan0⟩) (by assumption) ?restan0
          case hyan0 => (intro wz hSw; (try dsimp only at hSw); go_simp; try with_reducible rfl)
          (try simp only [List.getElem_toArray, List.getElem_cons_zero, Act.put, List.setIfInBounds_toArray, List.set_cons_zero, List.set_cons_succ])
          refine wpAnyH_take (i := 1) (oi := _) (v := ?van1) rfl (by kernel_rfl) (by kernel_rfl) (by kernel_rfl) (fun _ _ _ h => h) (Or.inl ⟨by rfl, ?hyan1⟩) (by assumption) ?restan1
          case hyan1 => (intro wz hSw; (try dsimp only at hSw); go_simp; try with_reducible rfl)
          (try simp only [List.getElem_toArray, List.getElem_cons_zero, List.getElem_cons_succ, Act.put, List.setIfInBounds_toArray, List.set_cons_zero, List.set_cons_succ])
          refine wpAnyH_take (i := 3) (oi := _) (v := ?van3) rfl (by kernel_rfl) (by kernel_rfl) (by kernel_rfl) (fun _ _ _ h => h) (Or.inl ⟨by rfl, ?hyan3⟩) (by assumption) ?restan3
          case hyan3 => (intro wz hSw; (try dsimp only at hSw); go_simp; try with_reducible rfl)
          (try simp only [List.getElem_toArray, List.getElem_cons_zero, List.getElem_cons_succ, Act.put, List.setIfInBounds_toArray, List.set_cons_zero, List.set_cons_succ])
          refine wpAnyH_ready (rs := [2]) (by kernel_rfl) (by simp) ?_
          refine AllReadyH.cons (o := _) rfl (fun K hK => ?_) AllReadyH.nil
          rw [if_pos (by rfl)]
          go_simp
          (go_at_call 17; (with_reducible refine (HG2.out _ HTd.out).mono ?_); rintro e w6 ⟨rfl, g⟩; have HP6 := Lib.hid (HPd.out.later g); have HX6 := Lib.hid (HXd.out.later g); clear g)
          dsimp only
          refine hK.out _ _ (by first | exact ⟨HP6.out.cells.2.2, cells5 HX6.out⟩ | exact ⟨HPd.out.cells.2.2, cells5 HXd.out⟩) (fun hHeld => ?_)
          clear hK K
          (try simp only [List.getElem_toArray, List.getElem_cons_zero, List.getElem_cons_succ, Act.put, List.setIfInBounds_toArray, List.set_cons_zero, List.set_cons_succ])
          refine wpAnyH_take (i := 4) (oi := _) (v := ?van4) rfl (by kernel_rfl) (by kernel_rfl) (by kernel_rfl) (fun _ _ _ h => h) (Or.inl ⟨by rfl, ?hyan4⟩) (by assumption) ?restan4
          case hyan4 => (intro wz hSw; (try dsimp only at hSw); go_simp; try with_reducible rfl)
          (try simp only [List.getElem_toArray, List.getElem_cons_zero, List.getElem_cons_succ, Act.put, List.setIfInBounds_toArray, List.set_cons_zero, List.set_cons_succ])
          refine wpAnyH_done (by kernel_rfl) ?_ _
          go_wp2
          go_roundw
          case rel => exact ⟨j + 1, by omega, by go_num, HP6.out⟩
          case measure => simp [intOf]; omega
      · obtain ⟨⟨v1, v2, v3, v4, v5⟩, hv⟩ := named (atN T K)
        have HTt := Lib.hid HP.out.2.2.2.1.tab
        have HG1 := Lib.hid (fun w h => getT (a := a3) (len := l3) (cap := c3) (T := T) w h (K : Int) (by unfold I64; omega) ((atT_nat T K).trans hv.out))
        have hvo : EnOk (v1, v2, v3, v4, v5) := by
          rw [← hv.out]
          exact atN_ok HP.out.2.2.2.1.tab.lens.2.2.2 K
        have HSb := Lib.hid (fun w h => set9_any w a4 l4 c4 (setT T (K : Int) (2, 7, 4, 0, 9)) (K : Int) v1 v2 v3 v4 v5 h (by unfold I64; omega) hvo)
        have hbk := set_back hT hme (K := K) (by omega)
        rw [hv.out] at hbk
        rw [hbk] at HSb
        have HRU := Lib.hid (fun w h => rightTT (a := a4) (len := l4) (cap := c4) (T := setT T (K : Int) (2, 7, 4, 0, 9)) (n := 4096) (c := 2) (R := true) (decide_eq_true hU.1) w h)
        have HQ0 := Lib.hid (HP.out.later (Below.refl _ _).drew)
        clear hbk hvo hv
        go_wp2
        refine wp_region_held_drew (S := fun w' => w'.cell? ⟨Y, 0, none⟩ = some (.slice a3 l3 c3) ∧ w'.cell? ⟨Z, 0, none⟩ = some (.slice a4 l4 c4)) (by kernel_rfl) (by first | exact HQ0.out.S) (fun hHeld => ?_)
        obtain ⟨Wd, hWd⟩ := named wr.drew
        rw [hWd.out] at HQ0 hHeld ⊢
        refine wpAnyH_take (i := 0) (oi := _) (v := ?vba0) rfl (by kernel_rfl) (by kernel_rfl) (by kernel_rfl) (fun _ _ _ h => h) (Or.inl ⟨by rfl, ?hyba0⟩) (by assumption) ?restba0
        case hyba0 => (intro wz hSw; (try dsimp only at hSw); go_simp; try with_reducible rfl)
        (try simp only [List.getElem_toArray, List.getElem_cons_zero, Act.put, List.setIfInBounds_toArray, List.set_cons_zero, List.set_cons_succ])
        refine wpAnyH_take (i := 1) (oi := _) (v := ?vba1) rfl (by kernel_rfl) (by kernel_rfl) (by kernel_rfl) (fun _ _ _ h => h) (Or.inl ⟨by rfl, ?hyba1⟩) (by assumption) ?restba1
        case hyba1 => (intro wz hSw; (try dsimp only at hSw); go_simp; try with_reducible rfl)
        (try simp only [List.getElem_toArray, List.getElem_cons_zero, List.getElem_cons_succ, Act.put, List.setIfInBounds_toArray, List.set_cons_zero, List.set_cons_succ])
        refine wpAnyH_take (i := 2) (oi := _) (v := ?vba2) rfl (by kernel_rfl) (by kernel_rfl) (by kernel_rfl) (fun _ _ _ h => h) (Or.inl ⟨by rfl, ?hyba2⟩) (by assumption) ?restba2
        case hyba2 => (intro wz hSw; (try dsimp only at hSw); go_simp; try with_reducible rfl)
        (try simp only [List.getElem_toArray, List.getElem_cons_zero, List.getElem_cons_succ, Act.put, List.setIfInBounds_toArray, List.set_cons_zero, List.set_cons_succ])
        refine wpAnyH_take (i := 3) (oi := _) (v := ?vba3) rfl (by kernel_rfl) (by kernel_rfl) (by kernel_rfl) (fun _ _ _ h => h) (Or.inl ⟨by rfl, ?hyba3⟩) (by assumption) ?restba3
        case hyba3 => (intro wz hSw; (try dsimp only at hSw); go_simp; try with_reducible rfl)
        (try simp only [List.getElem_toArray, List.getElem_cons_zero, List.getElem_cons_succ, Act.put, List.setIfInBounds_toArray, List.set_cons_zero, List.set_cons_succ])
        refine wpAnyH_ready (rs := [4, 6]) (by kernel_rfl) (by simp) ?_
        refine AllReadyH.cons (o := _) rfl (fun K hK => ?_) (AllReadyH.cons (o := _) rfl (fun K hK => ?_) AllReadyH.nil)
        · rw [if_pos (by rfl)]
          go_simp
          go_at_call 17
          refine (HG1.out _ HQ0.out.2.2.2.1.tab).mono ?_
          rintro e wg ⟨rfl, g⟩
          have HQ1 := Lib.hid (HQ0.out.later g)
          clear g
          dsimp only
          refine hK.out _ _ (by first | exact HQ1.out.S | exact HQ0.out.S) (fun hHeld => ?_)
          clear hK K
          (try simp only [List.getElem_toArray, List.getElem_cons_zero, List.getElem_cons_succ, Act.put, List.setIfInBounds_toArray, List.set_cons_zero, List.set_cons_succ])
          refine wpAnyH_ready (rs := [5, 6]) (by kernel_rfl) (by simp) ?_
          refine AllReadyH.cons (o := _) rfl (fun K hK => ?_) (AllReadyH.cons (o := _) rfl (fun K hK => ?_) AllReadyH.nil)
          · rw [if_pos (by rfl)]
            go_simp
            go_at_call 11
            refine (HSb.out _ HQ1.out.2.2.2.2.1.tab).mono ?_
            rintro e wb ⟨ab, lb, cb, rfl, g1, g2⟩
            have HQ2 := Lib.hid (HQ1.out.later g2)
            have HB2 := Lib.hid (g1.mono (Nat.zero_le _))
            clear g1 g2
            dsimp only
            refine hK.out _ _ (by first | exact HQ2.out.S | exact HQ1.out.S | exact HQ0.out.S) (fun hHeld => ?_)
            clear hK K
            (try simp only [List.getElem_toArray, List.getElem_cons_zero, List.getElem_cons_succ, Act.put, List.setIfInBounds_toArray, List.set_cons_zero, List.set_cons_succ])
            refine wpAnyH_ready (rs := [6]) (by kernel_rfl) (by simp) ?_
            refine AllReadyH.cons (o := _) rfl (fun K hK => ?_) AllReadyH.nil
            rw [if_pos (by rfl)]
            go_simp
            obtain ⟨wk, eK, gk, hbk, q1, q2, q3⟩ := HQ2.out.more
            rw [eK]
            have HQ3 := Lib.hid (HQ2.out.later gk)
            have HB3 := Lib.hid (HB2.out.later gk)
            have HK3 := Lib.hid hbk
            clear gk hbk eK
            refine hK.out _ _ (by first | exact HQ3.out.S | exact HQ2.out.S | exact HQ1.out.S | exact HQ0.out.S) (fun hHeld => ?_)
            clear hK K
            (try simp only [List.getElem_toArray, List.getElem_cons_zero, List.getElem_cons_succ, Act.put, List.setIfInBounds_toArray, List.set_cons_zero, List.set_cons_succ])
            have hk1 := one_cell9 HK3.out
            have hk2 := HK3.out.free 0
            have HF := Lib.hid (HQ3.out.store HK3.out (by assumption) (by assumption) (by assumption) (.slice ab lb cb))
            have HFB := Lib.hid (HB3.out.box HK3.out (grownBy_setCell4 _ _ 0 (.slice ab lb cb)))
            have HFK := Lib.hid (HK3.out.set 0 (.slice ab lb cb))
            refine wpAnyH_ready (rs := [7]) (by kernel_rfl) (by simp) ?_
            refine AllReadyH.cons (o := _) rfl (fun K hK => ?_) AllReadyH.nil
            rw [if_pos (by rfl)]
            go_simp
            refine hK.out _ _ (HF.out.S) (fun hHeld => ?_)
            clear hK K
            (try simp only [List.getElem_toArray, List.getElem_cons_zero, List.getElem_cons_succ, Act.put, List.setIfInBounds_toArray, List.set_cons_zero, List.set_cons_succ])
            refine wpAnyH_done (by kernel_rfl) ?_ _
            have HFU := Lib.hid HF.out.2.2.2.2.1.tab
            obtain ⟨fy0, fz0⟩ := HF.out.S
            have fk := one_cell9 HFK.out
            go_wp2_with (first
              | (go_at_call 18; (with_reducible refine (HRU.out _ HFU.out).mono ?_); rintro e wu ⟨rfl, g⟩; have HF2 := Lib.hid (HF.out.later g); have HFB2 := Lib.hid (HFB.out.later g); have HFK2 := one_cell9 (HFK.out.later g); have fy := (HF.out.later g).S.1; clear g)
              | (go_at_call 13; refine (tablesT (R := true) (decide_eq_true rfl) _ HFB2.out.tab HF2.out.2.2.2.1.tab).mono ?_; rintro e wv ⟨rfl, g⟩; have HF3 := Lib.hid (HF2.out.later g); clear g)
              | (go_at_call 9; (with_reducible refine (hAW.out _).mono ?_); rintro e ww ⟨rfl, g⟩; have HF4 := Lib.hid (HF3.out.later g); clear g))
            go_ret
            exact ⟨rfl, HF4.out.2.2.2.2.2⟩
          · rw [if_pos (by rfl)]
            go_simp
            obtain ⟨wk, eK, gk, hbk, q1, q2, q3⟩ := HQ1.out.more
            rw [eK]
            have HQ2 := Lib.hid (HQ1.out.later gk)
            have HK2 := Lib.hid hbk
            clear gk hbk eK
            refine hK.out _ _ (by first | exact HQ2.out.S | exact HQ1.out.S | exact HQ0.out.S) (fun hHeld => ?_)
            clear hK K
            (try simp only [List.getElem_toArray, List.getElem_cons_zero, List.getElem_cons_succ, Act.put, List.setIfInBounds_toArray, List.set_cons_zero, List.set_cons_succ])
            refine wpAnyH_ready (rs := [5]) (by kernel_rfl) (by simp) ?_
            refine AllReadyH.cons (o := _) rfl (fun K hK => ?_) AllReadyH.nil
            rw [if_pos (by rfl)]
            go_simp
            go_at_call 11
            refine (HSb.out _ HQ2.out.2.2.2.2.1.tab).mono ?_
            rintro e wb ⟨ab, lb, cb, rfl, g1, g2⟩
            have HQ3 := Lib.hid (HQ2.out.later g2)
            have HK3 := Lib.hid (HK2.out.later g2)
            have HB3 := Lib.hid (g1.mono (Nat.zero_le _))
            clear g1 g2
            dsimp only
            refine hK.out _ _ (by first | exact HQ3.out.S | exact HQ2.out.S | exact HQ1.out.S | exact HQ0.out.S) (fun hHeld => ?_)
            clear hK K
            (try simp only [List.getElem_toArray, List.getElem_cons_zero, List.getElem_cons_succ, Act.put, List.setIfInBounds_toArray, List.set_cons_zero, List.set_cons_succ])
            have hk1 := one_cell9 HK3.out
            have hk2 := HK3.out.free 0
            have HF := Lib.hid (HQ3.out.store HK3.out (by assumption) (by assumption) (by assumption) (.slice ab lb cb))
            have HFB := Lib.hid (HB3.out.box HK3.out (grownBy_setCell4 _ _ 0 (.slice ab lb cb)))
            have HFK := Lib.hid (HK3.out.set 0 (.slice ab lb cb))
            refine wpAnyH_ready (rs := [7]) (by kernel_rfl) (by simp) ?_
            refine AllReadyH.cons (o := _) rfl (fun K hK => ?_) AllReadyH.nil
            rw [if_pos (by rfl)]
            go_simp
            refine hK.out _ _ (HF.out.S) (fun hHeld => ?_)
            clear hK K
            (try simp only [List.getElem_toArray, List.getElem_cons_zero, List.getElem_cons_succ, Act.put, List.setIfInBounds_toArray, List.set_cons_zero, List.set_cons_succ])
            refine wpAnyH_done (by kernel_rfl) ?_ _
            have HFU := Lib.hid HF.out.2.2.2.2.1.tab
            obtain ⟨fy0, fz0⟩ := HF.out.S
            have fk := one_cell9 HFK.out
            go_wp2_with (first
              | (go_at_call 18; (with_reducible refine (HRU.out _ HFU.out).mono ?_); rintro e wu ⟨rfl, g⟩; have HF2 := Lib.hid (HF.out.later g); have HFB2 := Lib.hid (HFB.out.later g); have HFK2 := one_cell9 (HFK.out.later g); have fy := (HF.out.later g).S.1; clear g)
              | (go_at_call 13; refine (tablesT (R := true) (decide_eq_true rfl) _ HFB2.out.tab HF2.out.2.2.2.1.tab).mono ?_; rintro e wv ⟨rfl, g⟩; have HF3 := Lib.hid (HF2.out.later g); clear g)
              | (go_at_call 9; (with_reducible refine (hAW.out _).mono ?_); rintro e ww ⟨rfl, g⟩; have HF4 := Lib.hid (HF3.out.later g); clear g))
            go_ret
            exact ⟨rfl, HF4.out.2.2.2.2.2⟩
        · rw [if_pos (by rfl)]
          go_simp
          obtain ⟨wk, eK, gk, hbk, q1, q2, q3⟩ := HQ0.out.more
          rw [eK]
          have HQ1 := Lib.hid (HQ0.out.later gk)
          have HK1 := Lib.hid hbk
          clear gk hbk eK
          refine hK.out _ _ (by first | exact HQ1.out.S | exact HQ0.out.S) (fun hHeld => ?_)
          clear hK K
          (try simp only [List.getElem_toArray, List.getElem_cons_zero, List.getElem_cons_succ, Act.put, List.setIfInBounds_toArray, List.set_cons_zero, List.set_cons_succ])
          refine wpAnyH_ready (rs := [4]) (by kernel_rfl) (by simp) ?_
          refine AllReadyH.cons (o := _) rfl (fun K hK => ?_) AllReadyH.nil
          rw [if_pos (by rfl)]
          go_simp
          go_at_call 17
          refine (HG1.out _ HQ1.out.2.2.2.1.tab).mono ?_
          rintro e wg ⟨rfl, g⟩
          have HQ2 := Lib.hid (HQ1.out.later g)
          have HK2 := Lib.hid (HK1.out.later g)
          clear g
          dsimp only
          refine hK.out _ _ (by first | exact HQ2.out.S | exact HQ1.out.S | exact HQ0.out.S) (fun hHeld => ?_)
          clear hK K
          (try simp only [List.getElem_toArray, List.getElem_cons_zero, List.getElem_cons_succ, Act.put, List.setIfInBounds_toArray, List.set_cons_zero, List.set_cons_succ])
          refine wpAnyH_ready (rs := [5]) (by kernel_rfl) (by simp) ?_
          refine AllReadyH.cons (o := _) rfl (fun K hK => ?_) AllReadyH.nil
          rw [if_pos (by rfl)]
          go_simp
          go_at_call 11
          refine (HSb.out _ HQ2.out.2.2.2.2.1.tab).mono ?_
          rintro e wb ⟨ab, lb, cb, rfl, g1, g2⟩
          have HQ3 := Lib.hid (HQ2.out.later g2)
          have HK3 := Lib.hid (HK2.out.later g2)
          have HB3 := Lib.hid (g1.mono (Nat.zero_le _))
          clear g1 g2
          dsimp only
          refine hK.out _ _ (by first | exact HQ3.out.S | exact HQ2.out.S | exact HQ1.out.S | exact HQ0.out.S) (fun hHeld => ?_)
          clear hK K
          (try simp only [List.getElem_toArray, List.getElem_cons_zero, List.getElem_cons_succ, Act.put, List.setIfInBounds_toArray, List.set_cons_zero, List.set_cons_succ])
          have hk1 := one_cell9 HK3.out
          have hk2 := HK3.out.free 0
          have HF := Lib.hid (HQ3.out.store HK3.out (by assumption) (by assumption) (by assumption) (.slice ab lb cb))
          have HFB := Lib.hid (HB3.out.box HK3.out (grownBy_setCell4 _ _ 0 (.slice ab lb cb)))
          have HFK := Lib.hid (HK3.out.set 0 (.slice ab lb cb))
          refine wpAnyH_ready (rs := [7]) (by kernel_rfl) (by simp) ?_
          refine AllReadyH.cons (o := _) rfl (fun K hK => ?_) AllReadyH.nil
          rw [if_pos (by rfl)]
          go_simp
          refine hK.out _ _ (HF.out.S) (fun hHeld => ?_)
          clear hK K
          (try simp only [List.getElem_toArray, List.getElem_cons_zero, List.getElem_cons_succ, Act.put, List.setIfInBounds_toArray, List.set_cons_zero, List.set_cons_succ])
          refine wpAnyH_done (by kernel_rfl) ?_ _
          have HFU := Lib.hid HF.out.2.2.2.2.1.tab
          obtain ⟨fy0, fz0⟩ := HF.out.S
          have fk := one_cell9 HFK.out
          go_wp2_with (first
            | (go_at_call 18; (with_reducible refine (HRU.out _ HFU.out).mono ?_); rintro e wu ⟨rfl, g⟩; have HF2 := Lib.hid (HF.out.later g); have HFB2 := Lib.hid (HFB.out.later g); have HFK2 := one_cell9 (HFK.out.later g); have fy := (HF.out.later g).S.1; clear g)
            | (go_at_call 13; refine (tablesT (R := true) (decide_eq_true rfl) _ HFB2.out.tab HF2.out.2.2.2.1.tab).mono ?_; rintro e wv ⟨rfl, g⟩; have HF3 := Lib.hid (HF2.out.later g); clear g)
            | (go_at_call 9; (with_reducible refine (hAW.out _).mono ?_); rintro e ww ⟨rfl, g⟩; have HF4 := Lib.hid (HF3.out.later g); clear g))
          go_ret
          exact ⟨rfl, HF4.out.2.2.2.2.2⟩
  · obtain ⟨M2, hM2⟩ := named ((V : Int) % 2)
    have hen : enP V = (M2, 0, 0, 0, 0) := by
      rw [← hM2.out]
      unfold enP
      rw [if_neg hv]
      simp
    have hM2e := hM2.out
    rw [hen] at hme hoe hU
    have hvl : V < 128 := by omega
    have htm2 : (V : Int).tmod 2 = M2 := by rw [Int.tmod_eq_emod_of_nonneg (by omega)]; exact hM2e
    have HS := Lib.hid (fun w a l c h => set9_any w a l c T (K : Int) M2 0 0 0 0 h (by unfold I64; omega) hoe)
    go_enter Try.func4, Try.ntmps4
    go_wp2_with (first
      | (go_at_call 16; refine HMD.out.mono ?_; rintro e w1 ⟨a3, l3, c3, rfl, g1, g2⟩; have HB1 := Lib.hid g2; have HT1 := Lib.hid g1; have HTA := Lib.hid (g1.later (((Below.refl _ _).alloc (Nat.le_refl _) (.cells #[.slice a3 l3 c3] 24)).alloc (by simp) (.cells #[.int .i64 M2, .int .i64 0, .int .i64 0, .int .i64 0, .int .u32 0] 27))).tab; clear g1 g2)
      | (go_at_call 11; refine (HS.out _ _ _ _ HTA.out).mono ?_; rintro e w2 ⟨a4, l4, c4, rfl, g1, g2⟩; have HP0 := Lib.hid (PS.first HT1.out HB1.out g1 g2); clear g1 g2))
    obtain ⟨W0, hW0⟩ := named (w2.alloc (.cells #[.slice a4 l4 c4] 24))
    obtain ⟨Y, hY⟩ := named w1.heap.size
    obtain ⟨Z, hZ⟩ := named w2.heap.size
    have hYY := hY.out
    have hZZ := hZ.out
    rw [hW0.out, hY.out, hZ.out] at HP0
    rw [hW0.out, hY.out, hZ.out]
    clear HTA HB1 HT1
    go_loopw [11] (fun i wr => ∃ (j : Nat), j ≤ 340 ∧ i = .int .i64 j ∧ Hid (PS Y Z (.slice a3 l3 c3) (.slice a4 l4 c4) M2 0 0 0 0 a3 l3 c3 T a4 l4 c4 (setT T K (M2, 0, 0, 0, 0)) w wr)) (fun i _ => 340 - (intOf i).toNat)
    case atStart => exact ⟨0, Nat.zero_le _, rfl, HP0.out⟩
    case round =>
      obtain ⟨j, hj, rfl, HP⟩ := hrel
      obtain ⟨p1, p2, p3⟩ := HP.out.cells
      by_cases hlt : j < 340
      · obtain ⟨⟨v1, v2, v3, v4, v5⟩, hv⟩ := named (atN T j)
        have HTt := Lib.hid HP.out.2.2.2.1.tab
        have HG1 := Lib.hid (fun w h => getT (a := a3) (len := l3) (cap := c3) (T := T) w h (j : Int) (by unfold I64; omega) ((atT_nat T j).trans hv.out))
        by_cases hjk : j = K
        · subst hjk
          have hu : atT (setT T (j : Int) (M2, 0, 0, 0, 0)) (j : Int) = (M2, 0, 0, 0, 0) := by rw [atT_nat, hU.2, if_pos rfl]
          have HG2 := Lib.hid (fun w h => getT (a := a4) (len := l4) (cap := c4) (T := setT T (j : Int) (M2, 0, 0, 0, 0)) w h (j : Int) (by unfold I64; omega) hu)
          have hjj : ((j : Int) == (j : Int)) = true := by simp
          go_wp2_with (go_at_call 17; (with_reducible refine (HG1.out _ HTt.out).mono ?_); rintro e w5 ⟨rfl, g⟩; obtain ⟨WX, hWX⟩ : ∃ WX, w5.alloc (.cells #[.int .i64 M2, .int .i64 0, .int .i64 0, .int .i64 0, .int .u32 0] 27) = WX := ⟨_, rfl⟩; have HP5 := Lib.hid (HP.out.later g); have HPX := Lib.hid ((HP.out.later g).later ((Below.refl _ _).alloc (Nat.le_refl _) (.cells #[.int .i64 M2, .int .i64 0, .int .i64 0, .int .i64 0, .int .u32 0] 27))); have HXX := Lib.hid (Blk.new w5 27 #[.int .i64 M2, .int .i64 0, .int .i64 0, .int .i64 0, .int .u32 0]); rw [hWX] at HPX HXX; have HWX := Lib.hid hWX; have y0 := (HP.out.later g).cells.2.1; obtain ⟨y0, y1, y2, y3, y4⟩ := ((HP.out.later g).later ((Below.refl _ _).alloc (Nat.le_refl _) (.cells #[.int .i64 v1, .int .i64 v2, .int .i64 v3, .int .i64 v4, .int .u32 v5] 27))).cells.2.1; clear g hWX)
          rw [HWX.out]
          have HPd := Lib.hid (HPX.out.later (Below.refl _ _).drew)
          have HXd := Lib.hid (HXX.out.later (Below.refl _ _).drew)
          have HTd := Lib.hid HPd.out.2.2.2.2.1.tab
          clear HWX
          refine wp_region_held_drew (S := fun w' => w'.cell? ⟨Z, 0, none⟩ = some (.slice a4 l4 c4) ∧ w'.cell? ⟨w5.heap.size, 0, none⟩ = some (.int .i64 M2) ∧ w'.cell? ⟨w5.heap.size, 1, none⟩ = some (.int .i64 0) ∧ w'.cell? ⟨w5.heap.size, 2, none⟩ = some (.int .i64 0) ∧ w'.cell? ⟨w5.heap.size, 3, none⟩ = some (.int .i64 0) ∧ w'.cell? ⟨w5.heap.size, 4, none⟩ = some (.int .u32 0)) (by kernel_rfl) (by first | exact ⟨HP6.out.cells.2.2, cells5 HX6.out⟩ | exact ⟨HPd.out.cells.2.2, cells5 HXd.out⟩) (fun hHeld => ?_)
          refine wpAnyH_take (i := 0) (oi := _) (v := ?vbk0) rfl (by kernel_rfl) (by kernel_rfl) (by kernel_rfl) (fun _ _ _ h => h) (Or.inl ⟨by rfl, ?hybk0⟩) (by assumption) ?restbk0
          case hybk0 => (intro wz hSw; (try dsimp only at hSw); go_simp; try with_reducible rfl)
          (try simp only [List.getElem_toArray, List.getElem_cons_zero, Act.put, List.setIfInBounds_toArray, List.set_cons_zero, List.set_cons_succ])
          refine wpAnyH_take (i := 1) (oi := _) (v := ?vbk1) rfl (by kernel_rfl) (by kernel_rfl) (by kernel_rfl) (fun _ _ _ h => h) (Or.inl ⟨by rfl, ?hybk1⟩) (by assumption) ?restbk1
          case hybk1 => (intro wz hSw; (try dsimp only at hSw); go_simp; try with_reducible rfl)
          (try simp only [List.getElem_toArray, List.getElem_cons_zero, List.getElem_cons_succ, Act.put, List.setIfInBounds_toArray, List.set_cons_zero, List.set_cons_succ])
          refine wpAnyH_take (i := 3) (oi := _) (v := ?vbk3) rfl (by kernel_rfl) (by kernel_rfl) (by kernel_rfl) (fun _ _ _ h => h) (Or.inl ⟨by rfl, ?hybk3⟩) (by assumption) ?restbk3
          case hybk3 => (intro wz hSw; (try dsimp only at hSw); go_simp; try with_reducible rfl)
          (try simp only [List.getElem_toArray, List.getElem_cons_zero, List.getElem_cons_succ, Act.put, List.setIfInBounds_toArray, List.set_cons_zero, List.set_cons_succ])
          refine wpAnyH_ready (rs := [2]) (by kernel_rfl) (by simp) ?_
          refine AllReadyH.cons (o := _) rfl (fun K hK => ?_) AllReadyH.nil
          rw [if_pos (by rfl)]
          go_simp
          (go_at_call 17; (with_reducible refine (HG2.out _ HTd.out).mono ?_); rintro e w6 ⟨rfl, g⟩; have HP6 := Lib.hid (HPd.out.later g); have HX6 := Lib.hid (HXd.out.later g); clear g)
          dsimp only
          refine hK.out _ _ (by first | exact ⟨HP6.out.cells.2.2, cells5 HX6.out⟩ | exact ⟨HPd.out.cells.2.2, cells5 HXd.out⟩) (fun hHeld => ?_)
          clear hK K
          (try simp only [List.getElem_toArray, List.getElem_cons_zero, List.getElem_cons_succ, Act.put, List.setIfInBounds_toArray, List.set_cons_zero, List.set_cons_succ])
          refine wpAnyH_take (i := 4) (oi := _) (v := ?vbk4) rfl (by kernel_rfl) (by kernel_rfl) (by kernel_rfl) (fun _ _ _ h => h) (Or.inl ⟨by rfl, ?hybk4⟩) (by assumption) ?restbk4
          case hybk4 => (intro wz hSw; (try dsimp only at hSw); go_simp; try with_reducible rfl)
          (try simp only [List.getElem_toArray, List.getElem_cons_zero, List.getElem_cons_succ, Act.put, List.setIfInBounds_toArray, List.set_cons_zero, List.set_cons_succ])
          refine wpAnyH_done (by kernel_rfl) ?_ _
          go_wp2
          go_roundw
          case rel => exact ⟨j + 1, by omega, by go_num, HP6.out⟩
          case measure => simp [intOf]; omega
        · have hu : atT (setT T (K : Int) (M2, 0, 0, 0, 0)) (j : Int) = (v1, v2, v3, v4, v5) := by rw [atT_nat, hU.2, if_neg hjk, hv.out]
          have HG2 := Lib.hid (fun w h => getT (a := a4) (len := l4) (cap := c4) (T := setT T (K : Int) (M2, 0, 0, 0, 0)) w h (j : Int) (by unfold I64; omega) hu)
          have hjj : ((j : Int) == (K : Int)) = false := by simp; omega
          go_wp2_with (go_at_call 17; (with_reducible refine (HG1.out _ HTt.out).mono ?_); rintro e w5 ⟨rfl, g⟩; obtain ⟨WX, hWX⟩ : ∃ WX, w5.alloc (.cells #[.int .i64 v1, .int .i64 v2, .int .i64 v3, .int .i64 v4, .int .u32 v5] 27) = WX := ⟨_, rfl⟩; have HP5 := Lib.hid (HP.out.later g); have HPX := Lib.hid ((HP.out.later g).later ((Below.refl _ _).alloc (Nat.le_refl _) (.cells #[.int .i64 v1, .int .i64 v2, .int .i64 v3, .int .i64 v4, .int .u32 v5] 27))); have HXX := Lib.hid (Blk.new w5 27 #[.int .i64 v1, .int .i64 v2, .int .i64 v3, .int .i64 v4, .int .u32 v5]); rw [hWX] at HPX HXX; have HWX := Lib.hid hWX; have y0 := (HP.out.later g).cells.2.1; obtain ⟨y0, y1, y2, y3, y4⟩ := ((HP.out.later g).later ((Below.refl _ _).alloc (Nat.le_refl _) (.cells #[.int .i64 v1, .int .i64 v2, .int .i64 v3, .int .i64 v4, .int .u32 v5] 27))).cells.2.1; clear g hWX)
          rw [HWX.out]
          have HPd := Lib.hid (HPX.out.later (Below.refl _ _).drew)
          have HXd := Lib.hid (HXX.out.later (Below.refl _ _).drew)
          have HTd := Lib.hid HPd.out.2.2.2.2.1.tab
          clear HWX
          refine wp_region_held_drew (S := fun w' => w'.cell? ⟨Z, 0, none⟩ = some (.slice a4 l4 c4) ∧ w'.cell? ⟨w5.heap.size, 0, none⟩ = some (.int .i64 v1) ∧ w'.cell? ⟨w5.heap.size, 1, none⟩ = some (.int .i64 v2) ∧ w'.cell? ⟨w5.heap.size, 2, none⟩ = some (.int .i64 v3) ∧ w'.cell? ⟨w5.heap.size, 3, none⟩ = some (.int .i64 v4) ∧ w'.cell? ⟨w5.heap.size, 4, none⟩ = some (.int .u32 v5)) (by kernel_rfl) (by first | exact ⟨HP6.out.cells.2.2, cells5 HX6.out⟩ | exact ⟨HPd.out.cells.2.2, cells5 HXd.out⟩) (fun hHeld => ?_)
          refine wpAnyH_take (i := 0) (oi := _) (v := ?vbn0) rfl (by kernel_rfl) (by kernel_rfl) (by kernel_rfl) (fun _ _ _ h => h) (Or.inl ⟨by rfl, ?hybn0⟩) (by assumption) ?restbn0
          case hybn0 => (intro wz hSw; (try dsimp only at hSw); go_simp; try with_reducible rfl)
          (try simp only [List.getElem_toArray, List.getElem_cons_zero, Act.put, List.setIfInBounds_toArray, List.set_cons_zero, List.set_cons_succ])
          refine wpAnyH_take (i := 1) (oi := _) (v := ?vbn1) rfl (by kernel_rfl) (by kernel_rfl) (by kernel_rfl) (fun _ _ _ h => h) (Or.inl ⟨by rfl, ?hybn1⟩) (by assumption) ?restbn1
          case hybn1 => (intro wz hSw; (try dsimp only at hSw); go_simp; try with_reducible rfl)
          (try simp only [List.getElem_toArray, List.getElem_cons_zero, List.getElem_cons_succ, Act.put, List.setIfInBounds_toArray, List.set_cons_zero, List.set_cons_succ])
          refine wpAnyH_take (i := 3) (oi := _) (v := ?vbn3) rfl (by kernel_rfl) (by kernel_rfl) (by kernel_rfl) (fun _ _ _ h => h) (Or.inl ⟨by rfl, ?hybn3⟩) (by assumption) ?restbn3
          case hybn3 => (intro wz hSw; (try dsimp only at hSw); go_simp; try with_reducible rfl)
          (try simp only [List.getElem_toArray, List.getElem_cons_zero, List.getElem_cons_succ, Act.put, List.setIfInBounds_toArray, List.set_cons_zero, List.set_cons_succ])
          refine wpAnyH_ready (rs := [2]) (by kernel_rfl) (by simp) ?_
          refine AllReadyH.cons (o := _) rfl (fun K hK => ?_) AllReadyH.nil
          rw [if_pos (by rfl)]
          go_simp
          (go_at_call 17; (with_reducible refine (HG2.out _ HTd.out).mono ?_); rintro e w6 ⟨rfl, g⟩; have HP6 := Lib.hid (HPd.out.later g); have HX6 := Lib.hid (HXd.out.later g); clear g)
          dsimp only
          refine hK.out _ _ (by first | exact ⟨HP6.out.cells.2.2, cells5 HX6.out⟩ | exact ⟨HPd.out.cells.2.2, cells5 HXd.out⟩) (fun hHeld => ?_)
          clear hK K
          (try simp only [List.getElem_toArray, List.getElem_cons_zero, List.getElem_cons_succ, Act.put, List.setIfInBounds_toArray, List.set_cons_zero, List.set_cons_succ])
          refine wpAnyH_take (i := 4) (oi := _) (v := ?vbn4) rfl (by kernel_rfl) (by kernel_rfl) (by kernel_rfl) (fun _ _ _ h => h) (Or.inl ⟨by rfl, ?hybn4⟩) (by assumption) ?restbn4
          case hybn4 => (intro wz hSw; (try dsimp only at hSw); go_simp; try with_reducible rfl)
          (try simp only [List.getElem_toArray, List.getElem_cons_zero, List.getElem_cons_succ, Act.put, List.setIfInBounds_toArray, List.set_cons_zero, List.set_cons_succ])
          refine wpAnyH_done (by kernel_rfl) ?_ _
          go_wp2
          go_roundw
          case rel => exact ⟨j + 1, by omega, by go_num, HP6.out⟩
          case measure => simp [intOf]; omega
      · obtain ⟨⟨v1, v2, v3, v4, v5⟩, hv⟩ := named (atN T K)
        have HTt := Lib.hid HP.out.2.2.2.1.tab
        have HG1 := Lib.hid (fun w h => getT (a := a3) (len := l3) (cap := c3) (T := T) w h (K : Int) (by unfold I64; omega) ((atT_nat T K).trans hv.out))
        have hvo : EnOk (v1, v2, v3, v4, v5) := by
          rw [← hv.out]
          exact atN_ok HP.out.2.2.2.1.tab.lens.2.2.2 K
        have HSb := Lib.hid (fun w h => set9_any w a4 l4 c4 (setT T (K : Int) (M2, 0, 0, 0, 0)) (K : Int) v1 v2 v3 v4 v5 h (by unfold I64; omega) hvo)
        have hbk := set_back hT hme (K := K) (by omega)
        rw [hv.out] at hbk
        rw [hbk] at HSb
        have HRU := Lib.hid (fun w h => rightTT (a := a4) (len := l4) (cap := c4) (T := setT T (K : Int) (M2, 0, 0, 0, 0)) (n := 4096) (c := 2) (R := true) (decide_eq_true hU.1) w h)
        have HQ0 := Lib.hid (HP.out.later (Below.refl _ _).drew)
        clear hbk hvo hv
        go_wp2
        refine wp_region_held_drew (S := fun w' => w'.cell? ⟨Y, 0, none⟩ = some (.slice a3 l3 c3) ∧ w'.cell? ⟨Z, 0, none⟩ = some (.slice a4 l4 c4)) (by kernel_rfl) (by first | exact HQ0.out.S) (fun hHeld => ?_)
        obtain ⟨Wd, hWd⟩ := named wr.drew
        rw [hWd.out] at HQ0 hHeld ⊢
        refine wpAnyH_take (i := 0) (oi := _) (v := ?vbb0) rfl (by kernel_rfl) (by kernel_rfl) (by kernel_rfl) (fun _ _ _ h => h) (Or.inl ⟨by rfl, ?hybb0⟩) (by assumption) ?restbb0
        case hybb0 => (intro wz hSw; (try dsimp only at hSw); go_simp; try with_reducible rfl)
        (try simp only [List.getElem_toArray, List.getElem_cons_zero, Act.put, List.setIfInBounds_toArray, List.set_cons_zero, List.set_cons_succ])
        refine wpAnyH_take (i := 1) (oi := _) (v := ?vbb1) rfl (by kernel_rfl) (by kernel_rfl) (by kernel_rfl) (fun _ _ _ h => h) (Or.inl ⟨by rfl, ?hybb1⟩) (by assumption) ?restbb1
        case hybb1 => (intro wz hSw; (try dsimp only at hSw); go_simp; try with_reducible rfl)
        (try simp only [List.getElem_toArray, List.getElem_cons_zero, List.getElem_cons_succ, Act.put, List.setIfInBounds_toArray, List.set_cons_zero, List.set_cons_succ])
        refine wpAnyH_take (i := 2) (oi := _) (v := ?vbb2) rfl (by kernel_rfl) (by kernel_rfl) (by kernel_rfl) (fun _ _ _ h => h) (Or.inl ⟨by rfl, ?hybb2⟩) (by assumption) ?restbb2
        case hybb2 => (intro wz hSw; (try dsimp only at hSw); go_simp; try with_reducible rfl)
        (try simp only [List.getElem_toArray, List.getElem_cons_zero, List.getElem_cons_succ, Act.put, List.setIfInBounds_toArray, List.set_cons_zero, List.set_cons_succ])
        refine wpAnyH_take (i := 3) (oi := _) (v := ?vbb3) rfl (by kernel_rfl) (by kernel_rfl) (by kernel_rfl) (fun _ _ _ h => h) (Or.inl ⟨by rfl, ?hybb3⟩) (by assumption) ?restbb3
        case hybb3 => (intro wz hSw; (try dsimp only at hSw); go_simp; try with_reducible rfl)
        (try simp only [List.getElem_toArray, List.getElem_cons_zero, List.getElem_cons_succ, Act.put, List.setIfInBounds_toArray, List.set_cons_zero, List.set_cons_succ])
        refine wpAnyH_ready (rs := [4, 6]) (by kernel_rfl) (by simp) ?_
        refine AllReadyH.cons (o := _) rfl (fun K hK => ?_) (AllReadyH.cons (o := _) rfl (fun K hK => ?_) AllReadyH.nil)
        · rw [if_pos (by rfl)]
          go_simp
          go_at_call 17
          refine (HG1.out _ HQ0.out.2.2.2.1.tab).mono ?_
          rintro e wg ⟨rfl, g⟩
          have HQ1 := Lib.hid (HQ0.out.later g)
          clear g
          dsimp only
          refine hK.out _ _ (by first | exact HQ1.out.S | exact HQ0.out.S) (fun hHeld => ?_)
          clear hK K
          (try simp only [List.getElem_toArray, List.getElem_cons_zero, List.getElem_cons_succ, Act.put, List.setIfInBounds_toArray, List.set_cons_zero, List.set_cons_succ])
          refine wpAnyH_ready (rs := [5, 6]) (by kernel_rfl) (by simp) ?_
          refine AllReadyH.cons (o := _) rfl (fun K hK => ?_) (AllReadyH.cons (o := _) rfl (fun K hK => ?_) AllReadyH.nil)
          · rw [if_pos (by rfl)]
            go_simp
            go_at_call 11
            refine (HSb.out _ HQ1.out.2.2.2.2.1.tab).mono ?_
            rintro e wb ⟨ab, lb, cb, rfl, g1, g2⟩
            have HQ2 := Lib.hid (HQ1.out.later g2)
            have HB2 := Lib.hid (g1.mono (Nat.zero_le _))
            clear g1 g2
            dsimp only
            refine hK.out _ _ (by first | exact HQ2.out.S | exact HQ1.out.S | exact HQ0.out.S) (fun hHeld => ?_)
            clear hK K
            (try simp only [List.getElem_toArray, List.getElem_cons_zero, List.getElem_cons_succ, Act.put, List.setIfInBounds_toArray, List.set_cons_zero, List.set_cons_succ])
            refine wpAnyH_ready (rs := [6]) (by kernel_rfl) (by simp) ?_
            refine AllReadyH.cons (o := _) rfl (fun K hK => ?_) AllReadyH.nil
            rw [if_pos (by rfl)]
            go_simp
            obtain ⟨wk, eK, gk, hbk, q1, q2, q3⟩ := HQ2.out.more
            rw [eK]
            have HQ3 := Lib.hid (HQ2.out.later gk)
            have HB3 := Lib.hid (HB2.out.later gk)
            have HK3 := Lib.hid hbk
            clear gk hbk eK
            refine hK.out _ _ (by first | exact HQ3.out.S | exact HQ2.out.S | exact HQ1.out.S | exact HQ0.out.S) (fun hHeld => ?_)
            clear hK K
            (try simp only [List.getElem_toArray, List.getElem_cons_zero, List.getElem_cons_succ, Act.put, List.setIfInBounds_toArray, List.set_cons_zero, List.set_cons_succ])
            have hk1 := one_cell9 HK3.out
            have hk2 := HK3.out.free 0
            have HF := Lib.hid (HQ3.out.store HK3.out (by assumption) (by assumption) (by assumption) (.slice ab lb cb))
            have HFB := Lib.hid (HB3.out.box HK3.out (grownBy_setCell4 _ _ 0 (.slice ab lb cb)))
            have HFK := Lib.hid (HK3.out.set 0 (.slice ab lb cb))
            refine wpAnyH_ready (rs := [7]) (by kernel_rfl) (by simp) ?_
            refine AllReadyH.cons (o := _) rfl (fun K hK => ?_) AllReadyH.nil
            rw [if_pos (by rfl)]
            go_simp
            refine hK.out _ _ (HF.out.S) (fun hHeld => ?_)
            clear hK K
            (try simp only [List.getElem_toArray, List.getElem_cons_zero, List.getElem_cons_succ, Act.put, List.setIfInBounds_toArray, List.set_cons_zero, List.set_cons_succ])
            refine wpAnyH_done (by kernel_rfl) ?_ _
            have HFU := Lib.hid HF.out.2.2.2.2.1.tab
            obtain ⟨fy0, fz0⟩ := HF.out.S
            have fk := one_cell9 HFK.out
            go_wp2_with (first
              | (go_at_call 18; (with_reducible refine (HRU.out _ HFU.out).mono ?_); rintro e wu ⟨rfl, g⟩; have HF2 := Lib.hid (HF.out.later g); have HFB2 := Lib.hid (HFB.out.later g); have HFK2 := one_cell9 (HFK.out.later g); have fy := (HF.out.later g).S.1; clear g)
              | (go_at_call 13; refine (tablesT (R := true) (decide_eq_true rfl) _ HFB2.out.tab HF2.out.2.2.2.1.tab).mono ?_; rintro e wv ⟨rfl, g⟩; have HF3 := Lib.hid (HF2.out.later g); clear g)
              | (go_at_call 9; (with_reducible refine (hAW.out _).mono ?_); rintro e ww ⟨rfl, g⟩; have HF4 := Lib.hid (HF3.out.later g); clear g))
            go_ret
            exact ⟨rfl, HF4.out.2.2.2.2.2⟩
          · rw [if_pos (by rfl)]
            go_simp
            obtain ⟨wk, eK, gk, hbk, q1, q2, q3⟩ := HQ1.out.more
            rw [eK]
            have HQ2 := Lib.hid (HQ1.out.later gk)
            have HK2 := Lib.hid hbk
            clear gk hbk eK
            refine hK.out _ _ (by first | exact HQ2.out.S | exact HQ1.out.S | exact HQ0.out.S) (fun hHeld => ?_)
            clear hK K
            (try simp only [List.getElem_toArray, List.getElem_cons_zero, List.getElem_cons_succ, Act.put, List.setIfInBounds_toArray, List.set_cons_zero, List.set_cons_succ])
            refine wpAnyH_ready (rs := [5]) (by kernel_rfl) (by simp) ?_
            refine AllReadyH.cons (o := _) rfl (fun K hK => ?_) AllReadyH.nil
            rw [if_pos (by rfl)]
            go_simp
            go_at_call 11
            refine (HSb.out _ HQ2.out.2.2.2.2.1.tab).mono ?_
            rintro e wb ⟨ab, lb, cb, rfl, g1, g2⟩
            have HQ3 := Lib.hid (HQ2.out.later g2)
            have HK3 := Lib.hid (HK2.out.later g2)
            have HB3 := Lib.hid (g1.mono (Nat.zero_le _))
            clear g1 g2
            dsimp only
            refine hK.out _ _ (by first | exact HQ3.out.S | exact HQ2.out.S | exact HQ1.out.S | exact HQ0.out.S) (fun hHeld => ?_)
            clear hK K
            (try simp only [List.getElem_toArray, List.getElem_cons_zero, List.getElem_cons_succ, Act.put, List.setIfInBounds_toArray, List.set_cons_zero, List.set_cons_succ])
            have hk1 := one_cell9 HK3.out
            have hk2 := HK3.out.free 0
            have HF := Lib.hid (HQ3.out.store HK3.out (by assumption) (by assumption) (by assumption) (.slice ab lb cb))
            have HFB := Lib.hid (HB3.out.box HK3.out (grownBy_setCell4 _ _ 0 (.slice ab lb cb)))
            have HFK := Lib.hid (HK3.out.set 0 (.slice ab lb cb))
            refine wpAnyH_ready (rs := [7]) (by kernel_rfl) (by simp) ?_
            refine AllReadyH.cons (o := _) rfl (fun K hK => ?_) AllReadyH.nil
            rw [if_pos (by rfl)]
            go_simp
            refine hK.out _ _ (HF.out.S) (fun hHeld => ?_)
            clear hK K
            (try simp only [List.getElem_toArray, List.getElem_cons_zero, List.getElem_cons_succ, Act.put, List.setIfInBounds_toArray, List.set_cons_zero, List.set_cons_succ])
            refine wpAnyH_done (by kernel_rfl) ?_ _
            have HFU := Lib.hid HF.out.2.2.2.2.1.tab
            obtain ⟨fy0, fz0⟩ := HF.out.S
            have fk := one_cell9 HFK.out
            go_wp2_with (first
              | (go_at_call 18; (with_reducible refine (HRU.out _ HFU.out).mono ?_); rintro e wu ⟨rfl, g⟩; have HF2 := Lib.hid (HF.out.later g); have HFB2 := Lib.hid (HFB.out.later g); have HFK2 := one_cell9 (HFK.out.later g); have fy := (HF.out.later g).S.1; clear g)
              | (go_at_call 13; refine (tablesT (R := true) (decide_eq_true rfl) _ HFB2.out.tab HF2.out.2.2.2.1.tab).mono ?_; rintro e wv ⟨rfl, g⟩; have HF3 := Lib.hid (HF2.out.later g); clear g)
              | (go_at_call 9; (with_reducible refine (hAW.out _).mono ?_); rintro e ww ⟨rfl, g⟩; have HF4 := Lib.hid (HF3.out.later g); clear g))
            go_ret
            exact ⟨rfl, HF4.out.2.2.2.2.2⟩
        · rw [if_pos (by rfl)]
          go_simp
          obtain ⟨wk, eK, gk, hbk, q1, q2, q3⟩ := HQ0.out.more
          rw [eK]
          have HQ1 := Lib.hid (HQ0.out.later gk)
          have HK1 := Lib.hid hbk
          clear gk hbk eK
          refine hK.out _ _ (by first | exact HQ1.out.S | exact HQ0.out.S) (fun hHeld => ?_)
          clear hK K
          (try simp only [List.getElem_toArray, List.getElem_cons_zero, List.getElem_cons_succ, Act.put, List.setIfInBounds_toArray, List.set_cons_zero, List.set_cons_succ])
          refine wpAnyH_ready (rs := [4]) (by kernel_rfl) (by simp) ?_
          refine AllReadyH.cons (o := _) rfl (fun K hK => ?_) AllReadyH.nil
          rw [if_pos (by rfl)]
          go_simp
          go_at_call 17
          refine (HG1.out _ HQ1.out.2.2.2.1.tab).mono ?_
          rintro e wg ⟨rfl, g⟩
          have HQ2 := Lib.hid (HQ1.out.later g)
          have HK2 := Lib.hid (HK1.out.later g)
          clear g
          dsimp only
          refine hK.out _ _ (by first | exact HQ2.out.S | exact HQ1.out.S | exact HQ0.out.S) (fun hHeld => ?_)
          clear hK K
          (try simp only [List.getElem_toArray, List.getElem_cons_zero, List.getElem_cons_succ, Act.put, List.setIfInBounds_toArray, List.set_cons_zero, List.set_cons_succ])
          refine wpAnyH_ready (rs := [5]) (by kernel_rfl) (by simp) ?_
          refine AllReadyH.cons (o := _) rfl (fun K hK => ?_) AllReadyH.nil
          rw [if_pos (by rfl)]
          go_simp
          go_at_call 11
          refine (HSb.out _ HQ2.out.2.2.2.2.1.tab).mono ?_
          rintro e wb ⟨ab, lb, cb, rfl, g1, g2⟩
          have HQ3 := Lib.hid (HQ2.out.later g2)
          have HK3 := Lib.hid (HK2.out.later g2)
          have HB3 := Lib.hid (g1.mono (Nat.zero_le _))
          clear g1 g2
          dsimp only
          refine hK.out _ _ (by first | exact HQ3.out.S | exact HQ2.out.S | exact HQ1.out.S | exact HQ0.out.S) (fun hHeld => ?_)
          clear hK K
          (try simp only [List.getElem_toArray, List.getElem_cons_zero, List.getElem_cons_succ, Act.put, List.setIfInBounds_toArray, List.set_cons_zero, List.set_cons_succ])
          have hk1 := one_cell9 HK3.out
          have hk2 := HK3.out.free 0
          have HF := Lib.hid (HQ3.out.store HK3.out (by assumption) (by assumption) (by assumption) (.slice ab lb cb))
          have HFB := Lib.hid (HB3.out.box HK3.out (grownBy_setCell4 _ _ 0 (.slice ab lb cb)))
          have HFK := Lib.hid (HK3.out.set 0 (.slice ab lb cb))
          refine wpAnyH_ready (rs := [7]) (by kernel_rfl) (by simp) ?_
          refine AllReadyH.cons (o := _) rfl (fun K hK => ?_) AllReadyH.nil
          rw [if_pos (by rfl)]
          go_simp
          refine hK.out _ _ (HF.out.S) (fun hHeld => ?_)
          clear hK K
          (try simp only [List.getElem_toArray, List.getElem_cons_zero, List.getElem_cons_succ, Act.put, List.setIfInBounds_toArray, List.set_cons_zero, List.set_cons_succ])
          refine wpAnyH_done (by kernel_rfl) ?_ _
          have HFU := Lib.hid HF.out.2.2.2.2.1.tab
          obtain ⟨fy0, fz0⟩ := HF.out.S
          have fk := one_cell9 HFK.out
          go_wp2_with (first
            | (go_at_call 18; (with_reducible refine (HRU.out _ HFU.out).mono ?_); rintro e wu ⟨rfl, g⟩; have HF2 := Lib.hid (HF.out.later g); have HFB2 := Lib.hid (HFB.out.later g); have HFK2 := one_cell9 (HFK.out.later g); have fy := (HF.out.later g).S.1; clear g)
            | (go_at_call 13; refine (tablesT (R := true) (decide_eq_true rfl) _ HFB2.out.tab HF2.out.2.2.2.1.tab).mono ?_; rintro e wv ⟨rfl, g⟩; have HF3 := Lib.hid (HF2.out.later g); clear g)
            | (go_at_call 9; (with_reducible refine (hAW.out _).mono ?_); rintro e ww ⟨rfl, g⟩; have HF4 := Lib.hid (HF3.out.later g); clear g))
          go_ret
          exact ⟨rfl, HF4.out.2.2.2.2.2⟩

set_option maxRecDepth 100000 in
theorem lifted (os : Os) (started : os.Started) (H : Type) (enc : TypeId × Value → H) :
    ReturnsInHanded {} Try.checked os 4 .any (Rows.tablePlacesSpec.pre6 enc Try.prog Try.f4 Rows.tablePlacesRow.domain false) (Rows.tablePlacesSpec.post enc Try.prog Try.f4 false true false false) := by
  refine returnsInHanded_of_change (C := Try.checked) own started (by kernel_rfl) Try.func4
    (ChangeSpec.witness6 (enc := enc) (C := Try.checked) false ⟨#[], #[.slice none 0 0, .int .u16 0, .int .u8 0], []⟩ 8 (by kernel_rfl) (by kernel_rfl) (by kernel_rfl) (by kernel_rfl)) ?_
  intro W base args ds gs before hval0 hW hcnd _
  have hval : ∀ (j : Nat) t v, Try.f4.params[j]? = some t → args[j]? = some v → Value.okWide Try.prog W .any base t v := hval0
  have hW' := hW
  obtain ⟨p, q, hA0, hV, rfl, hfz, hnd⟩ := hW
  have hA : DataW.TrodAll enc Try.prog W 0 (fun _ => true) true Try.f4.params.toList args.toList ds p := hA0
  rw [Try.params4] at hA hval
  obtain ⟨v0, vs0, d0, ds0, p0, q0, hargs, rfl, rfl, h0, r0⟩ := trodAll_cons hA
  obtain ⟨v1, vs1, d1, ds1, p1, q1, rfl, rfl, rfl, h1, r1⟩ := trodAll_cons r0
  obtain ⟨v2, vs2, d2, ds2, p2, q2, rfl, rfl, rfl, h2, r2⟩ := trodAll_cons r1
  obtain ⟨rfl, rfl, rfl⟩ := trodAll_nil r2
  obtain rfl : args = #[v0, v1, v2] := by cases args; simp_all
  obtain ⟨rfl, rfl⟩ := trodVars_none hV
  have k0 := h0
  have lt0 : ∀ x ∈ p0, x.block < W.heap.size := by obtain ⟨m, hm⟩ := k0; exact DataW.trod_lt m _ _ _ hm
  obtain ⟨a0, len0, cap0, rfl⟩ := okWide_slice Try.underlying35 (hval 0 35 v0 rfl rfl)
  obtain ⟨z0, w0⟩ : ∃ zs, IsRow .u16 W a0 len0 cap0 zs := by
    obtain ⟨fuel, hf⟩ := h0
    rcases open_ints Try.underlying35 Try.underlying36 (by kernel_rfl) hf with ⟨hcs, _⟩ | ⟨x, l, c, zs, hcs, _, hl, hm, hz, _, hcell, hwz⟩
    · simp [Value.cells] at hcs
      obtain ⟨rfl, rfl, rfl⟩ := hcs
      exact ⟨[], .inl ⟨rfl, rfl, rfl, rfl⟩⟩
    · simp [Value.cells] at hcs
      obtain ⟨rfl, rfl, rfl⟩ := hcs
      exact ⟨zs, .inr ⟨_, rfl, hl, hm, by simpa using hz, hcell, hwz⟩⟩
  have k1 := h1
  have lt1 : ∀ x ∈ p1, x.block < W.heap.size := by obtain ⟨m, hm⟩ := k1; exact DataW.trod_lt m _ _ _ hm
  obtain ⟨a1, rfl, _, _, w1⟩ := open_int Try.underlying36 (hval 1 36 v1 rfl rfl) h1
  have k2 := h2
  have lt2 : ∀ x ∈ p2, x.block < W.heap.size := by obtain ⟨m, hm⟩ := k2; exact DataW.trod_lt m _ _ _ hm
  obtain ⟨a2, rfl, _, _, w2⟩ := open_int Try.underlying5 (hval 2 5 v2 rfl rfl) h2
  clear hA0 hval0
  refine (walk a0 len0 cap0 z0 a1 a2 W w0 w1 w2).mono fun e W' ⟨he, bel⟩ => ?_
  subst he
  exact ⟨_, rfl, _, _, _, [], _, [], hW', trodAll_mk1 (shut_bool Try.underlying4 _), (trodAll_cons_mk (Below.trod laidOut (by kernel_rfl) (of_decide_eq_true (by kernel_rfl)) k0 bel lt0) (trodAll_cons_mk (Below.trod laidOut (by kernel_rfl) (of_decide_eq_true (by kernel_rfl)) k1 bel lt1) (trodAll_cons_mk (Below.trod laidOut (by kernel_rfl) (of_decide_eq_true (by kernel_rfl)) k2 bel lt2) trodAll_mk0))), rfl, bel.frame _, fun h => by cases h⟩

theorem over : Rows.tablePlacesRow.holds Try.pinned (OpenSpec.ofChange Rows.tablePlacesSpec) :=
  OpenClaim.holds_of_wide 4 Try.f4 rfl rfl rfl rfl rfl rfl rfl ⟨rfl, rfl, rfl, rfl, rfl⟩ rfl rfl rfl rfl rfl (by kernel_rfl) Try.func4 (by kernel_rfl)
    (of_decide_eq_true (by kernel_rfl)) (by unfold Func.isWrapper; first | (rw [if_pos (by decide +kernel)]; kernel_rfl) | (rw [if_neg (by decide +kernel)]; exact ⟨rfl, rfl⟩))
    (fun os started H enc _ => lifted os started H enc)

/-- The statement. -/
theorem proved : Rows.TablePlacesSaid := over
#print axioms proved
end Go.Proofs.Ytbmgcofcjkcaaaa.tablePlaces
