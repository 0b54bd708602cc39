/-
  Proved: 'matryoshkalaw8.TableSets' returns true for every input (any table, any places, any entry), and each argument reads afterwards as before: the statement TableSetsSaid as given. Conditions: none beyond the statement's own.
-/
import Derived.Test.YtbmgcofcjkcaaaaRows
import Derived.Test.YtbmgcofcjkcaaaaW9
import Derived.Test.YtbmgcofcjkcaaaaD9
import Derived.Deep.RegionHeld3
import Derived.WalkKit
import Derived.ProofKit
import Derived.OpenShut
import Derived.ShutString
import Derived.ChangeOld
import Derived.Below
namespace Go.Proofs.Ytbmgcofcjkcaaaa.tableSets
open Go.ChangeShapes Go.WideShapes Go.ChangeAt Go.RowKit
open Go.ChangeMaps (open_string shut_string)
set_option linter.unusedVariables false

theorem own : ownKnob Try.prog.godebug = none := by kernel_rfl
theorem laidOut : laidOutB Try.prog = true := by kernel_rfl

theorem i64_of {n : Int} (h : (Lit.int .i64 n).wf = true) : I64 n := by
  have := bounds_i64 h
  unfold I64
  omega
/-- What the law holds: its boxes, the copy of the table. -/
def Mid (X Y : Nat) (s : Value) (e1 e2 e3 e4 e5 : Int) (a3 : Option Addr) (l3 c3 : Nat) (T : Tb) (w0 W : World) : Prop := Box2 X s #[.int .i64 e1, .int .i64 e2, .int .i64 e3, .int .i64 e4, .int .u32 e5] w0 W ∧ Blk W Y 24 #[.slice a3 l3 c3] ∧ TabN W 0 a3 l3 c3 T ∧ X + 1 < Y
section
variable {X Y l3 c3 : Nat} {s : Value} {e1 e2 e3 e4 e5 : Int} {a3 : Option Addr} {T : Tb} {w0 W W' : World}
theorem Mid.later (h : Mid X Y s e1 e2 e3 e4 e5 a3 l3 c3 T w0 W) (hb : Below W.heap.size W W') : Mid X Y s e1 e2 e3 e4 e5 a3 l3 c3 T w0 W' := ⟨h.1.later hb, h.2.1.later hb, h.2.2.1.later hb, h.2.2.2⟩
theorem Mid.below (h : Mid X Y s e1 e2 e3 e4 e5 a3 l3 c3 T w0 W) : Below X w0 W := h.1.2.2
theorem Mid.S (h : Mid X Y s e1 e2 e3 e4 e5 a3 l3 c3 T w0 W) : W.cell? ⟨X, 0, none⟩ = some s ∧ W.cell? ⟨X + 1, 0, none⟩ = some (.int .i64 e1) ∧ W.cell? ⟨X + 1, 1, none⟩ = some (.int .i64 e2) ∧ W.cell? ⟨X + 1, 2, none⟩ = some (.int .i64 e3) ∧ W.cell? ⟨X + 1, 3, none⟩ = some (.int .i64 e4) ∧ W.cell? ⟨X + 1, 4, none⟩ = some (.int .u32 e5) := ⟨one_cell9 h.1.1, cells5 h.1.2.1⟩
theorem al9 (h : Mid X Y s e1 e2 e3 e4 e5 a3 l3 c3 T w0 W) : Below W.heap.size W (W.alloc (.cells #[.slice none 0 0] 24)) := (Below.refl _ _).alloc (Nat.le_refl _) _
theorem alw9 (h : Mid X Y s e1 e2 e3 e4 e5 a3 l3 c3 T w0 W) : ∃ W', W.alloc (.cells #[.slice none 0 0] 24) = W' ∧ Below W.heap.size W W' ∧ Blk W' W.heap.size 24 #[.slice none 0 0] := ⟨_, rfl, (Below.refl _ _).alloc (Nat.le_refl _) _, Blk.new _ _ _⟩
theorem bl9 (h : Mid X Y s e1 e2 e3 e4 e5 a3 l3 c3 T w0 W) : Blk (W.alloc (.cells #[.slice none 0 0] 24)) W.heap.size 24 #[.slice none 0 0] := Blk.new _ _ _
theorem Mid.store (h : Mid X Y s e1 e2 e3 e4 e5 a3 l3 c3 T w0 W) {p : Nat} {cs : Array Value} (hp : Blk W p 24 cs) (hY : Y < p) (v : Value) : Mid X Y s e1 e2 e3 e4 e5 a3 l3 c3 T w0 (W.setCell ⟨p, 0, none⟩ v) := by
  obtain ⟨⟨h1, h2, h3⟩, h4, h5, h6⟩ := h
  exact ⟨⟨h1.other (by omega) _, h2.other (by omega) _, h3.setCell (by show X ≤ p; omega) _⟩, h4.other (by omega) _, h5.box hp (grownBy_setCell4 _ _ _ _), h6⟩
end
/-- Behind the assignment. -/
def FinS (X Y pa pb : Nat) (s : Value) (e1 e2 e3 e4 e5 : Int) (a3 : Option Addr) (l3 c3 : Nat) (T : Tb) (w0 : World) (a5 : Option Addr) (l5 c5 : Nat) (T5 : Tb) (a6 : Option Addr) (l6 c6 : Nat) (T6 : Tb) (W : World) : Prop :=
  Mid X Y s e1 e2 e3 e4 e5 a3 l3 c3 T w0 W ∧ TabN W 0 a5 l5 c5 T5 ∧ TabN W 0 a6 l6 c6 T6 ∧ Blk W pa 24 #[.slice a5 l5 c5] ∧ Blk W pb 24 #[.slice a6 l6 c6]
theorem FinS.later {X Y pa pb : Nat} {s : Value} {e1 e2 e3 e4 e5 : Int} {a3 : Option Addr} {l3 c3 : Nat} {T : Tb} {w0 : World} {a5 : Option Addr} {l5 c5 : Nat} {T5 : Tb} {a6 : Option Addr} {l6 c6 : Nat} {T6 : Tb} {W W' : World} (h : FinS X Y pa pb s e1 e2 e3 e4 e5 a3 l3 c3 T w0 a5 l5 c5 T5 a6 l6 c6 T6 W) (hb : Below W.heap.size W W') : FinS X Y pa pb s e1 e2 e3 e4 e5 a3 l3 c3 T w0 a5 l5 c5 T5 a6 l6 c6 T6 W' := ⟨h.1.later hb, h.2.1.later hb, h.2.2.1.later hb, h.2.2.2.1.later hb, h.2.2.2.2.later hb⟩
theorem FinS.S {X Y pa pb : Nat} {s : Value} {e1 e2 e3 e4 e5 : Int} {a3 : Option Addr} {l3 c3 : Nat} {T : Tb} {w0 : World} {a5 : Option Addr} {l5 c5 : Nat} {T5 : Tb} {a6 : Option Addr} {l6 c6 : Nat} {T6 : Tb} {W : World} (h : FinS X Y pa pb s e1 e2 e3 e4 e5 a3 l3 c3 T w0 a5 l5 c5 T5 a6 l6 c6 T6 W) :
    (W.cell? ⟨X, 0, none⟩ = some s ∧ W.cell? ⟨X + 1, 0, none⟩ = some (.int .i64 e1) ∧ W.cell? ⟨X + 1, 1, none⟩ = some (.int .i64 e2) ∧ W.cell? ⟨X + 1, 2, none⟩ = some (.int .i64 e3) ∧ W.cell? ⟨X + 1, 3, none⟩ = some (.int .i64 e4) ∧ W.cell? ⟨X + 1, 4, none⟩ = some (.int .u32 e5)) ∧ W.cell? ⟨Y, 0, none⟩ = some (.slice a3 l3 c3) ∧ W.cell? ⟨pa, 0, none⟩ = some (.slice a5 l5 c5) ∧ W.cell? ⟨pb, 0, none⟩ = some (.slice a6 l6 c6) :=
  ⟨h.1.S, one_cell9 h.1.2.1, one_cell9 h.2.2.2.1, one_cell9 h.2.2.2.2⟩
theorem mid9 {X Y l3 c3 pa pb : Nat} {s : Value} {e1 e2 e3 e4 e5 : Int} {a3 : Option Addr} {T : Tb} {w0 W : World} (h : Mid X Y s e1 e2 e3 e4 e5 a3 l3 c3 T w0 W) {a5 a6 : Option Addr} {l5 c5 l6 c6 : Nat} {T5 T6 : Tb} (h5 : TabN W 0 a5 l5 c5 T5) (h6 : TabN W 0 a6 l6 c6 T6)
    (hp : Blk W pa 24 #[.slice none 0 0]) (hq : Blk W pb 24 #[.slice none 0 0]) (g1 : Y < pa) (g2 : Y < pb) (g3 : pa ≠ pb) :
    (W.cell? ⟨pa, 0, none⟩ = some (.slice none 0 0) ∧ W.frozen? ⟨pa, 0, none⟩ = false) ∧ Mid X Y s e1 e2 e3 e4 e5 a3 l3 c3 T w0 (W.setCell ⟨pa, 0, none⟩ (.slice a5 l5 c5)) ∧
    ((W.setCell ⟨pa, 0, none⟩ (.slice a5 l5 c5)).cell? ⟨pb, 0, none⟩ = some (.slice none 0 0) ∧ (W.setCell ⟨pa, 0, none⟩ (.slice a5 l5 c5)).frozen? ⟨pb, 0, none⟩ = false) ∧
    FinS X Y pa pb s e1 e2 e3 e4 e5 a3 l3 c3 T w0 a5 l5 c5 T5 a6 l6 c6 T6 ((W.setCell ⟨pa, 0, none⟩ (.slice a5 l5 c5)).setCell ⟨pb, 0, none⟩ (.slice a6 l6 c6)) := by
  have hm := h.store hp g1 (.slice a5 l5 c5)
  have hq1 := hq.other (B' := pa) (i := 0) (fun e => g3 e.symm) (.slice a5 l5 c5)
  have hp1 := hp.set 0 (.slice a5 l5 c5)
  refine ⟨⟨one_cell9 hp, hp.free 0⟩, hm, ⟨one_cell9 hq1, hq1.free 0⟩, hm.store hq1 g2 _, (h5.box hp (grownBy_setCell4 _ _ _ _)).box hq1 (grownBy_setCell4 _ _ _ _), (h6.box hp (grownBy_setCell4 _ _ _ _)).box hq1 (grownBy_setCell4 _ _ _ _), ?_, hq1.set 0 _⟩
  exact hp1.other g3 _

set_option maxRecDepth 100000 in
set_option maxHeartbeats 4000000 in
theorem walk (a0 : Option Addr) (len0 cap0 : Nat) (a1 : Int) (a2 : Int) (g3 s3 n3 z3 m3 : Int) (w : World) (w0 : TabArg w a0 len0 cap0) (w1 : (Lit.int .i64 a1).wf = true) (w2 : (Lit.int .i64 a2).wf = true) (w3 : EnOk (g3, s3, n3, z3, m3)) :
    Calls Try.prog 3 #[.agg #[.slice a0 len0 cap0], .int .i64 a1, .int .i64 a2, .agg #[.int .i64 g3, .int .i64 s3, .int .i64 n3, .int .i64 z3, .int .u32 m3]] w fun e w' => e = .returned (.bool true) ∧ Below w.heap.size w w' := by
  obtain ⟨g, hg, hi⟩ := w0.2
  have HGR := Lib.hid (fun w h => great_any w a0 len0 cap0 g h)
  have hAW := Lib.hid (fun w => awake9 w)
  have HB0 := Lib.hid (Box2.first w (.slice a0 len0 cap0) #[.int .i64 g3, .int .i64 s3, .int .i64 n3, .int .i64 z3, .int .u32 m3])
  have hbw : Below w.heap.size w ((w.alloc (.cells #[.slice a0 len0 cap0] 24)).alloc (.cells #[.int .i64 g3, .int .i64 s3, .int .i64 n3, .int .i64 z3, .int .u32 m3] 27)) := HB0.out.2.2
  have HO0 := Lib.hid (hg.later hbw)
  by_cases hb : 6000 < greatN g len0
  · rw [decide_eq_true hb] at HGR
    obtain ⟨X, hX⟩ := named w.heap.size
    have hXX := hX.out
    rw [hX.out] at HB0 ⊢
    clear hi hg hbw
    go_enter Try.func3, Try.ntmps3
    go_wp2_with (first
      | (go_at_call 8; (with_reducible refine (HGR.out _ HO0.out).mono ?_); rintro e w2 ⟨rfl, g⟩; have HB := Lib.hid (HB0.out.later g); clear g)
      | (go_at_call 9; (with_reducible refine (hAW.out _).mono ?_); rintro e w3 ⟨rfl, g⟩; have HB3 := Lib.hid (HB.out.later g); clear g))
    go_ret
    exact ⟨rfl, HB3.out.2.2⟩
  · rw [decide_eq_false hb] at HGR
    obtain ⟨T, hT⟩ := w0.tab hg hi hb
    have HC := Lib.hid (fun w h => copyT (a := a0) (len := len0) (cap := cap0) (T := T) w h)
    have HS := Lib.hid (fun w h => set9_any w a0 len0 cap0 T a1 g3 s3 n3 z3 m3 h (i64_of w1) w3)
    have HRS := Lib.hid (fun w h => refSet9 w a0 len0 cap0 T a1 g3 s3 n3 z3 m3 h (i64_of w1) w3)
    have HU := Lib.hid (fun w h => cut9_any w a0 len0 cap0 T a2 h (i64_of w2))
    have HRU := Lib.hid (fun w h => refCut9 w a0 len0 cap0 T a2 h (i64_of w2))
    have HTW : Hid (∀ W, Below w.heap.size w W → Tab W a0 len0 cap0 T) := fun W hb => hT.later hb
    have HT0 := Lib.hid (hT.later hbw)
    obtain ⟨X, hX⟩ := named w.heap.size
    have hXX := hX.out
    rw [hX.out] at HB0 HTW ⊢
    clear hi hg hT w0 hbw
    go_enter Try.func3, Try.ntmps3
    go_wp2_with (first
      | (go_at_call 8; (with_reducible refine (HGR.out _ HO0.out).mono ?_); rintro e w2 ⟨rfl, g⟩; have HB2 := Lib.hid (HB0.out.later g); have HT2 := Lib.hid (HT0.out.later g); have b2 := one_cell9 (HB0.out.later g).1; obtain ⟨y0, y1, y2, y3, y4⟩ := cells5 (HB0.out.later g).2.1; clear g)
      | (go_at_call 10; refine (HC.out _ HT2.out).mono ?_; rintro e w3 ⟨a3, c3, rfl, g1, g2⟩; have HB3 := Lib.hid ((HB2.out.later g2).alloc (.cells #[.slice a3 len0 c3] 24)); have HXY := Lib.hid ((HB2.out.later g2).2.1.lt); have HW3 := Lib.hid (Blk.new w3 24 #[.slice a3 len0 c3]); have HT3 := Lib.hid ((HT2.out.later g2).later ((Below.refl _ _).alloc (Nat.le_refl _) (.cells #[.slice a3 len0 c3] 24))); have HN3 := Lib.hid ((g1.later ((Below.refl _ _).alloc (Nat.le_refl _) (.cells #[.slice a3 len0 c3] 24))).mono (Nat.zero_le _)); clear g1 g2))
    obtain ⟨W0, hW0⟩ := named (w3.alloc (.cells #[.slice a3 len0 c3] 24))
    obtain ⟨Y, hY⟩ := named w3.heap.size
    have hYY := hY.out
    have hM0 : Mid X Y (.slice a0 len0 cap0) g3 s3 n3 z3 m3 a3 len0 c3 T w W0 := by
      rw [← hW0.out, ← hY.out]
      exact ⟨HB3.out, HW3.out, HN3.out, HXY.out⟩
    have HM0 := Lib.hid (hM0.later (Below.refl _ _).drew)
    clear hM0
    rw [hW0.out, hY.out]
    clear HB3 HW3 HN3 HT3
    refine Code.wp_mono (Q := fun e A W => e = .normal ∧ ∃ (pa pb : Nat) (a5 : Option Addr) (l5 c5 : Nat) (a6 : Option Addr) (l6 c6 : Nat), A = { tmps := #[.agg #[.slice a0 len0 cap0], .int .i64 a1, .int .i64 a2, .agg #[.int .i64 g3, .int .i64 s3, .int .i64 n3, .int .i64 z3, .int .u32 m3], .pointer (some ⟨X, 0, none⟩), undef, undef, .pointer (some ⟨X + 1, 0, none⟩), .bool false, .pointer (some ⟨Y, 0, none⟩), .pointer (some ⟨pa, 0, none⟩), .pointer (some ⟨pb, 0, none⟩), .agg #[.slice a0 len0 cap0], .bool false, undef, .agg #[.slice a0 len0 cap0], .agg #[.slice a3 len0 c3], .agg #[.slice a0 len0 cap0], .int .i64 a1, .agg #[.int .i64 g3, .int .i64 s3, .int .i64 n3, .int .i64 z3, .int .u32 m3], .agg #[.slice a5 l5 c5], .agg #[.slice a0 len0 cap0], .int .i64 a2, .agg #[.slice a6 l6 c6], undef, undef, undef, undef, undef, undef, undef, undef, undef, undef, undef, undef, undef, undef, undef, undef, undef, undef, undef, undef, undef], defers := [] } ∧ FinS X Y pa pb (.slice a0 len0 cap0) g3 s3 n3 z3 m3 a3 len0 c3 T w a5 l5 c5 (setT T a1 (g3, s3, n3, z3, m3)) a6 l6 c6 (cutT T a2) W) ?_ ?_
    · rintro e A W ⟨rfl, pa, pb, a5, l5, c5, a6, l6, c6, rfl, hF⟩
      have HFd := Lib.hid (hF.later (Below.refl _ _).drew)
      clear hF
      go_wp2
      refine wp_region_held_drew (S := fun w' => (w'.cell? ⟨X, 0, none⟩ = some (.slice a0 len0 cap0) ∧ w'.cell? ⟨X + 1, 0, none⟩ = some (.int .i64 g3) ∧ w'.cell? ⟨X + 1, 1, none⟩ = some (.int .i64 s3) ∧ w'.cell? ⟨X + 1, 2, none⟩ = some (.int .i64 n3) ∧ w'.cell? ⟨X + 1, 3, none⟩ = some (.int .i64 z3) ∧ w'.cell? ⟨X + 1, 4, none⟩ = some (.int .u32 m3)) ∧ w'.cell? ⟨Y, 0, none⟩ = some (.slice a3 len0 c3) ∧ w'.cell? ⟨pa, 0, none⟩ = some (.slice a5 l5 c5) ∧ w'.cell? ⟨pb, 0, none⟩ = some (.slice a6 l6 c6)) (by kernel_rfl) (by first | exact HF12.out.S | exact HF11.out.S | exact HF10.out.S | exact HF9.out.S | exact HF8.out.S | exact HF7.out.S | exact HFd.out.S) (fun hHeld => ?_)
      refine wpAnyH_take (i := 0) (oi := _) (v := ?vr0) rfl (by kernel_rfl) (by kernel_rfl) (by kernel_rfl) (fun _ _ _ h => h) (Or.inl ⟨by rfl, ?hyr0⟩) (by assumption) ?restr0
      case hyr0 => (intro wz hSw; (try dsimp only at hSw); go_simp; try with_reducible rfl)
      (try simp only [List.getElem_toArray, List.getElem_cons_zero, Act.put, List.setIfInBounds_toArray, List.set_cons_zero, List.set_cons_succ])
      refine wpAnyH_take (i := 1) (oi := _) (v := ?vr1) rfl (by kernel_rfl) (by kernel_rfl) (by kernel_rfl) (fun _ _ _ h => h) (Or.inl ⟨by rfl, ?hyr1⟩) (by assumption) ?restr1
      case hyr1 => (intro wz hSw; (try dsimp only at hSw); go_simp; try with_reducible rfl)
      (try simp only [List.getElem_toArray, List.getElem_cons_zero, List.getElem_cons_succ, Act.put, List.setIfInBounds_toArray, List.set_cons_zero, List.set_cons_succ])
      refine wpAnyH_take (i := 2) (oi := _) (v := ?vr2) rfl (by kernel_rfl) (by kernel_rfl) (by kernel_rfl) (fun _ _ _ h => h) (Or.inl ⟨by rfl, ?hyr2⟩) (by assumption) ?restr2
      case hyr2 => (intro wz hSw; (try dsimp only at hSw); go_simp; try with_reducible rfl)
      (try simp only [List.getElem_toArray, List.getElem_cons_zero, List.getElem_cons_succ, Act.put, List.setIfInBounds_toArray, List.set_cons_zero, List.set_cons_succ])
      refine wpAnyH_take (i := 3) (oi := _) (v := ?vr3) rfl (by kernel_rfl) (by kernel_rfl) (by kernel_rfl) (fun _ _ _ h => h) (Or.inl ⟨by rfl, ?hyr3⟩) (by assumption) ?restr3
      case hyr3 => (intro wz hSw; (try dsimp only at hSw); go_simp; try with_reducible rfl)
      (try simp only [List.getElem_toArray, List.getElem_cons_zero, List.getElem_cons_succ, Act.put, List.setIfInBounds_toArray, List.set_cons_zero, List.set_cons_succ])
      refine wpAnyH_ready (rs := [4]) (by kernel_rfl) (by simp) ?_
      refine AllReadyH.cons (o := _) rfl (fun K hK => ?_) AllReadyH.nil
      rw [if_pos (by rfl)]
      go_simp
      (go_at_call 14; refine (HRS.out _ (HTW.out _ HFd.out.1.below)).mono ?_; rintro e w7 ⟨a7, l7, c7, rfl, g1, g2⟩; have HF7 := Lib.hid (HFd.out.later g2); have HN7 := Lib.hid g1; clear g1 g2)
      dsimp only
      refine hK.out _ _ (by first | exact HF12.out.S | exact HF11.out.S | exact HF10.out.S | exact HF9.out.S | exact HF8.out.S | exact HF7.out.S | exact HFd.out.S) (fun hHeld => ?_)
      clear hK K
      (try simp only [List.getElem_toArray, List.getElem_cons_zero, List.getElem_cons_succ, Act.put, List.setIfInBounds_toArray, List.set_cons_zero, List.set_cons_succ])
      refine wpAnyH_ready (rs := [5]) (by kernel_rfl) (by simp) ?_
      refine AllReadyH.cons (o := _) rfl (fun K hK => ?_) AllReadyH.nil
      rw [if_pos (by rfl)]
      go_simp
      (go_at_call 13; refine (tablesT (R := true) (decide_eq_true rfl) _ HF7.out.2.1.tab HN7.out.tab).mono ?_; rintro e w8 ⟨rfl, g⟩; have HF8 := Lib.hid (HF7.out.later g); clear g)
      dsimp only
      refine hK.out _ _ (by first | exact HF12.out.S | exact HF11.out.S | exact HF10.out.S | exact HF9.out.S | exact HF8.out.S | exact HF7.out.S | exact HFd.out.S) (fun hHeld => ?_)
      clear hK K
      (try simp only [List.getElem_toArray, List.getElem_cons_zero, List.getElem_cons_succ, Act.put, List.setIfInBounds_toArray, List.set_cons_zero, List.set_cons_succ])
      refine wpAnyH_take (i := 6) (oi := _) (v := ?vr6) rfl (by kernel_rfl) (by kernel_rfl) (by kernel_rfl) (fun _ _ _ h => h) (Or.inl ⟨by rfl, ?hyr6⟩) (by assumption) ?restr6
      case hyr6 => (intro wz hSw; (try dsimp only at hSw); go_simp; try with_reducible rfl)
      (try simp only [List.getElem_toArray, List.getElem_cons_zero, List.getElem_cons_succ, Act.put, List.setIfInBounds_toArray, List.set_cons_zero, List.set_cons_succ])
      refine wpAnyH_take (i := 7) (oi := _) (v := ?vr7) rfl (by kernel_rfl) (by kernel_rfl) (by kernel_rfl) (fun _ _ _ h => h) (Or.inl ⟨by rfl, ?hyr7⟩) (by assumption) ?restr7
      case hyr7 => (intro wz hSw; (try dsimp only at hSw); go_simp; try with_reducible rfl)
      (try simp only [List.getElem_toArray, List.getElem_cons_zero, List.getElem_cons_succ, Act.put, List.setIfInBounds_toArray, List.set_cons_zero, List.set_cons_succ])
      refine wpAnyH_take (i := 8) (oi := _) (v := ?vr8) rfl (by kernel_rfl) (by kernel_rfl) (by kernel_rfl) (fun _ _ _ h => h) (Or.inl ⟨by rfl, ?hyr8⟩) (by assumption) ?restr8
      case hyr8 => (intro wz hSw; (try dsimp only at hSw); go_simp; try with_reducible rfl)
      (try simp only [List.getElem_toArray, List.getElem_cons_zero, List.getElem_cons_succ, Act.put, List.setIfInBounds_toArray, List.set_cons_zero, List.set_cons_succ])
      refine wpAnyH_take (i := 9) (oi := _) (v := ?vr9) rfl (by kernel_rfl) (by kernel_rfl) (by kernel_rfl) (fun _ _ _ h => h) (Or.inl ⟨by rfl, ?hyr9⟩) (by assumption) ?restr9
      case hyr9 => (intro wz hSw; (try dsimp only at hSw); go_simp; try with_reducible rfl)
      (try simp only [List.getElem_toArray, List.getElem_cons_zero, List.getElem_cons_succ, Act.put, List.setIfInBounds_toArray, List.set_cons_zero, List.set_cons_succ])
      refine wpAnyH_ready (rs := [10]) (by kernel_rfl) (by simp) ?_
      refine AllReadyH.cons (o := _) rfl (fun K hK => ?_) AllReadyH.nil
      rw [if_pos (by rfl)]
      go_simp
      (go_at_call 15; refine (HRU.out _ (HTW.out _ HF8.out.1.below)).mono ?_; rintro e w9 ⟨a9, l9, c9, rfl, g1, g2⟩; have HF9 := Lib.hid (HF8.out.later g2); have HN9 := Lib.hid g1; clear g1 g2)
      dsimp only
      refine hK.out _ _ (by first | exact HF12.out.S | exact HF11.out.S | exact HF10.out.S | exact HF9.out.S | exact HF8.out.S | exact HF7.out.S | exact HFd.out.S) (fun hHeld => ?_)
      clear hK K
      (try simp only [List.getElem_toArray, List.getElem_cons_zero, List.getElem_cons_succ, Act.put, List.setIfInBounds_toArray, List.set_cons_zero, List.set_cons_succ])
      refine wpAnyH_ready (rs := [11]) (by kernel_rfl) (by simp) ?_
      refine AllReadyH.cons (o := _) rfl (fun K hK => ?_) AllReadyH.nil
      rw [if_pos (by rfl)]
      go_simp
      (go_at_call 13; refine (tablesT (R := true) (decide_eq_true rfl) _ HF9.out.2.2.1.tab HN9.out.tab).mono ?_; rintro e w10 ⟨rfl, g⟩; have HF10 := Lib.hid (HF9.out.later g); clear g)
      dsimp only
      refine hK.out _ _ (by first | exact HF12.out.S | exact HF11.out.S | exact HF10.out.S | exact HF9.out.S | exact HF8.out.S | exact HF7.out.S | exact HFd.out.S) (fun hHeld => ?_)
      clear hK K
      (try simp only [List.getElem_toArray, List.getElem_cons_zero, List.getElem_cons_succ, Act.put, List.setIfInBounds_toArray, List.set_cons_zero, List.set_cons_succ])
      refine wpAnyH_take (i := 12) (oi := _) (v := ?vr12) rfl (by kernel_rfl) (by kernel_rfl) (by kernel_rfl) (fun _ _ _ h => h) (Or.inl ⟨by rfl, ?hyr12⟩) (by assumption) ?restr12
      case hyr12 => (intro wz hSw; (try dsimp only at hSw); go_simp; try with_reducible rfl)
      (try simp only [List.getElem_toArray, List.getElem_cons_zero, List.getElem_cons_succ, Act.put, List.setIfInBounds_toArray, List.set_cons_zero, List.set_cons_succ])
      refine wpAnyH_take (i := 13) (oi := _) (v := ?vr13) rfl (by kernel_rfl) (by kernel_rfl) (by kernel_rfl) (fun _ _ _ h => h) (Or.inl ⟨by rfl, ?hyr13⟩) (by assumption) ?restr13
      case hyr13 => (intro wz hSw; (try dsimp only at hSw); go_simp; try with_reducible rfl)
      (try simp only [List.getElem_toArray, List.getElem_cons_zero, List.getElem_cons_succ, Act.put, List.setIfInBounds_toArray, List.set_cons_zero, List.set_cons_succ])
      refine wpAnyH_take (i := 14) (oi := _) (v := ?vr14) rfl (by kernel_rfl) (by kernel_rfl) (by kernel_rfl) (fun _ _ _ h => h) (Or.inl ⟨by rfl, ?hyr14⟩) (by assumption) ?restr14
      case hyr14 => (intro wz hSw; (try dsimp only at hSw); go_simp; try with_reducible rfl)
      (try simp only [List.getElem_toArray, List.getElem_cons_zero, List.getElem_cons_succ, Act.put, List.setIfInBounds_toArray, List.set_cons_zero, List.set_cons_succ])
      refine wpAnyH_take (i := 15) (oi := _) (v := ?vr15) rfl (by kernel_rfl) (by kernel_rfl) (by kernel_rfl) (fun _ _ _ h => h) (Or.inl ⟨by rfl, ?hyr15⟩) (by assumption) ?restr15
      case hyr15 => (intro wz hSw; (try dsimp only at hSw); go_simp; try with_reducible rfl)
      (try simp only [List.getElem_toArray, List.getElem_cons_zero, List.getElem_cons_succ, Act.put, List.setIfInBounds_toArray, List.set_cons_zero, List.set_cons_succ])
      refine wpAnyH_ready (rs := [16]) (by kernel_rfl) (by simp) ?_
      refine AllReadyH.cons (o := _) rfl (fun K hK => ?_) AllReadyH.nil
      rw [if_pos (by rfl)]
      go_simp
      (go_at_call 13; refine (tablesT (R := true) (decide_eq_true rfl) _ (HTW.out _ HF10.out.1.below) HF10.out.1.2.2.1.tab).mono ?_; rintro e w11 ⟨rfl, g⟩; have HF11 := Lib.hid (HF10.out.later g); clear g)
      dsimp only
      refine hK.out _ _ (by first | exact HF12.out.S | exact HF11.out.S | exact HF10.out.S | exact HF9.out.S | exact HF8.out.S | exact HF7.out.S | exact HFd.out.S) (fun hHeld => ?_)
      clear hK K
      (try simp only [List.getElem_toArray, List.getElem_cons_zero, List.getElem_cons_succ, Act.put, List.setIfInBounds_toArray, List.set_cons_zero, List.set_cons_succ])
      refine wpAnyH_take (i := 17) (oi := _) (v := ?vr17) rfl (by kernel_rfl) (by kernel_rfl) (by kernel_rfl) (fun _ _ _ h => h) (Or.inl ⟨by rfl, ?hyr17⟩) (by assumption) ?restr17
      case hyr17 => (intro wz hSw; (try dsimp only at hSw); go_simp; try with_reducible rfl)
      (try simp only [List.getElem_toArray, List.getElem_cons_zero, List.getElem_cons_succ, Act.put, List.setIfInBounds_toArray, List.set_cons_zero, List.set_cons_succ])
      refine wpAnyH_take (i := 18) (oi := _) (v := ?vr18) rfl (by kernel_rfl) (by kernel_rfl) (by kernel_rfl) (fun _ _ _ h => h) (Or.inl ⟨by rfl, ?hyr18⟩) (by assumption) ?restr18
      case hyr18 => (intro wz hSw; (try dsimp only at hSw); go_simp; try with_reducible rfl)
      (try simp only [List.getElem_toArray, List.getElem_cons_zero, List.getElem_cons_succ, Act.put, List.setIfInBounds_toArray, List.set_cons_zero, List.set_cons_succ])
      refine wpAnyH_ready (rs := [19]) (by kernel_rfl) (by simp) ?_
      refine AllReadyH.cons (o := _) rfl (fun K hK => ?_) AllReadyH.nil
      rw [if_pos (by rfl)]
      go_simp
      (go_at_call 9; refine (hAW.out _).mono ?_; rintro e w12 ⟨rfl, g⟩; have HF12 := Lib.hid (HF11.out.later g); clear g)
      dsimp only
      refine hK.out _ _ (by first | exact HF12.out.S | exact HF11.out.S | exact HF10.out.S | exact HF9.out.S | exact HF8.out.S | exact HF7.out.S | exact HFd.out.S) (fun hHeld => ?_)
      clear hK K
      (try simp only [List.getElem_toArray, List.getElem_cons_zero, List.getElem_cons_succ, Act.put, List.setIfInBounds_toArray, List.set_cons_zero, List.set_cons_succ])
      refine wpAnyH_take (i := 20) (oi := _) (v := ?vr20) rfl (by kernel_rfl) (by kernel_rfl) (by kernel_rfl) (fun _ _ _ h => h) (Or.inl ⟨by rfl, ?hyr20⟩) (by assumption) ?restr20
      case hyr20 => (intro wz hSw; (try dsimp only at hSw); go_simp; try with_reducible rfl)
      (try simp only [List.getElem_toArray, List.getElem_cons_zero, List.getElem_cons_succ, Act.put, List.setIfInBounds_toArray, List.set_cons_zero, List.set_cons_succ])
      refine wpAnyH_take (i := 21) (oi := _) (v := ?vr21) rfl (by kernel_rfl) (by kernel_rfl) (by kernel_rfl) (fun _ _ _ h => h) (Or.inl ⟨by rfl, ?hyr21⟩) (by assumption) ?restr21
      case hyr21 => (intro wz hSw; (try dsimp only at hSw); go_simp; try with_reducible rfl)
      (try simp only [List.getElem_toArray, List.getElem_cons_zero, List.getElem_cons_succ, Act.put, List.setIfInBounds_toArray, List.set_cons_zero, List.set_cons_succ])
      refine wpAnyH_done (by kernel_rfl) ?_ _
      go_wp2
      go_ret
      exact ⟨rfl, HF12.out.1.below⟩
    · refine wp_region_held_drew (S := fun w' => w'.cell? ⟨X, 0, none⟩ = some (.slice a0 len0 cap0) ∧ w'.cell? ⟨X + 1, 0, none⟩ = some (.int .i64 g3) ∧ w'.cell? ⟨X + 1, 1, none⟩ = some (.int .i64 s3) ∧ w'.cell? ⟨X + 1, 2, none⟩ = some (.int .i64 n3) ∧ w'.cell? ⟨X + 1, 3, none⟩ = some (.int .i64 z3) ∧ w'.cell? ⟨X + 1, 4, none⟩ = some (.int .u32 m3)) (by kernel_rfl) (by first | exact HM0.out.S) (fun hHeld => ?_)
      obtain ⟨Wd, hWd⟩ := named W0.drew
      rw [hWd.out] at HM0 hHeld ⊢
      refine wpAnyH_take (i := 0) (oi := _) (v := ?va0) rfl (by kernel_rfl) (by kernel_rfl) (by kernel_rfl) (fun _ _ _ h => by cases h.1) (Or.inl ⟨by rfl, ?hya0⟩) (by assumption) ?resta0
      case hya0 => (intro wz hSw; (try dsimp only at hSw); go_simp; try with_reducible rfl)
      (try simp only [List.getElem_toArray, List.getElem_cons_zero, Act.put, List.setIfInBounds_toArray, List.set_cons_zero, List.set_cons_succ])
      refine wpAnyH_take (i := 1) (oi := _) (v := ?va1) rfl (by kernel_rfl) (by kernel_rfl) (by kernel_rfl) (fun _ _ _ h => by cases h.1) (Or.inl ⟨by rfl, ?hya1⟩) (by assumption) ?resta1
      case hya1 => (intro wz hSw; (try dsimp only at hSw); go_simp; try with_reducible rfl)
      (try simp only [List.getElem_toArray, List.getElem_cons_zero, List.getElem_cons_succ, Act.put, List.setIfInBounds_toArray, List.set_cons_zero, List.set_cons_succ])
      refine wpAnyH_take (i := 2) (oi := _) (v := ?va2) rfl (by kernel_rfl) (by kernel_rfl) (by kernel_rfl) (fun _ _ _ h => by cases h.1) (Or.inl ⟨by rfl, ?hya2⟩) (by assumption) ?resta2
      case hya2 => (intro wz hSw; (try dsimp only at hSw); go_simp; try with_reducible rfl)
      (try simp only [List.getElem_toArray, List.getElem_cons_zero, List.getElem_cons_succ, Act.put, List.setIfInBounds_toArray, List.set_cons_zero, List.set_cons_succ])
      refine wpAnyH_take (i := 4) (oi := _) (v := ?va4) rfl (by kernel_rfl) (by kernel_rfl) (by kernel_rfl) (fun _ _ _ h => by cases h.1) (Or.inl ⟨by rfl, ?hya4⟩) (by assumption) ?resta4
      case hya4 => (intro wz hSw; (try dsimp only at hSw); go_simp; try with_reducible rfl)
      (try simp only [List.getElem_toArray, List.getElem_cons_zero, List.getElem_cons_succ, Act.put, List.setIfInBounds_toArray, List.set_cons_zero, List.set_cons_succ])
      refine wpAnyH_take (i := 5) (oi := _) (v := ?va5) rfl (by kernel_rfl) (by kernel_rfl) (by kernel_rfl) (fun _ _ _ h => by cases h.1) (Or.inl ⟨by rfl, ?hya5⟩) (by assumption) ?resta5
      case hya5 => (intro wz hSw; (try dsimp only at hSw); go_simp; try with_reducible rfl)
      (try simp only [List.getElem_toArray, List.getElem_cons_zero, List.getElem_cons_succ, Act.put, List.setIfInBounds_toArray, List.set_cons_zero, List.set_cons_succ])
      refine wpAnyH_ready (rs := [3, 7, 8]) (by kernel_rfl) (by simp) ?_
      refine AllReadyH.cons (o := _) rfl (fun K hK => ?_) (AllReadyH.cons (o := _) rfl (fun K hK => ?_) (AllReadyH.cons (o := _) rfl (fun K hK => ?_) AllReadyH.nil))
      · rw [if_pos (by rfl)]
        go_simp
        go_at_call 11
        refine (HS.out _ (HTW.out _ HM0.out.below)).mono ?_
        rintro e wa ⟨a5, l5, c5, rfl, g1, g2⟩
        have HM1 := Lib.hid (HM0.out.later g2)
        have HA1 := Lib.hid (g1.mono (Nat.zero_le _))
        clear g1 g2
        dsimp only
        refine hK.out _ _ (by first | exact HM1.out.S | exact HM0.out.S) (fun hHeld => ?_)
        clear hK K
        (try simp only [List.getElem_toArray, List.getElem_cons_zero, List.getElem_cons_succ, Act.put, List.setIfInBounds_toArray, List.set_cons_zero, List.set_cons_succ])
        refine wpAnyH_ready (rs := [6, 7, 8]) (by kernel_rfl) (by simp) ?_
        refine AllReadyH.cons (o := _) rfl (fun K hK => ?_) (AllReadyH.cons (o := _) rfl (fun K hK => ?_) (AllReadyH.cons (o := _) rfl (fun K hK => ?_) AllReadyH.nil))
        · rw [if_pos (by rfl)]
          go_simp
          go_at_call 12
          refine (HU.out _ (HTW.out _ HM1.out.below)).mono ?_
          rintro e wb ⟨a6, l6, c6, rfl, g1, g2⟩
          have HM2 := Lib.hid (HM1.out.later g2)
          have HA2 := Lib.hid (HA1.out.later g2)
          have HC2 := Lib.hid (g1.mono (Nat.zero_le _))
          clear g1 g2
          dsimp only
          refine hK.out _ _ (by first | exact HM2.out.S | exact HM1.out.S | exact HM0.out.S) (fun hHeld => ?_)
          clear hK K
          (try simp only [List.getElem_toArray, List.getElem_cons_zero, List.getElem_cons_succ, Act.put, List.setIfInBounds_toArray, List.set_cons_zero, List.set_cons_succ])
          refine wpAnyH_ready (rs := [7, 8]) (by kernel_rfl) (by simp) ?_
          refine AllReadyH.cons (o := _) rfl (fun K hK => ?_) (AllReadyH.cons (o := _) rfl (fun K hK => ?_) AllReadyH.nil)
          · rw [if_pos (by rfl)]
            go_simp
            obtain ⟨wx3, eW3, gz3, hbl3⟩ := alw9 HM2.out
            rw [eW3]
            have HM3 := Lib.hid (HM2.out.later gz3)
            have HA3 := Lib.hid (HA2.out.later gz3)
            have HC3 := Lib.hid (HC2.out.later gz3)
            have HP3 := Lib.hid hbl3
            have ltY3 := HM2.out.2.1.lt
            clear gz3 hbl3 eW3
            refine hK.out _ _ (by first | exact HM3.out.S | exact HM2.out.S | exact HM1.out.S | exact HM0.out.S) (fun hHeld => ?_)
            clear hK K
            (try simp only [List.getElem_toArray, List.getElem_cons_zero, List.getElem_cons_succ, Act.put, List.setIfInBounds_toArray, List.set_cons_zero, List.set_cons_succ])
            refine wpAnyH_ready (rs := [8]) (by kernel_rfl) (by simp) ?_
            refine AllReadyH.cons (o := _) rfl (fun K hK => ?_) AllReadyH.nil
            rw [if_pos (by rfl)]
            go_simp
            obtain ⟨wx4, eW4, gz4, hbl4⟩ := alw9 HM3.out
            rw [eW4]
            have HM4 := Lib.hid (HM3.out.later gz4)
            have HA4 := Lib.hid (HA3.out.later gz4)
            have HC4 := Lib.hid (HC3.out.later gz4)
            have HP4 := Lib.hid (HP3.out.later gz4)
            have HQ4 := Lib.hid hbl4
            have ltY4 := HM3.out.2.1.lt
            have ltO := HP3.out.lt
            clear gz4 hbl4 eW4
            refine hK.out _ _ (by first | exact HM4.out.S | exact HM3.out.S | exact HM2.out.S | exact HM1.out.S | exact HM0.out.S) (fun hHeld => ?_)
            clear hK K
            (try simp only [List.getElem_toArray, List.getElem_cons_zero, List.getElem_cons_succ, Act.put, List.setIfInBounds_toArray, List.set_cons_zero, List.set_cons_succ])
            obtain ⟨⟨f1, f2⟩, f3, ⟨f4, f5⟩, f6⟩ := mid9 HM4.out HA4.out HC4.out HP4.out HQ4.out (by assumption) (by assumption) (by first | exact Nat.ne_of_lt ltO | exact (Nat.ne_of_lt ltO).symm)
            refine wpAnyH_ready (rs := [9]) (by kernel_rfl) (by simp) ?_
            refine AllReadyH.cons (o := _) rfl (fun K hK => ?_) AllReadyH.nil
            rw [if_pos (by rfl)]
            go_simp
            refine hK.out _ _ (f3.S) (fun hHeld => ?_)
            clear hK K
            (try simp only [List.getElem_toArray, List.getElem_cons_zero, List.getElem_cons_succ, Act.put, List.setIfInBounds_toArray, List.set_cons_zero, List.set_cons_succ])
            refine wpAnyH_ready (rs := [10]) (by kernel_rfl) (by simp) ?_
            refine AllReadyH.cons (o := _) rfl (fun K hK => ?_) AllReadyH.nil
            rw [if_pos (by rfl)]
            go_simp
            refine hK.out _ _ (f6.1.S) (fun hHeld => ?_)
            clear hK K
            (try simp only [List.getElem_toArray, List.getElem_cons_zero, List.getElem_cons_succ, Act.put, List.setIfInBounds_toArray, List.set_cons_zero, List.set_cons_succ])
            refine wpAnyH_done (by kernel_rfl) ?_ _
            exact ⟨rfl, _, _, a5, l5, c5, a6, l6, c6, rfl, f6⟩
          · rw [if_pos (by rfl)]
            go_simp
            obtain ⟨wx3, eW3, gz3, hbl3⟩ := alw9 HM2.out
            rw [eW3]
            have HM3 := Lib.hid (HM2.out.later gz3)
            have HA3 := Lib.hid (HA2.out.later gz3)
            have HC3 := Lib.hid (HC2.out.later gz3)
            have HQ3 := Lib.hid hbl3
            have ltY3 := HM2.out.2.1.lt
            clear gz3 hbl3 eW3
            refine hK.out _ _ (by first | exact HM3.out.S | exact HM2.out.S | exact HM1.out.S | exact HM0.out.S) (fun hHeld => ?_)
            clear hK K
            (try simp only [List.getElem_toArray, List.getElem_cons_zero, List.getElem_cons_succ, Act.put, List.setIfInBounds_toArray, List.set_cons_zero, List.set_cons_succ])
            refine wpAnyH_ready (rs := [7]) (by kernel_rfl) (by simp) ?_
            refine AllReadyH.cons (o := _) rfl (fun K hK => ?_) AllReadyH.nil
            rw [if_pos (by rfl)]
            go_simp
            obtain ⟨wx4, eW4, gz4, hbl4⟩ := alw9 HM3.out
            rw [eW4]
            have HM4 := Lib.hid (HM3.out.later gz4)
            have HA4 := Lib.hid (HA3.out.later gz4)
            have HC4 := Lib.hid (HC3.out.later gz4)
            have HQ4 := Lib.hid (HQ3.out.later gz4)
            have HP4 := Lib.hid hbl4
            have ltY4 := HM3.out.2.1.lt
            have ltO := HQ3.out.lt
            clear gz4 hbl4 eW4
            refine hK.out _ _ (by first | exact HM4.out.S | exact HM3.out.S | exact HM2.out.S | exact HM1.out.S | exact HM0.out.S) (fun hHeld => ?_)
            clear hK K
            (try simp only [List.getElem_toArray, List.getElem_cons_zero, List.getElem_cons_succ, Act.put, List.setIfInBounds_toArray, List.set_cons_zero, List.set_cons_succ])
            obtain ⟨⟨f1, f2⟩, f3, ⟨f4, f5⟩, f6⟩ := mid9 HM4.out HA4.out HC4.out HP4.out HQ4.out (by assumption) (by assumption) (by first | exact Nat.ne_of_lt ltO | exact (Nat.ne_of_lt ltO).symm)
            refine wpAnyH_ready (rs := [9]) (by kernel_rfl) (by simp) ?_
            refine AllReadyH.cons (o := _) rfl (fun K hK => ?_) AllReadyH.nil
            rw [if_pos (by rfl)]
            go_simp
            refine hK.out _ _ (f3.S) (fun hHeld => ?_)
            clear hK K
            (try simp only [List.getElem_toArray, List.getElem_cons_zero, List.getElem_cons_succ, Act.put, List.setIfInBounds_toArray, List.set_cons_zero, List.set_cons_succ])
            refine wpAnyH_ready (rs := [10]) (by kernel_rfl) (by simp) ?_
            refine AllReadyH.cons (o := _) rfl (fun K hK => ?_) AllReadyH.nil
            rw [if_pos (by rfl)]
            go_simp
            refine hK.out _ _ (f6.1.S) (fun hHeld => ?_)
            clear hK K
            (try simp only [List.getElem_toArray, List.getElem_cons_zero, List.getElem_cons_succ, Act.put, List.setIfInBounds_toArray, List.set_cons_zero, List.set_cons_succ])
            refine wpAnyH_done (by kernel_rfl) ?_ _
            exact ⟨rfl, _, _, a5, l5, c5, a6, l6, c6, rfl, f6⟩
        · rw [if_pos (by rfl)]
          go_simp
          obtain ⟨wx2, eW2, gz2, hbl2⟩ := alw9 HM1.out
          rw [eW2]
          have HM2 := Lib.hid (HM1.out.later gz2)
          have HA2 := Lib.hid (HA1.out.later gz2)
          have HP2 := Lib.hid hbl2
          have ltY2 := HM1.out.2.1.lt
          clear gz2 hbl2 eW2
          refine hK.out _ _ (by first | exact HM2.out.S | exact HM1.out.S | exact HM0.out.S) (fun hHeld => ?_)
          clear hK K
          (try simp only [List.getElem_toArray, List.getElem_cons_zero, List.getElem_cons_succ, Act.put, List.setIfInBounds_toArray, List.set_cons_zero, List.set_cons_succ])
          refine wpAnyH_ready (rs := [6, 8]) (by kernel_rfl) (by simp) ?_
          refine AllReadyH.cons (o := _) rfl (fun K hK => ?_) (AllReadyH.cons (o := _) rfl (fun K hK => ?_) AllReadyH.nil)
          · rw [if_pos (by rfl)]
            go_simp
            go_at_call 12
            refine (HU.out _ (HTW.out _ HM2.out.below)).mono ?_
            rintro e wb ⟨a6, l6, c6, rfl, g1, g2⟩
            have HM3 := Lib.hid (HM2.out.later g2)
            have HA3 := Lib.hid (HA2.out.later g2)
            have HP3 := Lib.hid (HP2.out.later g2)
            have HC3 := Lib.hid (g1.mono (Nat.zero_le _))
            clear g1 g2
            dsimp only
            refine hK.out _ _ (by first | exact HM3.out.S | exact HM2.out.S | exact HM1.out.S | exact HM0.out.S) (fun hHeld => ?_)
            clear hK K
            (try simp only [List.getElem_toArray, List.getElem_cons_zero, List.getElem_cons_succ, Act.put, List.setIfInBounds_toArray, List.set_cons_zero, List.set_cons_succ])
            refine wpAnyH_ready (rs := [8]) (by kernel_rfl) (by simp) ?_
            refine AllReadyH.cons (o := _) rfl (fun K hK => ?_) AllReadyH.nil
            rw [if_pos (by rfl)]
            go_simp
            obtain ⟨wx4, eW4, gz4, hbl4⟩ := alw9 HM3.out
            rw [eW4]
            have HM4 := Lib.hid (HM3.out.later gz4)
            have HA4 := Lib.hid (HA3.out.later gz4)
            have HC4 := Lib.hid (HC3.out.later gz4)
            have HP4 := Lib.hid (HP3.out.later gz4)
            have HQ4 := Lib.hid hbl4
            have ltY4 := HM3.out.2.1.lt
            have ltO := HP3.out.lt
            clear gz4 hbl4 eW4
            refine hK.out _ _ (by first | exact HM4.out.S | exact HM3.out.S | exact HM2.out.S | exact HM1.out.S | exact HM0.out.S) (fun hHeld => ?_)
            clear hK K
            (try simp only [List.getElem_toArray, List.getElem_cons_zero, List.getElem_cons_succ, Act.put, List.setIfInBounds_toArray, List.set_cons_zero, List.set_cons_succ])
            obtain ⟨⟨f1, f2⟩, f3, ⟨f4, f5⟩, f6⟩ := mid9 HM4.out HA4.out HC4.out HP4.out HQ4.out (by assumption) (by assumption) (by first | exact Nat.ne_of_lt ltO | exact (Nat.ne_of_lt ltO).symm)
            refine wpAnyH_ready (rs := [9]) (by kernel_rfl) (by simp) ?_
            refine AllReadyH.cons (o := _) rfl (fun K hK => ?_) AllReadyH.nil
            rw [if_pos (by rfl)]
            go_simp
            refine hK.out _ _ (f3.S) (fun hHeld => ?_)
            clear hK K
            (try simp only [List.getElem_toArray, List.getElem_cons_zero, List.getElem_cons_succ, Act.put, List.setIfInBounds_toArray, List.set_cons_zero, List.set_cons_succ])
            refine wpAnyH_ready (rs := [10]) (by kernel_rfl) (by simp) ?_
            refine AllReadyH.cons (o := _) rfl (fun K hK => ?_) AllReadyH.nil
            rw [if_pos (by rfl)]
            go_simp
            refine hK.out _ _ (f6.1.S) (fun hHeld => ?_)
            clear hK K
            (try simp only [List.getElem_toArray, List.getElem_cons_zero, List.getElem_cons_succ, Act.put, List.setIfInBounds_toArray, List.set_cons_zero, List.set_cons_succ])
            refine wpAnyH_done (by kernel_rfl) ?_ _
            exact ⟨rfl, _, _, a5, l5, c5, a6, l6, c6, rfl, f6⟩
          · rw [if_pos (by rfl)]
            go_simp
            obtain ⟨wx3, eW3, gz3, hbl3⟩ := alw9 HM2.out
            rw [eW3]
            have HM3 := Lib.hid (HM2.out.later gz3)
            have HA3 := Lib.hid (HA2.out.later gz3)
            have HP3 := Lib.hid (HP2.out.later gz3)
            have HQ3 := Lib.hid hbl3
            have ltY3 := HM2.out.2.1.lt
            have ltO := HP2.out.lt
            clear gz3 hbl3 eW3
            refine hK.out _ _ (by first | exact HM3.out.S | exact HM2.out.S | exact HM1.out.S | exact HM0.out.S) (fun hHeld => ?_)
            clear hK K
            (try simp only [List.getElem_toArray, List.getElem_cons_zero, List.getElem_cons_succ, Act.put, List.setIfInBounds_toArray, List.set_cons_zero, List.set_cons_succ])
            refine wpAnyH_ready (rs := [6]) (by kernel_rfl) (by simp) ?_
            refine AllReadyH.cons (o := _) rfl (fun K hK => ?_) AllReadyH.nil
            rw [if_pos (by rfl)]
            go_simp
            go_at_call 12
            refine (HU.out _ (HTW.out _ HM3.out.below)).mono ?_
            rintro e wb ⟨a6, l6, c6, rfl, g1, g2⟩
            have HM4 := Lib.hid (HM3.out.later g2)
            have HA4 := Lib.hid (HA3.out.later g2)
            have HP4 := Lib.hid (HP3.out.later g2)
            have HQ4 := Lib.hid (HQ3.out.later g2)
            have HC4 := Lib.hid (g1.mono (Nat.zero_le _))
            clear g1 g2
            dsimp only
            refine hK.out _ _ (by first | exact HM4.out.S | exact HM3.out.S | exact HM2.out.S | exact HM1.out.S | exact HM0.out.S) (fun hHeld => ?_)
            clear hK K
            (try simp only [List.getElem_toArray, List.getElem_cons_zero, List.getElem_cons_succ, Act.put, List.setIfInBounds_toArray, List.set_cons_zero, List.set_cons_succ])
            obtain ⟨⟨f1, f2⟩, f3, ⟨f4, f5⟩, f6⟩ := mid9 HM4.out HA4.out HC4.out HP4.out HQ4.out (by assumption) (by assumption) (by first | exact Nat.ne_of_lt ltO | exact (Nat.ne_of_lt ltO).symm)
            refine wpAnyH_ready (rs := [9]) (by kernel_rfl) (by simp) ?_
            refine AllReadyH.cons (o := _) rfl (fun K hK => ?_) AllReadyH.nil
            rw [if_pos (by rfl)]
            go_simp
            refine hK.out _ _ (f3.S) (fun hHeld => ?_)
            clear hK K
            (try simp only [List.getElem_toArray, List.getElem_cons_zero, List.getElem_cons_succ, Act.put, List.setIfInBounds_toArray, List.set_cons_zero, List.set_cons_succ])
            refine wpAnyH_ready (rs := [10]) (by kernel_rfl) (by simp) ?_
            refine AllReadyH.cons (o := _) rfl (fun K hK => ?_) AllReadyH.nil
            rw [if_pos (by rfl)]
            go_simp
            refine hK.out _ _ (f6.1.S) (fun hHeld => ?_)
            clear hK K
            (try simp only [List.getElem_toArray, List.getElem_cons_zero, List.getElem_cons_succ, Act.put, List.setIfInBounds_toArray, List.set_cons_zero, List.set_cons_succ])
            refine wpAnyH_done (by kernel_rfl) ?_ _
            exact ⟨rfl, _, _, a5, l5, c5, a6, l6, c6, rfl, f6⟩
        · rw [if_pos (by rfl)]
          go_simp
          obtain ⟨wx2, eW2, gz2, hbl2⟩ := alw9 HM1.out
          rw [eW2]
          have HM2 := Lib.hid (HM1.out.later gz2)
          have HA2 := Lib.hid (HA1.out.later gz2)
          have HQ2 := Lib.hid hbl2
          have ltY2 := HM1.out.2.1.lt
          clear gz2 hbl2 eW2
          refine hK.out _ _ (by first | exact HM2.out.S | exact HM1.out.S | exact HM0.out.S) (fun hHeld => ?_)
          clear hK K
          (try simp only [List.getElem_toArray, List.getElem_cons_zero, List.getElem_cons_succ, Act.put, List.setIfInBounds_toArray, List.set_cons_zero, List.set_cons_succ])
          refine wpAnyH_ready (rs := [6, 7]) (by kernel_rfl) (by simp) ?_
          refine AllReadyH.cons (o := _) rfl (fun K hK => ?_) (AllReadyH.cons (o := _) rfl (fun K hK => ?_) AllReadyH.nil)
          · rw [if_pos (by rfl)]
            go_simp
            go_at_call 12
            refine (HU.out _ (HTW.out _ HM2.out.below)).mono ?_
            rintro e wb ⟨a6, l6, c6, rfl, g1, g2⟩
            have HM3 := Lib.hid (HM2.out.later g2)
            have HA3 := Lib.hid (HA2.out.later g2)
            have HQ3 := Lib.hid (HQ2.out.later g2)
            have HC3 := Lib.hid (g1.mono (Nat.zero_le _))
            clear g1 g2
            dsimp only
            refine hK.out _ _ (by first | exact HM3.out.S | exact HM2.out.S | exact HM1.out.S | exact HM0.out.S) (fun hHeld => ?_)
            clear hK K
            (try simp only [List.getElem_toArray, List.getElem_cons_zero, List.getElem_cons_succ, Act.put, List.setIfInBounds_toArray, List.set_cons_zero, List.set_cons_succ])
            refine wpAnyH_ready (rs := [7]) (by kernel_rfl) (by simp) ?_
            refine AllReadyH.cons (o := _) rfl (fun K hK => ?_) AllReadyH.nil
            rw [if_pos (by rfl)]
            go_simp
            obtain ⟨wx4, eW4, gz4, hbl4⟩ := alw9 HM3.out
            rw [eW4]
            have HM4 := Lib.hid (HM3.out.later gz4)
            have HA4 := Lib.hid (HA3.out.later gz4)
            have HC4 := Lib.hid (HC3.out.later gz4)
            have HQ4 := Lib.hid (HQ3.out.later gz4)
            have HP4 := Lib.hid hbl4
            have ltY4 := HM3.out.2.1.lt
            have ltO := HQ3.out.lt
            clear gz4 hbl4 eW4
            refine hK.out _ _ (by first | exact HM4.out.S | exact HM3.out.S | exact HM2.out.S | exact HM1.out.S | exact HM0.out.S) (fun hHeld => ?_)
            clear hK K
            (try simp only [List.getElem_toArray, List.getElem_cons_zero, List.getElem_cons_succ, Act.put, List.setIfInBounds_toArray, List.set_cons_zero, List.set_cons_succ])
            obtain ⟨⟨f1, f2⟩, f3, ⟨f4, f5⟩, f6⟩ := mid9 HM4.out HA4.out HC4.out HP4.out HQ4.out (by assumption) (by assumption) (by first | exact Nat.ne_of_lt ltO | exact (Nat.ne_of_lt ltO).symm)
            refine wpAnyH_ready (rs := [9]) (by kernel_rfl) (by simp) ?_
            refine AllReadyH.cons (o := _) rfl (fun K hK => ?_) AllReadyH.nil
            rw [if_pos (by rfl)]
            go_simp
            refine hK.out _ _ (f3.S) (fun hHeld => ?_)
            clear hK K
            (try simp only [List.getElem_toArray, List.getElem_cons_zero, List.getElem_cons_succ, Act.put, List.setIfInBounds_toArray, List.set_cons_zero, List.set_cons_succ])
            refine wpAnyH_ready (rs := [10]) (by kernel_rfl) (by simp) ?_
            refine AllReadyH.cons (o := _) rfl (fun K hK => ?_) AllReadyH.nil
            rw [if_pos (by rfl)]
            go_simp
            refine hK.out _ _ (f6.1.S) (fun hHeld => ?_)
            clear hK K
            (try simp only [List.getElem_toArray, List.getElem_cons_zero, List.getElem_cons_succ, Act.put, List.setIfInBounds_toArray, List.set_cons_zero, List.set_cons_succ])
            refine wpAnyH_done (by kernel_rfl) ?_ _
            exact ⟨rfl, _, _, a5, l5, c5, a6, l6, c6, rfl, f6⟩
          · rw [if_pos (by rfl)]
            go_simp
            obtain ⟨wx3, eW3, gz3, hbl3⟩ := alw9 HM2.out
            rw [eW3]
            have HM3 := Lib.hid (HM2.out.later gz3)
            have HA3 := Lib.hid (HA2.out.later gz3)
            have HQ3 := Lib.hid (HQ2.out.later gz3)
            have HP3 := Lib.hid hbl3
            have ltY3 := HM2.out.2.1.lt
            have ltO := HQ2.out.lt
            clear gz3 hbl3 eW3
            refine hK.out _ _ (by first | exact HM3.out.S | exact HM2.out.S | exact HM1.out.S | exact HM0.out.S) (fun hHeld => ?_)
            clear hK K
            (try simp only [List.getElem_toArray, List.getElem_cons_zero, List.getElem_cons_succ, Act.put, List.setIfInBounds_toArray, List.set_cons_zero, List.set_cons_succ])
            refine wpAnyH_ready (rs := [6]) (by kernel_rfl) (by simp) ?_
            refine AllReadyH.cons (o := _) rfl (fun K hK => ?_) AllReadyH.nil
            rw [if_pos (by rfl)]
            go_simp
            go_at_call 12
            refine (HU.out _ (HTW.out _ HM3.out.below)).mono ?_
            rintro e wb ⟨a6, l6, c6, rfl, g1, g2⟩
            have HM4 := Lib.hid (HM3.out.later g2)
            have HA4 := Lib.hid (HA3.out.later g2)
            have HP4 := Lib.hid (HP3.out.later g2)
            have HQ4 := Lib.hid (HQ3.out.later g2)
            have HC4 := Lib.hid (g1.mono (Nat.zero_le _))
            clear g1 g2
            dsimp only
            refine hK.out _ _ (by first | exact HM4.out.S | exact HM3.out.S | exact HM2.out.S | exact HM1.out.S | exact HM0.out.S) (fun hHeld => ?_)
            clear hK K
            (try simp only [List.getElem_toArray, List.getElem_cons_zero, List.getElem_cons_succ, Act.put, List.setIfInBounds_toArray, List.set_cons_zero, List.set_cons_succ])
            obtain ⟨⟨f1, f2⟩, f3, ⟨f4, f5⟩, f6⟩ := mid9 HM4.out HA4.out HC4.out HP4.out HQ4.out (by assumption) (by assumption) (by first | exact Nat.ne_of_lt ltO | exact (Nat.ne_of_lt ltO).symm)
            refine wpAnyH_ready (rs := [9]) (by kernel_rfl) (by simp) ?_
            refine AllReadyH.cons (o := _) rfl (fun K hK => ?_) AllReadyH.nil
            rw [if_pos (by rfl)]
            go_simp
            refine hK.out _ _ (f3.S) (fun hHeld => ?_)
            clear hK K
            (try simp only [List.getElem_toArray, List.getElem_cons_zero, List.getElem_cons_succ, Act.put, List.setIfInBounds_toArray, List.set_cons_zero, List.set_cons_succ])
            refine wpAnyH_ready (rs := [10]) (by kernel_rfl) (by simp) ?_
            refine AllReadyH.cons (o := _) rfl (fun K hK => ?_) AllReadyH.nil
            rw [if_pos (by rfl)]
            go_simp
            refine hK.out _ _ (f6.1.S) (fun hHeld => ?_)
            clear hK K
            (try simp only [List.getElem_toArray, List.getElem_cons_zero, List.getElem_cons_succ, Act.put, List.setIfInBounds_toArray, List.set_cons_zero, List.set_cons_succ])
            refine wpAnyH_done (by kernel_rfl) ?_ _
            exact ⟨rfl, _, _, a5, l5, c5, a6, l6, c6, rfl, f6⟩
      · rw [if_pos (by rfl)]
        go_simp
        obtain ⟨wx1, eW1, gz1, hbl1⟩ := alw9 HM0.out
        rw [eW1]
        have HM1 := Lib.hid (HM0.out.later gz1)
        have HP1 := Lib.hid hbl1
        have ltY1 := HM0.out.2.1.lt
        clear gz1 hbl1 eW1
        refine hK.out _ _ (by first | exact HM1.out.S | exact HM0.out.S) (fun hHeld => ?_)
        clear hK K
        (try simp only [List.getElem_toArray, List.getElem_cons_zero, List.getElem_cons_succ, Act.put, List.setIfInBounds_toArray, List.set_cons_zero, List.set_cons_succ])
        refine wpAnyH_ready (rs := [3, 8]) (by kernel_rfl) (by simp) ?_
        refine AllReadyH.cons (o := _) rfl (fun K hK => ?_) (AllReadyH.cons (o := _) rfl (fun K hK => ?_) AllReadyH.nil)
        · rw [if_pos (by rfl)]
          go_simp
          go_at_call 11
          refine (HS.out _ (HTW.out _ HM1.out.below)).mono ?_
          rintro e wa ⟨a5, l5, c5, rfl, g1, g2⟩
          have HM2 := Lib.hid (HM1.out.later g2)
          have HP2 := Lib.hid (HP1.out.later g2)
          have HA2 := Lib.hid (g1.mono (Nat.zero_le _))
          clear g1 g2
          dsimp only
          refine hK.out _ _ (by first | exact HM2.out.S | exact HM1.out.S | exact HM0.out.S) (fun hHeld => ?_)
          clear hK K
          (try simp only [List.getElem_toArray, List.getElem_cons_zero, List.getElem_cons_succ, Act.put, List.setIfInBounds_toArray, List.set_cons_zero, List.set_cons_succ])
          refine wpAnyH_ready (rs := [6, 8]) (by kernel_rfl) (by simp) ?_
          refine AllReadyH.cons (o := _) rfl (fun K hK => ?_) (AllReadyH.cons (o := _) rfl (fun K hK => ?_) AllReadyH.nil)
          · rw [if_pos (by rfl)]
            go_simp
            go_at_call 12
            refine (HU.out _ (HTW.out _ HM2.out.below)).mono ?_
            rintro e wb ⟨a6, l6, c6, rfl, g1, g2⟩
            have HM3 := Lib.hid (HM2.out.later g2)
            have HA3 := Lib.hid (HA2.out.later g2)
            have HP3 := Lib.hid (HP2.out.later g2)
            have HC3 := Lib.hid (g1.mono (Nat.zero_le _))
            clear g1 g2
            dsimp only
            refine hK.out _ _ (by first | exact HM3.out.S | exact HM2.out.S | exact HM1.out.S | exact HM0.out.S) (fun hHeld => ?_)
            clear hK K
            (try simp only [List.getElem_toArray, List.getElem_cons_zero, List.getElem_cons_succ, Act.put, List.setIfInBounds_toArray, List.set_cons_zero, List.set_cons_succ])
            refine wpAnyH_ready (rs := [8]) (by kernel_rfl) (by simp) ?_
            refine AllReadyH.cons (o := _) rfl (fun K hK => ?_) AllReadyH.nil
            rw [if_pos (by rfl)]
            go_simp
            obtain ⟨wx4, eW4, gz4, hbl4⟩ := alw9 HM3.out
            rw [eW4]
            have HM4 := Lib.hid (HM3.out.later gz4)
            have HA4 := Lib.hid (HA3.out.later gz4)
            have HC4 := Lib.hid (HC3.out.later gz4)
            have HP4 := Lib.hid (HP3.out.later gz4)
            have HQ4 := Lib.hid hbl4
            have ltY4 := HM3.out.2.1.lt
            have ltO := HP3.out.lt
            clear gz4 hbl4 eW4
            refine hK.out _ _ (by first | exact HM4.out.S | exact HM3.out.S | exact HM2.out.S | exact HM1.out.S | exact HM0.out.S) (fun hHeld => ?_)
            clear hK K
            (try simp only [List.getElem_toArray, List.getElem_cons_zero, List.getElem_cons_succ, Act.put, List.setIfInBounds_toArray, List.set_cons_zero, List.set_cons_succ])
            obtain ⟨⟨f1, f2⟩, f3, ⟨f4, f5⟩, f6⟩ := mid9 HM4.out HA4.out HC4.out HP4.out HQ4.out (by assumption) (by assumption) (by first | exact Nat.ne_of_lt ltO | exact (Nat.ne_of_lt ltO).symm)
            refine wpAnyH_ready (rs := [9]) (by kernel_rfl) (by simp) ?_
            refine AllReadyH.cons (o := _) rfl (fun K hK => ?_) AllReadyH.nil
            rw [if_pos (by rfl)]
            go_simp
            refine hK.out _ _ (f3.S) (fun hHeld => ?_)
            clear hK K
            (try simp only [List.getElem_toArray, List.getElem_cons_zero, List.getElem_cons_succ, Act.put, List.setIfInBounds_toArray, List.set_cons_zero, List.set_cons_succ])
            refine wpAnyH_ready (rs := [10]) (by kernel_rfl) (by simp) ?_
            refine AllReadyH.cons (o := _) rfl (fun K hK => ?_) AllReadyH.nil
            rw [if_pos (by rfl)]
            go_simp
            refine hK.out _ _ (f6.1.S) (fun hHeld => ?_)
            clear hK K
            (try simp only [List.getElem_toArray, List.getElem_cons_zero, List.getElem_cons_succ, Act.put, List.setIfInBounds_toArray, List.set_cons_zero, List.set_cons_succ])
            refine wpAnyH_done (by kernel_rfl) ?_ _
            exact ⟨rfl, _, _, a5, l5, c5, a6, l6, c6, rfl, f6⟩
          · rw [if_pos (by rfl)]
            go_simp
            obtain ⟨wx3, eW3, gz3, hbl3⟩ := alw9 HM2.out
            rw [eW3]
            have HM3 := Lib.hid (HM2.out.later gz3)
            have HA3 := Lib.hid (HA2.out.later gz3)
            have HP3 := Lib.hid (HP2.out.later gz3)
            have HQ3 := Lib.hid hbl3
            have ltY3 := HM2.out.2.1.lt
            have ltO := HP2.out.lt
            clear gz3 hbl3 eW3
            refine hK.out _ _ (by first | exact HM3.out.S | exact HM2.out.S | exact HM1.out.S | exact HM0.out.S) (fun hHeld => ?_)
            clear hK K
            (try simp only [List.getElem_toArray, List.getElem_cons_zero, List.getElem_cons_succ, Act.put, List.setIfInBounds_toArray, List.set_cons_zero, List.set_cons_succ])
            refine wpAnyH_ready (rs := [6]) (by kernel_rfl) (by simp) ?_
            refine AllReadyH.cons (o := _) rfl (fun K hK => ?_) AllReadyH.nil
            rw [if_pos (by rfl)]
            go_simp
            go_at_call 12
            refine (HU.out _ (HTW.out _ HM3.out.below)).mono ?_
            rintro e wb ⟨a6, l6, c6, rfl, g1, g2⟩
            have HM4 := Lib.hid (HM3.out.later g2)
            have HA4 := Lib.hid (HA3.out.later g2)
            have HP4 := Lib.hid (HP3.out.later g2)
            have HQ4 := Lib.hid (HQ3.out.later g2)
            have HC4 := Lib.hid (g1.mono (Nat.zero_le _))
            clear g1 g2
            dsimp only
            refine hK.out _ _ (by first | exact HM4.out.S | exact HM3.out.S | exact HM2.out.S | exact HM1.out.S | exact HM0.out.S) (fun hHeld => ?_)
            clear hK K
            (try simp only [List.getElem_toArray, List.getElem_cons_zero, List.getElem_cons_succ, Act.put, List.setIfInBounds_toArray, List.set_cons_zero, List.set_cons_succ])
            obtain ⟨⟨f1, f2⟩, f3, ⟨f4, f5⟩, f6⟩ := mid9 HM4.out HA4.out HC4.out HP4.out HQ4.out (by assumption) (by assumption) (by first | exact Nat.ne_of_lt ltO | exact (Nat.ne_of_lt ltO).symm)
            refine wpAnyH_ready (rs := [9]) (by kernel_rfl) (by simp) ?_
            refine AllReadyH.cons (o := _) rfl (fun K hK => ?_) AllReadyH.nil
            rw [if_pos (by rfl)]
            go_simp
            refine hK.out _ _ (f3.S) (fun hHeld => ?_)
            clear hK K
            (try simp only [List.getElem_toArray, List.getElem_cons_zero, List.getElem_cons_succ, Act.put, List.setIfInBounds_toArray, List.set_cons_zero, List.set_cons_succ])
            refine wpAnyH_ready (rs := [10]) (by kernel_rfl) (by simp) ?_
            refine AllReadyH.cons (o := _) rfl (fun K hK => ?_) AllReadyH.nil
            rw [if_pos (by rfl)]
            go_simp
            refine hK.out _ _ (f6.1.S) (fun hHeld => ?_)
            clear hK K
            (try simp only [List.getElem_toArray, List.getElem_cons_zero, List.getElem_cons_succ, Act.put, List.setIfInBounds_toArray, List.set_cons_zero, List.set_cons_succ])
            refine wpAnyH_done (by kernel_rfl) ?_ _
            exact ⟨rfl, _, _, a5, l5, c5, a6, l6, c6, rfl, f6⟩
        · rw [if_pos (by rfl)]
          go_simp
          obtain ⟨wx2, eW2, gz2, hbl2⟩ := alw9 HM1.out
          rw [eW2]
          have HM2 := Lib.hid (HM1.out.later gz2)
          have HP2 := Lib.hid (HP1.out.later gz2)
          have HQ2 := Lib.hid hbl2
          have ltY2 := HM1.out.2.1.lt
          have ltO := HP1.out.lt
          clear gz2 hbl2 eW2
          refine hK.out _ _ (by first | exact HM2.out.S | exact HM1.out.S | exact HM0.out.S) (fun hHeld => ?_)
          clear hK K
          (try simp only [List.getElem_toArray, List.getElem_cons_zero, List.getElem_cons_succ, Act.put, List.setIfInBounds_toArray, List.set_cons_zero, List.set_cons_succ])
          refine wpAnyH_ready (rs := [3]) (by kernel_rfl) (by simp) ?_
          refine AllReadyH.cons (o := _) rfl (fun K hK => ?_) AllReadyH.nil
          rw [if_pos (by rfl)]
          go_simp
          go_at_call 11
          refine (HS.out _ (HTW.out _ HM2.out.below)).mono ?_
          rintro e wa ⟨a5, l5, c5, rfl, g1, g2⟩
          have HM3 := Lib.hid (HM2.out.later g2)
          have HP3 := Lib.hid (HP2.out.later g2)
          have HQ3 := Lib.hid (HQ2.out.later g2)
          have HA3 := Lib.hid (g1.mono (Nat.zero_le _))
          clear g1 g2
          dsimp only
          refine hK.out _ _ (by first | exact HM3.out.S | exact HM2.out.S | exact HM1.out.S | exact HM0.out.S) (fun hHeld => ?_)
          clear hK K
          (try simp only [List.getElem_toArray, List.getElem_cons_zero, List.getElem_cons_succ, Act.put, List.setIfInBounds_toArray, List.set_cons_zero, List.set_cons_succ])
          refine wpAnyH_ready (rs := [6]) (by kernel_rfl) (by simp) ?_
          refine AllReadyH.cons (o := _) rfl (fun K hK => ?_) AllReadyH.nil
          rw [if_pos (by rfl)]
          go_simp
          go_at_call 12
          refine (HU.out _ (HTW.out _ HM3.out.below)).mono ?_
          rintro e wb ⟨a6, l6, c6, rfl, g1, g2⟩
          have HM4 := Lib.hid (HM3.out.later g2)
          have HA4 := Lib.hid (HA3.out.later g2)
          have HP4 := Lib.hid (HP3.out.later g2)
          have HQ4 := Lib.hid (HQ3.out.later g2)
          have HC4 := Lib.hid (g1.mono (Nat.zero_le _))
          clear g1 g2
          dsimp only
          refine hK.out _ _ (by first | exact HM4.out.S | exact HM3.out.S | exact HM2.out.S | exact HM1.out.S | exact HM0.out.S) (fun hHeld => ?_)
          clear hK K
          (try simp only [List.getElem_toArray, List.getElem_cons_zero, List.getElem_cons_succ, Act.put, List.setIfInBounds_toArray, List.set_cons_zero, List.set_cons_succ])
          obtain ⟨⟨f1, f2⟩, f3, ⟨f4, f5⟩, f6⟩ := mid9 HM4.out HA4.out HC4.out HP4.out HQ4.out (by assumption) (by assumption) (by first | exact Nat.ne_of_lt ltO | exact (Nat.ne_of_lt ltO).symm)
          refine wpAnyH_ready (rs := [9]) (by kernel_rfl) (by simp) ?_
          refine AllReadyH.cons (o := _) rfl (fun K hK => ?_) AllReadyH.nil
          rw [if_pos (by rfl)]
          go_simp
          refine hK.out _ _ (f3.S) (fun hHeld => ?_)
          clear hK K
          (try simp only [List.getElem_toArray, List.getElem_cons_zero, List.getElem_cons_succ, Act.put, List.setIfInBounds_toArray, List.set_cons_zero, List.set_cons_succ])
          refine wpAnyH_ready (rs := [10]) (by kernel_rfl) (by simp) ?_
          refine AllReadyH.cons (o := _) rfl (fun K hK => ?_) AllReadyH.nil
          rw [if_pos (by rfl)]
          go_simp
          refine hK.out _ _ (f6.1.S) (fun hHeld => ?_)
          clear hK K
          (try simp only [List.getElem_toArray, List.getElem_cons_zero, List.getElem_cons_succ, Act.put, List.setIfInBounds_toArray, List.set_cons_zero, List.set_cons_succ])
          refine wpAnyH_done (by kernel_rfl) ?_ _
          exact ⟨rfl, _, _, a5, l5, c5, a6, l6, c6, rfl, f6⟩
      · rw [if_pos (by rfl)]
        go_simp
        obtain ⟨wx1, eW1, gz1, hbl1⟩ := alw9 HM0.out
        rw [eW1]
        have HM1 := Lib.hid (HM0.out.later gz1)
        have HQ1 := Lib.hid hbl1
        have ltY1 := HM0.out.2.1.lt
        clear gz1 hbl1 eW1
        refine hK.out _ _ (by first | exact HM1.out.S | exact HM0.out.S) (fun hHeld => ?_)
        clear hK K
        (try simp only [List.getElem_toArray, List.getElem_cons_zero, List.getElem_cons_succ, Act.put, List.setIfInBounds_toArray, List.set_cons_zero, List.set_cons_succ])
        refine wpAnyH_ready (rs := [3, 7]) (by kernel_rfl) (by simp) ?_
        refine AllReadyH.cons (o := _) rfl (fun K hK => ?_) (AllReadyH.cons (o := _) rfl (fun K hK => ?_) AllReadyH.nil)
        · rw [if_pos (by rfl)]
          go_simp
          go_at_call 11
          refine (HS.out _ (HTW.out _ HM1.out.below)).mono ?_
          rintro e wa ⟨a5, l5, c5, rfl, g1, g2⟩
          have HM2 := Lib.hid (HM1.out.later g2)
          have HQ2 := Lib.hid (HQ1.out.later g2)
          have HA2 := Lib.hid (g1.mono (Nat.zero_le _))
          clear g1 g2
          dsimp only
          refine hK.out _ _ (by first | exact HM2.out.S | exact HM1.out.S | exact HM0.out.S) (fun hHeld => ?_)
          clear hK K
          (try simp only [List.getElem_toArray, List.getElem_cons_zero, List.getElem_cons_succ, Act.put, List.setIfInBounds_toArray, List.set_cons_zero, List.set_cons_succ])
          refine wpAnyH_ready (rs := [6, 7]) (by kernel_rfl) (by simp) ?_
          refine AllReadyH.cons (o := _) rfl (fun K hK => ?_) (AllReadyH.cons (o := _) rfl (fun K hK => ?_) AllReadyH.nil)
          · rw [if_pos (by rfl)]
            go_simp
            go_at_call 12
            refine (HU.out _ (HTW.out _ HM2.out.below)).mono ?_
            rintro e wb ⟨a6, l6, c6, rfl, g1, g2⟩
            have HM3 := Lib.hid (HM2.out.later g2)
            have HA3 := Lib.hid (HA2.out.later g2)
            have HQ3 := Lib.hid (HQ2.out.later g2)
            have HC3 := Lib.hid (g1.mono (Nat.zero_le _))
            clear g1 g2
            dsimp only
            refine hK.out _ _ (by first | exact HM3.out.S | exact HM2.out.S | exact HM1.out.S | exact HM0.out.S) (fun hHeld => ?_)
            clear hK K
            (try simp only [List.getElem_toArray, List.getElem_cons_zero, List.getElem_cons_succ, Act.put, List.setIfInBounds_toArray, List.set_cons_zero, List.set_cons_succ])
            refine wpAnyH_ready (rs := [7]) (by kernel_rfl) (by simp) ?_
            refine AllReadyH.cons (o := _) rfl (fun K hK => ?_) AllReadyH.nil
            rw [if_pos (by rfl)]
            go_simp
            obtain ⟨wx4, eW4, gz4, hbl4⟩ := alw9 HM3.out
            rw [eW4]
            have HM4 := Lib.hid (HM3.out.later gz4)
            have HA4 := Lib.hid (HA3.out.later gz4)
            have HC4 := Lib.hid (HC3.out.later gz4)
            have HQ4 := Lib.hid (HQ3.out.later gz4)
            have HP4 := Lib.hid hbl4
            have ltY4 := HM3.out.2.1.lt
            have ltO := HQ3.out.lt
            clear gz4 hbl4 eW4
            refine hK.out _ _ (by first | exact HM4.out.S | exact HM3.out.S | exact HM2.out.S | exact HM1.out.S | exact HM0.out.S) (fun hHeld => ?_)
            clear hK K
            (try simp only [List.getElem_toArray, List.getElem_cons_zero, List.getElem_cons_succ, Act.put, List.setIfInBounds_toArray, List.set_cons_zero, List.set_cons_succ])
            obtain ⟨⟨f1, f2⟩, f3, ⟨f4, f5⟩, f6⟩ := mid9 HM4.out HA4.out HC4.out HP4.out HQ4.out (by assumption) (by assumption) (by first | exact Nat.ne_of_lt ltO | exact (Nat.ne_of_lt ltO).symm)
            refine wpAnyH_ready (rs := [9]) (by kernel_rfl) (by simp) ?_
            refine AllReadyH.cons (o := _) rfl (fun K hK => ?_) AllReadyH.nil
            rw [if_pos (by rfl)]
            go_simp
            refine hK.out _ _ (f3.S) (fun hHeld => ?_)
            clear hK K
            (try simp only [List.getElem_toArray, List.getElem_cons_zero, List.getElem_cons_succ, Act.put, List.setIfInBounds_toArray, List.set_cons_zero, List.set_cons_succ])
            refine wpAnyH_ready (rs := [10]) (by kernel_rfl) (by simp) ?_
            refine AllReadyH.cons (o := _) rfl (fun K hK => ?_) AllReadyH.nil
            rw [if_pos (by rfl)]
            go_simp
            refine hK.out _ _ (f6.1.S) (fun hHeld => ?_)
            clear hK K
            (try simp only [List.getElem_toArray, List.getElem_cons_zero, List.getElem_cons_succ, Act.put, List.setIfInBounds_toArray, List.set_cons_zero, List.set_cons_succ])
            refine wpAnyH_done (by kernel_rfl) ?_ _
            exact ⟨rfl, _, _, a5, l5, c5, a6, l6, c6, rfl, f6⟩
          · rw [if_pos (by rfl)]
            go_simp
            obtain ⟨wx3, eW3, gz3, hbl3⟩ := alw9 HM2.out
            rw [eW3]
            have HM3 := Lib.hid (HM2.out.later gz3)
            have HA3 := Lib.hid (HA2.out.later gz3)
            have HQ3 := Lib.hid (HQ2.out.later gz3)
            have HP3 := Lib.hid hbl3
            have ltY3 := HM2.out.2.1.lt
            have ltO := HQ2.out.lt
            clear gz3 hbl3 eW3
            refine hK.out _ _ (by first | exact HM3.out.S | exact HM2.out.S | exact HM1.out.S | exact HM0.out.S) (fun hHeld => ?_)
            clear hK K
            (try simp only [List.getElem_toArray, List.getElem_cons_zero, List.getElem_cons_succ, Act.put, List.setIfInBounds_toArray, List.set_cons_zero, List.set_cons_succ])
            refine wpAnyH_ready (rs := [6]) (by kernel_rfl) (by simp) ?_
            refine AllReadyH.cons (o := _) rfl (fun K hK => ?_) AllReadyH.nil
            rw [if_pos (by rfl)]
            go_simp
            go_at_call 12
            refine (HU.out _ (HTW.out _ HM3.out.below)).mono ?_
            rintro e wb ⟨a6, l6, c6, rfl, g1, g2⟩
            have HM4 := Lib.hid (HM3.out.later g2)
            have HA4 := Lib.hid (HA3.out.later g2)
            have HP4 := Lib.hid (HP3.out.later g2)
            have HQ4 := Lib.hid (HQ3.out.later g2)
            have HC4 := Lib.hid (g1.mono (Nat.zero_le _))
            clear g1 g2
            dsimp only
            refine hK.out _ _ (by first | exact HM4.out.S | exact HM3.out.S | exact HM2.out.S | exact HM1.out.S | exact HM0.out.S) (fun hHeld => ?_)
            clear hK K
            (try simp only [List.getElem_toArray, List.getElem_cons_zero, List.getElem_cons_succ, Act.put, List.setIfInBounds_toArray, List.set_cons_zero, List.set_cons_succ])
            obtain ⟨⟨f1, f2⟩, f3, ⟨f4, f5⟩, f6⟩ := mid9 HM4.out HA4.out HC4.out HP4.out HQ4.out (by assumption) (by assumption) (by first | exact Nat.ne_of_lt ltO | exact (Nat.ne_of_lt ltO).symm)
            refine wpAnyH_ready (rs := [9]) (by kernel_rfl) (by simp) ?_
            refine AllReadyH.cons (o := _) rfl (fun K hK => ?_) AllReadyH.nil
            rw [if_pos (by rfl)]
            go_simp
            refine hK.out _ _ (f3.S) (fun hHeld => ?_)
            clear hK K
            (try simp only [List.getElem_toArray, List.getElem_cons_zero, List.getElem_cons_succ, Act.put, List.setIfInBounds_toArray, List.set_cons_zero, List.set_cons_succ])
            refine wpAnyH_ready (rs := [10]) (by kernel_rfl) (by simp) ?_
            refine AllReadyH.cons (o := _) rfl (fun K hK => ?_) AllReadyH.nil
            rw [if_pos (by rfl)]
            go_simp
            refine hK.out _ _ (f6.1.S) (fun hHeld => ?_)
            clear hK K
            (try simp only [List.getElem_toArray, List.getElem_cons_zero, List.getElem_cons_succ, Act.put, List.setIfInBounds_toArray, List.set_cons_zero, List.set_cons_succ])
            refine wpAnyH_done (by kernel_rfl) ?_ _
            exact ⟨rfl, _, _, a5, l5, c5, a6, l6, c6, rfl, f6⟩
        · rw [if_pos (by rfl)]
          go_simp
          obtain ⟨wx2, eW2, gz2, hbl2⟩ := alw9 HM1.out
          rw [eW2]
          have HM2 := Lib.hid (HM1.out.later gz2)
          have HQ2 := Lib.hid (HQ1.out.later gz2)
          have HP2 := Lib.hid hbl2
          have ltY2 := HM1.out.2.1.lt
          have ltO := HQ1.out.lt
          clear gz2 hbl2 eW2
          refine hK.out _ _ (by first | exact HM2.out.S | exact HM1.out.S | exact HM0.out.S) (fun hHeld => ?_)
          clear hK K
          (try simp only [List.getElem_toArray, List.getElem_cons_zero, List.getElem_cons_succ, Act.put, List.setIfInBounds_toArray, List.set_cons_zero, List.set_cons_succ])
          refine wpAnyH_ready (rs := [3]) (by kernel_rfl) (by simp) ?_
          refine AllReadyH.cons (o := _) rfl (fun K hK => ?_) AllReadyH.nil
          rw [if_pos (by rfl)]
          go_simp
          go_at_call 11
          refine (HS.out _ (HTW.out _ HM2.out.below)).mono ?_
          rintro e wa ⟨a5, l5, c5, rfl, g1, g2⟩
          have HM3 := Lib.hid (HM2.out.later g2)
          have HP3 := Lib.hid (HP2.out.later g2)
          have HQ3 := Lib.hid (HQ2.out.later g2)
          have HA3 := Lib.hid (g1.mono (Nat.zero_le _))
          clear g1 g2
          dsimp only
          refine hK.out _ _ (by first | exact HM3.out.S | exact HM2.out.S | exact HM1.out.S | exact HM0.out.S) (fun hHeld => ?_)
          clear hK K
          (try simp only [List.getElem_toArray, List.getElem_cons_zero, List.getElem_cons_succ, Act.put, List.setIfInBounds_toArray, List.set_cons_zero, List.set_cons_succ])
          refine wpAnyH_ready (rs := [6]) (by kernel_rfl) (by simp) ?_
          refine AllReadyH.cons (o := _) rfl (fun K hK => ?_) AllReadyH.nil
          rw [if_pos (by rfl)]
          go_simp
          go_at_call 12
          refine (HU.out _ (HTW.out _ HM3.out.below)).mono ?_
          rintro e wb ⟨a6, l6, c6, rfl, g1, g2⟩
          have HM4 := Lib.hid (HM3.out.later g2)
          have HA4 := Lib.hid (HA3.out.later g2)
          have HP4 := Lib.hid (HP3.out.later g2)
          have HQ4 := Lib.hid (HQ3.out.later g2)
          have HC4 := Lib.hid (g1.mono (Nat.zero_le _))
          clear g1 g2
          dsimp only
          refine hK.out _ _ (by first | exact HM4.out.S | exact HM3.out.S | exact HM2.out.S | exact HM1.out.S | exact HM0.out.S) (fun hHeld => ?_)
          clear hK K
          (try simp only [List.getElem_toArray, List.getElem_cons_zero, List.getElem_cons_succ, Act.put, List.setIfInBounds_toArray, List.set_cons_zero, List.set_cons_succ])
          obtain ⟨⟨f1, f2⟩, f3, ⟨f4, f5⟩, f6⟩ := mid9 HM4.out HA4.out HC4.out HP4.out HQ4.out (by assumption) (by assumption) (by first | exact Nat.ne_of_lt ltO | exact (Nat.ne_of_lt ltO).symm)
          refine wpAnyH_ready (rs := [9]) (by kernel_rfl) (by simp) ?_
          refine AllReadyH.cons (o := _) rfl (fun K hK => ?_) AllReadyH.nil
          rw [if_pos (by rfl)]
          go_simp
          refine hK.out _ _ (f3.S) (fun hHeld => ?_)
          clear hK K
          (try simp only [List.getElem_toArray, List.getElem_cons_zero, List.getElem_cons_succ, Act.put, List.setIfInBounds_toArray, List.set_cons_zero, List.set_cons_succ])
          refine wpAnyH_ready (rs := [10]) (by kernel_rfl) (by simp) ?_
          refine AllReadyH.cons (o := _) rfl (fun K hK => ?_) AllReadyH.nil
          rw [if_pos (by rfl)]
          go_simp
          refine hK.out _ _ (f6.1.S) (fun hHeld => ?_)
          clear hK K
          (try simp only [List.getElem_toArray, List.getElem_cons_zero, List.getElem_cons_succ, Act.put, List.setIfInBounds_toArray, List.set_cons_zero, List.set_cons_succ])
          refine wpAnyH_done (by kernel_rfl) ?_ _
          exact ⟨rfl, _, _, a5, l5, c5, a6, l6, c6, rfl, f6⟩

set_option maxRecDepth 100000 in
theorem lifted (os : Os) (started : os.Started) (H : Type) (enc : TypeId × Value → H) :
    ReturnsInHanded {} Try.checked os 3 .any (Rows.tableSetsSpec.pre6 enc Try.prog Try.f3 Rows.tableSetsRow.domain false) (Rows.tableSetsSpec.post enc Try.prog Try.f3 false true false false) := by
  refine returnsInHanded_of_change (C := Try.checked) own started (by kernel_rfl) Try.func3
    (ChangeSpec.witness6 (enc := enc) (C := Try.checked) false ⟨#[], #[.agg #[.slice none 0 0], .int .i64 0, .int .i64 0, .agg #[.int .i64 0, .int .i64 0, .int .i64 0, .int .i64 0, .int .u32 0]], []⟩ 8 (by kernel_rfl) (by kernel_rfl) (by kernel_rfl) (by kernel_rfl)) ?_
  intro W base args ds gs before hval0 hW hcnd _
  have hval : ∀ (j : Nat) t v, Try.f3.params[j]? = some t → args[j]? = some v → Value.okWide Try.prog W .any base t v := hval0
  have hW' := hW
  obtain ⟨p, q, hA0, hV, rfl, hfz, hnd⟩ := hW
  have hA : DataW.TrodAll enc Try.prog W 0 (fun _ => true) true Try.f3.params.toList args.toList ds p := hA0
  rw [Try.params3] at hA hval
  obtain ⟨v0, vs0, d0, ds0, p0, q0, hargs, rfl, rfl, h0, r0⟩ := trodAll_cons hA
  obtain ⟨v1, vs1, d1, ds1, p1, q1, rfl, rfl, rfl, h1, r1⟩ := trodAll_cons r0
  obtain ⟨v2, vs2, d2, ds2, p2, q2, rfl, rfl, rfl, h2, r2⟩ := trodAll_cons r1
  obtain ⟨v3, vs3, d3, ds3, p3, q3, rfl, rfl, rfl, h3, r3⟩ := trodAll_cons r2
  obtain ⟨rfl, rfl, rfl⟩ := trodAll_nil r3
  obtain rfl : args = #[v0, v1, v2, v3] := by cases args; simp_all
  obtain ⟨rfl, rfl⟩ := trodVars_none hV
  have k0 := h0
  have lt0 : ∀ x ∈ p0, x.block < W.heap.size := by obtain ⟨m, hm⟩ := k0; exact DataW.trod_lt m _ _ _ hm
  obtain ⟨a0, len0, cap0, rfl, w0⟩ := tab_open (hval 0 24 v0 rfl rfl) h0
  have k1 := h1
  have lt1 : ∀ x ∈ p1, x.block < W.heap.size := by obtain ⟨m, hm⟩ := k1; exact DataW.trod_lt m _ _ _ hm
  obtain ⟨a1, rfl, _, _, w1⟩ := open_int Try.underlying3 (hval 1 3 v1 rfl rfl) h1
  have k2 := h2
  have lt2 : ∀ x ∈ p2, x.block < W.heap.size := by obtain ⟨m, hm⟩ := k2; exact DataW.trod_lt m _ _ _ hm
  obtain ⟨a2, rfl, _, _, w2⟩ := open_int Try.underlying3 (hval 2 3 v2 rfl rfl) h2
  have k3 := h3
  have lt3 : ∀ x ∈ p3, x.block < W.heap.size := by obtain ⟨m, hm⟩ := k3; exact DataW.trod_lt m _ _ _ hm
  obtain ⟨g3, s3, n3, z3, m3, rfl, w3⟩ := entry_open (hval 3 27 v3 rfl rfl) h3
  clear hA0 hval0
  refine (walk a0 len0 cap0 a1 a2 g3 s3 n3 z3 m3 W w0 w1 w2 w3).mono fun e W' ⟨he, bel⟩ => ?_
  subst he
  exact ⟨_, rfl, _, _, _, [], _, [], hW', trodAll_mk1 (shut_bool Try.underlying4 _), (trodAll_cons_mk (Below.trod laidOut (by kernel_rfl) (of_decide_eq_true (by kernel_rfl)) k0 bel lt0) (trodAll_cons_mk (Below.trod laidOut (by kernel_rfl) (of_decide_eq_true (by kernel_rfl)) k1 bel lt1) (trodAll_cons_mk (Below.trod laidOut (by kernel_rfl) (of_decide_eq_true (by kernel_rfl)) k2 bel lt2) (trodAll_cons_mk (Below.trod laidOut (by kernel_rfl) (of_decide_eq_true (by kernel_rfl)) k3 bel lt3) trodAll_mk0)))), rfl, bel.frame _, fun h => by cases h⟩

theorem over : Rows.tableSetsRow.holds Try.pinned (OpenSpec.ofChange Rows.tableSetsSpec) :=
  OpenClaim.holds_of_wide 3 Try.f3 rfl rfl rfl rfl rfl rfl rfl ⟨rfl, rfl, rfl, rfl, rfl⟩ rfl rfl rfl rfl rfl (by kernel_rfl) Try.func3 (by kernel_rfl)
    (of_decide_eq_true (by kernel_rfl)) (by unfold Func.isWrapper; first | (rw [if_pos (by decide +kernel)]; kernel_rfl) | (rw [if_neg (by decide +kernel)]; exact ⟨rfl, rfl⟩))
    (fun os started H enc _ => lifted os started H enc)

/-- The statement. -/
theorem proved : Rows.TableSetsSaid := over
#print axioms proved
end Go.Proofs.Ytbmgcofcjkcaaaa.tableSets
