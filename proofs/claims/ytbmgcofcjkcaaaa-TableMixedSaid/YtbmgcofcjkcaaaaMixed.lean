/-
  Proved: 'matryoshkalaw8.TableMixed' returns true for every input (any numbers, any place), and each argument reads afterwards as before: the statement TableMixedSaid as given. Conditions: none beyond the statement's own.
-/
import Derived.Test.YtbmgcofcjkcaaaaRows
import Derived.Test.YtbmgcofcjkcaaaaX9
import Derived.WalkKit
import Derived.ProofKit
import Derived.OpenShut
import Derived.ShutString
import Derived.ChangeOld
import Derived.Below
namespace Go.Proofs.Ytbmgcofcjkcaaaa.tableMixed
open Go.ChangeShapes Go.WideShapes Go.ChangeAt Go.RowKit
open Go.ChangeMaps (open_string shut_string)
set_option linter.unusedVariables false

theorem own : ownKnob Try.prog.godebug = none := by kernel_rfl
theorem laidOut : laidOutB Try.prog = true := by kernel_rfl

/-- A slice of integers that came in: nil, or a row of cells. -/
def IsRow (k : IntKind) (w : World) (a : Option Addr) (len cap : Nat) (zs : List Int) : Prop :=
  (a = none ∧ len = 0 ∧ cap = 0 ∧ zs = []) ∨
  ∃ x, a = some x ∧ len ≤ cap ∧ cap ≤ maxLen ∧ zs.length = cap ∧ (∀ i, i < zs.length → w.cell? (x.add i) = some (.int k (zs.getD i 0))) ∧ ∀ n ∈ zs, (Lit.int k n).wf = true

theorem made_kinds {zs : Nat → Nat} : ∀ n, (∀ i, i < n → zs i < 65536) → ∀ j, atN (madeT zs n) j = enZ ∨ (j < 300 ∧ (atN (madeT zs n) j = (1, 0, 0, 0, 0) ∨ (atN (madeT zs n) j).1 = 2))
  | 0, _, j => Or.inl (atN_nil j)
  | n + 1, h, j => by
    rw [madeT_at n h]
    by_cases hj : j = zs n % 300
    · rw [if_pos hj]
      refine Or.inr ⟨by omega, ?_⟩
      unfold enM
      by_cases h3 : zs n % 3 = 0
      · rw [if_pos h3]
        exact Or.inr rfl
      · rw [if_neg h3]
        exact Or.inl rfl
    · rw [if_neg hj]
      exact made_kinds n (fun i hi => h i (by omega)) j
theorem no3 (c : Int) : ¬ MayE (2, 2, 3, 0, 0) c := by
  rintro ⟨hc, h⟩
  obtain ⟨C, rfl⟩ : ∃ C : Nat, c = C := ⟨c.toNat, by omega⟩
  have hC : C ≤ 6 := by omega
  rw [Int.toNat_natCast] at h
  match C, hC with
  | 0, _ => simp at h
  | 1, _ => simp at h
  | 2, _ => simp at h
  | 3, _ => simp at h
  | 4, _ => simp at h
  | 5, _ => simp at h
  | 6, _ => simp at h
theorem may8 (c : Int) (h : MayE (2, 2, 8, 0, 0) c) : c = 3 := by
  obtain ⟨hc, h⟩ := h
  obtain ⟨C, rfl⟩ : ∃ C : Nat, c = C := ⟨c.toNat, by omega⟩
  have hC : C ≤ 6 := by omega
  rw [Int.toNat_natCast] at h
  match C, hC with
  | 0, _ => simp at h
  | 1, _ => simp at h
  | 2, _ => simp at h
  | 3, _ => rfl
  | 4, _ => simp at h
  | 5, _ => simp at h
  | 6, _ => simp at h
theorem mixed_v {T : Tb} (K : Int) : setT T K (2, 2, 3, 0, 0) = T := setT_out fun h => by
  obtain ⟨c, _, h2⟩ := h.2
  exact no3 c h2
theorem mixed_u {T : Tb} (hT : rightT T 4096 2) (hk : ∀ j, atN T j = enZ ∨ (j < 300 ∧ (atN T j = (1, 0, 0, 0, 0) ∨ (atN T j).1 = 2))) {K : Nat} (hK : K < 300) : setT T K (2, 2, 8, 0, 0) = T ↔ ∃ k, k < 300 ∧ (atN T k).1 = 2 := by
  constructor
  · intro he
    refine Decidable.byContradiction fun hno => ?_
    have hkk : ∀ j, atN T j = enZ ∨ atN T j = (1, 0, 0, 0, 0) := fun j => by
      rcases hk j with h | ⟨h1, h | h⟩
      · exact Or.inl h
      · exact Or.inr h
      · exact absurd ⟨j, h1, h⟩ hno
    have h3 : rightT T 4096 3 := by
      refine ⟨hT.1, by omega, hT.2.2.1, hT.2.2.2.1, fun i hi hne => ?_⟩
      obtain ⟨g1, g2, g3⟩ := hT.2.2.2.2 i hi hne
      refine ⟨g1, fun k hk8 => ⟨?_, (g2 k hk8).2⟩, g3⟩
      rw [← atN_is i k hk8]
      rcases hkk (i * 8 + k) with h | h <;> rw [h]
      · exact none_may (by omega)
      · exact ⟨by omega, Or.inl ⟨Or.inr rfl, rfl, rfl, rfl, rfl⟩⟩
    have hm : MayE (2, 2, 8, 0, 0) 3 := by decide
    have h1 := (setT_at h3 hm (i := (K : Int)) (by omega)).2 K
    rw [Int.toNat_natCast, if_pos rfl, he] at h1
    rcases hkk K with h | h <;> rw [h] at h1 <;> cases h1
  · rintro ⟨k, h1, h2⟩
    refine setT_out fun h => ?_
    obtain ⟨c, hc1, hc2⟩ := h.2
    have hc := may8 c hc2
    subst hc
    have m2 := right_may hT k
    have m3 := right_may hc1 k
    obtain ⟨v1, v2, v3, v4, v5⟩ := atN T k
    obtain ⟨_, m2⟩ := m2
    obtain ⟨_, m3⟩ := m3
    have e2 : (2 : Int) ^ (2 : Int).toNat = 4 := by decide
    have e3 : (2 : Int) ^ (3 : Int).toNat = 8 := by decide
    rw [e2] at m2
    rw [e3] at m3
    (try dsimp only at h2); (try dsimp only at m2); (try dsimp only at m3)
    omega
/-- What the law holds. -/
def MS (Y : Nat) (s3 : Value) (a3 : Option Addr) (l3 c3 : Nat) (T : Tb) (w0 W : World) : Prop := Blk W Y 24 #[s3] ∧ TabN W 0 a3 l3 c3 T ∧ Below w0.heap.size w0 W
section
variable {Y : Nat} {s3 : Value} {a3 : Option Addr} {l3 c3 : Nat} {T : Tb} {w0 W W' : World}
theorem MS.later (h : MS Y s3 a3 l3 c3 T w0 W) (hb : Below W.heap.size W W') : MS Y s3 a3 l3 c3 T w0 W' := ⟨h.1.later hb, h.2.1.later hb, h.2.2.trans (hb.mono h.2.2.size)⟩
theorem MS.alloc (h : MS Y s3 a3 l3 c3 T w0 W) (o : Obj) : MS Y s3 a3 l3 c3 T w0 (W.alloc o) := h.later ((Below.refl _ _).alloc (Nat.le_refl _) _)
end
theorem MS.first {w0 w1 : World} {a3 : Option Addr} {l3 c3 B : Nat} {T : Tb} (h : TabN w1 B a3 l3 c3 T) (hb : Below w0.heap.size w0 w1) : MS w1.heap.size (.slice a3 l3 c3) a3 l3 c3 T w0 (w1.alloc (.cells #[.slice a3 l3 c3] 24)) :=
  ⟨Blk.new _ _ _, (h.later ((Below.refl _ _).alloc (Nat.le_refl _) _)).mono (Nat.zero_le _), hb.alloc hb.size _⟩
theorem MS.S {Y : Nat} {s3 : Value} {a3 : Option Addr} {l3 c3 : Nat} {T : Tb} {w0 W : World} (h : MS Y s3 a3 l3 c3 T w0 W) : W.cell? ⟨Y, 0, none⟩ = some s3 := one_cell9 h.1
theorem MS.more {Y : Nat} {s3 : Value} {a3 : Option Addr} {l3 c3 : Nat} {T : Tb} {w0 W : World} (h : MS Y s3 a3 l3 c3 T w0 W) : ∃ W', W.alloc (.cells #[.slice none 0 0] 24) = W' ∧ Below W.heap.size W W' ∧ Blk W' W.heap.size 24 #[.slice none 0 0] ∧ Y < W.heap.size ∧ w0.heap.size ≤ W.heap.size := ⟨_, rfl, (Below.refl _ _).alloc (Nat.le_refl _) _, Blk.new _ _ _, h.1.lt, h.2.2.size⟩
theorem MS.store {Y : Nat} {s3 : Value} {a3 : Option Addr} {l3 c3 : Nat} {T : Tb} {w0 W : World} (h : MS Y s3 a3 l3 c3 T w0 W) {p : Nat} {cs : Array Value} (hp : Blk W p 24 cs) (h1 : Y < p) (h0 : w0.heap.size ≤ p) (v : Value) : MS Y s3 a3 l3 c3 T w0 (W.setCell ⟨p, 0, none⟩ v) := by
  obtain ⟨g1, g2, g3⟩ := h
  exact ⟨g1.other (by omega) _, g2.box hp (grownBy_setCell4 _ _ _ _), g3.setCell (by exact h0) _⟩
/-- And a second box. -/
def M2 (Y Z : Nat) (s3 s5 : Value) (a3 : Option Addr) (l3 c3 : Nat) (T : Tb) (a5 : Option Addr) (l5 c5 : Nat) (U : Tb) (w0 W : World) : Prop := MS Y s3 a3 l3 c3 T w0 W ∧ Blk W Z 24 #[s5] ∧ TabN W 0 a5 l5 c5 U
section
variable {Y Z : Nat} {s3 s5 : Value} {a3 a5 : Option Addr} {l3 c3 l5 c5 : Nat} {T U : Tb} {w0 W W' : World}
theorem M2.later (h : M2 Y Z s3 s5 a3 l3 c3 T a5 l5 c5 U w0 W) (hb : Below W.heap.size W W') : M2 Y Z s3 s5 a3 l3 c3 T a5 l5 c5 U w0 W' := ⟨h.1.later hb, h.2.1.later hb, h.2.2.later hb⟩
theorem M2.S (h : M2 Y Z s3 s5 a3 l3 c3 T a5 l5 c5 U w0 W) : W.cell? ⟨Y, 0, none⟩ = some s3 := h.1.S
theorem M2.more (h : M2 Y Z s3 s5 a3 l3 c3 T a5 l5 c5 U w0 W) : ∃ W', W.alloc (.cells #[.slice none 0 0] 24) = W' ∧ Below W.heap.size W W' ∧ Blk W' W.heap.size 24 #[.slice none 0 0] ∧ Y < W.heap.size ∧ Z < W.heap.size ∧ w0.heap.size ≤ W.heap.size := ⟨_, rfl, (Below.refl _ _).alloc (Nat.le_refl _) _, Blk.new _ _ _, h.1.1.lt, h.2.1.lt, h.1.2.2.size⟩
theorem M2.store (h : M2 Y Z s3 s5 a3 l3 c3 T a5 l5 c5 U w0 W) {p : Nat} {cs : Array Value} (hp : Blk W p 24 cs) (h1 : Y < p) (h2 : Z < p) (h0 : w0.heap.size ≤ p) (v : Value) : M2 Y Z s3 s5 a3 l3 c3 T a5 l5 c5 U w0 (W.setCell ⟨p, 0, none⟩ v) :=
  ⟨h.1.store hp h1 h0 v, h.2.1.other (by omega) _, h.2.2.box hp (grownBy_setCell4 _ _ _ _)⟩
end
theorem M2.first {Y B : Nat} {s3 : Value} {a3 a5 : Option Addr} {l3 c3 l5 c5 : Nat} {T U : Tb} {w0 W : World} (h : MS Y s3 a3 l3 c3 T w0 W) (hu : TabN W B a5 l5 c5 U) : M2 Y W.heap.size s3 (.slice a5 l5 c5) a3 l3 c3 T a5 l5 c5 U w0 (W.alloc (.cells #[.slice a5 l5 c5] 24)) :=
  ⟨h.alloc _, Blk.new _ _ _, (hu.later ((Below.refl _ _).alloc (Nat.le_refl _) _)).mono (Nat.zero_le _)⟩

set_option maxRecDepth 100000 in
set_option maxHeartbeats 4000000 in
theorem walk (a0 : Option Addr) (len0 cap0 : Nat) (z0 : List Int) (a1 : Int) (w : World) (w0 : IsRow .u16 w a0 len0 cap0 z0) (w1 : (Lit.int .u16 a1).wf = true) :
    Calls Try.prog 7 #[.slice a0 len0 cap0, .int .u16 a1] w fun e w' => e = .returned (.bool true) ∧ Below w.heap.size w w' := by
  obtain ⟨hz, hlen⟩ := r16_of w0
  have HMD := Lib.hid (made9 w a0 len0 cap0 _ hz hlen)
  have hzb : ∀ i, i < min len0 60 → (z0.getD i 0).toNat < 65536 := fun i hi => by
    obtain ⟨_, _, _, _, _, h⟩ := hz i (by omega)
    exact h
  have hT := madeT_right (min len0 60) hzb
  have hkd := made_kinds (min len0 60) hzb
  obtain ⟨T, hTn⟩ := named (madeT (fun i => (z0.getD i 0).toNat) (min len0 60))
  rw [hTn.out] at HMD hT
  have hkd' : ∀ j, atN T j = enZ ∨ (j < 300 ∧ (atN T j = (1, 0, 0, 0, 0) ∨ (atN T j).1 = 2)) := by rw [← hTn.out]; exact hkd
  have hb1 := bounds_u16 w1
  obtain ⟨I, rfl⟩ : ∃ I : Nat, a1 = I := ⟨a1.toNat, by omega⟩
  obtain ⟨K, hK⟩ := named (I % 300)
  have hK3 : K < 300 := by rw [← hK.out]; omega
  have htK : (I : Int).tmod 300 = (K : Int) := by rw [Int.tmod_eq_emod_of_nonneg (by omega), ← hK.out]; omega
  have hmK : (I : Int) % 300 = (K : Int) := by rw [← hK.out]; omega
  have hAW := Lib.hid (fun w => awake9 w)
  have HMU := Lib.hid (mixed_u hT hkd' hK3)
  have hmv := mixed_v (T := T) (K : Int)
  have ho8 : EnOk (2, 2, 8, 0, 0) := by unfold EnOk I64; dsimp only; omega
  have ho3 : EnOk (2, 2, 3, 0, 0) := by unfold EnOk I64; dsimp only; omega
  have HS8 := Lib.hid (fun w a l c h => set9_any w a l c T (K : Int) 2 2 8 0 0 h (by unfold I64; omega) ho8)
  have HS3 := Lib.hid (fun w a l c h => set9_any w a l c T (K : Int) 2 2 3 0 0 h (by unfold I64; omega) ho3)
  rw [hmv] at HS3
  have HTO := Lib.hid hT
  clear hz hzb w0 w1 hlen hTn hkd hkd' hmv ho8 ho3 hT
  go_enter Try.func7, Try.ntmps7
  go_wp2_with (go_at_call 16; refine HMD.out.mono ?_; rintro e w1 ⟨a3, l3, c3, rfl, g1, g2⟩; have HP0 := Lib.hid (MS.first g1 g2); clear g1 g2)
  obtain ⟨W0, hW0⟩ := named (w1.alloc (.cells #[.slice a3 l3 c3] 24))
  obtain ⟨Y, hY⟩ := named w1.heap.size
  have hYY := hY.out
  rw [hW0.out, hY.out] at HP0
  rw [hW0.out, hY.out]
  go_loopw [6, 7] (fun r i wr => ∃ (q : Nat) (B : Bool), q ≤ 300 ∧ r = .bool B ∧ i = .int .i64 q ∧ Hid (B = true ↔ ∃ k, k < q ∧ (atN T k).1 = 2) ∧ Hid (MS Y (.slice a3 l3 c3) a3 l3 c3 T w wr)) (fun _ i _ => 300 - (intOf i).toNat)
  case atStart => exact ⟨0, false, by omega, rfl, rfl, ⟨fun e => (by cases e), fun ⟨k, hk, _⟩ => by omega⟩, HP0.out⟩
  case round =>
    obtain ⟨q, B, hq3, rfl, rfl, HBB, HP⟩ := hrel
    have hS := HP.out.S
    by_cases hlt : q < 300
    · cases B with
      | true =>
        have HX := Lib.hid (HBB.out.1 rfl)
        clear HBB
        go_wp2
        go_roundw
        case rel => exact ⟨q + 1, true, by omega, rfl, by go_num, ⟨fun _ => by
          obtain ⟨k, h1, h2⟩ := HX.out
          exact ⟨k, by omega, h2⟩, fun _ => rfl⟩, HP.out.later (by first | exact (Below.refl _ _).drew.drew.drew | exact (Below.refl _ _).drew.drew | exact (Below.refl _ _).drew | exact Below.refl _ _)⟩
        case measure => simp [intOf]; omega
      | false =>
        obtain ⟨⟨v1, v2, v3, v4, v5⟩, hv⟩ := named (atN T q)
        have HTt := Lib.hid HP.out.2.1.tab
        by_cases hv2 : v1 = 2
        · subst hv2
          have HX := Lib.hid (show (atN T q).1 = 2 by rw [hv.out])
          have HG1 := Lib.hid (fun w h => getT (a := a3) (len := l3) (cap := c3) (T := T) w h (q : Int) (by unfold I64; omega) ((atT_nat T q).trans hv.out))
          have hk9 := fun w => kind9 2 v2 v3 v4 v5 w
          clear hv HBB
          go_wp2_with (go_at_call 17; (with_reducible refine (HG1.out _ HTt.out).mono ?_); rintro e w5 ⟨rfl, g⟩; have HP1 := Lib.hid (HP.out.later g); clear g)
          go_roundw
          case rel => exact ⟨q + 1, true, by omega, rfl, by go_num, ⟨fun _ => ⟨q, by omega, HX.out⟩, fun _ => rfl⟩, HP1.out.later (by first | exact Below.refl _ _ | exact (Below.refl _ _).drew.drew.drew | exact (Below.refl _ _).drew.drew | exact (Below.refl _ _).drew)⟩
          case measure => simp [intOf]; omega
        · have HX : Hid (¬ ∃ k, k < q + 1 ∧ (atN T k).1 = 2) := fun ⟨k, h1, h2⟩ => by
            by_cases e : k = q
            · rw [e, hv.out] at h2
              exact absurd h2 hv2
            · cases HBB.out.2 ⟨k, by omega, h2⟩
          have hvb : (v1 == 2) = false := by simp [hv2]
          have HG1 := Lib.hid (fun w h => getT (a := a3) (len := l3) (cap := c3) (T := T) w h (q : Int) (by unfold I64; omega) ((atT_nat T q).trans hv.out))
          have hk9 := fun w => kind9 v1 v2 v3 v4 v5 w
          clear hv HBB
          go_wp2_with (go_at_call 17; (with_reducible refine (HG1.out _ HTt.out).mono ?_); rintro e w5 ⟨rfl, g⟩; have HP1 := Lib.hid (HP.out.later g); clear g)
          go_roundw
          case rel => exact ⟨q + 1, false, by omega, rfl, by go_num, ⟨fun e => (by cases e), fun h => absurd h HX.out⟩, HP1.out.later (by first | exact Below.refl _ _ | exact (Below.refl _ _).drew.drew.drew | exact (Below.refl _ _).drew.drew | exact (Below.refl _ _).drew)⟩
          case measure => simp [intOf]; omega
    · have hq : q = 300 := by omega
      subst hq
      have HMR : Hid (decide (setT T (K : Int) (2, 2, 8, 0, 0) = T) = B) := by
        show _ = _
        cases B with
        | true => exact decide_eq_true (HMU.out.2 (HBB.out.1 rfl))
        | false => exact decide_eq_false fun e => by cases HBB.out.2 (HMU.out.1 e)
      have HTt := Lib.hid HP.out.2.1.tab
      clear HBB
      go_wp2_with (first
        | (go_at_call 11; (with_reducible refine (HS8.out _ _ _ _ HTt.out).mono ?_); rintro e wp ⟨ap, lp, cp, rfl, g1, g2⟩; have hs1 := (HP.out.later g2).S; have HM2 := Lib.hid (M2.first (HP.out.later g2) g1); have hs2 := HM2.out.S; have HT2 := Lib.hid HM2.out.1.2.1.tab; clear g1 g2)
        | (go_at_call 11; (with_reducible refine (HS3.out _ _ _ _ HT2.out).mono ?_); rintro e wq ⟨aq, lq, cq, rfl, g1, g2⟩; have hg := (Below.refl wq.heap.size wq).alloc (Nat.le_refl _) (.cells #[.slice aq lq cq] 24); have HM3 := Lib.hid (HM2.out.later g2); have HM4 := Lib.hid (HM3.out.later hg); have HV := Lib.hid (g1.later hg).tab; obtain ⟨f1, f2⟩ : _ ∧ _ := ⟨HM3.out.S, one_cell9 HM3.out.2.1⟩; obtain ⟨f3, f4⟩ : _ ∧ _ := ⟨HM4.out.S, one_cell9 HM4.out.2.1⟩; have HT4 := Lib.hid HM4.out.1.2.1.tab; clear g1 g2 hg)
        | (go_at_call 13; (with_reducible refine (tablesT (R := true) (decide_eq_true rfl) _ HV.out HT4.out).mono ?_); rintro e wv ⟨rfl, g⟩; have HF3 := Lib.hid (HM4.out.later g); have HT5 := Lib.hid HF3.out.2.2.tab; have HT6 := Lib.hid HF3.out.1.2.1.tab; obtain ⟨e1, e2⟩ : _ ∧ _ := ⟨HF3.out.S, one_cell9 HF3.out.2.1⟩; clear g)
        | (go_at_call 13; (with_reducible refine (tablesT HMR.out _ HT5.out HT6.out).mono ?_); rintro e wu ⟨rfl, g⟩; have HF4 := Lib.hid (HF3.out.later g); clear g)
        | (go_at_call 9; (with_reducible refine (hAW.out _).mono ?_); rintro e ww ⟨rfl, g⟩; have HF5 := Lib.hid (HF4.out.later g); clear g))
      go_ret
      exact ⟨rfl, HF5.out.1.2.2⟩

set_option maxRecDepth 100000 in
theorem lifted (os : Os) (started : os.Started) (H : Type) (enc : TypeId × Value → H) :
    ReturnsInHanded {} Try.checked os 7 .any (Rows.tableMixedSpec.pre6 enc Try.prog Try.f7 Rows.tableMixedRow.domain false) (Rows.tableMixedSpec.post enc Try.prog Try.f7 false true false false) := by
  refine returnsInHanded_of_change (C := Try.checked) own started (by kernel_rfl) Try.func7
    (ChangeSpec.witness6 (enc := enc) (C := Try.checked) false ⟨#[], #[.slice none 0 0, .int .u16 0], []⟩ 8 (by kernel_rfl) (by kernel_rfl) (by kernel_rfl) (by kernel_rfl)) ?_
  intro W base args ds gs before hval0 hW hcnd _
  have hval : ∀ (j : Nat) t v, Try.f7.params[j]? = some t → args[j]? = some v → Value.okWide Try.prog W .any base t v := hval0
  have hW' := hW
  obtain ⟨p, q, hA0, hV, rfl, hfz, hnd⟩ := hW
  have hA : DataW.TrodAll enc Try.prog W 0 (fun _ => true) true Try.f7.params.toList args.toList ds p := hA0
  rw [Try.params7] at hA hval
  obtain ⟨v0, vs0, d0, ds0, p0, q0, hargs, rfl, rfl, h0, r0⟩ := trodAll_cons hA
  obtain ⟨v1, vs1, d1, ds1, p1, q1, rfl, rfl, rfl, h1, r1⟩ := trodAll_cons r0
  obtain ⟨rfl, rfl, rfl⟩ := trodAll_nil r1
  obtain rfl : args = #[v0, v1] := by cases args; simp_all
  obtain ⟨rfl, rfl⟩ := trodVars_none hV
  have k0 := h0
  have lt0 : ∀ x ∈ p0, x.block < W.heap.size := by obtain ⟨m, hm⟩ := k0; exact DataW.trod_lt m _ _ _ hm
  obtain ⟨a0, len0, cap0, rfl⟩ := okWide_slice Try.underlying35 (hval 0 35 v0 rfl rfl)
  obtain ⟨z0, w0⟩ : ∃ zs, IsRow .u16 W a0 len0 cap0 zs := by
    obtain ⟨fuel, hf⟩ := h0
    rcases open_ints Try.underlying35 Try.underlying36 (by kernel_rfl) hf with ⟨hcs, _⟩ | ⟨x, l, c, zs, hcs, _, hl, hm, hz, _, hcell, hwz⟩
    · simp [Value.cells] at hcs
      obtain ⟨rfl, rfl, rfl⟩ := hcs
      exact ⟨[], .inl ⟨rfl, rfl, rfl, rfl⟩⟩
    · simp [Value.cells] at hcs
      obtain ⟨rfl, rfl, rfl⟩ := hcs
      exact ⟨zs, .inr ⟨_, rfl, hl, hm, by simpa using hz, hcell, hwz⟩⟩
  have k1 := h1
  have lt1 : ∀ x ∈ p1, x.block < W.heap.size := by obtain ⟨m, hm⟩ := k1; exact DataW.trod_lt m _ _ _ hm
  obtain ⟨a1, rfl, _, _, w1⟩ := open_int Try.underlying36 (hval 1 36 v1 rfl rfl) h1
  clear hA0 hval0
  refine (walk a0 len0 cap0 z0 a1 W w0 w1).mono fun e W' ⟨he, bel⟩ => ?_
  subst he
  exact ⟨_, rfl, _, _, _, [], _, [], hW', trodAll_mk1 (shut_bool Try.underlying4 _), (trodAll_cons_mk (Below.trod laidOut (by kernel_rfl) (of_decide_eq_true (by kernel_rfl)) k0 bel lt0) (trodAll_cons_mk (Below.trod laidOut (by kernel_rfl) (of_decide_eq_true (by kernel_rfl)) k1 bel lt1) trodAll_mk0)), rfl, bel.frame _, fun h => by cases h⟩

theorem over : Rows.tableMixedRow.holds Try.pinned (OpenSpec.ofChange Rows.tableMixedSpec) :=
  OpenClaim.holds_of_wide 7 Try.f7 rfl rfl rfl rfl rfl rfl rfl ⟨rfl, rfl, rfl, rfl, rfl⟩ rfl rfl rfl rfl rfl (by kernel_rfl) Try.func7 (by kernel_rfl)
    (of_decide_eq_true (by kernel_rfl)) (by unfold Func.isWrapper; first | (rw [if_pos (by decide +kernel)]; kernel_rfl) | (rw [if_neg (by decide +kernel)]; exact ⟨rfl, rfl⟩))
    (fun os started H enc _ => lifted os started H enc)

/-- The statement. -/
theorem proved : Rows.TableMixedSaid := over
#print axioms proved
end Go.Proofs.Ytbmgcofcjkcaaaa.tableMixed
