/-
  Proved: 'matryoshkalaw8.TableOrder' returns true for every input (any numbers), and each argument reads afterwards as before: the statement TableOrderSaid as given. Conditions: none beyond the statement's own.
-/
import Derived.Test.YtbmgcofcjkcaaaaRows
import Derived.Test.YtbmgcofcjkcaaaaX9
import Derived.Deep.RegionHeld3
import Derived.WalkKit
import Derived.ProofKit
import Derived.OpenShut
import Derived.ShutString
import Derived.ChangeOld
import Derived.Below
namespace Go.Proofs.Ytbmgcofcjkcaaaa.tableOrder
open Go.ChangeShapes Go.WideShapes Go.ChangeAt Go.RowKit
open Go.ChangeMaps (open_string shut_string)
set_option linter.unusedVariables false

theorem own : ownKnob Try.prog.godebug = none := by kernel_rfl
theorem laidOut : laidOutB Try.prog = true := by kernel_rfl

/-- A slice of integers that came in: nil, or a row of cells. -/
def IsRow (k : IntKind) (w : World) (a : Option Addr) (len cap : Nat) (zs : List Int) : Prop :=
  (a = none ∧ len = 0 ∧ cap = 0 ∧ zs = []) ∨
  ∃ x, a = some x ∧ len ≤ cap ∧ cap ≤ maxLen ∧ zs.length = cap ∧ (∀ i, i < zs.length → w.cell? (x.add i) = some (.int k (zs.getD i 0))) ∧ ∀ n ∈ zs, (Lit.int k n).wf = true

noncomputable def ordA (zs : Nat → Nat) : Nat → Tb
  | 0 => []
  | i + 1 => setT (ordA zs i) ((zs i % 500 : Nat) : Int) (1, 0, 0, 0, 0)
noncomputable def ordB (zs : Nat → Nat) (n : Nat) : Nat → Tb
  | 0 => []
  | i + 1 => setT (setT (ordB zs n i) ((zs (n - 1 - i) % 500 : Nat) : Int) (2, 5, 1, 0, 0)) ((zs (n - 1 - i) % 500 : Nat) : Int) (1, 0, 0, 0, 0)
noncomputable def ordC (T : Tb) : Nat → Tb
  | 0 => T
  | i + 1 => setT (setT (ordC T i) ((500 + i : Nat) : Int) (1, 0, 0, 0, 0)) ((500 + i : Nat) : Int) (0, 0, 0, 0, 0)
theorem may1 : MayE (1, 0, 0, 0, 0) 0 := by decide
theorem may2 : MayE (2, 5, 1, 0, 0) 0 := by decide
theorem set_nat {T : Tb} (h : rightT T 4096 0) {e : En} (he : MayE e 0) {i : Nat} (hi : i < 4096) : rightT (setT T (i : Int) e) 4096 0 ∧ ∀ j, atN (setT T (i : Int) e) j = if j = i then e else atN T j := by
  have := setT_at h he (i := (i : Int)) (by omega)
  rw [Int.toNat_natCast] at this
  exact this
theorem ordA_at (zs : Nat → Nat) : ∀ n, rightT (ordA zs n) 4096 0 ∧ (∀ j, (∃ i, i < n ∧ zs i % 500 = j) → atN (ordA zs n) j = (1, 0, 0, 0, 0)) ∧ ∀ j, (¬ ∃ i, i < n ∧ zs i % 500 = j) → atN (ordA zs n) j = enZ
  | 0 => ⟨right_nil (by omega), fun j ⟨i, h, _⟩ => by omega, fun j _ => atN_nil j⟩
  | n + 1 => by
    obtain ⟨h1, h2, h3⟩ := ordA_at zs n
    obtain ⟨g1, g2⟩ := set_nat h1 may1 (i := zs n % 500) (by omega)
    refine ⟨g1, fun j ⟨i, hi, hj⟩ => ?_, fun j hj => ?_⟩
    · show atN (setT _ _ _) j = _
      rw [g2]
      by_cases h : j = zs n % 500
      · rw [if_pos h]
      · rw [if_neg h]
        refine h2 j ⟨i, ?_, hj⟩
        by_cases e : i = n
        · subst e
          exact absurd hj.symm h
        · omega
    · show atN (setT _ _ _) j = _
      rw [g2, if_neg (fun h => hj ⟨n, by omega, h.symm⟩)]
      exact h3 j fun ⟨i, h1, h2⟩ => hj ⟨i, by omega, h2⟩
theorem ordB_at (zs : Nat → Nat) (m : Nat) : ∀ n, rightT (ordB zs m n) 4096 0 ∧ (∀ j, (∃ i, i < n ∧ zs (m - 1 - i) % 500 = j) → atN (ordB zs m n) j = (1, 0, 0, 0, 0)) ∧ ∀ j, (¬ ∃ i, i < n ∧ zs (m - 1 - i) % 500 = j) → atN (ordB zs m n) j = enZ
  | 0 => ⟨right_nil (by omega), fun j ⟨i, h, _⟩ => by omega, fun j _ => atN_nil j⟩
  | n + 1 => by
    obtain ⟨h1, h2, h3⟩ := ordB_at zs m n
    obtain ⟨f1, f2⟩ := set_nat h1 may2 (i := zs (m - 1 - n) % 500) (by omega)
    obtain ⟨g1, g2⟩ := set_nat f1 may1 (i := zs (m - 1 - n) % 500) (by omega)
    refine ⟨g1, fun j ⟨i, hi, hj⟩ => ?_, fun j hj => ?_⟩
    · show atN (setT _ _ _) j = _
      rw [g2]
      by_cases h : j = zs (m - 1 - n) % 500
      · rw [if_pos h]
      · rw [if_neg h, f2, if_neg h]
        refine h2 j ⟨i, ?_, hj⟩
        by_cases e : i = n
        · subst e
          exact absurd hj.symm h
        · omega
    · have hne : ¬ j = zs (m - 1 - n) % 500 := fun h => hj ⟨n, by omega, h.symm⟩
      show atN (setT _ _ _) j = _
      rw [g2, if_neg hne, f2, if_neg hne]
      exact h3 j fun ⟨i, h1, h2⟩ => hj ⟨i, by omega, h2⟩
theorem ordC_at {T : Tb} (hT : rightT T 4096 0) (hz : ∀ j, 500 ≤ j → atN T j = enZ) : ∀ n, n ≤ 40 → rightT (ordC T n) 4096 0 ∧ ∀ j, atN (ordC T n) j = atN T j
  | 0, _ => ⟨hT, fun _ => rfl⟩
  | n + 1, hn => by
    obtain ⟨h1, h2⟩ := ordC_at hT hz n (by omega)
    obtain ⟨f1, f2⟩ := set_nat h1 may1 (i := 500 + n) (by omega)
    obtain ⟨g1, g2⟩ := set_nat f1 (none_may (by omega)) (i := 500 + n) (by omega)
    refine ⟨g1, fun j => ?_⟩
    show atN (setT _ _ enZ) j = _
    rw [g2]
    by_cases h : j = 500 + n
    · rw [if_pos h, hz j (by omega)]
    · rw [if_neg h, f2, if_neg h, h2]
theorem order_one (zs : Nat → Nat) {n : Nat} (hn : n ≤ 40) : ordC (ordA zs n) n = ordB zs n n := by
  obtain ⟨a1, a2, a3⟩ := ordA_at zs n
  obtain ⟨b1, b2, b3⟩ := ordB_at zs n n
  obtain ⟨c1, c2⟩ := ordC_at a1 (fun j hj => a3 j fun ⟨i, _, h⟩ => by omega) n hn
  refine right_ext c1 b1 fun j => ?_
  rw [c2]
  by_cases hj : ∃ i, i < n ∧ zs i % 500 = j
  · rw [a2 j hj]
    obtain ⟨i, h1, h2⟩ := hj
    exact (b2 j ⟨n - 1 - i, by omega, by rw [show n - 1 - (n - 1 - i) = i by omega]; exact h2⟩).symm
  · rw [a3 j hj]
    exact (b3 j fun ⟨i, h1, h2⟩ => hj ⟨n - 1 - i, by omega, h2⟩).symm
/-- A box that holds an own table. -/
def TB (p : Nat) (a : Option Addr) (l c : Nat) (T : Tb) (W : World) : Prop := Blk W p 24 #[.slice a l c] ∧ TabN W 0 a l c T
section
variable {p q l c l' c' : Nat} {a a' : Option Addr} {T T' : Tb} {W W' : World}
theorem TB.later (h : TB p a l c T W) (hb : Below W.heap.size W W') : TB p a l c T W' := ⟨h.1.later hb, h.2.later hb⟩
theorem TB.cell (h : TB p a l c T W) : W.cell? ⟨p, 0, none⟩ = some (.slice a l c) := one_cell9 h.1
theorem TB.alloc (h : TB p a l c T W) (o : Obj) : TB p a l c T (W.alloc o) := h.later ((Below.refl _ _).alloc (Nat.le_refl _) _)
theorem TB.other {cs : Array Value} (h : TB p a l c T W) (hq : Blk W q 24 cs) (hne : p ≠ q) (v : Value) : TB p a l c T (W.setCell ⟨q, 0, none⟩ v) := ⟨h.1.other hne _, h.2.box hq (grownBy_setCell4 _ _ _ _)⟩
theorem TB.put {B : Nat} (h : TB p a l c T W) (hn : TabN W B a' l' c' T') : TB p a' l' c' T' (W.setCell ⟨p, 0, none⟩ (.slice a' l' c')) := ⟨h.1.set 0 _, (hn.mono (Nat.zero_le _)).box h.1 (grownBy_setCell4 _ _ _ _)⟩
theorem TB.first {B : Nat} (hn : TabN W B a l c T) : TB W.heap.size a l c T (W.alloc (.cells #[.slice a l c] 24)) := ⟨Blk.new _ _ _, (hn.later ((Below.refl _ _).alloc (Nat.le_refl _) _)).mono (Nat.zero_le _)⟩
end
/-- What the rounds hold. -/
def ES (Y Z : Nat) (a3 : Option Addr) (l3 c3 : Nat) (T3 : Tb) (a4 : Option Addr) (l4 c4 : Nat) (T4 : Tb) (w0 W : World) : Prop := TB Y a3 l3 c3 T3 W ∧ TB Z a4 l4 c4 T4 W ∧ Below w0.heap.size w0 W ∧ Y < Z ∧ w0.heap.size ≤ Y
section
variable {Y Z l3 c3 l4 c4 l' c' : Nat} {a3 a4 a' : Option Addr} {T3 T4 T' : Tb} {w0 W W' : World}
theorem ES.later (h : ES Y Z a3 l3 c3 T3 a4 l4 c4 T4 w0 W) (hb : Below W.heap.size W W') : ES Y Z a3 l3 c3 T3 a4 l4 c4 T4 w0 W' := ⟨h.1.later hb, h.2.1.later hb, h.2.2.1.trans (hb.mono h.2.2.1.size), h.2.2.2⟩
theorem ES.put {B : Nat} (h : ES Y Z a3 l3 c3 T3 a4 l4 c4 T4 w0 W) (hn : TabN W B a' l' c' T') : ES Y Z a' l' c' T' a4 l4 c4 T4 w0 (W.setCell ⟨Y, 0, none⟩ (.slice a' l' c')) := ⟨h.1.put hn, h.2.1.other h.1.1 (by have := h.2.2.2.1; omega) _, h.2.2.1.setCell (by exact h.2.2.2.2) _, h.2.2.2⟩
theorem ES.put2 {B : Nat} (h : ES Y Z a3 l3 c3 T3 a4 l4 c4 T4 w0 W) (hn : TabN W B a' l' c' T') : ES Y Z a3 l3 c3 T3 a' l' c' T' w0 (W.setCell ⟨Z, 0, none⟩ (.slice a' l' c')) := ⟨h.1.other h.2.1.1 (by have := h.2.2.2.1; omega) _, h.2.1.put hn, h.2.2.1.setCell (by show w0.heap.size ≤ Z; have := h.2.2.2; omega) _, h.2.2.2⟩
theorem ES.cells (h : ES Y Z a3 l3 c3 T3 a4 l4 c4 T4 w0 W) : W.cell? ⟨Y, 0, none⟩ = some (.slice a3 l3 c3) ∧ W.frozen? ⟨Y, 0, none⟩ = false ∧ W.cell? ⟨Z, 0, none⟩ = some (.slice a4 l4 c4) ∧ W.frozen? ⟨Z, 0, none⟩ = false := ⟨h.1.cell, h.1.1.free 0, h.2.1.cell, h.2.1.1.free 0⟩
end

set_option maxRecDepth 100000 in
set_option maxHeartbeats 4000000 in
theorem walk (a0 : Option Addr) (len0 cap0 : Nat) (z0 : List Int) (w : World) (w0 : IsRow .u16 w a0 len0 cap0 z0) :
    Calls Try.prog 5 #[.slice a0 len0 cap0] w fun e w' => e = .returned (.bool true) ∧ Below w.heap.size w w' := by
  obtain ⟨hz, hlen⟩ := r16_of w0
  obtain ⟨zs, hzs⟩ := named (fun i => (z0.getD i 0).toNat)
  rw [hzs.out] at hz
  have HZ := Lib.hid hz
  have hAW := Lib.hid (fun w => awake9 w)
  clear hz w0 hzs
  by_cases h40 : 40 < len0
  · go_enter Try.func5, Try.ntmps5
    go_wp2_with (go_at_call 9; (with_reducible refine (hAW.out _).mono ?_); rintro e ww ⟨rfl, g⟩; have HF := Lib.hid g; clear g)
    all_goals (go_ret; exact ⟨rfl, HF.out⟩)
  · have hl40 : len0 ≤ 40 := by omega
    have HEQ := Lib.hid (order_one zs hl40)
    have ho1 : EnOk (1, 0, 0, 0, 0) := by unfold EnOk I64; dsimp only; omega
    have ho2 : EnOk (2, 5, 1, 0, 0) := by unfold EnOk I64; dsimp only; omega
    have ho0 : EnOk (0, 0, 0, 0, 0) := by unfold EnOk I64; dsimp only; omega
    have HS1 := Lib.hid (fun w a l c U (v : Nat) (hv : v < 4096) h => set9_any w a l c U (v : Int) 1 0 0 0 0 h (by unfold I64; omega) ho1)
    have HS2 := Lib.hid (fun w a l c U (v : Nat) (hv : v < 4096) h => set9_any w a l c U (v : Int) 2 5 1 0 0 h (by unfold I64; omega) ho2)
    have HS0 := Lib.hid (fun w a l c U (v : Nat) (hv : v < 4096) h => set9_any w a l c U (v : Int) 0 0 0 0 0 h (by unfold I64; omega) ho0)
    clear ho1 ho2 ho0
    go_enter Try.func5, Try.ntmps5
    obtain ⟨Y, hY⟩ := named w.heap.size
    have hYY := hY.out
    go_wp2
    have HE0 : Hid (ES Y (Y + 1) none 0 0 [] none 0 0 [] w ((w.alloc (.cells #[.slice none 0 0] 24)).alloc (.cells #[.slice none 0 0] 24))) := by
      have h1 := TB.first (TabN.first w 0)
      have h2 := TB.first (TabN.first (w.alloc (.cells #[.slice none 0 0] 24)) 0)
      rw [World.size_alloc, hY.out] at h2
      rw [hY.out] at h1
      exact ⟨h1.alloc _, h2, ((Below.refl _ _).alloc (Nat.le_refl _) _).alloc (by rw [World.size_alloc]; omega) _, by omega, by rw [hY.out]; omega⟩
    obtain ⟨Z, hZ⟩ := named (Y + 1)
    rw [hZ.out] at HE0
    rw [hZ.out]
    obtain ⟨W0, hW0⟩ := named ((w.alloc (.cells #[.slice none 0 0] 24)).alloc (.cells #[.slice none 0 0] 24))
    rw [hW0.out] at HE0
    rw [hW0.out]
    go_loopw [5] (fun i wr => ∃ (j : Nat) (a3 a4 : Option Addr) (l3 c3 l4 c4 : Nat), i = .int .i64 j ∧ j ≤ len0 ∧ Hid (ES Y Z a3 l3 c3 (ordA zs j) a4 l4 c4 (ordB zs len0 j) w wr)) (fun i _ => len0 - (intOf i).toNat)
    case atStart => exact ⟨0, none, none, 0, 0, 0, 0, rfl, Nat.zero_le _, HE0.out⟩
    case round =>
      obtain ⟨j, a3, a4, l3, c3, l4, c4, rfl, hj, HE⟩ := hrel
      by_cases hlt : j < len0
      · obtain ⟨P1, hP1⟩ := named (len0 - 1)
        obtain ⟨P2, hP2⟩ := named (len0 - 1 - j)
        have hP2l : P2 < len0 := by rw [← hP2.out]; omega
        obtain ⟨b, off, rfl, hb, hc, hv⟩ := HZ.out j hlt
        obtain ⟨b2, off2, ea, hb2, hc2, hv2⟩ := HZ.out P2 hP2l
        cases ea
        obtain ⟨v, hvn⟩ := named (zs j)
        obtain ⟨v2, hvn2⟩ := named (zs P2)
        rw [hvn.out] at hc hv
        rw [hvn2.out] at hc2 hv2
        obtain ⟨R, hR⟩ := named (v % 500)
        obtain ⟨R2, hR2⟩ := named (v2 % 500)
        have hA : ordA zs (j + 1) = setT (ordA zs j) (R : Int) (1, 0, 0, 0, 0) := by rw [← hR.out, ← hvn.out]; rfl
        have hB : ordB zs len0 (j + 1) = setT (setT (ordB zs len0 j) (R2 : Int) (2, 5, 1, 0, 0)) (R2 : Int) (1, 0, 0, 0, 0) := by rw [← hR2.out, ← hvn2.out, ← hP2.out]; rfl
        have hR3 : R < 500 := by rw [← hR.out]; omega
        have hR32 : R2 < 500 := by rw [← hR2.out]; omega
        have htm : (v : Int).tmod 500 = (R : Int) := by rw [Int.tmod_eq_emod_of_nonneg (by omega), ← hR.out]; omega
        have htm2 : (v2 : Int).tmod 500 = (R2 : Int) := by rw [Int.tmod_eq_emod_of_nonneg (by omega), ← hR2.out]; omega
        have wv : IntKind.i64.wrap (v : Int) = v := by rw [IntKind.wrap_i64]; omega
        have wv2 : IntKind.i64.wrap (v2 : Int) = v2 := by rw [IntKind.wrap_i64]; omega
        have e1 : IntKind.i64.wrap ((len0 : Int) - 1) = (P1 : Int) := by rw [IntKind.wrap_i64, ← hP1.out]; omega
        have e2 : IntKind.i64.wrap ((P1 : Int) - (j : Int)) = (P2 : Int) := by rw [IntKind.wrap_i64, ← hP1.out, ← hP2.out]; omega
        have HSa := Lib.hid (fun w a l c h => HS1.out w a l c (ordA zs j) R (by omega) h)
        rw [← hA] at HSa
        have HSb := Lib.hid (fun w a l c h => HS2.out w a l c (ordB zs len0 j) R2 (by omega) h)
        have HSc := Lib.hid (fun w a l c h => HS1.out w a l c (setT (ordB zs len0 j) (R2 : Int) (2, 5, 1, 0, 0)) R2 (by omega) h)
        rw [← hB] at HSc
        have HSC : Hid (∀ a1 l1 k1 T1 a2 l2 k2 T2 W, ES Y Z a1 l1 k1 T1 a2 l2 k2 T2 w W → W.cell? ⟨b, off + j, none⟩ = some (.int .u16 v)) := Lib.hid (fun a1 l1 k1 T1 a2 l2 k2 T2 W h => (h.2.2.1.cell (p := ⟨b, off + j, none⟩) hb).trans hc)
        have HSD : Hid (∀ a1 l1 k1 T1 a2 l2 k2 T2 W, ES Y Z a1 l1 k1 T1 a2 l2 k2 T2 w W → W.cell? ⟨b, off + P2, none⟩ = some (.int .u16 v2)) := Lib.hid (fun a1 l1 k1 T1 a2 l2 k2 T2 W h => (h.2.2.1.cell (p := ⟨b, off + P2, none⟩) hb2).trans hc2)
        have HM1 := Lib.hid (HE.out.later (Below.refl _ _).drew)
        have t1 := HM1.out.1.cell
        have HTB := Lib.hid HM1.out.1.2.tab
        have sa := HSC.out _ _ _ _ _ _ _ _ _ HE.out
        have hbl := hb
        rw [hY.out] at hbl
        clear hc hb hc2 hb2 hA hB
        go_wp2
        clear sa
        refine wp_region_held_drew (S := fun w' => w'.cell? ⟨b, off + j, none⟩ = some (.int .u16 v)) (by kernel_rfl) (by first | exact HSC.out _ _ _ _ _ _ _ _ _ HM5.out | exact HSC.out _ _ _ _ _ _ _ _ _ HM4.out | exact HSC.out _ _ _ _ _ _ _ _ _ HM1.out) (fun hHeld => ?_)
        refine wpAnyH_take (i := 1) (oi := _) (v := ?vp1) rfl (by kernel_rfl) (by kernel_rfl) (by kernel_rfl) (fun _ _ _ h => h) (Or.inl ⟨by rfl, ?hyp1⟩) (by assumption) ?restp1
        case hyp1 => (intro wz hSw; (try dsimp only at hSw); go_simp; try with_reducible rfl)
        (try simp only [List.getElem_toArray, List.getElem_cons_zero, List.getElem_cons_succ, Act.put, List.setIfInBounds_toArray, List.set_cons_zero, List.set_cons_succ])
        refine wpAnyH_take (i := 2) (oi := _) (v := ?vp2) rfl (by kernel_rfl) (by kernel_rfl) (by kernel_rfl) (fun _ _ _ h => h) (Or.inl ⟨by rfl, ?hyp2⟩) (by assumption) ?restp2
        case hyp2 => (intro wz hSw; (try dsimp only at hSw); go_simp; try with_reducible rfl)
        (try simp only [List.getElem_toArray, List.getElem_cons_zero, List.getElem_cons_succ, Act.put, List.setIfInBounds_toArray, List.set_cons_zero, List.set_cons_succ])
        refine wpAnyH_take (i := 3) (oi := _) (v := ?vp3) rfl (by kernel_rfl) (by kernel_rfl) (by kernel_rfl) (fun _ _ _ h => h) (Or.inl ⟨by rfl, ?hyp3⟩) (by assumption) ?restp3
        case hyp3 => (intro wz hSw; (try dsimp only at hSw); go_simp; try with_reducible rfl)
        (try simp only [List.getElem_toArray, List.getElem_cons_zero, List.getElem_cons_succ, Act.put, List.setIfInBounds_toArray, List.set_cons_zero, List.set_cons_succ])
        refine wpAnyH_take (i := 4) (oi := _) (v := ?vp4) rfl (by kernel_rfl) (by kernel_rfl) (by kernel_rfl) (fun _ _ _ h => h) (Or.inl ⟨by rfl, ?hyp4⟩) (by assumption) ?restp4
        case hyp4 => (intro wz hSw; (try dsimp only at hSw); go_simp; try with_reducible rfl)
        (try simp only [List.getElem_toArray, List.getElem_cons_zero, List.getElem_cons_succ, Act.put, List.setIfInBounds_toArray, List.set_cons_zero, List.set_cons_succ])
        refine wpAnyH_take (i := 5) (oi := _) (v := ?vp5) rfl (by kernel_rfl) (by kernel_rfl) (by kernel_rfl) (fun _ _ _ h => h) (Or.inl ⟨by rfl, ?hyp5⟩) (by assumption) ?restp5
        case hyp5 => (intro wz hSw; (try dsimp only at hSw); go_simp; try with_reducible rfl)
        (try simp only [List.getElem_toArray, List.getElem_cons_zero, List.getElem_cons_succ, Act.put, List.setIfInBounds_toArray, List.set_cons_zero, List.set_cons_succ])
        refine wpAnyH_take (i := 6) (oi := _) (v := ?vp6) rfl (by kernel_rfl) (by kernel_rfl) (by kernel_rfl) (fun _ _ _ h => h) (Or.inl ⟨by rfl, ?hyp6⟩) (by assumption) ?restp6
        case hyp6 => (intro wz hSw; (try dsimp only at hSw); go_simp; try with_reducible rfl)
        (try simp only [List.getElem_toArray, List.getElem_cons_zero, List.getElem_cons_succ, Act.put, List.setIfInBounds_toArray, List.set_cons_zero, List.set_cons_succ])
        refine wpAnyH_take (i := 7) (oi := _) (v := ?vp7) rfl (by kernel_rfl) (by kernel_rfl) (by kernel_rfl) (fun _ _ _ h => h) (Or.inl ⟨by rfl, ?hyp7⟩) (by assumption) ?restp7
        case hyp7 => (intro wz hSw; (try dsimp only at hSw); go_simp; try with_reducible rfl)
        (try simp only [List.getElem_toArray, List.getElem_cons_zero, List.getElem_cons_succ, Act.put, List.setIfInBounds_toArray, List.set_cons_zero, List.set_cons_succ])
        refine wpAnyH_ready (rs := [0]) (by kernel_rfl) (by simp) ?_
        refine AllReadyH.cons (o := _) rfl (fun K hK => ?_) AllReadyH.nil
        rw [if_pos (by rfl)]
        go_simp
        refine hK.out _ _ (by first | exact HSC.out _ _ _ _ _ _ _ _ _ HM5.out | exact HSC.out _ _ _ _ _ _ _ _ _ HM4.out | exact HSC.out _ _ _ _ _ _ _ _ _ HM1.out) (fun hHeld => ?_)
        clear hK K
        (try simp only [List.getElem_toArray, List.getElem_cons_zero, List.getElem_cons_succ, Act.put, List.setIfInBounds_toArray, List.set_cons_zero, List.set_cons_succ])
        refine wpAnyH_ready (rs := [8]) (by kernel_rfl) (by simp) ?_
        refine AllReadyH.cons (o := _) rfl (fun K hK => ?_) AllReadyH.nil
        rw [if_pos (by rfl)]
        go_simp
        (go_at_call 11; (with_reducible refine (HSa.out _ _ _ _ HTB.out).mono ?_); rintro e wx ⟨ax, lx, cx, rfl, g1, g2⟩; have HM4 := Lib.hid (HM1.out.later g2); have HM5 := Lib.hid (HM4.out.put g1); obtain ⟨z4, z5, z6, _⟩ := HM4.out.cells; clear g1 g2)
        dsimp only
        refine hK.out _ _ (by first | exact HSC.out _ _ _ _ _ _ _ _ _ HM5.out | exact HSC.out _ _ _ _ _ _ _ _ _ HM4.out | exact HSC.out _ _ _ _ _ _ _ _ _ HM1.out) (fun hHeld => ?_)
        clear hK K
        (try simp only [List.getElem_toArray, List.getElem_cons_zero, List.getElem_cons_succ, Act.put, List.setIfInBounds_toArray, List.set_cons_zero, List.set_cons_succ])
        refine wpAnyH_ready (rs := [9]) (by kernel_rfl) (by simp) ?_
        refine AllReadyH.cons (o := _) rfl (fun K hK => ?_) AllReadyH.nil
        rw [if_pos (by rfl)]
        go_simp
        refine hK.out _ _ (by first | exact HSC.out _ _ _ _ _ _ _ _ _ HM5.out | exact HSC.out _ _ _ _ _ _ _ _ _ HM4.out | exact HSC.out _ _ _ _ _ _ _ _ _ HM1.out) (fun hHeld => ?_)
        clear hK K
        (try simp only [List.getElem_toArray, List.getElem_cons_zero, List.getElem_cons_succ, Act.put, List.setIfInBounds_toArray, List.set_cons_zero, List.set_cons_succ])
        refine wpAnyH_done (by kernel_rfl) ?_ _
        obtain ⟨y1, y2, y3, y4⟩ := HM5.out.cells
        have sb := HSD.out _ _ _ _ _ _ _ _ _ HM5.out
        obtain ⟨W5, hW5⟩ := named (wx.setCell ⟨Y, 0, none⟩ (.slice ax lx cx))
        rw [hW5.out] at HM5 y1 y2 y3 y4 sb
        rw [hW5.out]
        clear z4 z5 z6
        have HTC := Lib.hid HM5.out.2.1.2.tab
        go_wp2_with (first
          | (go_at_call 11; (with_reducible refine (HSb.out _ _ _ _ HTC.out).mono ?_); rintro e wy ⟨ay, ly, cy, rfl, g1, g2⟩; have HM6 := Lib.hid (HM5.out.later g2); have HM7 := Lib.hid (HM6.out.put2 g1); obtain ⟨_, _, x1, x2⟩ := HM6.out.cells; obtain ⟨_, _, x3, x4⟩ := HM7.out.cells; have HTD := Lib.hid HM7.out.2.1.2.tab; clear g1 g2)
          | (go_at_call 11; (with_reducible refine (HSc.out _ _ _ _ HTD.out).mono ?_); rintro e wz ⟨az, lz, cz, rfl, g1, g2⟩; have HM8 := Lib.hid (HM7.out.later g2); have HM9 := Lib.hid (HM8.out.put2 g1); obtain ⟨_, _, x5, x6⟩ := HM8.out.cells; clear g1 g2))
        go_roundw
        case rel => exact ⟨j + 1, ax, az, lx, cx, lz, cz, by go_num, by omega, HM9.out⟩
        case measure => simp [intOf]; omega
      · have hjN : j = len0 := by omega
        subst hjN
        obtain ⟨TA, hTA⟩ := named (ordA zs j)
        obtain ⟨UB, hUB⟩ := named (ordB zs j j)
        rw [hTA.out, hUB.out] at HE HEQ
        clear HZ
        go_wp2
        go_loopw [7] (fun i wq => ∃ (q : Nat) (a3 : Option Addr) (l3 c3 : Nat), i = .int .i64 q ∧ q ≤ j ∧ Hid (ES Y Z a3 l3 c3 (ordC TA q) a4 l4 c4 UB w wq)) (fun i _ => j - (intOf i).toNat)
        case atStart => exact ⟨0, a3, l3, c3, rfl, Nat.zero_le _, by first | exact HE.out | exact HE.out.later (by repeat (first | exact Below.refl _ _ | refine Below.drew ?_))⟩
        case round =>
          rename_i wq _
          obtain ⟨q, a5, l5, c5, rfl, hq, HG⟩ := hrel
          obtain ⟨y1, y2, y3, y4⟩ := HG.out.cells
          by_cases hlq : q < j
          · obtain ⟨Q, hQ⟩ := named (500 + q)
            have hQ4 : Q < 4096 := by rw [← hQ.out]; omega
            have e5 : IntKind.i64.wrap ((500 : Int) + (q : Int)) = (Q : Int) := by rw [IntKind.wrap_i64, ← hQ.out]; omega
            have hC : ordC TA (q + 1) = setT (setT (ordC TA q) (Q : Int) (1, 0, 0, 0, 0)) (Q : Int) (0, 0, 0, 0, 0) := by rw [← hQ.out]; rfl
            have HSa := Lib.hid (fun w a l c h => HS1.out w a l c (ordC TA q) Q hQ4 h)
            have HSb := Lib.hid (fun w a l c h => HS0.out w a l c (setT (ordC TA q) (Q : Int) (1, 0, 0, 0, 0)) Q hQ4 h)
            rw [← hC] at HSb
            have HTC := Lib.hid HG.out.1.2.tab
            clear hC
            go_wp2_with (first
              | (go_at_call 11; (with_reducible refine (HSa.out _ _ _ _ HTC.out).mono ?_); rintro e wy ⟨ay, ly, cy, rfl, g1, g2⟩; have HM6 := Lib.hid (HG.out.later g2); have HM7 := Lib.hid (HM6.out.put g1); obtain ⟨x1, x2, _⟩ := HM6.out.cells; obtain ⟨x3, x4, _⟩ := HM7.out.cells; have HTD := Lib.hid HM7.out.1.2.tab; clear g1 g2)
              | (go_at_call 11; (with_reducible refine (HSb.out _ _ _ _ HTD.out).mono ?_); rintro e wz ⟨az, lz, cz, rfl, g1, g2⟩; have HM8 := Lib.hid (HM7.out.later g2); have HM9 := Lib.hid (HM8.out.put g1); obtain ⟨x5, x6, _⟩ := HM8.out.cells; clear g1 g2))
            go_roundw
            case rel => exact ⟨q + 1, az, lz, cz, by go_num, by omega, HM9.out⟩
            case measure => simp [intOf]; omega
          · have hqj : q = j := by omega
            subst hqj
            rw [HEQ.out] at HG
            have HT1 := Lib.hid HG.out.1.2.tab
            have HT2 := Lib.hid HG.out.2.1.2.tab
            go_wp2_with (first
              | (go_at_call 13; (with_reducible refine (tablesT (R := true) (decide_eq_true rfl) _ HT1.out HT2.out).mono ?_); rintro e wd ⟨rfl, g⟩; have HF1 := Lib.hid (HG.out.later g); clear g)
              | (go_at_call 9; (with_reducible refine (hAW.out _).mono ?_); rintro e wh ⟨rfl, g⟩; have HF2 := Lib.hid (HF1.out.later g); clear g))
            all_goals (go_ret; exact ⟨rfl, HF2.out.2.2.1⟩)

set_option maxRecDepth 100000 in
theorem lifted (os : Os) (started : os.Started) (H : Type) (enc : TypeId × Value → H) :
    ReturnsInHanded {} Try.checked os 5 .any (Rows.tableOrderSpec.pre6 enc Try.prog Try.f5 Rows.tableOrderRow.domain false) (Rows.tableOrderSpec.post enc Try.prog Try.f5 false true false false) := by
  refine returnsInHanded_of_change (C := Try.checked) own started (by kernel_rfl) Try.func5
    (ChangeSpec.witness6 (enc := enc) (C := Try.checked) false ⟨#[], #[.slice none 0 0], []⟩ 8 (by kernel_rfl) (by kernel_rfl) (by kernel_rfl) (by kernel_rfl)) ?_
  intro W base args ds gs before hval0 hW hcnd _
  have hval : ∀ (j : Nat) t v, Try.f5.params[j]? = some t → args[j]? = some v → Value.okWide Try.prog W .any base t v := hval0
  have hW' := hW
  obtain ⟨p, q, hA0, hV, rfl, hfz, hnd⟩ := hW
  have hA : DataW.TrodAll enc Try.prog W 0 (fun _ => true) true Try.f5.params.toList args.toList ds p := hA0
  rw [Try.params5] at hA hval
  obtain ⟨v0, vs0, d0, ds0, p0, q0, hargs, rfl, rfl, h0, r0⟩ := trodAll_cons hA
  obtain ⟨rfl, rfl, rfl⟩ := trodAll_nil r0
  obtain rfl : args = #[v0] := by cases args; simp_all
  obtain ⟨rfl, rfl⟩ := trodVars_none hV
  have k0 := h0
  have lt0 : ∀ x ∈ p0, x.block < W.heap.size := by obtain ⟨m, hm⟩ := k0; exact DataW.trod_lt m _ _ _ hm
  obtain ⟨a0, len0, cap0, rfl⟩ := okWide_slice Try.underlying35 (hval 0 35 v0 rfl rfl)
  obtain ⟨z0, w0⟩ : ∃ zs, IsRow .u16 W a0 len0 cap0 zs := by
    obtain ⟨fuel, hf⟩ := h0
    rcases open_ints Try.underlying35 Try.underlying36 (by kernel_rfl) hf with ⟨hcs, _⟩ | ⟨x, l, c, zs, hcs, _, hl, hm, hz, _, hcell, hwz⟩
    · simp [Value.cells] at hcs
      obtain ⟨rfl, rfl, rfl⟩ := hcs
      exact ⟨[], .inl ⟨rfl, rfl, rfl, rfl⟩⟩
    · simp [Value.cells] at hcs
      obtain ⟨rfl, rfl, rfl⟩ := hcs
      exact ⟨zs, .inr ⟨_, rfl, hl, hm, by simpa using hz, hcell, hwz⟩⟩
  clear hA0 hval0
  refine (walk a0 len0 cap0 z0 W w0).mono fun e W' ⟨he, bel⟩ => ?_
  subst he
  exact ⟨_, rfl, _, _, _, [], _, [], hW', trodAll_mk1 (shut_bool Try.underlying4 _), (trodAll_cons_mk (Below.trod laidOut (by kernel_rfl) (of_decide_eq_true (by kernel_rfl)) k0 bel lt0) trodAll_mk0), rfl, bel.frame _, fun h => by cases h⟩

theorem over : Rows.tableOrderRow.holds Try.pinned (OpenSpec.ofChange Rows.tableOrderSpec) :=
  OpenClaim.holds_of_wide 5 Try.f5 rfl rfl rfl rfl rfl rfl rfl ⟨rfl, rfl, rfl, rfl, rfl⟩ rfl rfl rfl rfl rfl (by kernel_rfl) Try.func5 (by kernel_rfl)
    (of_decide_eq_true (by kernel_rfl)) (by unfold Func.isWrapper; first | (rw [if_pos (by decide +kernel)]; kernel_rfl) | (rw [if_neg (by decide +kernel)]; exact ⟨rfl, rfl⟩))
    (fun os started H enc _ => lifted os started H enc)

/-- The statement. -/
theorem proved : Rows.TableOrderSaid := over
#print axioms proved
end Go.Proofs.Ytbmgcofcjkcaaaa.tableOrder
