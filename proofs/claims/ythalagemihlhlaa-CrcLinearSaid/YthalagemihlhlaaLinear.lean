/-
  Proved: 'matryoshkalaw1.CrcLinear' returns true for every input (any three texts), and each argument reads afterwards as before: the statement CrcLinearSaid as given. Conditions: none beyond the row's own.
-/
import Derived.Test.YthalagemihlhlaaRows
import Derived.Test.YthalagemihlhlaaL
import Derived.WalkKit
import Derived.ProofKit
import Derived.OpenShut
import Derived.ShutString
import Derived.ChangeOld
import Derived.Below
namespace Go.Proofs.Ythalagemihlhlaa.crcLinear
open Go.ChangeShapes Go.WideShapes Go.ChangeAt Go.RowKit
open Go.ChangeMaps (open_string shut_string)
set_option linter.unusedVariables false

theorem own : ownKnob Try.prog.godebug = none := by kernel_rfl
theorem laidOut : laidOutB Try.prog = true := by kernel_rfl

/-- A slice of integers that came in: nil, or a row of cells. -/
def IsRow (k : IntKind) (w : World) (a : Option Addr) (len cap : Nat) (zs : List Int) : Prop :=
  (a = none ∧ len = 0 ∧ cap = 0 ∧ zs = []) ∨
  ∃ x, a = some x ∧ len ≤ cap ∧ cap ≤ maxLen ∧ zs.length = cap ∧ (∀ i, i < zs.length → w.cell? (x.add i) = some (.int k (zs.getD i 0))) ∧ ∀ n ∈ zs, (Lit.int k n).wf = true

theorem run_min4 (P : Program) (ts : Array TypeId) (t : TypeId) (x y z u : Int) (w : World) : (Builtin.min_ ts t #[.int .i64 x, .int .i64 y, .int .i64 z, .int .i64 u]).run P w = .ok (.int .i64 (if u < (if z < (if y < x then y else x) then z else (if y < x then y else x)) then u else (if z < (if y < x then y else x) then z else (if y < x then y else x)))) w := by
  simp [Builtin.min_, Builtin.min2]
/-- The first n bytes of a slice that came in: what 's[:n]' is, and that it reads as these bytes. -/
theorem cut_front {w : World} {a : Option Addr} {len cap : Nat} {zs : List Int} (h : IsRow .u8 w a len cap zs) {n : Nat} (hn : n ≤ len) (h5 : n ≤ 20000) :
    Bytes w a n (zs.take n) ∧ (n = 0 ∨ n ≤ cap) ∧ (zs.take n).length = n ∧ (∀ c ∈ zs.take n, 0 ≤ c ∧ c < 256) := by
  rcases h with ⟨rfl, rfl, rfl, rfl⟩ | ⟨x, rfl, h1, h2, h3, h4, h5'⟩
  · obtain rfl : n = 0 := by omega
    exact ⟨none_bytes w, Or.inl rfl, rfl, by simp⟩
  · have hl : (zs.take n).length = n := by rw [List.length_take]; omega
    have hb : ∀ c ∈ zs.take n, 0 ≤ c ∧ c < 256 := fun c hc => byte_of_wf (h5' c (List.mem_of_mem_take hc))
    refine ⟨⟨hl, ⟨by rw [hl]; omega, hb⟩, ?_⟩, Or.inr (by omega), hl, hb⟩
    by_cases h0 : n = 0
    · exact Or.inl h0
    · obtain ⟨b, off, spot⟩ := x
      have hc := h4 0 (by omega)
      have hspot : spot = none := by simpa [Addr.add] using World.cell?_spot hc
      subst hspot
      have hlt : b < w.heap.size := block_lt_of_cell hc
      refine Or.inr ⟨b, off, rfl, hlt, fun i hi => ?_⟩
      rw [hl] at hi
      have := h4 i (by omega)
      rw [add_none] at this
      rw [this, List.getD_eq_getElem?_getD, List.getD_eq_getElem?_getD, List.getElem?_take, if_pos (by omega)]
/-- Four slices of n bytes that read as these; nothing that was there has turned. -/
def Four (w0 : World) (ax : Option Addr) (lx : List Int) (a0 : Option Addr) (l0 : List Int) (a1 : Option Addr) (l1 : List Int) (a2 : Option Addr) (l2 : List Int) (n : Nat) (w : World) : Prop :=
  Below w0.heap.size w0 w ∧ Bytes w ax n lx ∧ Bytes w a0 n l0 ∧ Bytes w a1 n l1 ∧ Bytes w a2 n l2
section
variable {w0 : World} {ax : Option Addr} {lx : List Int} {a0 : Option Addr} {l0 : List Int} {a1 : Option Addr} {l1 : List Int} {a2 : Option Addr} {l2 : List Int} {n : Nat} {w : World}
theorem Four.later {w' : World} (h : Four w0 ax lx a0 l0 a1 l1 a2 l2 n w) (hb : Below w.heap.size w w') : Four w0 ax lx a0 l0 a1 l1 a2 l2 n w' :=
  ⟨h.1.trans (hb.mono h.1.size), h.2.1.later hb, h.2.2.1.later hb, h.2.2.2.1.later hb, h.2.2.2.2.later hb⟩
theorem Four.below (h : Four w0 ax lx a0 l0 a1 l1 a2 l2 n w) : Below w0.heap.size w0 w := h.1
theorem Four.drew (h : Four w0 ax lx a0 l0 a1 l1 a2 l2 n w) : Four w0 ax lx a0 l0 a1 l1 a2 l2 n w.drew := h.later (Below.refl _ _).drew
theorem sumX {c S : Nat} (h : Four w0 ax lx a0 l0 a1 l1 a2 l2 n w) (hS : moreOf 0 lx = S) : Calls Try.prog 11 #[.slice ax n c] w fun e w' => e = .returned (.int .u32 (S : Int)) ∧ Four w0 ax lx a0 l0 a1 l1 a2 l2 n w' :=
  (sum_any ax n c lx w h.2.1).mono fun _ _ ⟨he, hb⟩ => ⟨by rw [he, hS], h.later hb⟩
theorem sum0 {c S : Nat} (h : Four w0 ax lx a0 l0 a1 l1 a2 l2 n w) (hS : moreOf 0 l0 = S) : Calls Try.prog 11 #[.slice a0 n c] w fun e w' => e = .returned (.int .u32 (S : Int)) ∧ Four w0 ax lx a0 l0 a1 l1 a2 l2 n w' :=
  (sum_any a0 n c l0 w h.2.2.1).mono fun _ _ ⟨he, hb⟩ => ⟨by rw [he, hS], h.later hb⟩
theorem sum1 {c S : Nat} (h : Four w0 ax lx a0 l0 a1 l1 a2 l2 n w) (hS : moreOf 0 l1 = S) : Calls Try.prog 11 #[.slice a1 n c] w fun e w' => e = .returned (.int .u32 (S : Int)) ∧ Four w0 ax lx a0 l0 a1 l1 a2 l2 n w' :=
  (sum_any a1 n c l1 w h.2.2.2.1).mono fun _ _ ⟨he, hb⟩ => ⟨by rw [he, hS], h.later hb⟩
theorem sum2 {c S : Nat} (h : Four w0 ax lx a0 l0 a1 l1 a2 l2 n w) (hS : moreOf 0 l2 = S) : Calls Try.prog 11 #[.slice a2 n c] w fun e w' => e = .returned (.int .u32 (S : Int)) ∧ Four w0 ax lx a0 l0 a1 l1 a2 l2 n w' :=
  (sum_any a2 n c l2 w h.2.2.2.2).mono fun _ _ ⟨he, hb⟩ => ⟨by rw [he, hS], h.later hb⟩
theorem awakeF (h : Four w0 ax lx a0 l0 a1 l1 a2 l2 n w) : Calls Try.prog 10 #[] w fun e w' => e = .returned (.bool true) ∧ Four w0 ax lx a0 l0 a1 l1 a2 l2 n w' :=
  (awake_any w).mono fun _ _ ⟨he, hb⟩ => ⟨he, h.later hb⟩
end
theorem xor_sums (l0 l1 l2 : List Int) (h : l0.length = l1.length) (k : l1.length = l2.length) (q0 : ∀ c ∈ l0, c < 256) (q1 : ∀ c ∈ l1, c < 256) (q2 : ∀ c ∈ l2, c < 256) :
    ∃ S0 S1 S2 SX T : Nat, Hid (moreOf 0 l0 = S0) ∧ Hid (moreOf 0 l1 = S1) ∧ Hid (moreOf 0 l2 = S2) ∧ Hid (moreOf 0 (over3 l0 l1 l2) = SX) ∧ bits .xor .u32 (S0 : Int) (S1 : Int) = (T : Int) ∧ bits .xor .u32 (T : Int) (S2 : Int) = (SX : Int) := by
  have b0 := moreOf_lt (s := 0) (by decide) q0
  have b1 := moreOf_lt (s := 0) (by decide) q1
  have b2 := moreOf_lt (s := 0) (by decide) q2
  refine ⟨_, _, _, _, moreOf 0 l0 ^^^ moreOf 0 l1, Lib.hid rfl, Lib.hid rfl, Lib.hid rfl, Lib.hid rfl, xor_u32 _ _ b0 b1, ?_⟩
  rw [sum_over3 l0 l1 l2 h k]
  exact xor_u32 _ _ (Nat.xor_lt_two_pow (n := 32) b0 b1) b2
theorem cut_none (a : Option Addr) (len cap : Nat) : ∃ a' : Option Addr, ∀ w : World, (Instr.slice 22 (.slice a len cap) none (some (.int .i64 0)) none).run Try.prog w = .ok (.slice a' 0 cap) w :=
  ⟨if cap = 0 then a else a.map (·.add (0 * 1)), fun w => by
    obtain ⟨i0, hi, _, _, _⟩ := info_parts info5
    simp [Instr.slice, Instr.sliceBounds, Instr.sliceBound, asIntOf, run_underlying Try.underlying22, sizeOf, typeInfo, hi, go_sem]⟩
theorem empty_bytes (w : World) (a : Option Addr) : Bytes w a 0 [] := ⟨rfl, ⟨by simp, by simp⟩, Or.inl rfl⟩

theorem walk (a0 : Option Addr) (len0 cap0 : Nat) (z0 : List Int) (a1 : Option Addr) (len1 cap1 : Nat) (z1 : List Int) (a2 : Option Addr) (len2 cap2 : Nat) (z2 : List Int) (w : World) (w0 : IsRow .u8 w a0 len0 cap0 z0) (w1 : IsRow .u8 w a1 len1 cap1 z1) (w2 : IsRow .u8 w a2 len2 cap2 z2) :
    Calls Try.prog 8 #[.slice a0 len0 cap0, .slice a1 len1 cap1, .slice a2 len2 cap2] w fun e w' => e = .returned (.bool true) ∧ Below w.heap.size w w' := by
  obtain ⟨n, Hn, hn0, hn1, hn2, hn3⟩ : ∃ n : Nat, Hid (n = min (min (min len0 len1) len2) 5000) ∧ n ≤ len0 ∧ n ≤ len1 ∧ n ≤ len2 ∧ n ≤ 5000 := ⟨_, rfl, by omega, by omega, by omega, by omega⟩
  have hmin : ∀ w : World, (Builtin.min_ #[3, 3, 3, 3] 3 #[.int .i64 len0, .int .i64 len1, .int .i64 len2, .int .i64 5000]).run Try.prog w = .ok (.int .i64 n) w := fun w => by
    have := Hn.out
    rw [run_min4]
    congr 2
    split <;> split <;> (try split) <;> omega
  obtain ⟨B0, c0, g0, q0⟩ := cut_front w0 hn0 (by omega)
  obtain ⟨B1, c1, g1, q1⟩ := cut_front w1 hn1 (by omega)
  obtain ⟨B2, c2, g2, q2⟩ := cut_front w2 hn2 (by omega)
  generalize z0.take n = l0 at B0 g0 q0
  generalize z1.take n = l1 at B1 g1 q1
  generalize z2.take n = l2 at B2 g2 q2
  have G01 := Lib.hid (g0.trans g1.symm)
  have G12 := Lib.hid (g1.trans g2.symm)
  have G0 := Lib.hid g0
  have HB0 := Lib.hid B0
  have HB1 := Lib.hid B1
  have HB2 := Lib.hid B2
  clear w0 w1 w2 g0 g1 g2
  obtain ⟨T0, T1, T2, TX, TT, HT0, HT1, HT2, HTX, hx1, hx2⟩ := xor_sums l0 l1 l2 G01.out G12.out (fun c hc => (q0 c hc).2) (fun c hc => (q1 c hc).2) (fun c hc => (q2 c hc).2)
  have GX : Hid ((over3 l0 l1 l2).length = n) := by rw [over3_len _ _ _ G01.out G12.out]; exact G0.out
  by_cases h0 : n = 0
  · have e0 : l0 = [] := List.eq_nil_of_length_eq_zero (G0.out.trans h0)
    have e1 : l1 = [] := List.eq_nil_of_length_eq_zero (by rw [← G01.out, e0]; rfl)
    have e2 : l2 = [] := List.eq_nil_of_length_eq_zero (by rw [← G12.out, e1]; rfl)
    have hmin0 : ∀ w : World, (Builtin.min_ #[3, 3, 3, 3] 3 #[.int .i64 len0, .int .i64 len1, .int .i64 len2, .int .i64 5000]).run Try.prog w = .ok (.int .i64 0) w := fun w => by rw [hmin w, h0]; rfl
    rw [e0] at HT0
    rw [e1] at HT1
    rw [e2] at HT2
    rw [e0, e1, e2] at HTX
    obtain ⟨k0, hk0⟩ := cut_none a0 len0 cap0
    obtain ⟨k1, hk1⟩ := cut_none a1 len1 cap1
    obtain ⟨k2, hk2⟩ := cut_none a2 len2 cap2
    clear hmin HB0 HB1 HB2 B0 B1 B2 q0 q1 q2 G0 G01 G12 GX Hn hn0 hn1 hn2 hn3 c0 c1 c2
    clear e0 e1 e2 h0
    go_enter Try.func8, Try.ntmps8
    go_wp2_with (first
      | (at_make; refine make_bytes rfl (.tmp 17) (.tmp 17) rfl w.heap.size 0 rfl rfl (by omega) (Nat.le_refl _) ?_; intro w1 h1 h2; have HO := Lib.hid h1; have HG := Lib.hid h2; clear h1 h2))
    go_loopw [9] (fun i wr => i = .int .i64 0 ∧ wr = w1) (fun _ _ => 0)
    case atStart => exact ⟨rfl, rfl⟩
    case round =>
      obtain ⟨rfl, rfl⟩ := hrel
      go_wp2_with fail
      have hF : Four w (some ⟨w.heap.size, 0, none⟩) [] k0 [] k1 [] k2 [] 0 wr := ⟨HG.out, empty_bytes _ _, empty_bytes _ _, empty_bytes _ _, empty_bytes _ _⟩
      clear HO HG
      go_region_held3 (fun w' => Four w (some ⟨w.heap.size, 0, none⟩) [] k0 [] k1 [] k2 [] 0 w') (first | assumption | (apply Four.drew; assumption))
        (first
          | (go_at_call 11; refine (sumX (by assumption) HTX.out).mono ?_; rintro e w' ⟨rfl, hb⟩)
          | (go_at_call 11; refine (sum0 (by assumption) HT0.out).mono ?_; rintro e w' ⟨rfl, hb⟩)
          | (go_at_call 11; refine (sum1 (by assumption) HT1.out).mono ?_; rintro e w' ⟨rfl, hb⟩)
          | (go_at_call 11; refine (sum2 (by assumption) HT2.out).mono ?_; rintro e w' ⟨rfl, hb⟩)
          | (go_at_call 10; refine (awakeF (by assumption)).mono ?_; rintro e w' ⟨rfl, hb⟩))
      go_wp2
      go_ret
      exact ⟨rfl, Four.below (by assumption)⟩
  · obtain ⟨b0, o0, rfl, r0, s0⟩ := B0.2.2.resolve_left h0
    obtain ⟨b1, o1, rfl, r1, s1⟩ := B1.2.2.resolve_left h0
    obtain ⟨b2, o2, rfl, r2, s2⟩ := B2.2.2.resolve_left h0
    have S0 := Lib.hid s0
    have S1 := Lib.hid s1
    have S2 := Lib.hid s2
    have Q0 := Lib.hid q0
    have Q1 := Lib.hid q1
    have Q2 := Lib.hid q2
    clear B0 B1 B2 s0 s1 s2 q0 q1 q2
    go_enter Try.func8, Try.ntmps8
    go_wp2_with (first
      | (at_make; refine make_bytes rfl (.tmp 17) (.tmp 17) rfl w.heap.size n rfl rfl (by omega) (Nat.le_refl _) ?_; intro w1 h1 h2; have HO := Lib.hid h1; have HG := Lib.hid h2; clear h1 h2))
    go_loopw [9] (fun i wr => ∃ k : Nat, k ≤ n ∧ i = .int .i64 k ∧ Hid (Own wr w.heap.size (.slice (some ⟨w.heap.size, 0, none⟩) n n) n (fillTo (over3 l0 l1 l2) n k)) ∧ Hid (Below w.heap.size w wr)) (fun i _ => n - (intOf i).toNat)
    case atStart => exact ⟨0, Nat.zero_le _, rfl, HO.out, HG.out⟩
    case round =>
      obtain ⟨k, hk, rfl, HOk, HGk⟩ := hrel
      clear HO HG
      by_cases hlt : k < n
      · obtain ⟨x0, X0, d0, e0, f0⟩ : ∃ x : Int, Hid (l0.getD k 0 = x) ∧ wr.cell? ⟨b0, o0 + k, none⟩ = some (.int .u8 x) ∧ 0 ≤ x ∧ x < 256 := ⟨_, rfl, (HGk.out.cell (p := ⟨b0, o0 + k, none⟩) r0).trans (S0.out k (by have := G0.out; omega)), (getD_bd Q0.out k (by have := G0.out; omega)).1, (getD_bd Q0.out k (by have := G0.out; omega)).2⟩
        obtain ⟨x1, X1, d1, e1, f1⟩ : ∃ x : Int, Hid (l1.getD k 0 = x) ∧ wr.cell? ⟨b1, o1 + k, none⟩ = some (.int .u8 x) ∧ 0 ≤ x ∧ x < 256 := ⟨_, rfl, (HGk.out.cell (p := ⟨b1, o1 + k, none⟩) r1).trans (S1.out k (by have := G0.out; have := G01.out; omega)), (getD_bd Q1.out k (by have := G0.out; have := G01.out; omega)).1, (getD_bd Q1.out k (by have := G0.out; have := G01.out; omega)).2⟩
        obtain ⟨x2, X2, d2, e2, f2⟩ : ∃ x : Int, Hid (l2.getD k 0 = x) ∧ wr.cell? ⟨b2, o2 + k, none⟩ = some (.int .u8 x) ∧ 0 ≤ x ∧ x < 256 := ⟨_, rfl, (HGk.out.cell (p := ⟨b2, o2 + k, none⟩) r2).trans (S2.out k (by have := G0.out; have := G01.out; have := G12.out; omega)), (getD_bd Q2.out k (by have := G0.out; have := G01.out; have := G12.out; omega)).1, (getD_bd Q2.out k (by have := G0.out; have := G01.out; have := G12.out; omega)).2⟩
        obtain ⟨y, hy⟩ : ∃ y, wr.cell? ⟨w.heap.size, k, none⟩ = some y := ⟨_, HOk.out.cell k hlt⟩
        have hfree := HOk.out.free k
        have HV : Hid (bits .xor .u8 (bits .xor .u8 x0 x1) x2 = (over3 l0 l1 l2).getD k 0) := by
          rw [u8_over x0 x1 ⟨e0, f0⟩ ⟨e1, f1⟩, u8_over _ x2 (over_lt f0 f1) ⟨e2, f2⟩, over3_at l0 l1 l2 k G01.out G12.out (by have := G0.out; omega), X0.out, X1.out, X2.out]
          exact Lib.hid rfl
        have HV2 : Hid (0 ≤ (over3 l0 l1 l2).getD k 0 ∧ (over3 l0 l1 l2).getD k 0 < 256) := by
          rw [← HV.out, u8_over x0 x1 ⟨e0, f0⟩ ⟨e1, f1⟩, u8_over _ x2 (over_lt f0 f1) ⟨e2, f2⟩]
          exact over_lt (over_lt f0 f1).2 f2
        have HF := Lib.hid (fillTo_succ (over3 l0 l1 l2) n k GX.out hlt)
        clear hx1 hx2
        go_wp2
        go_region
        go_wp2
        go_roundw
        case rel =>
          refine ⟨k + 1, by omega, by go_num, ?_, (Below.setCell HGk.out (Nat.le_refl _) _).drew⟩
          rw [HV.out, ← HF.out]
          exact Own.drew (HOk.out.put k _ HV2.out)
        case measure => simp [intOf]; omega
      · obtain rfl : k = n := by omega
        have hF : Four w (some ⟨w.heap.size, 0, none⟩) (over3 l0 l1 l2) (some ⟨b0, o0, none⟩) l0 (some ⟨b1, o1, none⟩) l1 (some ⟨b2, o2, none⟩) l2 k wr := by
          have hx := HOk.out.bytes.1
          rw [fillTo_all _ _ GX.out] at hx
          exact ⟨HGk.out, hx, HB0.out.later HGk.out, HB1.out.later HGk.out, HB2.out.later HGk.out⟩
        clear HOk HGk
        have hc0 : k ≤ cap0 := by omega
        have hc1 : k ≤ cap1 := by omega
        have hc2 : k ≤ cap2 := by omega
        go_wp2_with fail
        go_region_held3 (fun w' => Four w (some ⟨w.heap.size, 0, none⟩) (over3 l0 l1 l2) (some ⟨b0, o0, none⟩) l0 (some ⟨b1, o1, none⟩) l1 (some ⟨b2, o2, none⟩) l2 k w') (first | assumption | (apply Four.drew; assumption))
          (first
            | (go_at_call 11; refine (sumX (by assumption) HTX.out).mono ?_; rintro e w' ⟨rfl, hb⟩)
            | (go_at_call 11; refine (sum0 (by assumption) HT0.out).mono ?_; rintro e w' ⟨rfl, hb⟩)
            | (go_at_call 11; refine (sum1 (by assumption) HT1.out).mono ?_; rintro e w' ⟨rfl, hb⟩)
            | (go_at_call 11; refine (sum2 (by assumption) HT2.out).mono ?_; rintro e w' ⟨rfl, hb⟩)
            | (go_at_call 10; refine (awakeF (by assumption)).mono ?_; rintro e w' ⟨rfl, hb⟩))
        go_wp2
        go_ret
        exact ⟨rfl, Four.below (by assumption)⟩

set_option maxRecDepth 100000 in
theorem lifted (os : Os) (started : os.Started) (H : Type) (enc : TypeId × Value → H) :
    ReturnsInHanded {} Try.checked os 8 .any (Rows.crcLinearSpec.pre6 enc Try.prog Try.f8 Rows.crcLinearRow.domain false) (Rows.crcLinearSpec.post enc Try.prog Try.f8 false true false false) := by
  refine returnsInHanded_of_change (C := Try.checked) own started (by kernel_rfl) Try.func8
    (ChangeSpec.witness6 (enc := enc) (C := Try.checked) false ⟨#[], #[.slice none 0 0, .slice none 0 0, .slice none 0 0], []⟩ 8 (by kernel_rfl) (by kernel_rfl) (by kernel_rfl) (by kernel_rfl)) ?_
  intro W base args ds gs before hval0 hW hcnd _
  have hval : ∀ (j : Nat) t v, Try.f8.params[j]? = some t → args[j]? = some v → Value.okWide Try.prog W .any base t v := hval0
  have hW' := hW
  obtain ⟨p, q, hA0, hV, rfl, hfz, hnd⟩ := hW
  have hA : DataW.TrodAll enc Try.prog W 0 (fun _ => true) true Try.f8.params.toList args.toList ds p := hA0
  rw [Try.params8] at hA hval
  obtain ⟨v0, vs0, d0, ds0, p0, q0, hargs, rfl, rfl, h0, r0⟩ := trodAll_cons hA
  obtain ⟨v1, vs1, d1, ds1, p1, q1, rfl, rfl, rfl, h1, r1⟩ := trodAll_cons r0
  obtain ⟨v2, vs2, d2, ds2, p2, q2, rfl, rfl, rfl, h2, r2⟩ := trodAll_cons r1
  obtain ⟨rfl, rfl, rfl⟩ := trodAll_nil r2
  obtain rfl : args = #[v0, v1, v2] := by cases args; simp_all
  obtain ⟨rfl, rfl⟩ := trodVars_none hV
  obtain ⟨a0, len0, cap0, rfl⟩ := okWide_slice Try.underlying22 (hval 0 22 v0 rfl rfl)
  have k0 := h0
  have lt0 : ∀ x ∈ p0, x.block < W.heap.size := by obtain ⟨m, hm⟩ := k0; exact DataW.trod_lt m _ _ _ hm
  obtain ⟨z0, w0⟩ : ∃ zs, IsRow .u8 W a0 len0 cap0 zs := by
    obtain ⟨fuel, hf⟩ := h0
    rcases open_ints Try.underlying22 Try.underlying5 (by kernel_rfl) hf with ⟨hcs, _⟩ | ⟨x, l, c, zs, hcs, _, hl, hm, hz, _, hcell, hwz⟩
    · simp [Value.cells] at hcs
      obtain ⟨rfl, rfl, rfl⟩ := hcs
      exact ⟨[], .inl ⟨rfl, rfl, rfl, rfl⟩⟩
    · simp [Value.cells] at hcs
      obtain ⟨rfl, rfl, rfl⟩ := hcs
      exact ⟨zs, .inr ⟨_, rfl, hl, hm, by simpa using hz, hcell, hwz⟩⟩
  obtain ⟨a1, len1, cap1, rfl⟩ := okWide_slice Try.underlying22 (hval 1 22 v1 rfl rfl)
  have k1 := h1
  have lt1 : ∀ x ∈ p1, x.block < W.heap.size := by obtain ⟨m, hm⟩ := k1; exact DataW.trod_lt m _ _ _ hm
  obtain ⟨z1, w1⟩ : ∃ zs, IsRow .u8 W a1 len1 cap1 zs := by
    obtain ⟨fuel, hf⟩ := h1
    rcases open_ints Try.underlying22 Try.underlying5 (by kernel_rfl) hf with ⟨hcs, _⟩ | ⟨x, l, c, zs, hcs, _, hl, hm, hz, _, hcell, hwz⟩
    · simp [Value.cells] at hcs
      obtain ⟨rfl, rfl, rfl⟩ := hcs
      exact ⟨[], .inl ⟨rfl, rfl, rfl, rfl⟩⟩
    · simp [Value.cells] at hcs
      obtain ⟨rfl, rfl, rfl⟩ := hcs
      exact ⟨zs, .inr ⟨_, rfl, hl, hm, by simpa using hz, hcell, hwz⟩⟩
  obtain ⟨a2, len2, cap2, rfl⟩ := okWide_slice Try.underlying22 (hval 2 22 v2 rfl rfl)
  have k2 := h2
  have lt2 : ∀ x ∈ p2, x.block < W.heap.size := by obtain ⟨m, hm⟩ := k2; exact DataW.trod_lt m _ _ _ hm
  obtain ⟨z2, w2⟩ : ∃ zs, IsRow .u8 W a2 len2 cap2 zs := by
    obtain ⟨fuel, hf⟩ := h2
    rcases open_ints Try.underlying22 Try.underlying5 (by kernel_rfl) hf with ⟨hcs, _⟩ | ⟨x, l, c, zs, hcs, _, hl, hm, hz, _, hcell, hwz⟩
    · simp [Value.cells] at hcs
      obtain ⟨rfl, rfl, rfl⟩ := hcs
      exact ⟨[], .inl ⟨rfl, rfl, rfl, rfl⟩⟩
    · simp [Value.cells] at hcs
      obtain ⟨rfl, rfl, rfl⟩ := hcs
      exact ⟨zs, .inr ⟨_, rfl, hl, hm, by simpa using hz, hcell, hwz⟩⟩
  clear hA0 hval0
  refine (walk a0 len0 cap0 z0 a1 len1 cap1 z1 a2 len2 cap2 z2 W w0 w1 w2).mono fun e W' ⟨he, bel⟩ => ?_
  subst he
  exact ⟨_, rfl, _, _, _, [], _, [], hW', trodAll_mk1 (shut_bool Try.underlying4 _), (trodAll_cons_mk (Below.trod laidOut (by kernel_rfl) (of_decide_eq_true (by kernel_rfl)) k0 bel lt0) (trodAll_cons_mk (Below.trod laidOut (by kernel_rfl) (of_decide_eq_true (by kernel_rfl)) k1 bel lt1) (trodAll_cons_mk (Below.trod laidOut (by kernel_rfl) (of_decide_eq_true (by kernel_rfl)) k2 bel lt2) trodAll_mk0))), rfl, bel.frame _, fun h => by cases h⟩

theorem over : Rows.crcLinearRow.holds Try.pinned (OpenSpec.ofChange Rows.crcLinearSpec) :=
  OpenClaim.holds_of_wide 8 Try.f8 rfl rfl rfl rfl rfl rfl rfl ⟨rfl, rfl, rfl, rfl, rfl⟩ rfl rfl rfl rfl rfl (by kernel_rfl) Try.func8 (by kernel_rfl)
    (of_decide_eq_true (by kernel_rfl)) (by unfold Func.isWrapper; first | (rw [if_pos (by decide +kernel)]; kernel_rfl) | (rw [if_neg (by decide +kernel)]; exact ⟨rfl, rfl⟩))
    (fun os started H enc _ => lifted os started H enc)

/-- The statement. -/
theorem proved : Rows.CrcLinearSaid := over
#print axioms proved
end Go.Proofs.Ythalagemihlhlaa.crcLinear
