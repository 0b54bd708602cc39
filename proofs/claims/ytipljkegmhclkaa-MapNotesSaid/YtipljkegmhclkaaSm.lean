/-
  Clusters of a meta, and a bitmap's set behind a change (12.2): the project's clustersOf and setAfter, the reference's clusters. Conditions: a cluster from 0 to 6; short sets, few clusters.
-/
import Derived.Test.YtipljkegmhclkaaSl
namespace Go.Proofs.Ytipljkegmhclkaa
open Go.RowKit
set_option linter.unusedVariables false

def clN (s c : Int) : Int := if s < 0 then 0 else s / 2 ^ c.toNat
theorem clustersOf (s c : Int) (hs : I64 s) (hc : 0 ≤ c ∧ c ≤ 6) {R : Int} (hR : clN s c = R) (bk : ByteArray) (v3 v4 v5 v6 : Value) (w : World) : Calls Try.prog 33 #[.agg #[.int .i64 c, .int .i64 s, .string bk, v3, v4, v5, v6]] w fun e w' => e = .returned (.int .i64 R) ∧ Below w.heap.size w w' := by
  obtain ⟨C, rfl⟩ : ∃ C : Nat, c = C := ⟨c.toNat, by omega⟩
  have hC : C ≤ 6 := by omega
  have HB : Hid (Below w.heap.size w (w.alloc (.cells #[.int .i64 C, .int .i64 s, .string bk, v3, v4, v5, v6] 29))) := (Below.refl _ _).alloc (Nat.le_refl _) _
  unfold clN at hR
  by_cases h : s < 0
  · rw [if_pos h] at hR
    subst hR
    have d1 : decide (s < 0) = true := decide_eq_true h
    go_enter Try.func33, Try.ntmps33
    go_wp2
    go_ret
    exact ⟨rfl, HB.out⟩
  · rw [if_neg h, Int.toNat_natCast] at hR
    subst hR
    obtain ⟨N, rfl⟩ : ∃ N : Nat, s = N := ⟨s.toNat, by omega⟩
    have := hs.2
    clear hs hc h
    go_enter Try.func33, Try.ntmps33
    go_wp2
    go_ret
    exact ⟨rfl, HB.out⟩
/-- The set of a bitmap behind a change to so many clusters. -/
def setA (on : Bool) (l : List Sp) (now : Int) : List Sp := if on then addL (subL l (now, 1073741824)) (0, now) else subL l (now, 1073741824)
theorem addL_len (l : List Sp) (s : Sp) : (addL l s).length ≤ l.length + 1 := by
  unfold addL
  have := norm_len l
  split
  · have := ins_len (norm l) s
    omega
  · omega
theorem subL_len (l : List Sp) (s : Sp) : (subL l s).length ≤ 2 * l.length := by
  unfold subL
  have := norm_len l
  split
  · have := subs_len s (norm l)
    omega
  · omega
theorem setA_len (on : Bool) (l : List Sp) (now : Int) : (setA on l now).length ≤ 2 * l.length + 1 := by
  unfold setA
  have := subL_len l (now, 1073741824)
  have := addL_len (subL l (now, 1073741824)) (0, now)
  split <;> omega
theorem setA_right (on : Bool) (l : List Sp) (now : Int) : Rt (-1) (setA on l now) := by
  unfold setA
  split
  · exact addL_right _ _
  · exact subL_right _ _
set_option maxRecDepth 100000 in
set_option maxHeartbeats 1600000 in
theorem setAfter (nm : ByteArray) (on : Bool) (al : Option Addr) (ll cl : Nat) (l : List Sp) (was now : Int) (w : World) (h : SpD w al ll cl l) (hl : ll ≤ 10000) (h1 : 0 ≤ was ∧ was ≤ 1073741824) (h2 : 0 ≤ now ∧ now ≤ 1073741824) :
    Calls Try.prog 34 #[.agg #[.string nm, .bool on, .slice al ll cl], .int .i64 was, .int .i64 now] w fun e w' => ∃ (a' : Option Addr) (n' c' : Nat), e = .returned (.slice a' n' c') ∧ SpN w' w.heap.size a' n' c' (setA on l now) ∧ Below w.heap.size w w' := by
  obtain ⟨hS, hcap, _, hfit⟩ := h
  have hlen := hS.1
  have HB : Hid (Below w.heap.size w (w.alloc (.cells #[.string nm, .bool on, .slice al ll cl] 43))) := (Below.refl _ _).alloc (Nat.le_refl _) _
  have HX : Hid (Blk (w.alloc (.cells #[.string nm, .bool on, .slice al ll cl] 43)) w.heap.size 43 #[.string nm, .bool on, .slice al ll cl]) := Blk.new _ _ _
  have HS1 := Lib.hid (fun W (hb : Below w.heap.size w W) => spanSub_any al ll cl l now 1073741824 W (hS.later hb) hcap.2 hcap.1 (by omega) hfit (by unfold I64; omega) (by unfold I64; omega))
  have hs1 := subL_len l (now, 1073741824)
  have hr1 := subL_right l (now, 1073741824)
  have HLEN := Lib.hid (setA_len on l now)
  have HFIT := Lib.hid ((setA_right on l now).fit (Int.le_refl _))
  unfold setA at HLEN HFIT ⊢
  obtain ⟨L1, hL1⟩ := named (subL l (now, 1073741824))
  rw [hL1.out] at HS1 hs1 hr1 HLEN HFIT ⊢
  obtain ⟨N1, hN1⟩ := named L1.length
  rw [hN1.out] at hs1
  have HFIT1 := Lib.hid (hr1.fit (Int.le_refl _))
  have d1 : decide (was ≤ 1073741824) = true := decide_eq_true h1.2
  have d2 : decide (now ≤ 1073741824) = true := decide_eq_true h2.2
  have HI := Lib.hid h2
  have hle : N1 ≤ 20000 := by omega
  clear hS hcap hfit hr1 h1 h2 hs1
  cases on with
  | false =>
    rw [if_neg Bool.false_ne_true] at HLEN HFIT ⊢
    go_enter Try.func34, Try.ntmps34
    go_wp2_with (first
      | (go_at_call 49; refine (HS1.out _ HB.out).mono ?_; rintro e w1 hp; obtain ⟨a1, c1, rfl, hO, hcp, hb⟩ := hp.namedO hN1.out; have HX1 := Lib.hid (HX.out.later hb); have HB1 := Lib.hid (HB.out.trans (hb.mono HB.out.size)); have HO1 := Lib.hid (hO.monoB (base' := w.heap.size) HB.out.size); obtain ⟨x0, x1, x2⟩ := cells3 HX1.out; clear hp hO hcp hb))
    go_ret
    exact ⟨a1, N1, c1, rfl, ⟨HO1.out, by omega, HFIT.out⟩, HB1.out⟩
  | true =>
    rw [if_pos rfl] at HLEN HFIT ⊢
    obtain ⟨L2, hL2⟩ := named (addL L1 (0, now))
    rw [hL2.out] at HLEN HFIT ⊢
    obtain ⟨N2, hN2⟩ := named L2.length
    have hNN : N2 ≤ 20001 := by rw [← hN2.out]; have := HLEN.out; omega
    go_enter Try.func34, Try.ntmps34
    go_wp2_with (first
      | (go_at_call 49; refine (HS1.out _ HB.out).mono ?_; rintro e w1 hp; obtain ⟨a1, c1, rfl, hO, hcp, hb⟩ := hp.namedO hN1.out; have HX1 := Lib.hid (HX.out.later hb); have HB1 := Lib.hid (HB.out.trans (hb.mono HB.out.size)); have HS2 := Lib.hid (spanAdd_any a1 N1 c1 L1 0 now w1 (hO.reads sp_rowed).1 hcp.2 hcp.1 (by omega) HFIT1.out (by unfold I64; omega) (by have := HI.out; unfold I64; omega)); rw [hL2.out] at HS2; obtain ⟨x0, x1, x2⟩ := cells3 HX1.out; clear hp hO hcp hb)
      | (go_at_call 40; refine HS2.out.mono ?_; rintro e w2 hp; obtain ⟨a2, c2, rfl, hO, hcp, hb⟩ := hp.namedO hN2.out; have HB2 := Lib.hid (HB1.out.trans (hb.mono HB1.out.size)); have HO2 := Lib.hid (hO.monoB (base' := w.heap.size) HB1.out.size); clear hp hO hcp hb))
    go_ret
    exact ⟨a2, N2, c2, rfl, ⟨HO2.out, by omega, HFIT.out⟩, HB2.out⟩
end Go.Proofs.Ytipljkegmhclkaa
