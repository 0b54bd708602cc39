/-
  Proved: 'matryoshkalaw10.LruCircles' returns true for every input, and each argument reads afterwards as before: the statement LruCirclesSaid as given. Conditions: none beyond the row's own.
-/
import Derived.Test.YtjpblndjfcofpaaRows
import Derived.Test.YtjpblndjfcofpaaLs
import Derived.Test.YtjpblndjfcofpaaLu
import Derived.WalkKit
import Derived.ProofKit
import Derived.OpenShut
import Derived.ShutString
import Derived.ChangeOld
import Derived.Below
namespace Go.Proofs.Ytjpblndjfcofpaa.lruCircles
open Go.ChangeShapes Go.WideShapes Go.ChangeAt Go.RowKit
open Go.ChangeMaps (open_string shut_string)
set_option linter.unusedVariables false

theorem own : ownKnob Try.prog.godebug = none := by kernel_rfl
theorem laidOut : laidOutB Try.prog = true := by kernel_rfl

/-- Between rounds. -/
def Putting (room : Nat) (w : World) (p : Addr) (j : Nat) (wr : World) : Prop := ∃ C S, Calm room j C ∧ Has w p C wr S
def Chaining (k m : Nat) (w : World) (p : Addr) (wr : World) : Prop := ∃ C S, Chain k m C ∧ Has w p C wr S
theorem putting_any {room j : Nat} {w wr : World} {p : Addr} (h : Putting room w p j wr) (hj : j < room) : Calls Try.prog 16 #[.pointer (some p), .int .i64 j, .slice none 0 0, .bool true] wr fun e w' => (∃ a c, e = .returned (.slice a 0 c)) ∧ Putting room w p (j + 1) w' := by
  obtain ⟨C, S, hc, hh⟩ := h
  have hr2 := hc.ok.room2
  have hr := hc.room
  obtain ⟨C', e1, e2⟩ := hc.put hj [] (by simp)
  refine (lruPut0_any hh (j : Int) (by omega) true (by rw [hc.uses]; omega)).mono ?_
  rw [e1]
  rintro e w' ⟨a, c, S', rfl, _, h2, _, _⟩
  exact ⟨⟨a, c, rfl⟩, C', S', e2, h2⟩
theorem lasting_any {room k : Nat} {w wr : World} {p : Addr} (h : Putting room w p k wr) (hk : k < room) : Calls Try.prog 16 #[.pointer (some p), .int .i64 k, .slice none 0 0, .bool false] wr fun e w' => (∃ a c, e = .returned (.slice a 0 c)) ∧ Chaining k 0 w p w' := by
  obtain ⟨C, S, hc, hh⟩ := h
  have hr2 := hc.ok.room2
  have hr := hc.room
  obtain ⟨C', e1, e2⟩ := hc.last hk
  refine (lruPut0_any hh (k : Int) (by omega) false (by rw [hc.uses]; omega)).mono ?_
  rw [e1]
  rintro e w' ⟨a, c, S', rfl, _, h2, _, _⟩
  exact ⟨⟨a, c, rfl⟩, C', S', e2, h2⟩
theorem chain_any {k m : Nat} {w wr : World} {p : Addr} (h : Chaining k m w p wr) (hm : m + 1 < k) : Calls Try.prog 17 #[.pointer (some p), .int .i64 m, .int .i64 ((m : Int) + 1)] wr fun e w' => e = .returned (.int .i64 0) ∧ Chaining k (m + 1) w p w' := by
  obtain ⟨C, S, hc, hh⟩ := h
  obtain ⟨C', e1, e2⟩ := hc.next hm
  refine (lruAfter_any hh (m : Int) ((m : Int) + 1)).mono ?_
  rw [show C.after (m : Int) ((m : Int) + 1) = (0, C') from e1]
  rintro e w' ⟨S', rfl, h2, _⟩
  exact ⟨rfl, C', S', e2, h2⟩
theorem same_any {k m : Nat} {w wr : World} {p : Addr} {a b : Int} {E : Int} (h : Chaining k m w p wr) (he : ∀ C, Chain k m C → C.after a b = (E, C)) : Calls Try.prog 17 #[.pointer (some p), .int .i64 a, .int .i64 b] wr fun e w' => e = .returned (.int .i64 E) ∧ Chaining k m w p w' := by
  obtain ⟨C, S, hc, hh⟩ := h
  refine (lruAfter_any hh a b).mono ?_
  rw [he C hc]
  rintro e w' ⟨S', rfl, h2, _⟩
  exact ⟨rfl, C, S', hc, h2⟩
def FlushQ (l : List Int) (w : World) (e : Ending) (w' : World) : Prop := ∃ a c, e = .returned (.slice a l.length c) ∧ OwnG ivV 3 1 w' 0 (.slice a l.length c) l.length l ∧ Below w.heap.size w w'
theorem ending_any {k : Nat} {w wr : World} {p : Addr} (h : Chaining k (k - 1) w p wr) (hk : 0 < k) : Calls Try.prog 18 #[.pointer (some p)] wr (FlushQ (descF 0 (k - 1)) w) := by
  obtain ⟨C, S, hc, hh⟩ := h
  refine (lruFlush_any hh).mono ?_
  rw [hc.flush hk]
  rintro e w' ⟨a, c, S', rfl, h1, h2, _, _⟩
  exact ⟨a, c, rfl, h1.rebase (Nat.zero_le _), h2.below⟩

set_option maxRecDepth 100000 in
set_option maxHeartbeats 4000000 in
theorem walk (a0 : Int) (a1 : Int) (w : World) (w0 : (Lit.int .u8 a0).wf = true) (w1 : (Lit.int .u8 a1).wf = true) :
    Calls Try.prog 9 #[.int .u8 a0, .int .u8 a1] w fun e w' => e = .returned (.bool true) ∧ Below w.heap.size w w' := by
  have b0 := bounds_u8 w0
  have b1 := bounds_u8 w1
  obtain ⟨k, hk⟩ : ∃ k : Nat, (2 : Int) + a0 % 20 = k := ⟨(2 + a0 % 20).toNat, by omega⟩
  have hk2 : 2 ≤ k := by omega
  have hk3 : k ≤ 21 := by omega
  obtain ⟨j, hj⟩ : ∃ j : Nat, a1 % (k : Int) = j := ⟨(a1 % (k : Int)).toNat, by have := Int.emod_nonneg a1 (show (k : Int) ≠ 0 by omega); omega⟩
  have hjk : j < k := by have := Int.emod_lt_of_pos a1 (show (0 : Int) < k by omega); omega
  have e0 : a0.tmod 20 = a0 % 20 := Int.tmod_eq_emod_of_nonneg (by omega)
  have e1 : a1.tmod k = (j : Int) := by rw [Int.tmod_eq_emod_of_nonneg (by omega)]; exact hj
  clear hj
  go_enter Try.func9, Try.ntmps9
  go_wp2_with (first
    | (go_at_call 12; refine (new_ok 100 w (by omega) (by omega)).mono ?_; rintro e w1 ⟨p, S, rfl, hh⟩; have H1 : Hid (Putting 100 w p 0 w1) := ⟨_, S, Calm.start (room := 100) (by omega) (by omega), hh⟩; clear hh)
    | (go_at_call 14; refine (num_any _ _).mono ?_; rintro e w' ⟨rfl, rfl⟩))
  go_loopw [8] (fun s8 wr => ∃ i : Nat, i ≤ k ∧ s8 = .int .i64 i ∧ Hid (Putting 100 w p i wr)) (fun s8 _ => k - (intOf s8).toNat)
  case atStart => exact ⟨0, Nat.zero_le _, rfl, H1.out⟩
  case round =>
    obtain ⟨i, hi, rfl, HP⟩ := hrel
    clear H1
    by_cases hlt : i < k
    · go_wp2_with (go_at_call 16; refine (putting_any HP.out (by omega)).mono ?_; rintro e w2 ⟨⟨a, c, rfl⟩, hh⟩; have HP2 := Lib.hid hh; clear hh)
      go_roundw
      case rel => exact ⟨i + 1, by omega, by go_num, HP2.out⟩
      case measure => simp [intOf]; omega
    · obtain rfl : i = k := by omega
      go_wp2_with (go_at_call 16; refine (lasting_any HP.out (by omega)).mono ?_; rintro e w2 ⟨⟨a, c, rfl⟩, hh⟩; have HC0 := Lib.hid hh; clear hh)
      go_loopw [9] (fun s9 wr => ∃ m : Nat, m ≤ i - 1 ∧ s9 = .int .i64 m ∧ Hid (Chaining i m w p wr)) (fun s9 _ => i - (intOf s9).toNat)
      case atStart => exact ⟨0, Nat.zero_le _, rfl, HC0.out⟩
      case round =>
        obtain ⟨m, hm, rfl, HC⟩ := hrel
        clear HC0
        by_cases hlt2 : m + 1 < i
        · go_wp2_with (first
            | (go_at_call 17; refine (chain_any HC.out hlt2).mono ?_; rintro e w3 ⟨rfl, hh⟩; have HC2 := Lib.hid hh; clear hh)
            | (go_at_call 14; refine (num_any _ _).mono ?_; rintro e w' ⟨rfl, rfl⟩))
          go_roundw
          case rel => exact ⟨m + 1, by omega, by go_num, HC2.out⟩
          case measure => simp [intOf]; omega
        · obtain rfl : m = i - 1 := by omega
          have hm1 : ¬ ((i - 1 : Nat) : Int) + 1 < (i : Int) := by omega
          have hkm : (i : Int) - 1 = ((i - 1 : Nat) : Int) := by omega
          have q1 : ∀ w4, Chaining i (i - 1) w p w4 → Calls Try.prog 17 #[.pointer (some p), .int .i64 j, .int .i64 j] w4 fun e w' => e = .returned (.int .i64 11) ∧ Chaining i (i - 1) w p w' := fun w4 h => same_any h fun C hC => (hC.circle hjk).1
          have q2 : ∀ w4, Chaining i (i - 1) w p w4 → Calls Try.prog 17 #[.pointer (some p), .int .i64 ((i - 1 : Nat) : Int), .int .i64 j] w4 fun e w' => e = .returned (.int .i64 11) ∧ Chaining i (i - 1) w p w' := fun w4 h => same_any h fun C hC => (hC.circle hjk).2
          have q3 : ∀ w4, Chaining i (i - 1) w p w4 → Calls Try.prog 17 #[.pointer (some p), .int .i64 j, .int .i64 i] w4 fun e w' => e = .returned (.int .i64 15) ∧ Chaining i (i - 1) w p w' := fun w4 h => same_any h fun C hC => hC.none (Or.inr (Int.le_refl _))
          have q4 : ∀ w4, Chaining i (i - 1) w p w4 → Calls Try.prog 17 #[.pointer (some p), .int .i64 i, .int .i64 j] w4 fun e w' => e = .returned (.int .i64 15) ∧ Chaining i (i - 1) w p w' := fun w4 h => same_any h fun C hC => hC.none (Or.inl (Int.le_refl _))
          have q5 : ∀ w4, Chaining i (i - 1) w p w4 → Calls Try.prog 17 #[.pointer (some p), .int .i64 j, .int .i64 ((i : Int) + 1)] w4 fun e w' => e = .returned (.int .i64 15) ∧ Chaining i (i - 1) w p w' := fun w4 h => same_any h fun C hC => hC.none (Or.inr (by omega))
          have Q1 := Lib.hid q1
          have Q2 := Lib.hid q2
          have Q3 := Lib.hid q3
          have Q4 := Lib.hid q4
          have Q5 := Lib.hid q5
          have HFL := Lib.hid (fun w4 (h : Chaining i (i - 1) w p w4) => ending_any h (by omega))
          clear q1 q2 q3 q4 q5
          unfold FlushQ at HFL
          have HDL : Hid ((descF 0 (i - 1)).length = i) := by rw [Hid, descF_len]; omega
          rw [HDL.out] at HFL
          go_wp2_with (first
            | (go_at_call 17; (with_reducible refine (Q1.out _ HC.out).mono ?_); rintro e w4 ⟨rfl, hh⟩; have HC4 := Lib.hid hh; clear hh HC Q1)
            | (go_at_call 17; (with_reducible refine (Q2.out _ HC4.out).mono ?_); rintro e w4 ⟨rfl, hh⟩; have HC5 := Lib.hid hh; clear hh HC4 Q2)
            | (go_at_call 17; (with_reducible refine (Q3.out _ HC5.out).mono ?_); rintro e w4 ⟨rfl, hh⟩; have HC6 := Lib.hid hh; clear hh HC5 Q3)
            | (go_at_call 17; (with_reducible refine (Q4.out _ HC6.out).mono ?_); rintro e w4 ⟨rfl, hh⟩; have HC7 := Lib.hid hh; clear hh HC6 Q4)
            | (go_at_call 17; (with_reducible refine (Q5.out _ HC7.out).mono ?_); rintro e w4 ⟨rfl, hh⟩; have HC8 := Lib.hid hh; clear hh HC7 Q5)
            | (go_at_call 18; refine (HFL.out _ HC8.out).mono ?_; rintro e w5 ⟨al, cl, rfl, hro, hbe⟩; have HRO := Lib.hid hro; have HBE := Lib.hid hbe; clear hro hbe)
            | (go_at_call 14; refine (num_any _ _).mono ?_; rintro e w' ⟨rfl, rfl⟩))
          go_loopw [12] (fun s12 wr => ∃ t : Nat, t ≤ i ∧ s12 = .int .i64 t ∧ wr = w5) (fun s12 _ => i - (intOf s12).toNat)
          case atStart => exact ⟨0, Nat.zero_le _, rfl, rfl⟩
          case round =>
            obtain ⟨t, ht, rfl, hwr⟩ := hrel
            obtain rfl : w5 = wr := hwr.symm
            by_cases hlt3 : t < i
            · obtain ⟨b, rfl, hcell⟩ := own_at HRO.out (by omega)
              have ct := hcell t _ (descF_at (i - 1) 0 t (by omega))
              have hv : ((0 + (i - 1) - t : Nat) : Int) = (i : Int) - 1 - (t : Int) := by omega
              rw [hv, hkm] at ct
              go_wp2
              go_roundw
              case rel => exact ⟨t + 1, by omega, by go_num, trivial⟩
              case measure => simp [intOf]; omega
            · obtain rfl : t = i := by omega
              go_wp2_with (go_at_call 11; refine (awake_any _).mono ?_; rintro e w1 ⟨rfl, hb⟩; have HG := Lib.hid hb; clear hb)
              go_ret
              exact ⟨rfl, Below.weak HBE.out HG.out⟩

set_option maxRecDepth 100000 in
theorem lifted (os : Os) (started : os.Started) (H : Type) (enc : TypeId × Value → H) :
    ReturnsInHanded {} Try.checked os 9 .any (Rows.lruCirclesSpec.pre6 enc Try.prog Try.f9 Rows.lruCirclesRow.domain false) (Rows.lruCirclesSpec.post enc Try.prog Try.f9 false true false false) := by
  refine returnsInHanded_of_change (C := Try.checked) own started (by kernel_rfl) Try.func9
    (ChangeSpec.witness6 (enc := enc) (C := Try.checked) false ⟨#[], #[.int .u8 0, .int .u8 0], []⟩ 8 (by kernel_rfl) (by kernel_rfl) (by kernel_rfl) (by kernel_rfl)) ?_
  intro W base args ds gs before hval0 hW hcnd _
  have hval : ∀ (j : Nat) t v, Try.f9.params[j]? = some t → args[j]? = some v → Value.okWide Try.prog W .any base t v := hval0
  have hW' := hW
  obtain ⟨p, q, hA0, hV, rfl, hfz, hnd⟩ := hW
  have hA : DataW.TrodAll enc Try.prog W 0 (fun _ => true) true Try.f9.params.toList args.toList ds p := hA0
  rw [Try.params9] at hA hval
  obtain ⟨v0, vs0, d0, ds0, p0, q0, hargs, rfl, rfl, h0, r0⟩ := trodAll_cons hA
  obtain ⟨v1, vs1, d1, ds1, p1, q1, rfl, rfl, rfl, h1, r1⟩ := trodAll_cons r0
  obtain ⟨rfl, rfl, rfl⟩ := trodAll_nil r1
  obtain rfl : args = #[v0, v1] := by cases args; simp_all
  obtain ⟨rfl, rfl⟩ := trodVars_none hV
  have k0 := h0
  have lt0 : ∀ x ∈ p0, x.block < W.heap.size := by obtain ⟨m, hm⟩ := k0; exact DataW.trod_lt m _ _ _ hm
  obtain ⟨a0, rfl, _, _, w0⟩ := open_int Try.underlying5 (hval 0 5 v0 rfl rfl) h0
  have k1 := h1
  have lt1 : ∀ x ∈ p1, x.block < W.heap.size := by obtain ⟨m, hm⟩ := k1; exact DataW.trod_lt m _ _ _ hm
  obtain ⟨a1, rfl, _, _, w1⟩ := open_int Try.underlying5 (hval 1 5 v1 rfl rfl) h1
  clear hA0 hval0
  refine (walk a0 a1 W w0 w1).mono fun e W' ⟨he, bel⟩ => ?_
  subst he
  exact ⟨_, rfl, _, _, _, [], _, [], hW', trodAll_mk1 (shut_bool Try.underlying4 _), (trodAll_cons_mk (Below.trod laidOut (by kernel_rfl) (of_decide_eq_true (by kernel_rfl)) k0 bel lt0) (trodAll_cons_mk (Below.trod laidOut (by kernel_rfl) (of_decide_eq_true (by kernel_rfl)) k1 bel lt1) trodAll_mk0)), rfl, bel.frame _, fun h => by cases h⟩

theorem over : Rows.lruCirclesRow.holds Try.pinned (OpenSpec.ofChange Rows.lruCirclesSpec) :=
  OpenClaim.holds_of_wide 9 Try.f9 rfl rfl rfl rfl rfl rfl rfl ⟨rfl, rfl, rfl, rfl, rfl⟩ rfl rfl rfl rfl rfl (by kernel_rfl) Try.func9 (by kernel_rfl)
    (of_decide_eq_true (by kernel_rfl)) (by unfold Func.isWrapper; first | (rw [if_pos (by decide +kernel)]; kernel_rfl) | (rw [if_neg (by decide +kernel)]; exact ⟨rfl, rfl⟩))
    (fun os started H enc _ => lifted os started H enc)

/-- The statement. -/
theorem proved : Rows.LruCirclesSaid := over
#print axioms proved
end Go.Proofs.Ytjpblndjfcofpaa.lruCircles
