/-
  What Free answers, the project's own and the reference's; the reference's Ints (layer 9). Conditions: slices of ints that read.
-/
import Derived.Test.YtidknkhkblloaaaO0
import Derived.Deep.QuietTactic
import Derived.BigQuiet
namespace Go.Proofs.Ytidknkhkblloaaa
open Go.RowKit
set_option linter.unusedVariables false

/-- A slice of ints that reads as f. -/
def IntsR (w : World) (a : Option Addr) (len : Nat) (f : Nat → Int) : Prop := len ≤ 9223372036854775807 ∧ (0 < len → ∃ b off, a = some ⟨b, off, none⟩ ∧ b < w.heap.size ∧ ∀ i, i < len → w.cell? ⟨b, off + i, none⟩ = some (.int .i64 (f i)))
theorem IntsR.later {w w' : World} {a : Option Addr} {len : Nat} {f : Nat → Int} (h : IntsR w a len f) (hb : Below w.heap.size w w') : IntsR w' a len f :=
  ⟨h.1, fun h0 => by
    obtain ⟨b, off, h1, h2, h3⟩ := h.2 h0
    exact ⟨b, off, h1, Nat.lt_of_lt_of_le h2 hb.size, fun i hi => (hb.cell (p := ⟨b, off + i, none⟩) h2).trans (h3 i hi)⟩⟩
theorem IRow.ints {w : World} {b n : Nat} {f : Nat → Int} (h : IRow w b n f) (hn : n ≤ 100000) : IntsR w (some ⟨b, 0, none⟩) n f :=
  ⟨by omega, fun h0 => ⟨b, 0, rfl, h.lt, fun i hi => by rw [Nat.zero_add]; exact h.cell hi⟩⟩
theorem IntsR.nil (w : World) (a : Option Addr) (f : Nat → Int) : IntsR w a 0 f := ⟨by omega, fun h => absurd h (by omega)⟩
/-- A place is free. -/
def freeAt (f : Nat → Int) (len : Nat) (n t : Int) : Prop := ∀ k : Nat, t ≤ k → (k : Int) < t + n → k < len → f k = 0
/-- The document's answer: the least free place, or none. -/
def FreeP (f : Nat → Int) (len : Nat) (n fr mo s : Int) (ok : Bool) : Prop :=
  (ok = true ∧ (1 ≤ n ∧ 0 ≤ fr) ∧ fr ≤ s ∧ s ≤ mo - n ∧ freeAt f len n s ∧ ∀ t, fr ≤ t → t < s → ¬ freeAt f len n t) ∨
  (ok = false ∧ s = 0 ∧ (n < 1 ∨ fr < 0 ∨ ∀ t, fr ≤ t → t ≤ mo - n → ¬ freeAt f len n t))
def FreeQ (f : Nat → Int) (len : Nat) (n fr mo : Int) (w : World) (e : Ending) (w' : World) : Prop := ∃ (s : Int) (ok : Bool), e = .returned (.tuple #[.int .i64 s, .bool ok]) ∧ FreeP f len n fr mo s ok ∧ w' = w
theorem FreeP.one {f : Nat → Int} {len : Nat} {n fr mo s s' : Int} {ok ok' : Bool} (h : FreeP f len n fr mo s ok) (h' : FreeP f len n fr mo s' ok') : s = s' ∧ ok = ok' := by
  rcases h with ⟨rfl, a1, a2, a3, a4, a5⟩ | ⟨rfl, rfl, a1⟩ <;> rcases h' with ⟨rfl, b1, b2, b3, b4, b5⟩ | ⟨rfl, rfl, b1⟩
  · refine ⟨?_, rfl⟩
    rcases Int.lt_trichotomy s s' with h | h | h
    · exact absurd a4 (b5 s a2 h)
    · exact h
    · exact absurd b4 (a5 s' b2 h)
  · rcases b1 with h | h | h
    · omega
    · omega
    · exact absurd a4 (h s a2 a3)
  · rcases a1 with h | h | h
    · omega
    · omega
    · exact absurd b4 (h s' b2 b3)
  · exact ⟨rfl, rfl⟩
set_option maxHeartbeats 3200000 in
theorem free_any (w : World) (a : Option Addr) (len cap : Nat) (f : Nat → Int) (h : IntsR w a len f) (n fr mo : Int) (hn : I64 n) (hf : I64 fr) (hm : I64 mo) :
    Calls Try.prog 19 #[.slice a len cap, .int .i64 n, .int .i64 fr, .int .i64 mo] w (FreeQ f len n fr mo w) := by
  unfold I64 at hn hf hm
  have hlen := h.1
  by_cases hg : 1 ≤ n ∧ 0 ≤ fr ∧ n ≤ mo
  · obtain ⟨g1, g2, g3⟩ := hg
    obtain ⟨N, rfl⟩ : ∃ N : Nat, n = N := ⟨n.toNat, by omega⟩
    obtain ⟨FR, rfl⟩ : ∃ FR : Nat, fr = FR := ⟨fr.toNat, by omega⟩
    obtain ⟨MO, rfl⟩ : ∃ MO : Nat, mo = MO := ⟨mo.toNat, by omega⟩
    have n1 : ¬ (N : Int) < 1 := by omega
    have n2 : ¬ (FR : Int) < 0 := by omega
    have n3 : ¬ (MO : Int) < N := by omega
    have e0 : IntKind.i64.wrap ((MO : Int) - N) = ((MO - N : Nat) : Int) := by rw [IntKind.wrap_i64] <;> omega
    have H := Lib.hid h
    clear h
    go_enter Try.func19, Try.ntmps19
    go_wp2
    go_loopw [10, 11] (fun s i wr => ∃ (S I : Nat), FR ≤ S ∧ S ≤ I ∧ (I ≤ len ∨ I = FR) ∧ (S ≤ len ∨ S = FR) ∧ s = .int .i64 S ∧ i = .int .i64 I ∧ wr = w ∧ Hid (∀ k, S ≤ k → k < I → k < len → f k = 0) ∧ Hid (∀ t : Int, (FR : Int) ≤ t → t < S → ¬ freeAt f len N t) ∧ I ≤ S + N) (fun _ i _ => len - (intOf i).toNat)
    case atStart => exact ⟨FR, FR, Nat.le_refl _, Nat.le_refl _, Or.inr rfl, Or.inr rfl, rfl, rfl, rfl, fun k h1 h2 => by omega, fun t h1 h2 => by omega, by omega⟩
    case round =>
      obtain ⟨S, I, h1, h2, h3, h4, rfl, rfl, rfl, HZ, HB, h5⟩ := hrel
      obtain ⟨D, hD⟩ := named (I - S)
      have hDv := hD.out
      have w1 : IntKind.i64.wrap ((I : Int) - S) = (D : Int) := by rw [← hD.out, IntKind.wrap_i64] <;> omega
      by_cases hin : I < len ∧ D < N
      · obtain ⟨i1, i2⟩ := hin
        obtain ⟨b, off, rfl, hb, hc⟩ := H.out.2 (by omega)
        have c1 := hc I i1
        have w2 : IntKind.i64.wrap ((I : Int) + 1) = ((I + 1 : Nat) : Int) := by rw [IntKind.wrap_i64] <;> omega
        by_cases hz : f I = 0
        · rw [hz] at c1
          have HZ2 : Hid (∀ k, S ≤ k → k < I + 1 → k < len → f k = 0) := fun k k1 k2 k3 => by
            by_cases e : k = I
            · rw [e]; exact hz
            · exact HZ.out k k1 (by omega) k3
          clear hc hz
          go_wp2
          go_roundw
          case rel => exact ⟨S, I + 1, h1, by omega, by omega, h4, rfl, by go_num, trivial, HZ2.out, HB.out, by omega⟩
          case measure => simp [intOf]; omega
        · have HB2 : Hid (∀ t : Int, (FR : Int) ≤ t → t < ((I + 1 : Nat) : Int) → ¬ freeAt f len N t) := fun t t1 t2 hfa => by
            by_cases e : t < S
            · exact HB.out t t1 e hfa
            · exact hz (hfa I (by omega) (by omega) i1)
          have hne : (f I != 0) = true := by simp [hz]
          obtain ⟨v, hv⟩ := named (f I)
          rw [hv.out] at c1 hne
          clear hc hz
          go_wp2
          go_roundw
          case rel => exact ⟨I + 1, I + 1, by omega, Nat.le_refl _, by omega, by omega, by go_num, by go_num, trivial, fun k k1 k2 => by omega, HB2.out, by omega⟩
          case measure => simp [intOf]; omega
      · have HF : Hid (freeAt f len N S) := fun k k1 k2 k3 => HZ.out k (by omega) (by omega) k3
        have hcs : ¬ I < len ∨ (I < len ∧ ¬ D < N) := by omega
        by_cases hle : S ≤ MO - N
        · have HP : Hid (FreeP f len N FR MO S true) := Or.inl ⟨rfl, ⟨by omega, by omega⟩, by omega, by omega, HF.out, HB.out⟩
          rcases hcs with i1 | ⟨i1, i2⟩
          all_goals
            go_wp2
            go_ret2
            exact ⟨_, _, rfl, HP.out, rfl⟩
        · have HP : Hid (FreeP f len N FR MO 0 false) := Or.inr ⟨rfl, rfl, Or.inr (Or.inr fun t t1 t2 => HB.out t t1 (by omega))⟩
          rcases hcs with i1 | ⟨i1, i2⟩
          all_goals
            go_wp2
            go_ret2
            exact ⟨_, _, rfl, HP.out, rfl⟩
  · have HP : Hid (FreeP f len n fr mo 0 false) := Or.inr ⟨rfl, rfl, by
      by_cases k1 : n < 1
      · exact Or.inl k1
      · by_cases k2 : fr < 0
        · exact Or.inr (Or.inl k2)
        · exact Or.inr (Or.inr fun t t1 t2 => by omega)⟩
    have hcs : n < 1 ∨ (¬ n < 1 ∧ fr < 0) ∨ (¬ n < 1 ∧ ¬ fr < 0 ∧ mo < n) := by omega
    clear h
    rcases hcs with k1 | ⟨k1, k2⟩ | ⟨k1, k2, k3⟩
    all_goals
      go_enter Try.func19, Try.ntmps19
      go_wp2
      go_ret2
      exact ⟨_, _, rfl, HP.out, rfl⟩
set_option maxHeartbeats 3200000 in
theorem refFree_any (w : World) (a : Option Addr) (len cap : Nat) (f : Nat → Int) (h : IntsR w a len f) (n fr mo : Int) (hn : I64 n) (hf : I64 fr) (hm : I64 mo) :
    Calls Try.prog 20 #[.slice a len cap, .int .i64 n, .int .i64 fr, .int .i64 mo] w (FreeQ f len n fr mo w) := by
  unfold I64 at hn hf hm
  have hlen := h.1
  by_cases hg : 1 ≤ n ∧ 0 ≤ fr
  · obtain ⟨g1, g2⟩ := hg
    obtain ⟨N, rfl⟩ : ∃ N : Nat, n = N := ⟨n.toNat, by omega⟩
    obtain ⟨FR, rfl⟩ : ∃ FR : Nat, fr = FR := ⟨fr.toNat, by omega⟩
    have n1 : ¬ (N : Int) < 1 := by omega
    have n2 : ¬ (FR : Int) < 0 := by omega
    have H := Lib.hid h
    clear h
    go_enter Try.func20, Try.ntmps20
    go_wp2
    go_loopw [10] (fun s wr => ∃ S : Nat, FR ≤ S ∧ (S ≤ len ∨ S = FR) ∧ s = .int .i64 S ∧ w = wr ∧ Hid (∀ t : Int, (FR : Int) ≤ t → t < S → ¬ freeAt f len N t)) (fun s _ => len + 1 - (intOf s).toNat)
    case atStart => exact ⟨FR, Nat.le_refl _, Or.inr rfl, rfl, rfl, fun t h1 h2 => by omega⟩
    case round =>
      obtain ⟨S, h1, h2, rfl, rfl, HB⟩ := hrel
      by_cases hin : (S : Int) ≤ mo ∧ (N : Int) ≤ mo - S
      · obtain ⟨i1, i2⟩ := hin
        have w1 : IntKind.i64.wrap (mo - (S : Int)) = mo - S := by rw [IntKind.wrap_i64] <;> omega
        go_wp2
        go_loopw [11, 12] (fun o k wr => ∃ (K : Nat) (O : Bool), S ≤ K ∧ (K ≤ len ∨ K = S) ∧ K ≤ S + N ∧ o = .bool O ∧ k = .int .i64 K ∧ w = wr ∧ Hid (O = true ↔ ∀ q, S ≤ q → q < K → q < len → f q = 0)) (fun _ k _ => len + 1 - (intOf k).toNat)
        case atStart => exact ⟨S, true, Nat.le_refl _, Or.inr rfl, by omega, rfl, rfl, rfl, ⟨fun _ q q1 q2 => by omega, fun _ => rfl⟩⟩
        case round =>
          obtain ⟨K, O, k1, k2, k3, rfl, rfl, rfl, HO⟩ := hrel
          obtain ⟨D, hD⟩ := named (K - S)
          have hDv := hD.out
          have w2 : IntKind.i64.wrap ((K : Int) - S) = (D : Int) := by rw [← hD.out, IntKind.wrap_i64] <;> omega
          by_cases hin2 : K < len ∧ D < N
          · obtain ⟨j1, j2⟩ := hin2
            obtain ⟨b, off, rfl, hb, hc⟩ := H.out.2 (by omega)
            have c1 := hc K j1
            have w3 : IntKind.i64.wrap ((K : Int) + 1) = ((K + 1 : Nat) : Int) := by rw [IntKind.wrap_i64] <;> omega
            have HO2 : Hid (∀ O', (O' = true ↔ O = true ∧ f K = 0) → (O' = true ↔ ∀ q, S ≤ q → q < K + 1 → q < len → f q = 0)) := fun O' h' => by
              rw [h', HO.out]
              refine ⟨fun ⟨x1, x2⟩ q q1 q2 q3 => ?_, fun x => ⟨fun q q1 q2 q3 => x q q1 (by omega) q3, x K k1 (by omega) j1⟩⟩
              by_cases e : q = K
              · rw [e]; exact x2
              · exact x1 q q1 (by omega) q3
            have hK1 : K + 1 ≤ S + N := by omega
            clear hc
            cases O with
            | false =>
              go_wp2
              go_roundw
              case rel => exact ⟨K + 1, false, by omega, by omega, hK1, rfl, by go_num, trivial, HO2.out false (by simp)⟩
              case measure => simp [intOf]; omega
            | true =>
              by_cases hz : f K = 0
              · have h3 := HO2.out true (by simp [hz])
                have H3 := Lib.hid h3
                rw [hz] at c1
                clear hz h3
                go_wp2
                go_roundw
                case rel => exact ⟨K + 1, true, by omega, by omega, hK1, rfl, by go_num, trivial, H3.out⟩
                case measure => simp [intOf]; omega
              · have h3 := HO2.out false (by simp [hz])
                have H3 := Lib.hid h3
                have hne : (f K == 0) = false := by simp [hz]
                obtain ⟨v, hv⟩ := named (f K)
                rw [hv.out] at c1 hne
                clear hz h3
                go_wp2
                go_roundw
                case rel => exact ⟨K + 1, false, by omega, by omega, hK1, rfl, by go_num, trivial, H3.out⟩
                case measure => simp [intOf]; omega
          · have hcs : ¬ K < len ∨ (K < len ∧ ¬ D < N) := by omega
            have HF : Hid (O = true ↔ freeAt f len N S) := HO.out.trans ⟨fun x q q1 q2 q3 => x q (by omega) (by omega) q3, fun x q q1 q2 q3 => x q (by omega) (by omega) q3⟩
            cases O with
            | true =>
              have HP : Hid (FreeP f len N FR mo S true) := Or.inl ⟨rfl, ⟨by omega, by omega⟩, by omega, by omega, HF.out.1 rfl, HB.out⟩
              rcases hcs with i1 | ⟨i1, i2⟩
              all_goals
                go_wp2
                go_ret2
                exact ⟨_, _, rfl, HP.out, rfl⟩
            | false =>
              have hno : ¬ freeAt f len N S := fun x => by have := HF.out.2 x; cases this
              have hSl : S < len := by
                refine Decidable.byContradiction fun hh => hno fun q q1 q2 q3 => by omega
              have HB2 : Hid (∀ t : Int, (FR : Int) ≤ t → t < ((S + 1 : Nat) : Int) → ¬ freeAt f len N t) := fun t t1 t2 => by
                by_cases e : t = S
                · rw [e]; exact hno
                · exact HB.out t t1 (by omega)
              clear hno
              rcases hcs with i1 | ⟨i1, i2⟩
              all_goals
                go_wp2
                go_roundw
                case rel => exact ⟨S + 1, by omega, by omega, by go_num, trivial, HB2.out⟩
                case measure => simp [intOf]; omega
      · have HP : Hid (FreeP f len N FR mo 0 false) := Or.inr ⟨rfl, rfl, Or.inr (Or.inr fun t t1 t2 => HB.out t t1 (by omega))⟩
        have hcs : ¬ (S : Int) ≤ mo ∨ ((S : Int) ≤ mo ∧ ¬ (N : Int) ≤ mo - S) := by omega
        rcases hcs with i1 | ⟨i1, i2⟩
        · go_wp2
          go_ret2
          exact ⟨_, _, rfl, HP.out, rfl⟩
        · have w1 : IntKind.i64.wrap (mo - (S : Int)) = mo - S := by rw [IntKind.wrap_i64] <;> omega
          go_wp2
          go_ret2
          exact ⟨_, _, rfl, HP.out, rfl⟩
  · have HP : Hid (FreeP f len n fr mo 0 false) := Or.inr ⟨rfl, rfl, by omega⟩
    have hcs : n < 1 ∨ (¬ n < 1 ∧ fr < 0) := by omega
    clear h
    rcases hcs with k1 | ⟨k1, k2⟩
    all_goals
      go_enter Try.func20, Try.ntmps20
      go_wp2
      go_ret2
      exact ⟨_, _, rfl, HP.out, rfl⟩
/-- Are two lists one? -/
def sameI (f g : Nat → Int) (n : Nat) : Prop := ∀ j, j < n → f j = g j
open Classical in
set_option maxHeartbeats 1600000 in
theorem ints_any (w : World) (a1 a2 : Option Addr) (n1 n2 c1 c2 : Nat) (f g : Nat → Int) (h1 : IntsR w a1 n1 f) (h2 : IntsR w a2 n2 g) {R : Bool} (hR : R = true ↔ n1 = n2 ∧ sameI f g n1) :
    Calls Try.prog 14 #[.slice a1 n1 c1, .slice a2 n2 c2] w fun e w' => e = .returned (.bool R) ∧ Below w.heap.size w w' := by
  have hl1 := h1.1
  have hl2 := h2.1
  have HR := Lib.hid hR
  by_cases hn : n1 = n2
  · subst hn
    have H1 := Lib.hid h1
    have H2 := Lib.hid h2
    clear h1 h2 hR
    go_enter Try.func14, Try.ntmps14
    go_wp2
    go_loopw [5] (fun i wr => ∃ j : Nat, j ≤ n1 ∧ i = .int .i64 j ∧ Hid (sameI f g j) ∧ Hid (Below w.heap.size w wr)) (fun i _ => n1 - (intOf i).toNat)
    case atStart => exact ⟨0, Nat.zero_le _, by first | rfl | trivial, fun k hk => by omega, Below.refl _ _⟩
    case round =>
      obtain ⟨j, hj, rfl, HS, HB⟩ := hrel
      by_cases hlt : j < n1
      · obtain ⟨b1, o1, rfl, _, k1⟩ := (H1.out.later HB.out).2 (by omega)
        obtain ⟨b2, o2, rfl, _, k2⟩ := (H2.out.later HB.out).2 (by omega)
        have x1 := k1 j hlt
        have x2 := k2 j hlt
        clear k1 k2
        by_cases he : f j = g j
        · have HS2 : Hid (sameI f g (j + 1)) := fun k hk => by
            by_cases e : k = j
            · rw [e]; exact he
            · exact HS.out k (by omega)
          have hne : (f j != g j) = false := by simp [he]
          obtain ⟨v1, hv1⟩ := named (f j)
          obtain ⟨v2, hv2⟩ := named (g j)
          rw [hv1.out] at x1 hne
          rw [hv2.out] at x2 hne
          have HBd : Hid (∀ k, Below w.heap.size w (wr.drewN k)) := fun k => ⟨HB.out.os, HB.out.tape, HB.out.output, HB.out.size, HB.out.block⟩
          clear he
          go_wp2
          go_quiet (fail)
          go_wp2
          go_roundw
          case rel => exact ⟨j + 1, by omega, by go_num, HS2.out, HBd.out _⟩
          case measure => simp [intOf]; omega
        · have hr : R = false := by
            cases R with
            | false => rfl
            | true => exact absurd ((HR.out.1 rfl).2 j hlt) he
          have hne : (f j != g j) = true := by simp [he]
          obtain ⟨v1, hv1⟩ := named (f j)
          obtain ⟨v2, hv2⟩ := named (g j)
          rw [hv1.out] at x1 hne
          rw [hv2.out] at x2 hne
          have HBd : Hid (∀ k, Below w.heap.size w (wr.drewN k)) := fun k => ⟨HB.out.os, HB.out.tape, HB.out.output, HB.out.size, HB.out.block⟩
          subst hr
          clear he
          go_wp2
          go_quiet (fail)
          go_wp2
          go_ret
          exact ⟨by first | rfl | trivial, HBd.out _⟩
      · obtain rfl : j = n1 := by omega
        have hr : R = true := HR.out.2 ⟨by first | rfl | trivial, HS.out⟩
        subst hr
        go_wp2
        go_ret
        exact ⟨by first | rfl | trivial, HB.out⟩
  · have hr : R = false := by
      cases R with
      | false => rfl
      | true => exact absurd (hR.1 rfl).1 hn
    subst hr
    clear h1 h2 hR HR
    go_enter Try.func14, Try.ntmps14
    go_wp2
    go_ret
    exact ⟨by first | rfl | trivial, Below.refl _ _⟩
end Go.Proofs.Ytidknkhkblloaaa
