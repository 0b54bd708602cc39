/-
  How many numbers lie in right spans, counted one by one (SpanNumbers). Conditions: none.
-/
import Derived.Test.YtdnkldcmefcmbaaM4
namespace Go.Proofs.Ytdnkldcmefcmbaa
open Go.RowKit

theorem spAt_cons (x : Sp) (r : List Sp) (j : Nat) : spAt (x :: r) (j + 1) = spAt r j := by simp [spAt]
theorem sumTo_cons (x : Sp) (r : List Sp) : ∀ j, sumTo4 (x :: r) (j + 1) = x.2 - x.1 + sumTo4 r j
  | 0 => by simp [sumTo4, spAt]
  | j + 1 => by
    have ih := sumTo_cons x r j
    show sumTo4 (x :: r) (j + 1) + (spAt (x :: r) (j + 1)).2 - (spAt (x :: r) (j + 1)).1 = x.2 - x.1 + (sumTo4 r j + (spAt r j).2 - (spAt r j).1)
    rw [ih, spAt_cons]
    omega
theorem sumL_cons (x : Sp) (r : List Sp) : sumL (x :: r) = x.2 - x.1 + sumL r := sumTo_cons x r r.length
/-- How many numbers below k lie in the spans. -/
def cnt (l : List Sp) : Nat → Nat
  | 0 => 0
  | k + 1 => cnt l k + if hasB l (k : Int) = true then 1 else 0
theorem cnt_nil : ∀ k, cnt [] k = 0
  | 0 => rfl
  | k + 1 => by rw [cnt, cnt_nil k]; simp [hasB]
theorem has_one (x : Sp) (n : Int) : hasB [x] n = true ↔ x.1 ≤ n ∧ n < x.2 := by
  rw [hasB_iff, inL_cons]
  exact ⟨fun h => h.resolve_right (inL_nil n), Or.inl⟩
theorem cnt_one (x : Sp) (h0 : 0 ≤ x.1) (h1 : x.1 ≤ x.2) : ∀ k : Nat, (cnt [x] k : Int) = max 0 (min (k : Int) x.2 - x.1)
  | 0 => by simp only [cnt]; omega
  | k + 1 => by
    have ih := cnt_one x h0 h1 k
    simp only [cnt]
    by_cases h : hasB [x] (k : Int) = true
    · rw [if_pos h]
      have := (has_one x k).1 h
      omega
    · rw [if_neg h]
      have : ¬ (x.1 ≤ (k : Int) ∧ (k : Int) < x.2) := fun g => h ((has_one x k).2 g)
      omega
theorem has_cons (x : Sp) (r : List Sp) (n : Int) : hasB (x :: r) n = (hasB [x] n || hasB r n) := by simp [hasB]
theorem cnt_cons (x : Sp) (r : List Sp) (h : ∀ n, x.1 ≤ n ∧ n < x.2 → ¬ inL r n) : ∀ k, cnt (x :: r) k = cnt [x] k + cnt r k
  | 0 => rfl
  | k + 1 => by
    have ih := cnt_cons x r h k
    simp only [cnt]
    rw [ih, has_cons]
    cases h1 : hasB [x] (k : Int)
    · simp; omega
    · cases h2 : hasB r (k : Int)
      · simp; omega
      · exact absurd ((hasB_iff _ _).1 h2) (h _ ((has_one _ _).1 h1))
/-- Counted one by one they are as many as the spans' lengths say. -/
theorem cnt_sum : ∀ {lo : Int} (l : List Sp), Rt lo l → -1 ≤ lo → ∀ K : Nat, (∀ n, inL l n → n < (K : Int)) → (cnt l K : Int) = sumL l
  | _, [], _, _, K, _ => by rw [cnt_nil]; rfl
  | lo, x :: r, h, hlo, K, hK => by
    have g1 := h.1
    have g2 := h.2.1
    have e1 := cnt_one x (by omega) (by omega) K
    have e2 := cnt_sum r h.2.2.2 (by omega) K (fun n hn => hK n ((inL_cons x r n).2 (Or.inr hn)))
    have e3 := hK (x.2 - 1) ((inL_cons x r _).2 (Or.inl ⟨by omega, by omega⟩))
    rw [cnt_cons x r (fun n hn hr => by have := Rt.above h.2.2.2 n hr; omega), sumL_cons]
    omega
theorem has_addL {l : List Sp} (hl : Rt (-1) l) (s : Sp) (hm : mayB s = true) (n : Int) : hasB (addL l s) n = true ↔ hasB l n = true ∨ (s.1 ≤ n ∧ n < s.2) := by
  rw [hasB_iff, addL_in l s hm, norm_of hl, hasB_iff]
theorem has_subL {l : List Sp} (hl : Rt (-1) l) (s : Sp) (hm : mayB s = true) (n : Int) : hasB (subL l s) n = true ↔ hasB l n = true ∧ ¬ (s.1 ≤ n ∧ n < s.2) := by
  rw [hasB_iff, subL_in l s hm, norm_of hl, hasB_iff]
/-- What the statements make of numbers lies below 230. -/
theorem madeTo_low (f : Nat → Int) : ∀ k n, inL (madeTo f k) n → n < 230
  | 0, n, h => absurd h (inL_nil n)
  | k + 1, n, h => by
    rw [madeTo, addL_in _ _ ((mayB_iff _).2 ⟨by show 0 ≤ f (2 * k) % 200; omega, by show f (2 * k) % 200 < f (2 * k) % 200 + 1 + f (2 * k + 1) % 30; omega, by show f (2 * k) % 200 + 1 + f (2 * k + 1) % 30 ≤ 1073741824; omega⟩), norm_of (madeTo_right f k)] at h
    rcases h with h | ⟨_, h⟩
    · exact madeTo_low f k n h
    · have h' : n < f (2 * k) % 200 + 1 + f (2 * k + 1) % 30 := h
      omega
/-! The three calls over right spans, as this statement makes them. -/
theorem has_any {x : Option Addr} {K c : Nat} {L : List Sp} {w : World} (h : Spans w x K L) (hr : Rt (-1) L) (hn : (x = none → c = 0) ∧ K ≤ c) (hK : K ≤ 1000) {j : Nat} (hj : j ≤ 320) {B : Bool} (hB : hasB L (j : Int) = B) :
    Calls Try.prog 19 #[.slice x K c, .int .i64 (j : Int)] w fun e w' => e = .returned (.bool B) ∧ Below w.heap.size w w' := by
  have := spanHas_any x K c L (j : Int) w h hn.2 hn.1 (by omega) (hr.fit (by omega)) (by unfold I64; omega)
  rw [norm_of hr, hB] at this
  exact this
theorem right_any {x : Option Addr} {K c : Nat} {L : List Sp} {w : World} (h : Spans w x K L) (hr : Rt (-1) L) (hn : (x = none → c = 0) ∧ K ≤ c) (hK : K ≤ 1000) :
    Calls Try.prog 12 #[.slice x K c] w fun e w' => e = .returned (.bool true) ∧ Below w.heap.size w w' :=
  spanRight_any x K c L w h hn.2 hn.1 (by omega) (hr.fit (by omega)) true (decide_eq_true hr)
theorem count_any {x : Option Addr} {K c : Nat} {L : List Sp} {w : World} (h : Spans w x K L) (hr : Rt (-1) L) (hn : (x = none → c = 0) ∧ K ≤ c) (hK : K ≤ 1000) {N : Int} (hN : sumL L = N) :
    Calls Try.prog 21 #[.slice x K c] w fun e w' => e = .returned (.int .i64 N) ∧ Below w.heap.size w w' := by
  have := spanCount_any x K c L w h hn.2 hn.1 (by omega) (hr.fit (by omega))
  rw [norm_of hr, hN] at this
  exact this
/-- A span laid behind what is held. -/
theorem Held.laid {w0 w : World} {ls : List (Option Addr × List Sp)} (h : Held w0 [] ls w) (v1 v2 : Value) (t : TypeId) : Held w0 [((⟨w.heap.size, 0, none⟩ : Addr), v1), (⟨w.heap.size, 1, none⟩, v2)] ls (w.alloc (.cells #[v1, v2] t)) := by
  have h2 := h.later ((Below.refl w.heap.size w).alloc (Nat.le_refl _) (.cells #[v1, v2] t))
  refine ⟨h2.1, fun p hp => ?_, h2.2.2⟩
  simp only [List.mem_cons, List.not_mem_nil, or_false] at hp
  rcases hp with rfl | rfl <;> simp [go_sem]
theorem subL_len2 (l : List Sp) (s : Sp) : (subL l s).length ≤ 2 * l.length := by
  unfold subL
  have h1 := norm_len l
  have h2 := subs_len s (norm l)
  split <;> omega
theorem bools_in {bM bA bS : Bool} {P : Prop} (h : P) (iA : bA = true ↔ bM = true ∨ P) (iS : bS = true ↔ bM = true ∧ ¬ P) : true = bA ∧ false = bS := by
  refine ⟨(iA.2 (Or.inr h)).symm, ?_⟩
  cases bS
  · rfl
  · exact absurd h (iS.1 rfl).2
theorem bools_out {bM bA bS : Bool} {P : Prop} (h : ¬ P) (iA : bA = true ↔ bM = true ∨ P) (iS : bS = true ↔ bM = true ∧ ¬ P) : bM = bA ∧ bM = bS := by
  cases bM <;> cases bA <;> cases bS <;> simp [h] at iA iS ⊢
theorem cnt_step {L : List Sp} {j : Nat} {B : Bool} (h : hasB L (j : Int) = B) : cnt L (j + 1) = cnt L j + if B = true then 1 else 0 := by rw [cnt, h]
theorem cnt_le (L : List Sp) : ∀ k, cnt L k ≤ k
  | 0 => Nat.le_refl _
  | k + 1 => by
    have := cnt_le L k
    rw [cnt]
    split <;> omega
end Go.Proofs.Ytdnkldcmefcmbaa
