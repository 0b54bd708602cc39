/-
  Plain mathematics of lists of spans: which are right, one more, one less, what is in them, how many. Condition: none.
-/
import Derived.Test.YtdffgnpldapciaaGreatDoorBase
namespace Go.Proofs.YtdffgnpldapciaaGreatDoor
open Go.RowKit

abbrev Sp := Int × Int
/-- Could a span stand in a list? -/
def mayB (s : Sp) : Bool := decide (0 ≤ s.1) && decide (s.1 < s.2) && decide (s.2 ≤ 1073741824)
theorem mayB_iff (s : Sp) : mayB s = true ↔ 0 ≤ s.1 ∧ s.1 < s.2 ∧ s.2 ≤ 1073741824 := by
  unfold mayB
  simp only [Bool.and_eq_true, decide_eq_true_eq]
  omega
/-- Right spans, all behind lo. -/
def Rt : Int → List Sp → Prop
  | _, [] => True
  | lo, x :: r => lo < x.1 ∧ x.1 < x.2 ∧ x.2 ≤ 1073741824 ∧ Rt x.2 r
instance Rt.dec : ∀ (lo : Int) (l : List Sp), Decidable (Rt lo l)
  | _, [] => isTrue trivial
  | lo, x :: r => by
    unfold Rt
    have := Rt.dec x.2 r
    infer_instance
theorem Rt.weak : ∀ {lo lo' : Int} {l : List Sp}, Rt lo l → lo' ≤ lo → Rt lo' l
  | _, _, [], _, _ => trivial
  | _, _, _ :: _, h, hl => ⟨by have := h.1; omega, h.2⟩
/-- A list, or nothing, if it is none. -/
def norm (l : List Sp) : List Sp := if Rt (-1) l then l else []
theorem norm_right (l : List Sp) : Rt (-1) (norm l) := by
  unfold norm
  split
  · assumption
  · trivial
theorem norm_of {l : List Sp} (h : Rt (-1) l) : norm l = l := if_pos h
/-- Is a number there? -/
def inL (l : List Sp) (n : Int) : Prop := ∃ x ∈ l, x.1 ≤ n ∧ n < x.2
theorem inL_nil (n : Int) : ¬ inL [] n := fun ⟨_, h, _⟩ => by cases h
theorem inL_cons (x : Sp) (r : List Sp) (n : Int) : inL (x :: r) n ↔ (x.1 ≤ n ∧ n < x.2) ∨ inL r n := by
  constructor
  · rintro ⟨y, hy, h⟩
    rcases List.mem_cons.1 hy with rfl | hy
    · exact Or.inl h
    · exact Or.inr ⟨y, hy, h⟩
  · rintro (h | ⟨y, hy, h⟩)
    · exact ⟨x, List.mem_cons_self, h⟩
    · exact ⟨y, List.mem_cons_of_mem _ hy, h⟩
theorem inL_append (a b : List Sp) (n : Int) : inL (a ++ b) n ↔ inL a n ∨ inL b n := by
  unfold inL
  simp only [List.mem_append]
  constructor
  · rintro ⟨x, h | h, g⟩
    · exact Or.inl ⟨x, h, g⟩
    · exact Or.inr ⟨x, h, g⟩
  · rintro (⟨x, h, g⟩ | ⟨x, h, g⟩)
    · exact ⟨x, Or.inl h, g⟩
    · exact ⟨x, Or.inr h, g⟩
theorem Rt.above : ∀ {lo : Int} {l : List Sp}, Rt lo l → ∀ n, inL l n → lo < n
  | _, [], _, n, h => absurd h (inL_nil n)
  | _, x :: r, h, n, hn => by
    rcases (inL_cons x r n).1 hn with g | g
    · have := h.1
      omega
    · have h1 := h.2.2.2.above n g
      have h2 := h.1
      have h3 := h.2.1
      omega
theorem Rt.below : ∀ {lo : Int} {l : List Sp}, Rt lo l → ∀ n, inL l n → n < 1073741824
  | _, [], _, n, h => absurd h (inL_nil n)
  | _, x :: r, h, n, hn => by
    rcases (inL_cons x r n).1 hn with g | g
    · have := h.2.2.1
      omega
    · exact h.2.2.2.below n g
/-- Right lists of the same numbers are one list. -/
theorem same_list : ∀ {lo lo' : Int} (a b : List Sp), Rt lo a → Rt lo' b → (∀ n, inL a n ↔ inL b n) → a = b
  | _, _, [], [], _, _, _ => rfl
  | _, _, [], y :: t, _, hb, h => absurd ((h y.1).2 ((inL_cons y t y.1).2 (Or.inl ⟨Int.le_refl _, hb.2.1⟩))) (inL_nil _)
  | _, _, x :: r, [], ha, _, h => absurd ((h x.1).1 ((inL_cons x r x.1).2 (Or.inl ⟨Int.le_refl _, ha.2.1⟩))) (inL_nil _)
  | _, _, x :: r, y :: t, ha, hb, h => by
    have a0 := ha.2.1
    have b0 := hb.2.1
    have ra := fun n => ha.2.2.2.above n
    have rb := fun n => hb.2.2.2.above n
    have hx : x.1 = y.1 := by
      have h1 := (inL_cons y t x.1).1 ((h x.1).1 ((inL_cons x r x.1).2 (Or.inl ⟨Int.le_refl _, a0⟩)))
      have h2 := (inL_cons x r y.1).1 ((h y.1).2 ((inL_cons y t y.1).2 (Or.inl ⟨Int.le_refl _, b0⟩)))
      have h1' : y.1 ≤ x.1 := by
        rcases h1 with g | g
        · exact g.1
        · have := rb _ g
          omega
      have h2' : x.1 ≤ y.1 := by
        rcases h2 with g | g
        · exact g.1
        · have := ra _ g
          omega
      omega
    have hy : x.2 = y.2 := by
      rcases Int.lt_trichotomy x.2 y.2 with g | g | g
      · have h1 := (inL_cons x r x.2).1 ((h x.2).2 ((inL_cons y t x.2).2 (Or.inl ⟨by omega, g⟩)))
        rcases h1 with g1 | g1
        · omega
        · have := ra _ g1
          omega
      · exact g
      · have h1 := (inL_cons y t y.2).1 ((h y.2).1 ((inL_cons x r y.2).2 (Or.inl ⟨by omega, g⟩)))
        rcases h1 with g1 | g1
        · omega
        · have := rb _ g1
          omega
    have hxy : x = y := Prod.ext hx hy
    subst hxy
    have ht : r = t := same_list r t ha.2.2.2 hb.2.2.2 fun n => by
      constructor
      · intro g
        have := ra n g
        rcases (inL_cons x t n).1 ((h n).1 ((inL_cons x r n).2 (Or.inr g))) with g1 | g1
        · omega
        · exact g1
      · intro g
        have := rb n g
        rcases (inL_cons x r n).1 ((h n).2 ((inL_cons x t n).2 (Or.inr g))) with g1 | g1
        · omega
        · exact g1
    rw [ht]

/-- One span more. -/
def ins : List Sp → Sp → List Sp
  | [], s => [s]
  | x :: r, s => if x.2 < s.1 then x :: ins r s else if s.2 < x.1 then s :: x :: r else ins r (min s.1 x.1, max s.2 x.2)
theorem ins_right : ∀ {lo : Int} (l : List Sp) (s : Sp), Rt lo l → lo < s.1 → s.1 < s.2 → s.2 ≤ 1073741824 → Rt lo (ins l s)
  | _, [], _, _, h1, h2, h3 => ⟨h1, h2, h3, trivial⟩
  | lo, x :: r, s, h, h1, h2, h3 => by
    have g0 := h.1
    have g1 := h.2.1
    have g2 := h.2.2.1
    unfold ins
    by_cases c1 : x.2 < s.1
    · rw [if_pos c1]
      exact ⟨h.1, h.2.1, h.2.2.1, ins_right r s h.2.2.2 c1 h2 h3⟩
    · rw [if_neg c1]
      by_cases c2 : s.2 < x.1
      · rw [if_pos c2]
        exact ⟨h1, h2, h3, c2, h.2⟩
      · rw [if_neg c2]
        refine ins_right r _ (h.2.2.2.weak (by omega)) ?_ ?_ ?_
        · show lo < min s.1 x.1
          omega
        · show min s.1 x.1 < max s.2 x.2
          omega
        · show max s.2 x.2 ≤ _
          omega
theorem ins_in : ∀ {lo : Int} (l : List Sp) (s : Sp), Rt lo l → s.1 < s.2 → ∀ n, inL (ins l s) n ↔ inL l n ∨ (s.1 ≤ n ∧ n < s.2)
  | _, [], s, _, _, n => by
    show inL [s] n ↔ _
    rw [inL_cons]
    constructor
    · rintro (g | g)
      · exact Or.inr g
      · exact Or.inl g
    · rintro (g | g)
      · exact Or.inr g
      · exact Or.inl g
  | _, x :: r, s, h, h2, n => by
    have g1 := h.2.1
    unfold ins
    by_cases c1 : x.2 < s.1
    · rw [if_pos c1, inL_cons, inL_cons, ins_in r s h.2.2.2 h2 n]
      constructor
      · rintro (g | g | g)
        · exact Or.inl (Or.inl g)
        · exact Or.inl (Or.inr g)
        · exact Or.inr g
      · rintro ((g | g) | g)
        · exact Or.inl g
        · exact Or.inr (Or.inl g)
        · exact Or.inr (Or.inr g)
    · rw [if_neg c1]
      by_cases c2 : s.2 < x.1
      · rw [if_pos c2, inL_cons s]
        constructor
        · rintro (g | g)
          · exact Or.inr g
          · exact Or.inl g
        · rintro (g | g)
          · exact Or.inr g
          · exact Or.inl g
      · rw [if_neg c2, ins_in r _ h.2.2.2 (by show min s.1 x.1 < max s.2 x.2; omega) n, inL_cons]
        have e : (min s.1 x.1 ≤ n ∧ n < max s.2 x.2) ↔ (x.1 ≤ n ∧ n < x.2) ∨ (s.1 ≤ n ∧ n < s.2) := by omega
        show inL r n ∨ (min s.1 x.1 ≤ n ∧ n < max s.2 x.2) ↔ _
        rw [e]
        constructor
        · rintro (g | g | g)
          · exact Or.inl (Or.inr g)
          · exact Or.inl (Or.inl g)
          · exact Or.inr g
        · rintro ((g | g) | g)
          · exact Or.inr (Or.inl g)
          · exact Or.inl g
          · exact Or.inr (Or.inr g)
def addL (l : List Sp) (s : Sp) : List Sp := if mayB s then ins (norm l) s else norm l
theorem addL_right (l : List Sp) (s : Sp) : Rt (-1) (addL l s) := by
  unfold addL
  cases hm : mayB s with
  | false => exact norm_right l
  | true =>
    have := (mayB_iff s).1 hm
    exact ins_right _ s (norm_right l) (by omega) this.2.1 this.2.2
theorem addL_in (l : List Sp) (s : Sp) (hm : mayB s = true) (n : Int) : inL (addL l s) n ↔ inL (norm l) n ∨ (s.1 ≤ n ∧ n < s.2) := by
  unfold addL
  rw [if_pos hm]
  exact ins_in _ s (norm_right l) ((mayB_iff s).1 hm).2.1 n
/-- One span less. -/
def piece (s x : Sp) : List Sp := (if x.1 < s.1 then [(x.1, min x.2 s.1)] else []) ++ (if s.2 < x.2 then [(max x.1 s.2, x.2)] else [])
def subs (l : List Sp) (s : Sp) : List Sp := l.flatMap (piece s)
theorem piece_in (s x : Sp) (hs : s.1 < s.2) (_hx : x.1 < x.2) (n : Int) : inL (piece s x) n ↔ (x.1 ≤ n ∧ n < x.2) ∧ ¬ (s.1 ≤ n ∧ n < s.2) := by
  unfold piece
  rw [inL_append]
  by_cases c1 : x.1 < s.1
  · rw [if_pos c1, inL_cons]
    by_cases c2 : s.2 < x.2
    · rw [if_pos c2, inL_cons]
      constructor
      · rintro ((g | g) | (g | g))
        · omega
        · exact absurd g (inL_nil n)
        · omega
        · exact absurd g (inL_nil n)
      · intro g
        by_cases c3 : n < s.1
        · exact Or.inl (Or.inl (by omega))
        · exact Or.inr (Or.inl (by omega))
    · rw [if_neg c2]
      constructor
      · rintro ((g | g) | g)
        · omega
        · exact absurd g (inL_nil n)
        · exact absurd g (inL_nil n)
      · intro g
        exact Or.inl (Or.inl (by omega))
  · rw [if_neg c1]
    by_cases c2 : s.2 < x.2
    · rw [if_pos c2, inL_cons]
      constructor
      · rintro (g | (g | g))
        · exact absurd g (inL_nil n)
        · omega
        · exact absurd g (inL_nil n)
      · intro g
        exact Or.inr (Or.inl (by omega))
    · rw [if_neg c2]
      constructor
      · rintro (g | g) <;> exact absurd g (inL_nil n)
      · intro g
        omega
theorem subs_in : ∀ {lo : Int} (l : List Sp) (s : Sp), Rt lo l → s.1 < s.2 → ∀ n, inL (subs l s) n ↔ inL l n ∧ ¬ (s.1 ≤ n ∧ n < s.2)
  | _, [], _, _, _, n => ⟨fun g => absurd g (inL_nil n), fun g => absurd g.1 (inL_nil n)⟩
  | _, x :: r, s, h, h2, n => by
    show inL (piece s x ++ subs r s) n ↔ _
    rw [inL_append, piece_in s x h2 h.2.1 n, subs_in r s h.2.2.2 h2 n, inL_cons]
    constructor
    · rintro (g | g)
      · exact ⟨Or.inl g.1, g.2⟩
      · exact ⟨Or.inr g.1, g.2⟩
    · rintro ⟨g | g, k⟩
      · exact Or.inl ⟨g, k⟩
      · exact Or.inr ⟨g, k⟩
theorem piece_right {lo : Int} {s x : Sp} {r : List Sp} (h0 : lo < x.1) (h1 : x.1 < x.2) (h2 : x.2 ≤ 1073741824) (hs : s.1 < s.2) (hr : Rt x.2 r) : Rt lo (piece s x ++ r) := by
  unfold piece
  by_cases c1 : x.1 < s.1
  · rw [if_pos c1]
    by_cases c2 : s.2 < x.2
    · rw [if_pos c2]
      refine ⟨h0, ?_, ?_, ?_, ?_, h2, hr⟩
      · show x.1 < min x.2 s.1
        omega
      · show min x.2 s.1 ≤ _
        omega
      · show min x.2 s.1 < max x.1 s.2
        omega
      · show max x.1 s.2 < x.2
        omega
    · rw [if_neg c2]
      refine ⟨h0, ?_, ?_, hr.weak ?_⟩
      · show x.1 < min x.2 s.1
        omega
      · show min x.2 s.1 ≤ _
        omega
      · show min x.2 s.1 ≤ x.2
        omega
  · rw [if_neg c1]
    by_cases c2 : s.2 < x.2
    · rw [if_pos c2]
      refine ⟨?_, ?_, h2, hr⟩
      · show lo < max x.1 s.2
        omega
      · show max x.1 s.2 < x.2
        omega
    · rw [if_neg c2]
      exact hr.weak (by omega)
theorem subs_right : ∀ {lo : Int} (l : List Sp) (s : Sp), Rt lo l → s.1 < s.2 → Rt lo (subs l s)
  | _, [], _, _, _ => trivial
  | _, _ :: r, s, h, h2 => piece_right h.1 h.2.1 h.2.2.1 h2 (subs_right r s h.2.2.2 h2)
def subL (l : List Sp) (s : Sp) : List Sp := if mayB s then subs (norm l) s else norm l
theorem subL_right (l : List Sp) (s : Sp) : Rt (-1) (subL l s) := by
  unfold subL
  cases hm : mayB s with
  | false => exact norm_right l
  | true => exact subs_right _ s (norm_right l) ((mayB_iff s).1 hm).2.1
theorem subL_in (l : List Sp) (s : Sp) (hm : mayB s = true) (n : Int) : inL (subL l s) n ↔ inL (norm l) n ∧ ¬ (s.1 ≤ n ∧ n < s.2) := by
  unfold subL
  rw [if_pos hm]
  exact subs_in _ s (norm_right l) ((mayB_iff s).1 hm).2.1 n

/-! 4.3. -/
theorem sub_add (l : List Sp) (s : Sp) : subL (addL l s) s = subL l s := by
  cases hm : mayB s with
  | false => simp only [subL, addL, hm, Bool.false_eq_true, if_false, norm_of (norm_right l)]
  | true =>
    refine same_list _ _ (subL_right _ s) (subL_right l s) fun n => ?_
    rw [subL_in _ s hm, subL_in l s hm, norm_of (addL_right l s), addL_in l s hm]
    constructor
    · rintro ⟨g | g, k⟩
      · exact ⟨g, k⟩
      · exact absurd g k
    · rintro ⟨g, k⟩
      exact ⟨Or.inl g, k⟩
theorem add_sub (l : List Sp) (s : Sp) : addL (subL l s) s = addL l s := by
  cases hm : mayB s with
  | false => simp only [subL, addL, hm, Bool.false_eq_true, if_false, norm_of (norm_right l)]
  | true =>
    refine same_list _ _ (addL_right _ s) (addL_right l s) fun n => ?_
    rw [addL_in _ s hm, addL_in l s hm, norm_of (subL_right l s), subL_in l s hm]
    by_cases k : s.1 ≤ n ∧ n < s.2
    · exact ⟨fun _ => Or.inr k, fun _ => Or.inr k⟩
    · constructor
      · rintro (g | g)
        · exact Or.inl g.1
        · exact Or.inr g
      · rintro (g | g)
        · exact Or.inl ⟨g, k⟩
        · exact Or.inr g
theorem add_add (l : List Sp) (s t : Sp) : addL (addL l s) t = addL (addL l t) s := by
  cases hs : mayB s with
  | false =>
    have e1 : addL l s = norm l := by simp only [addL, hs, Bool.false_eq_true, if_false]
    have e2 : addL (addL l t) s = addL l t := by
      rw [show addL (addL l t) s = norm (addL l t) by simp only [addL, hs, Bool.false_eq_true, if_false], norm_of (addL_right l t)]
    rw [e1, e2]
    simp only [addL, norm_of (norm_right l)]
  | true =>
    cases ht : mayB t with
    | false =>
      have e1 : addL l t = norm l := by simp only [addL, ht, Bool.false_eq_true, if_false]
      have e2 : addL (addL l s) t = addL l s := by
        rw [show addL (addL l s) t = norm (addL l s) by simp only [addL, ht, Bool.false_eq_true, if_false], norm_of (addL_right l s)]
      rw [e1, e2]
      simp only [addL, norm_of (norm_right l)]
    | true =>
      refine same_list _ _ (addL_right _ t) (addL_right _ s) fun n => ?_
      rw [addL_in _ t ht, addL_in _ s hs, norm_of (addL_right l s), norm_of (addL_right l t), addL_in l s hs, addL_in l t ht]
      constructor
      · rintro ((g | g) | g)
        · exact Or.inl (Or.inl g)
        · exact Or.inr g
        · exact Or.inl (Or.inr g)
      · rintro ((g | g) | g)
        · exact Or.inl (Or.inl g)
        · exact Or.inr g
        · exact Or.inl (Or.inr g)
end Go.Proofs.YtdffgnpldapciaaGreatDoor
