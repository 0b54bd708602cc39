/-
  What the bitmap of MapSizes holds. Conditions: none.
-/
import Derived.Test.YtjaaieamlgghhaaVa
namespace Go.Proofs.Ytjaaieamlgghhaa
open Go.RowKit
set_option linter.unusedVariables false

noncomputable def sL (f s t : Int) (on : Bool) : List Sp := (sizeF s t (txA, on, addL [] (f, 260))).2.2
theorem sL_right (f s t : Int) (on : Bool) : Rt (-1) (sL f s t on) := by
  unfold sL sizeF
  dsimp only
  split
  · exact addL_right _ _
  · exact subL_right _ _
theorem sL_len (f s t : Int) (on : Bool) : (sL f s t on).length ≤ 10 := by
  have h1 := addL_len [] (f, 260)
  have h2 := subL_len (addL [] (f, 260)) (t, 1073741824)
  have h3 := addL_len (subL (addL [] (f, 260)) (t, 1073741824)) (s, t)
  unfold sL sizeF
  dsimp only
  simp at h1
  split <;> omega
theorem sL_in (f s t : Int) (on : Bool) (hf : 0 ≤ f ∧ f ≤ 255) (hs : 0 ≤ s ∧ s ≤ 255) (ht : 0 ≤ t ∧ t ≤ 255) (n : Int) (hn : 0 ≤ n ∧ n < 300) : hasB (norm (sL f s t on)) n = decide ((f ≤ n ∧ n < 260 ∧ n < t) ∨ (on = true ∧ s ≤ n ∧ n < t)) := by
  rw [norm_of (sL_right f s t on)]
  have m1 : mayB (f, 260) = true := by rw [mayB_iff]; dsimp only; omega
  have m2 : mayB (t, 1073741824) = true := by rw [mayB_iff]; dsimp only; omega
  have h1 : inL (subL (addL [] (f, 260)) (t, 1073741824)) n ↔ f ≤ n ∧ n < 260 ∧ n < t := by
    rw [subL_in _ _ m2, norm_of (addL_right _ _), addL_in _ _ m1]
    have : ¬ inL (norm []) n := by rw [norm_of (by trivial)]; exact inL_nil n
    dsimp only
    constructor
    · rintro ⟨h | h, h'⟩
      · exact absurd h this
      · omega
    · intro h
      exact ⟨Or.inr (by omega), by omega⟩
  have h2 : inL (sL f s t on) n ↔ (f ≤ n ∧ n < 260 ∧ n < t) ∨ (on = true ∧ s ≤ n ∧ n < t) := by
    unfold sL sizeF
    dsimp only
    by_cases hc : on = true ∧ s < t
    · have m3 : mayB (s, t) = true := by rw [mayB_iff]; dsimp only; omega
      rw [if_pos hc, addL_in _ _ m3, norm_of (subL_right _ _), h1]
      dsimp only
      constructor
      · rintro (h | h)
        · exact Or.inl h
        · exact Or.inr ⟨hc.1, h⟩
      · rintro (h | h)
        · exact Or.inl h
        · exact Or.inr h.2
    · rw [if_neg hc, h1]
      constructor
      · exact Or.inl
      · rintro (h | h)
        · exact h
        · exact absurd ⟨h.1, by omega⟩ hc
  rw [Bool.eq_iff_iff, hasB_iff, decide_eq_true_iff, h2]
theorem sL_t (f s t : Int) (hf : 0 ≤ f ∧ f ≤ 255) (hs : 0 ≤ s ∧ s ≤ 255) (ht : 0 ≤ t ∧ t ≤ 255) (n : Int) (hn : 0 ≤ n ∧ n < 300) : hasB (norm (sL f s t true)) n = decide ((f ≤ n ∧ n < 260 ∧ n < t) ∨ (s ≤ n ∧ n < t)) := by
  rw [sL_in f s t true hf hs ht n hn]
  simp only [true_and]
theorem sL_f (f s t : Int) (hf : 0 ≤ f ∧ f ≤ 255) (hs : 0 ≤ s ∧ s ≤ 255) (ht : 0 ≤ t ∧ t ≤ 255) (n : Int) (hn : 0 ≤ n ∧ n < 300) : hasB (norm (sL f s t false)) n = decide (f ≤ n ∧ n < 260 ∧ n < t) := by
  rw [sL_in f s t false hf hs ht n hn]
  simp only [Bool.false_eq_true, false_and, or_false]
theorem sz_touch (W : World) (a : Option Addr) (c : Nat) (f : Int) (hf : 0 ≤ f ∧ f ≤ 255) (h : BmsD W a 1 c [(txA, true, [])]) : Calls Try.prog 44 #[.slice a 1 c, .agg #[.int .i64 f, .int .i64 260]] W fun e w' => ∃ a c, e = .returned (.slice a 1 c) ∧ BmsD w' a 1 c [(txA, true, addL [] (f, 260))] ∧ Below W.heap.size W w' := by
  refine (mapsTouch W a 1 c _ h (fun b hb => by simp at hb; subst hb; simp) f 260 (by unfold I64; omega) (by unfold I64; omega)).mono ?_
  rintro e w' ⟨a, c, he, hm, hb⟩
  exact ⟨a, c, he, hm.d, hb⟩
theorem sz_turn (W : World) (a : Option Addr) (c : Nat) (l : List Sp) (on : Bool) (h : BmsD W a 1 c [(txA, true, l)]) : Calls Try.prog 36 #[.slice a 1 c, .string ⟨#[97]⟩, .bool on] W fun e w' => ∃ a c, e = .returned (.tuple #[.slice a 1 c, .int .i64 0]) ∧ BmsD w' a 1 c [(txA, on, l)] ∧ Below W.heap.size W w' := by
  refine (mapsTurn W a 1 c _ h txA on).mono ?_
  have hr : turnB [(txA, true, l)] txA on = ([(txA, on, l)], 0) := by
    unfold turnB
    rw [fndB_zero]
    rfl
  rw [hr]
  rintro e w' ⟨a, n, c, he, hm, hb⟩
  obtain rfl : 1 = n := hm.d.lens.1
  exact ⟨a, c, he, hm.d, hb⟩
theorem sz_size (W : World) (a : Option Addr) (c : Nat) (f s t : Int) (on : Bool) (hs : 0 ≤ s ∧ s ≤ 255) (ht : 0 ≤ t ∧ t ≤ 255) (h : BmsD W a 1 c [(txA, on, addL [] (f, 260))]) : Calls Try.prog 45 #[.slice a 1 c, .int .i64 s, .int .i64 t] W fun e w' => ∃ b off al cl c', e = .returned (.slice (some ⟨b, off, none⟩) 1 c') ∧ b < w'.heap.size ∧ w'.cell? ⟨b, off + 2, none⟩ = some (.slice al (sL f s t on).length cl) ∧ SpD w' al (sL f s t on).length cl (sL f s t on) ∧ Below W.heap.size W w' := by
  refine (mapsSize W a 1 c _ h (fun b hb => by simp at hb; subst hb; have := addL_len [] (f, 260); simp at this; show (addL [] (f, 260)).length ≤ 10000; omega) s t (by unfold I64; omega) (by unfold I64; omega)).mono ?_
  rintro e w' ⟨a, c, he, hm, hb⟩
  have hB : sizeB [(txA, on, addL [] (f, 260))] s t = [(txA, on, sL f s t on)] := by
    unfold sizeB
    rw [if_pos (by omega)]
    rfl
  rw [hB] at hm
  obtain ⟨b, off, al, cl, rfl, h1, h2, h3, h4, h5⟩ := hm.d.one
  exact ⟨b, off, al, cl, c, he, h1, h4, h5, hb⟩
end Go.Proofs.Ytjaaieamlgghhaa
