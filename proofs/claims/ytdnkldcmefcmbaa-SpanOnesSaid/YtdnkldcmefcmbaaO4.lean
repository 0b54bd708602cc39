/-
  Plain mathematics of two sets of numbers put together and taken from one another span by span (SpanCounts). Conditions: none.
-/
import Derived.Test.YtdnkldcmefcmbaaN4
namespace Go.Proofs.Ytdnkldcmefcmbaa
open Go.RowKit

/-- X with the first k spans of Y. -/
def addTo4 (X Y : List Sp) : Nat → List Sp
  | 0 => X
  | k + 1 => addL (addTo4 X Y k) (spAt Y k)
/-- X without the first k spans of Y. -/
def subTo4 (X Y : List Sp) : Nat → List Sp
  | 0 => X
  | k + 1 => subL (subTo4 X Y k) (spAt Y k)
theorem addTo4_right {X : List Sp} (h : Rt (-1) X) (Y : List Sp) : ∀ k, Rt (-1) (addTo4 X Y k)
  | 0 => h
  | _ + 1 => addL_right _ _
theorem subTo4_right {X : List Sp} (h : Rt (-1) X) (Y : List Sp) : ∀ k, Rt (-1) (subTo4 X Y k)
  | 0 => h
  | _ + 1 => subL_right _ _
theorem take_spAt (Y : List Sp) (k : Nat) (h : k < Y.length) : Y.take (k + 1) = Y.take k ++ [spAt Y k] := by
  rw [List.take_succ_eq_append_getElem h, spAt, List.getD_eq_getElem?_getD, List.getElem?_eq_getElem h]
  rfl
theorem has_take (Y : List Sp) (k : Nat) (h : k < Y.length) (n : Int) : hasB (Y.take (k + 1)) n = true ↔ hasB (Y.take k) n = true ∨ ((spAt Y k).1 ≤ n ∧ n < (spAt Y k).2) := by
  rw [take_spAt Y k h, hasB_iff, inL_append, hasB_iff, inL_cons]
  exact ⟨fun g => g.imp id (fun g => g.resolve_right (inL_nil n)), fun g => g.imp id Or.inl⟩
/-- Each span of right ones could stand in a list. -/
theorem Rt.may : ∀ {lo : Int} {l : List Sp}, Rt lo l → -1 ≤ lo → ∀ k, k < l.length → mayB (spAt l k) = true
  | _, [], _, _, k, h => by simp at h
  | lo, x :: r, h, hlo, 0, _ => (mayB_iff _).2 ⟨by have := h.1; show 0 ≤ x.1; omega, h.2.1, h.2.2.1⟩
  | lo, x :: r, h, hlo, k + 1, hk => by
    rw [spAt_cons]
    exact h.2.2.2.may (by have := h.1; have := h.2.1; omega) k (by simpa using hk)
theorem addTo4_has {X Y : List Sp} (hX : Rt (-1) X) (hY : Rt (-1) Y) : ∀ k, k ≤ Y.length → ∀ n, hasB (addTo4 X Y k) n = true ↔ hasB X n = true ∨ hasB (Y.take k) n = true
  | 0, _, n => by simp [addTo4, hasB]
  | k + 1, h, n => by
    rw [addTo4, has_addL (addTo4_right hX Y k) _ (hY.may (by omega) k (by omega)), addTo4_has hX hY k (by omega), has_take Y k (by omega), or_assoc]
theorem subTo4_has {X Y : List Sp} (hX : Rt (-1) X) (hY : Rt (-1) Y) : ∀ k, k ≤ Y.length → ∀ n, hasB (subTo4 X Y k) n = true ↔ hasB X n = true ∧ ¬ hasB (Y.take k) n = true
  | 0, _, n => by simp [subTo4, hasB]
  | k + 1, h, n => by
    rw [subTo4, has_subL (subTo4_right hX Y k) _ (hY.may (by omega) k (by omega)), subTo4_has hX hY k (by omega), has_take Y k (by omega), not_or, and_assoc]
/-- Right spans of numbers below K are not many. -/
theorem rt_len : ∀ {lo : Int} (l : List Sp), Rt lo l → ∀ K : Int, lo ≤ K → (∀ n, inL l n → n < K) → (l.length : Int) ≤ K - lo
  | lo, [], _, K, h, _ => by simp; omega
  | lo, x :: r, h, K, _, hn => by
    have h1 := h.1
    have h2 := h.2.1
    have h3 := hn (x.2 - 1) ((inL_cons x r _).2 (Or.inl ⟨by omega, by omega⟩))
    have h4 := rt_len r h.2.2.2 K (by omega) (fun n g => hn n ((inL_cons x r n).2 (Or.inr g)))
    rw [List.length_cons]
    omega
/-- How many numbers below k lie in both. -/
def both (X Y : List Sp) : Nat → Nat
  | 0 => 0
  | k + 1 => both X Y k + if hasB X (k : Int) = true ∧ hasB Y (k : Int) = true then 1 else 0
theorem cnt_two {X Y A S : List Sp} (hA : ∀ n, hasB A n = true ↔ hasB X n = true ∨ hasB Y n = true) (hS : ∀ n, hasB S n = true ↔ hasB X n = true ∧ ¬ hasB Y n = true) : ∀ k, cnt A k + both X Y k = cnt X k + cnt Y k ∧ cnt S k + both X Y k = cnt X k
  | 0 => ⟨rfl, rfl⟩
  | k + 1 => by
    have ih := cnt_two hA hS k
    have h1 := hA (k : Int)
    have h2 := hS (k : Int)
    simp only [cnt, both]
    cases hx : hasB X (k : Int) <;> cases hy : hasB Y (k : Int) <;> simp [hx, hy] at h1 h2 <;> simp [h1, h2] <;> omega
theorem both_step {X Y : List Sp} {j : Nat} {bX bY : Bool} (h1 : hasB X (j : Int) = bX) (h2 : hasB Y (j : Int) = bY) : both X Y (j + 1) = both X Y j + if bX = true ∧ bY = true then 1 else 0 := by rw [both, h1, h2]
theorem both_le (X Y : List Sp) : ∀ k, both X Y k ≤ cnt X k
  | 0 => Nat.le_refl _
  | k + 1 => by
    have ih := both_le X Y k
    simp only [cnt, both]
    cases hx : hasB X (k : Int) <;> cases hy : hasB Y (k : Int) <;> simp <;> omega
theorem Held.sub {w0 w : World} {cs : List (Addr × Value)} {ls ls' : List (Option Addr × List Sp)} (h : Held w0 cs ls w) (hs : ∀ q ∈ ls', q ∈ ls) : Held w0 cs ls' w := ⟨h.1, h.2.1, fun q hq => h.2.2 q (hs q hq)⟩
/-- The two cells of a held list's span. -/
theorem Held.span {w0 w : World} {cs : List (Addr × Value)} {ls : List (Option Addr × List Sp)} (h : Held w0 cs ls w) {b off n k : Nat} {L : List Sp} (hm : (some ⟨b, off, none⟩, L) ∈ ls) (hn : L.length = n) (hk : k < n) {f t : Int} (hf : (spAt L k).1 = f) (ht : (spAt L k).2 = t) :
    w.cell? ⟨b, off + k * 2, none⟩ = some (.int .i64 f) ∧ w.cell? ⟨b, off + k * 2 + 1, none⟩ = some (.int .i64 t) := by
  subst hf ht
  exact span_cells (h.spans hm hn) k hk
end Go.Proofs.Ytdnkldcmefcmbaa
