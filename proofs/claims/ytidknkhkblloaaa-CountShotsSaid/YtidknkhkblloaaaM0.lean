/-
  The mathematics of lines and counts (layer 9). Conditions: none.
-/
import Derived.Test.YtidknkhkblloaaaT0
namespace Go.Proofs.Ytidknkhkblloaaa
open Go.RowKit
set_option linter.unusedVariables false

/-- A line: shot, cluster, entry. -/
abbrev Ln := Int × Int × En
def secE (e : En) : Prop := e.1 = 2 ∨ e.1 = 3
instance (e : En) : Decidable (secE e) := by unfold secE; exact inferInstance
def lnAt (shot : Int) (T : Tb) (c : Nat) : Option Ln := if secE (atN T c) then some (shot, c, atN T c) else none
def linesTo (shot : Int) (T : Tb) (n : Nat) : List Ln := (List.range n).filterMap (lnAt shot T)
def tabLines (shot : Int) (T : Tb) : List Ln := linesTo shot T (T.length * 8)
def tbNth (S : List Tb) (i : Nat) : Tb := S.getD i []
def shotsTo (S : List Tb) (n : Nat) : List Ln := (List.range n).flatMap fun (i : Nat) => tabLines (i : Int) (tbNth S i)
def allLines (T : Tb) (S : List Tb) : List Ln := tabLines (-1) T ++ shotsTo S S.length
theorem linesTo_zero (shot : Int) (T : Tb) : linesTo shot T 0 = [] := rfl
theorem linesTo_succ (shot : Int) (T : Tb) (n : Nat) : linesTo shot T (n + 1) = linesTo shot T n ++ (lnAt shot T n).toList := by
  unfold linesTo
  rw [List.range_succ, List.filterMap_append]
  cases h : lnAt shot T n <;> simp [h]
theorem linesTo_yes {shot : Int} {T : Tb} {n : Nat} (h : secE (atN T n)) : linesTo shot T (n + 1) = linesTo shot T n ++ [(shot, (n : Int), atN T n)] := by
  rw [linesTo_succ]
  unfold lnAt
  rw [if_pos h]
  rfl
theorem linesTo_no {shot : Int} {T : Tb} {n : Nat} (h : ¬ secE (atN T n)) : linesTo shot T (n + 1) = linesTo shot T n := by
  rw [linesTo_succ]
  unfold lnAt
  rw [if_neg h]
  simp
theorem linesTo_none {shot : Int} {T : Tb} (n : Nat) : ∀ d, (∀ k, n ≤ k → k < n + d → ¬ secE (atN T k)) → linesTo shot T (n + d) = linesTo shot T n
  | 0, _ => rfl
  | d + 1, h => by
    rw [← Nat.add_assoc, linesTo_no (h _ (by omega) (by omega))]
    exact linesTo_none n d fun k h1 h2 => h k h1 (by omega)
theorem linesTo_len (shot : Int) (T : Tb) (n : Nat) : (linesTo shot T n).length ≤ n := by
  have := List.length_filterMap_le (lnAt shot T) (List.range n)
  rwa [List.length_range] at this
theorem linesTo_mem {shot : Int} {T : Tb} {n : Nat} {x : Ln} (h : x ∈ linesTo shot T n) : ∃ c, c < n ∧ secE (atN T c) ∧ x = (shot, (c : Int), atN T c) := by
  obtain ⟨c, hc, hx⟩ := List.mem_filterMap.1 h
  unfold lnAt at hx
  split at hx
  case isTrue hs => exact ⟨c, List.mem_range.1 hc, hs, (Option.some.inj hx).symm⟩
  case isFalse => cases hx
theorem shotsTo_succ (S : List Tb) (n : Nat) : shotsTo S (n + 1) = shotsTo S n ++ tabLines n (tbNth S n) := by
  unfold shotsTo
  rw [List.range_succ, List.flatMap_append]
  simp

/-! ### What an entry of a right table is -/
/-- The bounds of a line that occupies sectors. -/
def LnOk (x : Ln) : Prop := EnOk x.2.2 ∧ (-1 ≤ x.1 ∧ x.1 < 1000) ∧ (0 ≤ x.2.1 ∧ x.2.1 < 100000) ∧ (2 ≤ x.2.2.2.1 ∧ x.2.2.2.1 < 65536) ∧ (1 ≤ x.2.2.2.2.1 ∧ x.2.2.2.2.1 ≤ 64) ∧ x.2.2.2.1 + x.2.2.2.2.1 ≤ 65536
theorem may_sec {e : En} {c : Int} (h : MayE e c) (hs : secE e) : (2 ≤ e.2.1 ∧ e.2.1 < 65536) ∧ (1 ≤ e.2.2.1 ∧ e.2.2.1 ≤ 64) ∧ e.2.1 + e.2.2.1 ≤ 65536 := by
  obtain ⟨k, s, n, z, m⟩ := e
  have hp := pow_le6 h.1
  unfold MayE at h
  unfold secE at hs
  dsimp only at h hs hp ⊢
  omega
theorem right_at {T : Tb} {n c : Int} (h : rightT T n c) {i : Nat} (hs : secE (atN T i)) : MayE (atN T i) c ∧ i < T.length * 8 := by
  have hi : i / 8 < T.length := by
    rcases Nat.lt_or_ge (i / 8) T.length with h' | h'
    · exact h'
    · exfalso
      unfold atN at hs
      rw [tbAt_out h', lfAt_nil] at hs
      unfold secE enZ at hs
      omega
  have hne : tbAt T (i / 8) ≠ [] := fun e => by
    unfold atN at hs
    rw [e, lfAt_nil] at hs
    unfold secE enZ at hs
    omega
  exact ⟨((h.2.2.2.2 _ hi hne).2.1 (i % 8) (by omega)).1, by omega⟩
theorem right_lines {T : Tb} {n c : Int} (h : rightT T n c) (hok : ∀ lf ∈ T, ∀ e ∈ lf, EnOk e) {shot : Int} (hsh : -1 ≤ shot ∧ shot < 1000) : ∀ x ∈ tabLines shot T, LnOk x := fun x hx => by
  obtain ⟨i, hi, hs, rfl⟩ := linesTo_mem hx
  obtain ⟨hm, _⟩ := right_at h hs
  have hl := h.2.2.2.1
  obtain ⟨b1, b2, b3⟩ := may_sec hm hs
  refine ⟨?_, hsh, by dsimp only; omega, b1, b2, b3⟩
  show EnOk (atN T i)
  have hb := hm.bounds
  unfold MayE at hm
  unfold atN at hs ⊢
  unfold lfAt tbAt at hs ⊢
  rw [List.getD_eq_getElem?_getD] at hs ⊢
  cases h1 : T[i / 8]? with
  | none =>
    simp only [List.getD_eq_getElem?_getD, h1] at hs
    simp [secE, enZ] at hs
  | some lf =>
    simp only [List.getD_eq_getElem?_getD, h1, Option.getD_some] at hs ⊢
    cases h2 : lf[i % 8]? with
    | none =>
      rw [h2] at hs
      simp [secE, enZ] at hs
    | some e => exact hok lf (List.mem_of_getElem? h1) e (List.mem_of_getElem? h2)

/-! ### Counts -/
/-- The sectors of an entry. -/
abbrev Sg := Int × Int
def sgOf (x : Ln) : Sg := (x.2.2.2.1, x.2.2.2.2.1)
def onS (x : Sg) (k : Nat) : Int := if x.1 ≤ k ∧ (k : Int) < x.1 + x.2 then 1 else 0
def stS (x : Sg) (k : Nat) : Int := (if x.1 = k then 1 else 0) - (if x.1 + x.2 = k then 1 else 0)
def cntS (L : List Sg) (k : Nat) : Int := (L.map (onS · k)).sum
def stepS (L : List Sg) (k : Nat) : Int := (L.map (stS · k)).sum
def SgOk (x : Sg) : Prop := 0 ≤ x.1 ∧ 1 ≤ x.2
theorem cntS_snoc (L : List Sg) (x : Sg) (k : Nat) : cntS (L ++ [x]) k = cntS L k + onS x k := by simp [cntS]
theorem stepS_snoc (L : List Sg) (x : Sg) (k : Nat) : stepS (L ++ [x]) k = stepS L k + stS x k := by simp [stepS]
theorem cnt_zero : ∀ L : List Sg, (∀ x ∈ L, SgOk x) → cntS L 0 = stepS L 0
  | [], _ => rfl
  | x :: L, h => by
    have h1 := cnt_zero L fun y hy => h y (List.mem_cons_of_mem _ hy)
    obtain ⟨a, b⟩ := h x (List.mem_cons_self ..)
    have e : onS x 0 = stS x 0 := by unfold onS stS; split <;> split <;> split <;> omega
    show onS x 0 + cntS L 0 = stS x 0 + stepS L 0
    rw [h1, e]
theorem cnt_succ (k : Nat) : ∀ L : List Sg, (∀ x ∈ L, SgOk x) → cntS L (k + 1) = cntS L k + stepS L (k + 1)
  | [], _ => rfl
  | x :: L, h => by
    have h1 := cnt_succ k L fun y hy => h y (List.mem_cons_of_mem _ hy)
    obtain ⟨a, b⟩ := h x (List.mem_cons_self ..)
    have e : onS x (k + 1) = onS x k + stS x (k + 1) := by unfold onS stS; split <;> split <;> split <;> split <;> omega
    show onS x (k + 1) + cntS L (k + 1) = (onS x k + cntS L k) + (stS x (k + 1) + stepS L (k + 1))
    rw [h1, e]
    omega
theorem cnt_bound (k : Nat) : ∀ L : List Sg, 0 ≤ cntS L k ∧ cntS L k ≤ L.length
  | [] => ⟨Int.le_refl _, Int.le_refl _⟩
  | x :: L => by
    have h1 := cnt_bound k L
    have e : 0 ≤ onS x k ∧ onS x k ≤ 1 := by unfold onS; split <;> omega
    have : cntS (x :: L) k = onS x k + cntS L k := rfl
    rw [List.length_cons]
    omega
theorem step_bound (k : Nat) : ∀ L : List Sg, -(L.length : Int) ≤ stepS L k ∧ stepS L k ≤ L.length
  | [] => ⟨Int.le_refl _, Int.le_refl _⟩
  | x :: L => by
    have h1 := step_bound k L
    have e : -1 ≤ stS x k ∧ stS x k ≤ 1 := by unfold stS; split <;> split <;> omega
    have : stepS (x :: L) k = stS x k + stepS L k := rfl
    rw [List.length_cons]
    omega
/-- The document's answer: the counts of lines. -/
def ofL (L : List Ln) (k : Nat) : Int := cntS ((0, 2) :: L.map sgOf) k
/-- The sum of the counts. -/
def sumTo (f : Nat → Int) : Nat → Int
  | 0 => 0
  | n + 1 => sumTo f n + f n
theorem sumTo_on (x : Sg) (h : SgOk x) : ∀ n : Nat, sumTo (onS x) n = max 0 (min (n : Int) (x.1 + x.2) - x.1)
  | 0 => by
    obtain ⟨a, b⟩ := h
    show (0 : Int) = _
    omega
  | n + 1 => by
    have h1 := sumTo_on x h n
    obtain ⟨a, b⟩ := h
    show sumTo (onS x) n + onS x n = _
    rw [h1]
    unfold onS
    split <;> omega
theorem sumTo_cnt (n : Nat) : ∀ L : List Sg, (∀ x ∈ L, SgOk x ∧ x.1 + x.2 ≤ n) → sumTo (cntS L) n = (L.map (·.2)).sum
  | [], _ => by
    have : ∀ n, sumTo (cntS []) n = 0 := fun n => by
      induction n with
      | zero => rfl
      | succ n ih => show sumTo (cntS []) n + 0 = 0; rw [ih]; rfl
    rw [this]
    rfl
  | x :: L, h => by
    have h1 := sumTo_cnt n L fun y hy => h y (List.mem_cons_of_mem _ hy)
    obtain ⟨⟨a, b⟩, c⟩ := h x (List.mem_cons_self ..)
    have hx := sumTo_on x ⟨a, b⟩ n
    have e : ∀ n, sumTo (cntS (x :: L)) n = sumTo (onS x) n + sumTo (cntS L) n := fun n => by
      induction n with
      | zero => rfl
      | succ n ih =>
        show sumTo (cntS (x :: L)) n + (onS x n + cntS L n) = (sumTo (onS x) n + onS x n) + (sumTo (cntS L) n + cntS L n)
        rw [ih]
        omega
    rw [e, h1, hx, List.map_cons, List.sum_cons]
    omega
end Go.Proofs.Ytidknkhkblloaaa
