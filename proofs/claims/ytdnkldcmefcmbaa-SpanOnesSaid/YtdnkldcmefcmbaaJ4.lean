/-
  Plain mathematics of numbers that are added one by one and taken away one by one (SpanOnes), and the row of flags beside them. Conditions: numbers from 0 to 255.
-/
import Derived.Test.YtdnkldcmefcmbaaO4
namespace Go.Proofs.Ytdnkldcmefcmbaa
open Go.RowKit

/-- Is n among the first k numbers? -/
def seenB (f : Nat → Int) : Nat → Int → Bool
  | 0, _ => false
  | k + 1, n => seenB f k n || decide (f k = n)
theorem seenB_of (f : Nat → Int) {i : Nat} : ∀ {k : Nat}, i < k → seenB f k (f i) = true
  | 0, h => by omega
  | k + 1, h => by
    unfold seenB
    by_cases e : i = k
    · rw [e]; simp
    · rw [seenB_of f (show i < k by omega)]; rfl
/-- The numbers one by one. -/
def onesTo (f : Nat → Int) : Nat → List Sp
  | 0 => []
  | k + 1 => addL (onesTo f k) (f k, f k + 1)
def lessTo (L : List Sp) (f : Nat → Int) : Nat → List Sp
  | 0 => L
  | k + 1 => subL (lessTo L f k) (f k, f k + 1)
theorem onesTo_right (f : Nat → Int) : ∀ k, Rt (-1) (onesTo f k)
  | 0 => trivial
  | _ + 1 => addL_right _ _
theorem lessTo_right {L : List Sp} (h : Rt (-1) L) (f : Nat → Int) : ∀ k, Rt (-1) (lessTo L f k)
  | 0 => h
  | _ + 1 => subL_right _ _
theorem may_one {c : Int} (h : 0 ≤ c ∧ c < 256) : mayB (c, c + 1) = true := (mayB_iff _).2 ⟨h.1, by show c < c + 1; omega, by show c + 1 ≤ 1073741824; omega⟩
theorem ones_has {f : Nat → Int} : ∀ k, (∀ i, i < k → 0 ≤ f i ∧ f i < 256) → ∀ n, hasB (onesTo f k) n = seenB f k n
  | 0, _, n => rfl
  | k + 1, h, n => by
    have ih := ones_has k (fun i hi => h i (by omega)) n
    have h1 := has_addL (onesTo_right f k) (f k, f k + 1) (may_one (h k (by omega))) n
    unfold seenB
    rw [← ih]
    have h2 : (f k ≤ n ∧ n < f k + 1) ↔ f k = n := by omega
    rw [Bool.eq_iff_iff, Bool.or_eq_true, decide_eq_true_eq, ← h2]
    exact h1
theorem less_has {L : List Sp} (hL : Rt (-1) L) {f : Nat → Int} : ∀ k, (∀ i, i < k → 0 ≤ f i ∧ f i < 256) → ∀ n, hasB (lessTo L f k) n = true ↔ hasB L n = true ∧ seenB f k n = false
  | 0, _, n => by simp [lessTo, seenB]
  | k + 1, h, n => by
    have h2 : (f k ≤ n ∧ n < f k + 1) ↔ f k = n := by omega
    have h1 := has_subL (lessTo_right hL f k) (f k, f k + 1) (may_one (h k (by omega))) n
    unfold lessTo
    rw [h1, less_has hL k (fun i hi => h i (by omega)) n, seenB, Bool.or_eq_false_iff, decide_eq_false_iff_not]
    rw [show ((f k, f k + 1) : Sp).1 = f k from rfl, show ((f k, f k + 1) : Sp).2 = f k + 1 from rfl, h2, and_assoc]
theorem ones_low {f : Nat → Int} (k : Nat) (h : ∀ i, i < k → 0 ≤ f i ∧ f i < 256) : ∀ n, inL (onesTo f k) n → n < 256 := fun n hn => by
  have h1 := (hasB_iff _ _).2 hn
  rw [ones_has k h] at h1
  clear hn
  induction k with
  | zero => cases h1
  | succ k ih =>
    unfold seenB at h1
    rw [Bool.or_eq_true] at h1
    rcases h1 with g | g
    · exact ih (fun i hi => h i (by omega)) g
    · have := h k (by omega)
      have := of_decide_eq_true g
      omega
/-- All taken away: nothing is left. -/
theorem less_all {f : Nat → Int} (N : Nat) (h : ∀ i, i < N → 0 ≤ f i ∧ f i < 256) : lessTo (onesTo f N) f N = [] := by
  refine same_list (lo := -1) (lo' := -1) _ [] (lessTo_right (onesTo_right f N) f N) trivial fun n => ⟨fun hn => ?_, fun hn => absurd hn (inL_nil n)⟩
  have h1 := (less_has (onesTo_right f N) N h n).1 ((hasB_iff _ _).2 hn)
  rw [ones_has N h, h1.2] at h1
  exact absurd h1.1 Bool.false_ne_true
theorem cnt_more {L : List Sp} (hL : Rt (-1) L) {c : Nat} (hc : c < 256) : ∀ K : Nat, cnt (addL L ((c : Int), (c : Int) + 1)) K = cnt L K + if c < K ∧ hasB L (c : Int) = false then 1 else 0
  | 0 => by simp [cnt]
  | K + 1 => by
    have ih := cnt_more hL hc K
    have h1 := has_addL hL ((c : Int), (c : Int) + 1) (may_one ⟨by omega, by omega⟩) (K : Int)
    have h2 : ((c : Int) ≤ (K : Int) ∧ (K : Int) < (c : Int) + 1) ↔ c = K := by omega
    have h3 : hasB (addL L ((c : Int), (c : Int) + 1)) (K : Int) = true ↔ hasB L (K : Int) = true ∨ c = K := by rw [← h2]; exact h1
    simp only [cnt]
    rw [ih]
    by_cases e : c = K
    · subst e
      have h4 := h3.2 (Or.inr rfl)
      cases hx : hasB L (c : Int) <;> simp [h4]
    · have h5 : hasB (addL L ((c : Int), (c : Int) + 1)) (K : Int) = hasB L (K : Int) := by
        rw [Bool.eq_iff_iff, h3]
        exact ⟨fun g => g.resolve_right e, Or.inl⟩
      rw [h5]
      by_cases g : c < K
      · cases hx : hasB L (c : Int) <;> simp [g, show c < K + 1 by omega] <;> omega
      · simp [g, show ¬ c < K + 1 by omega]
/-- How many, one by one. -/
theorem ones_sum {f : Nat → Int} (k : Nat) (h : ∀ i, i < k + 1 → 0 ≤ f i ∧ f i < 256) : sumL (onesTo f (k + 1)) = sumL (onesTo f k) + if seenB f k (f k) = true then 0 else 1 := by
  have e1 := cnt_sum _ (onesTo_right f (k + 1)) (by omega) 256 (ones_low (k + 1) h)
  have e2 := cnt_sum _ (onesTo_right f k) (by omega) 256 (ones_low k (fun i hi => h i (by omega)))
  have hk := h k (by omega)
  obtain ⟨c, hc⟩ : ∃ c : Nat, f k = (c : Int) := ⟨(f k).toNat, by omega⟩
  have e3 := cnt_more (onesTo_right f k) (c := c) (by omega) 256
  rw [← hc] at e3
  have e4 := ones_has k (fun i hi => h i (by omega)) (f k)
  have e5 : cnt (onesTo f (k + 1)) 256 = cnt (onesTo f k) 256 + if c < 256 ∧ hasB (onesTo f k) (f k) = false then 1 else 0 := e3
  rw [e4] at e5
  rw [← e1, ← e2, e5]
  cases seenB f k (f k) <;> simp [show c < 256 by omega]
/-- A row of 256 flags at block B, which may be written. -/
def Flags (w : World) (B : Nat) (g : Int → Bool) : Prop := ∀ i : Nat, i < 256 → w.cell? ⟨B, i, none⟩ = some (.bool (g i)) ∧ w.frozen? ⟨B, i, none⟩ = false
theorem Flags.later {w w' : World} {B : Nat} {g : Int → Bool} (h : Flags w B g) (hb : Below w.heap.size w w') : Flags w' B g := fun i hi => by
  have hlt := block_lt_of_cell (h i hi).1
  exact ⟨(hb.cell (p := ⟨B, i, none⟩) hlt).trans (h i hi).1, (hb.frozen (p := ⟨B, i, none⟩) hlt).trans (h i hi).2⟩
theorem Flags.put {w : World} {B : Nat} {g : Int → Bool} (h : Flags w B g) {c : Nat} (hc : c < 256) : Flags (w.setCell ⟨B, c, none⟩ (.bool true)) B (fun n => g n || decide ((c : Int) = n)) := fun i hi => by
  have h1 := (h i hi).1
  have h2 := (h c hc).1
  by_cases e : i = c
  · subst e
    refine ⟨?_, by simpa [go_sem] using (h i hi).2⟩
    simp [go_sem, h1]
  · refine ⟨?_, by simpa [go_sem] using (h i hi).2⟩
    have : ((c : Int) = (i : Int)) = False := by simp; omega
    simp [go_sem, h1, this]
theorem seen_step (f : Nat → Int) (k : Nat) {c : Nat} (h : f k = (c : Int)) : (fun n => seenB f k n || decide ((c : Int) = n)) = seenB f (k + 1) := by
  funext n
  rw [seenB, h]
/-- 256 flags, all down. -/
def falses : Array Value := Array.replicate 256 (.bool false)
theorem zero256 (w : World) : (zeroValue 53).run Try.prog w = .ok (.agg falses) w := by kernel_rfl
theorem Flags.start (w : World) (f : Nat → Int) : Flags (w.alloc (.cells falses 53)) w.heap.size (seenB f 0) := fun i hi => by
  have hg := heap_alloc_new w (.cells falses 53)
  refine ⟨?_, ?_⟩
  · rw [cell_of_row _ w.heap.size i _ _ _ hg]
    simp [falses, seenB, hi]
  · unfold World.frozen?
    rw [hg]
    simp
/-- What is held: nothing that was there has turned, the spans, the flags. -/
def Ones (w0 : World) (x : Option Addr) (n : Nat) (L : List Sp) (B : Nat) (g : Int → Bool) (w : World) : Prop := Below w0.heap.size w0 w ∧ Spans w x n L ∧ Flags w B g
theorem Ones.later {w0 : World} {x : Option Addr} {n : Nat} {L : List Sp} {B : Nat} {g : Int → Bool} {w w' : World} (h : Ones w0 x n L B g w) (hb : Below w.heap.size w w') : Ones w0 x n L B g w' := ⟨h.1.trans (hb.mono h.1.size), h.2.1.later hb, h.2.2.later hb⟩
theorem Ones.drew {w0 : World} {x : Option Addr} {n : Nat} {L : List Sp} {B : Nat} {g : Int → Bool} {w : World} (h : Ones w0 x n L B g w) : Ones w0 x n L B g w.drew := h.later (Below.refl _ _).drew
theorem Ones.old {w0 : World} {x : Option Addr} {n : Nat} {L : List Sp} {B : Nat} {g : Int → Bool} {w : World} (h : Ones w0 x n L B g w) {p : Addr} {v : Value} (hc : w0.cell? p = some v) : w.cell? p = some v ∧ Ones w0 x n L B g w := ⟨(h.1.cell (block_lt_of_cell hc)).trans hc, h⟩
theorem Ones.flag {w0 : World} {x : Option Addr} {n : Nat} {L : List Sp} {B : Nat} {g : Int → Bool} {w : World} (h : Ones w0 x n L B g w) {i : Nat} (hi : i < 256) {b : Bool} (hb : g i = b) : w.cell? ⟨B, i, none⟩ = some (.bool b) ∧ Ones w0 x n L B g w := by
  subst hb
  exact ⟨(h.2.2 i hi).1, h⟩
theorem Ones.call {w0 : World} {x : Option Addr} {n : Nat} {L : List Sp} {B : Nat} {g : Int → Bool} {w : World} {q : Prop} {L2 : List Sp} {n2 : Nat} {fn : FuncId} {args : Array Value} (hn : L2.length = n2) (hc : Spans w x n L → Calls Try.prog fn args w (SpPost w L2)) (h : q ∧ Ones w0 x n L B g w) :
    Calls Try.prog fn args w fun e w' => ∃ x2 c2, e = .returned (.slice x2 n2 c2) ∧ ((x2 = none → c2 = 0) ∧ n2 ≤ c2) ∧ Ones w0 x2 n2 L2 B g w' ∧ Ones w0 x n L B g w' := (hc h.2.2.1).mono fun _ _ hp => by
  obtain ⟨x2, c2, rfl, hx, hn2, hb⟩ := hp.named hn
  have h2 := h.2.later hb
  exact ⟨x2, c2, rfl, hn2, ⟨h2.1, hx, h2.2.2⟩, h2⟩
theorem Ones.val {w0 : World} {x : Option Addr} {n : Nat} {L : List Sp} {B : Nat} {g : Int → Bool} {w : World} {q : Prop} {v : Value} {fn : FuncId} {args : Array Value} (hc : Spans w x n L → Calls Try.prog fn args w fun e w' => e = .returned v ∧ Below w.heap.size w w') (h : q ∧ Ones w0 x n L B g w) :
    Calls Try.prog fn args w fun e w' => e = .returned v ∧ Ones w0 x n L B g w' := (hc h.2.2.1).mono fun _ _ ⟨he, hb⟩ => ⟨he, h.2.later hb⟩
theorem flat_int : ∀ (L : List Sp) (v : Value), v ∈ L.flatMap spCells → ∀ b, v ≠ .bool b
  | [], v, h, b => by simp at h
  | s :: L, v, h, b => by
    rw [List.flatMap_cons, List.mem_append] at h
    rcases h with h | h
    · simp only [spCells, List.mem_cons, List.not_mem_nil, or_false] at h
      rcases h with rfl | rfl <;> (intro e; cases e)
    · exact flat_int L v h b
/-- A flag is put up. -/
theorem Ones.put {w0 : World} {x : Option Addr} {n : Nat} {L : List Sp} {B : Nat} {g : Int → Bool} {w : World} (h : Ones w0 x n L B g w) (hB : w0.heap.size ≤ B) {c : Nat} (hc : c < 256) : Ones w0 x n L B (fun n => g n || decide ((c : Int) = n)) (w.setCell ⟨B, c, none⟩ (.bool true)) := by
  refine ⟨h.1.setCell hB _, ?_, h.2.2.put hc⟩
  obtain ⟨h1, h2, h3⟩ := h.2.1
  refine ⟨h1, h2, ?_⟩
  rcases h3 with h3 | ⟨b, off, ha, hlt, hv⟩
  · exact Or.inl h3
  · refine Or.inr ⟨b, off, ha, by simpa [World.setCell] using hlt, fun i v hi => ?_⟩
    have h4 := hv i v hi
    have h5 := (h.2.2 c hc).1
    by_cases e : b = B ∧ off + i = c
    · obtain ⟨rfl, rfl⟩ := e
      rw [h4] at h5
      cases h5
      exact absurd rfl (flat_int L _ (List.mem_of_getElem? hi) _)
    · rw [← h4]
      by_cases e1 : b = B
      · subst e1
        have _e2 : ¬ off + i = c := fun e2 => e ⟨rfl, e2⟩
        simp [go_sem]
      · exact World.cell?_of_block (Below.heap_setCell _ _ _ _ e1)
end Go.Proofs.Ytdnkldcmefcmbaa
