/-
  A loop over an iterator whose rounds keep all but a box and the row that the box holds (a law of our own). Conditions: the body never leaves the loop.
-/
import Derived.Test.YtidknkhkblloaaaM0
import Derived.RangeFuncNested
import Derived.RangeFuncBound
import Derived.RangeFuncLeaves
import Derived.Shelf.Abstract
import Derived.OwnWalkIn
import Derived.TacticsInMore
import Derived.LoopNIn
import Derived.LoopIn
namespace Go.Proofs.Ytidknkhkblloaaa
open Go.RowKit Go.Shelf
set_option linter.unusedVariables false

/-- The block of the row that box X holds. -/
def ownX (X : Nat) (W : World) : Option Nat := (W.cell? ⟨X, 0, none⟩).bind Value.ownBlock
theorem ownX_is {X : Nat} {W : World} {v : Value} (h : W.cell? ⟨X, 0, none⟩ = some v) : ownX X W = v.ownBlock := by unfold ownX; rw [h]; rfl
theorem ownX_same {X : Nat} {W W' : World} (h : W'.heap[X]? = W.heap[X]?) : ownX X W' = ownX X W := by
  unfold ownX World.cell?
  rw [show W'.heap[(⟨X, 0, none⟩ : Addr).block]? = W.heap[(⟨X, 0, none⟩ : Addr).block]? from h]
/-- All is kept but the box X, the row that it holds, and block l. -/
structure KX (X l : Nat) (W W' : World) : Prop where
  os : W'.os = W.os
  tape : W'.tape = W.tape
  output : W'.output = W.output
  size : W.heap.size ≤ W'.heap.size
  same : ∀ (k : Nat) (o : Obj), W.heap[k]? = some o → k ≠ X → k ≠ l → (o.isCells = false ∨ ownX X W ≠ some k) → W'.heap[k]? = some o
  own : ∀ k, k < W.heap.size → ownX X W ≠ some k → ownX X W' ≠ some k
  fresh : (∀ k, ownX X W = some k → k < W.heap.size) → ∀ k, ownX X W' = some k → k < W'.heap.size
theorem heap_lt {W : World} {k : Nat} {o : Obj} (h : W.heap[k]? = some o) : k < W.heap.size := (Array.getElem?_eq_some_iff.1 h).1
theorem KX.refl (X l : Nat) (W : World) : KX X l W W := ⟨rfl, rfl, rfl, Nat.le_refl _, fun _ _ h _ _ _ => h, fun _ _ h => h, fun h => h⟩
theorem KX.trans {X l : Nat} {A B C : World} (h : KX X l A B) (k : KX X l B C) : KX X l A C :=
  ⟨k.os.trans h.os, k.tape.trans h.tape, k.output.trans h.output, Nat.le_trans h.size k.size,
    fun i o hi h1 h2 h3 => k.same i o (h.same i o hi h1 h2 h3) h1 h2 (h3.imp id fun h4 => h.own i (heap_lt hi) h4),
    fun i hi h1 => k.own i (Nat.lt_of_lt_of_le hi h.size) (h.own i hi h1), fun h1 => k.fresh (h.fresh h1)⟩
theorem KX.at {X l : Nat} {W W' : World} (h : KX X X W W') : KX X l W W' := ⟨h.os, h.tape, h.output, h.size, fun k o h1 h2 _ h3 => h.same k o h1 h2 h2 h3, h.own, h.fresh⟩
/-- A step that turns one row: that of the box, or none. -/
theorem KX.grown {X l : Nat} {W W' : World} {row : Option Nat} (hX : X < W.heap.size) (hg : W.grownBy W' row) (hr : row = none ∨ row = ownX X W) (hne : row ≠ some X) (hc : ∀ k o, row = some k → W.heap[k]? = some o → o.isCells = true) : KX X l W W' := by
  have e : ownX X W' = ownX X W := ownX_same (hg.block X hX fun e => hne e.symm)
  refine ⟨hg.os, hg.tape, hg.output, hg.size, fun k o hk h1 h2 h3 => ?_, fun k hk h1 => by rw [e]; exact h1, fun h k hk => by rw [e] at hk; exact Nat.lt_of_lt_of_le (h k hk) hg.size⟩
  refine (hg.block k (heap_lt hk) fun e' => ?_).trans hk
  rcases h3 with h3 | h3
  · have := hc k o e'.symm hk
    rw [h3] at this
    cases this
  · rcases hr with hr | hr
    · rw [hr] at e'
      cases e'
    · exact h3 (hr.symm.trans e'.symm)
theorem KX.putObj {X l : Nat} {W : World} (o : Obj) (hX : X ≠ l) : KX X l W (W.putObj l o) := by
  have e : ownX X (W.putObj l o) = ownX X W := ownX_same (World.putObj_heap_other hX)
  exact ⟨rfl, rfl, rfl, by simp, fun k o' hk h1 h2 h3 => (World.putObj_heap_other h2).trans hk, fun k _ h => by rw [e]; exact h, fun h k hk => by rw [e] at hk; simpa using h k hk⟩
theorem KX.alloc {X l : Nat} {W : World} (hX : X < W.heap.size) (o : Obj) : KX X l W (W.alloc o) := KX.grown hX (World.grownBy_alloc W o none) (Or.inl rfl) (by simp) (fun _ _ e => by cases e)
theorem KX.below {X l : Nat} {W W' : World} (hX : X < W.heap.size) (h : Below W.heap.size W W') : KX X l W W' := KX.grown hX (grown_of_below h) (Or.inl rfl) (by simp) (fun _ _ e => by cases e)
/-- A store into the box, of the row or of one that is new. -/
theorem KX.store {X l : Nat} {W : World} {v' : Value} (hc : ∃ v, W.cell? ⟨X, 0, none⟩ = some v) (hv : v'.ownBlock = ownX X W ∨ False) : KX X l W (W.setCell ⟨X, 0, none⟩ v') := by
  obtain ⟨v, hc⟩ := hc
  have e : ownX X (W.setCell ⟨X, 0, none⟩ v') = v'.ownBlock := ownX_is (World.cell?_setCell_same' _ _ _ (by rw [hc]; rfl))
  replace hv := hv.resolve_right id
  exact ⟨rfl, rfl, rfl, by simp [World.setCell], fun k o hk h1 h2 h3 => (Below.heap_setCell _ _ _ _ h1).trans hk, fun k hk h1 => by rw [e, hv]; exact h1,
    fun h k hk => by rw [e, hv] at hk; have := h k hk; simpa [World.setCell] using this⟩
/-- An append into the row that the box holds, stored back. -/
theorem KX.append {X l : Nat} {W W1 : World} {v v' : Value} (hX : X < W.heap.size) (hcell : W.cell? ⟨X, 0, none⟩ = some v) (hg : W.grownBy W1 v.ownBlock) (hne : v.ownBlock ≠ some X)
    (hc : ∀ k o, v.ownBlock = some k → W.heap[k]? = some o → o.isCells = true) (hv : v'.ownBlock = v.ownBlock ∨ ∃ k, v'.ownBlock = some k ∧ W.heap.size ≤ k) (hlt : ∀ k, v'.ownBlock = some k → k < W1.heap.size) :
    KX X l W (W1.setCell ⟨X, 0, none⟩ v') := by
  have e0 := ownX_is hcell
  have hb1 : W1.heap[X]? = W.heap[X]? := hg.block X hX fun e => hne e.symm
  have hc1 : W1.cell? ⟨X, 0, none⟩ = some v := by
    rw [← hcell]
    unfold World.cell?
    rw [show W1.heap[(⟨X, 0, none⟩ : Addr).block]? = W.heap[(⟨X, 0, none⟩ : Addr).block]? from hb1]
  have e : ownX X (W1.setCell ⟨X, 0, none⟩ v') = v'.ownBlock := ownX_is (World.cell?_setCell_same' _ _ _ (by rw [hc1]; rfl))
  refine ⟨hg.os, hg.tape, hg.output, by simpa [World.setCell] using hg.size, fun k o hk h1 h2 h3 => ?_, fun k hk h1 => ?_, fun h k hk => ?_⟩
  · refine (Below.heap_setCell _ _ _ _ h1).trans ((hg.block k (heap_lt hk) fun e' => ?_).trans hk)
    rcases h3 with h3 | h3
    · have := hc k o e'.symm hk
      rw [h3] at this
      cases this
    · exact h3 (e0.trans e'.symm)
  · rw [e]
    rcases hv with hv | ⟨k', hk', hle⟩
    · rw [hv, ← e0]
      exact h1
    · rw [hk']
      intro e'
      cases e'
      omega
  · rw [e] at hk
    have := hlt k hk
    simpa [World.setCell] using this

/-- An iterator that hands over whatever S says, if no round says 'no more'. -/
def SeqX {α : Type} (P : Program) (g : Nat) (lb : Array Value) (encs : α → Array Value) (Kp : World → World → Prop) (S : List α → Prop) (N : Nat) (w : World) : Prop :=
  ∀ (l : Nat) (J : List α → World → Prop) (W : World), Hid (l = w.heap.size + 1) → Below w.heap.size w W → w.heap.size + 2 ≤ W.heap.size → OwnFrom W.heap.size J →
    (∀ pre x W1, J pre W1 → pre.length < N → YieldAt Fence.wide 7 P l (encs x) W1 fun e W' => e = .returned (.bool true) ∧ J (pre ++ [x]) W' ∧ Kp W1 W') → J [] W →
    CallsIn Fence.wide 8 P g (#[.func (.yield l) #[] #[]] ++ lb) W fun e W' => (∃ v, e = .returned v) ∧ ∃ xs, S xs ∧ J xs W'
/-- The loop: what is owed of the assignment and the body alone. -/
theorem range_x {P : Program} {α : Type} {g : Operand} {ps : Array Tmp} {assign body : Code} {Q : Exit → Act → World → Prop} {a : Act} {w : World} (X : Nat) (hX : X < w.heap.size)
    {gf : Nat} {lb : Array Value} (hg : a.eval g = .func (.func gf) #[] lb) (eg : ∀ args w, (callFunc gf args).run P w = .ok (.enter gf args) w)
    {encs : α → Array Value} {S : List α → Prop} {N : Nat} (hseq : SeqX P gf lb encs (KX X (w.heap.size + 1)) S N w) (hps : ∀ x, (encs x).size = ps.size)
    (I : List α → World → Prop) (hI : OwnFrom w.heap.size I) (h0 : I [] w) (Ax : α → Act → World → Prop) (hAx : ∀ x a', OwnFrom w.heap.size (fun (_ : Unit) W => Ax x a' W))
    (hassign : ∀ (F : Fence) (l : Nat) (pre : List α) (x : α) (W : World) (K : Act → World → Prop), Hid (F = Fence.wide) → F.round = none → I pre W → w.heap.size ≤ W.heap.size → (∀ a' W', KX X X W W' → I pre W' → Ax x a' W' → K a' W') →
      assign.wpIn (F.inRound l) 7 P (Exit.then K (fun _ _ _ => False)) { tmps := (ps.zip (encs x)).foldl (fun t (p, v) => t.setIfInBounds p v) a.tmps, defers := [] } W)
    (hbody : ∀ (F : Fence) (l : Nat) (pre : List α) (x : α) (a' : Act) (W : World), Hid (F = Fence.wide) → F.round = none → I pre W → w.heap.size ≤ W.heap.size → Ax x a' W → pre.length < N →
      body.wpIn (F.inRound l) 7 P (fun e _ W' => e = .normal ∧ KX X X W W' ∧ I (pre ++ [x]) W') a' W)
    (hdone : ∀ (D : Nat) (xs : List α) (W : World), w.heap.size ≤ D → S xs → I xs W → W.heap[D]? = some (.deferred (some [])) → Q .normal { a with defers := { target := .collected D, args := #[] } :: a.defers } W) :
    (Code.rangeFunc g ps assign body).wp P Q a w := by
  refine (wpIn_wide (n := 9)).1 (wpIn_rangeFunc ?_)
  intro fn _
  obtain ⟨B, hB⟩ : ∃ B, w.heap.size = B := ⟨_, rfl⟩
  obtain ⟨rec, hrec⟩ : ∃ rec : LoopState → Loop, rec = fun st => { state := st, pending := none, fn, tmps := a.tmps, params := ps, assign, body, defers := B } := ⟨_, rfl⟩
  obtain ⟨W1, hW1⟩ : ∃ W1, (w.alloc (.deferred (some []))).alloc (.loop (rec .ready)) = W1 := ⟨_, rfl⟩
  have hL1 : W1.heap[B + 1]? = some (.loop (rec .ready)) := by
    rw [← hW1, ← hB]
    have := World.alloc_heap_new (w.alloc (.deferred (some []))) (.loop (rec .ready))
    rwa [World.size_alloc] at this
  have hK1 : W1.heap[B]? = some (.deferred (some [])) := by
    rw [← hW1, ← hB]
    exact (Below.heap_alloc _ _ _ (by simp)).trans (World.alloc_heap_new w _)
  have hI1 : I [] W1 := by
    rw [← hW1]
    exact hI.alloc _ (hI.alloc _ h0)
  have hb1 : Below w.heap.size w W1 := by
    rw [← hW1]
    exact ((Below.refl _ w).alloc (Nat.le_refl _) _).alloc (by simp) _
  have hent : (Instr.enterLoop fn a.tmps ps assign body Fence.wide.round).run P w = .ok (w.heap.size + 1, [{ target := .collected w.heap.size, args := #[] }]) W1 := by
    rw [← hW1, hrec, ← hB]
    exact run_enterLoop_outer _ _ _ _ _
  refine ⟨w.heap.size + 1, _, W1, { target := .fn (.func gf) lb, args := #[.func (.yield (w.heap.size + 1)) #[] #[]] }, W1, gf, #[.func (.yield (w.heap.size + 1)) #[] #[]] ++ lb, W1, hent, ?_, fun _ _ => trivial, ?_, fun _ => by omega, ?_⟩
  · simp only [resolve, hg]
    simp [go_sem]
  · simp [invoke, go_sem, eg]
  · rw [hB] at hseq hX hI hAx hassign hbody hdone hb1 ⊢
    have nw : ∀ {A : World} {row : Option Nat}, (∀ r, row = some r → W1.heap.size ≤ r ∧ ∃ o : Obj, A.heap[r]? = some o ∧ o.isCells = false) → ∀ r, row = some r → B ≤ r ∧ ∃ o : Obj, A.heap[r]? = some o ∧ o.isCells = false := fun h r e => by
      obtain ⟨h1, h2⟩ := h r e
      have := hb1.size
      exact ⟨by omega, h2⟩
    have hs1 : W1.heap.size = B + 2 := by rw [← hW1, World.size_alloc, World.size_alloc, hB]
    have mid : ∀ {A C : World} {row : Option Nat} {k : Nat} {o : Obj}, A.grownBy C row → (∀ r, row = some r → W1.heap.size ≤ r ∧ ∃ o : Obj, A.heap[r]? = some o ∧ o.isCells = false) → A.heap[k]? = some o → k < B + 2 → C.heap[k]? = some o := fun hg h hk ho =>
      (hg.block _ (heap_lt hk) (fun e => by have := (h _ e.symm).1; omega)).trans hk
    refine (hseq (B + 1) (fun pre W => I pre W ∧ W.heap[B + 1]? = some (.loop (rec .ready)) ∧ W.heap[B]? = some (.deferred (some []))) W1 (by rw [hB]; exact rfl) (by rw [hB]; exact hb1) (by omega)
      (fun s A C row hs hg' hr => ⟨hI s A C row hs.1 hg' (nw hr), mid hg' hr hs.2.1 (by omega), mid hg' hr hs.2.2 (by omega)⟩) ?_ ⟨hI1, hL1, hK1⟩).mono ?_
    · rintro pre x W ⟨hi, hl, hk⟩ hlen
      have hlt := heap_lt hl
      have hy := run_yield (P := P) (args := encs x) hl (by rw [hrec]; exact hps x)
      refine ⟨_, _, _, _, hy, roundIn_of_wpIn trivial ?_⟩
      have hfn : (rec .ready).fn = fn := by rw [hrec]
      have htm : (rec .ready).tmps = a.tmps := by rw [hrec]
      have hpa : (rec .ready).params = ps := by rw [hrec]
      have has : (rec .ready).assign = assign := by rw [hrec]
      have hbo : (rec .ready).body = body := by rw [hrec]
      rw [htm, hpa, has, hbo]
      refine hassign Fence.wide (B + 1) pre x W _ rfl rfl hi (by omega) ?_
      · intro a' Wa kxa hia hax
        have hla := kxa.same _ _ hl (by omega) (by omega) (Or.inl rfl)
        have hka := kxa.same _ _ hk (by omega) (by omega) (Or.inl rfl)
        obtain ⟨busy, hbusy⟩ : ∃ o : Loop, { rec .ready with state := .busy } = o := ⟨_, rfl⟩
        have hbr := run_beginRound (P := P) hla (by rw [hrec])
        rw [hbusy] at hbr
        refine ⟨_, hbr, ?_⟩
        have hlb : (Wa.putObj (B + 1) (.loop busy)).heap[B + 1]? = some (.loop busy) := World.putObj_heap_same (heap_lt hla)
        have hkb : (Wa.putObj (B + 1) (.loop busy)).heap[B]? = some (.deferred (some [])) := (World.putObj_heap_other (by omega)).trans hka
        have hsz := kxa.size
        refine wpIn_mono (hbody Fence.wide (B + 1) pre x a' _ rfl rfl (hI.putObj _ hia (by omega) hla rfl) (by simp; omega) ((hAx x a').putObj (s := ()) _ hax (by omega) hla rfl) hlen) ?_
        rintro e a3 Wc ⟨rfl, kxb, hic⟩
        have hlc := kxb.same _ _ hlb (by omega) (by omega) (Or.inl rfl)
        have hkc := kxb.same _ _ hkb (by omega) (by omega) (Or.inl rfl)
        have hend := run_endRound (P := P) none hlc
        have hst : ({ busy with state := if (none : Option Code).isNone = true then LoopState.ready else LoopState.done, pending := none } : Loop) = rec .ready := by
          rw [← hbusy, hrec]
          rfl
        rw [hst] at hend
        refine ⟨_, _, hend, ⟨rfl, ⟨hI.putObj _ hic (by omega) hlc rfl, World.putObj_heap_same (heap_lt hlc), (World.putObj_heap_other (by omega)).trans hkc⟩, ?_⟩⟩
        exact (kxa.at.trans (KX.putObj _ (by omega))).trans (kxb.at.trans (KX.putObj _ (by omega)))
    · rintro e W2 ⟨⟨v, rfl⟩, xs, hS, hi, hl, hk⟩
      have hend := run_endLoop (P := P) hl (by rw [hrec]; simp)
      have hp : (rec .ready).pending = none := by rw [hrec]
      rw [hp] at hend
      exact ⟨none, _, hend, hdone B xs _ (Nat.le_refl _) hS (hI.putObj _ hi (by omega) hl rfl) ((World.putObj_heap_other (by omega)).trans hk)⟩
end Go.Proofs.Ytidknkhkblloaaa
