/-
  A disk in memory beside what is not the disk's: what stays when either turns. Conditions: none.
-/
import Derived.Test.YtnhaidofblfopaaA5
namespace Go.Proofs.Ytnhaidofblfopaa
open Go.RowKit

/-- What a call of the disk's leaves: blocks that are not its own stay; its own are old ones of its own, or new. -/
structure Away (S : Nat → Prop) (w : World) (S' : Nat → Prop) (w' : World) : Prop where
  os : w'.os = w.os
  tape : w'.tape = w.tape
  output : w'.output = w.output
  size : w.heap.size ≤ w'.heap.size
  block : ∀ k, k < w.heap.size → ¬ S k → w'.heap[k]? = w.heap[k]?
  mine : ∀ k, S' k → S k ∨ w.heap.size ≤ k
theorem Away.refl (S : Nat → Prop) (w : World) : Away S w S w := ⟨rfl, rfl, rfl, Nat.le_refl _, fun _ _ _ => rfl, fun _ h => Or.inl h⟩
/-- The disk at p is D; all that lay ahead of w0's end stays. -/
structure Has (w0 : World) (p : Addr) (D : Dsk) (w : World) (S : Nat → Prop) : Prop where
  at' : DiskAt w p D S
  low : ∀ k, S k → w0.heap.size ≤ k
  below : Below w0.heap.size w0 w
theorem Has.lt {w0 w : World} {p : Addr} {D : Dsk} {S : Nat → Prop} (h : Has w0 p D w S) : ∀ k, S k → k < w.heap.size := h.at'.lt
theorem Has.later {w0 w w' : World} {p : Addr} {D : Dsk} {S : Nat → Prop} (h : Has w0 p D w S) (hb : Below w.heap.size w w') : Has w0 p D w' S :=
  ⟨h.at'.frame hb.size fun k hk => hb.block k (h.lt k hk), h.low, h.below.trans (hb.mono h.below.size)⟩
theorem Has.alloc {w0 w : World} {p : Addr} {D : Dsk} {S : Nat → Prop} (h : Has w0 p D w S) (o : Obj) : Has w0 p D (w.alloc o) S := h.later ((Below.refl _ _).alloc (Nat.le_refl _) o)
theorem Has.drew {w0 w : World} {p : Addr} {D : Dsk} {S : Nat → Prop} (h : Has w0 p D w S) : Has w0 p D w.drew S := h.later (Below.refl _ _).drew
theorem Has.grown {w0 w w' : World} {p : Addr} {D : Dsk} {S : Nat → Prop} {row : Option Nat} (h : Has w0 p D w S) (hg : w.grownBy w' row) (hr : ∀ k, row = some k → ¬ S k ∧ w0.heap.size ≤ k) : Has w0 p D w' S :=
  ⟨h.at'.frame hg.size fun k hk => hg.block k (h.lt k hk) (fun e => (hr k e.symm).1 hk), h.low, h.below.grown hg h.below.size fun k e => (hr k e).2⟩
theorem Has.set {w0 w : World} {p : Addr} {D : Dsk} {S : Nat → Prop} (h : Has w0 p D w S) {B : Nat} (hB : ¬ S B) (h0 : w0.heap.size ≤ B) (i : Nat) (v : Value) : Has w0 p D (w.setCell ⟨B, i, none⟩ v) S :=
  h.grown (grownBy_setCell4 w B i v) fun k e => by cases e; exact ⟨hB, h0⟩
theorem Has.next {w0 w w' : World} {p : Addr} {D D' : Dsk} {S S' : Nat → Prop} (h : Has w0 p D w S) (ha : Away S w S' w') (hd : DiskAt w' p D' S') : Has w0 p D' w' S' :=
  ⟨hd, fun k hk => by
    rcases ha.mine k hk with h1 | h1
    · exact h.low k h1
    · exact Nat.le_trans h.below.size h1, h.below.trans ⟨ha.os, ha.tape, ha.output, ha.size, fun k hk => ha.block k (Nat.lt_of_lt_of_le hk h.below.size) fun hS => by have := h.low k hS; omega⟩⟩
/-- A new block is not the disk's. -/
theorem Has.fresh {w0 w : World} {p : Addr} {D : Dsk} {S : Nat → Prop} (h : Has w0 p D w S) {B : Nat} (hB : w.heap.size ≤ B ∨ B < w0.heap.size) : ¬ S B := fun hS => by
  have h1 := h.lt B hS
  have h2 := h.low B hS
  omega
theorem Away.far {S S' : Nat → Prop} {w w' : World} (ha : Away S w S' w') {B : Nat} (hB : B < w.heap.size) (h : ¬ S B) : ¬ S' B := fun h' => by
  rcases ha.mine B h' with h1 | h1
  · exact h h1
  · omega
theorem Blk.away {S S' : Nat → Prop} {w w' : World} {B : Nat} {t : TypeId} {cs : Array Value} (h : Blk w B t cs) (hS : ¬ S B) (ha : Away S w S' w') : Blk w' B t cs := (ha.block B h.lt hS).trans h
/-- Bytes that are not the disk's. -/
def Out (S : Nat → Prop) (w : World) (a : Option Addr) (len : Nat) (l : List Int) : Prop := Bytes w a len l ∧ (0 < len → ∀ x, a = some x → x.block < w.heap.size ∧ ¬ S x.block)
theorem Out.away {S S' : Nat → Prop} {w w' : World} {a : Option Addr} {len : Nat} {l : List Int} (h : Out S w a len l) (ha : Away S w S' w') : Out S' w' a len l := by
  obtain ⟨⟨h1, h2, h3⟩, h4⟩ := h
  refine ⟨⟨h1, h2, ?_⟩, fun h0 x hx => ?_⟩
  · rcases h3 with h3 | ⟨b, off, e, hlt, hc⟩
    · exact Or.inl h3
    · by_cases h0 : len = 0
      · exact Or.inl h0
      · obtain ⟨g1, g2⟩ := h4 (by omega) _ e
        exact Or.inr ⟨b, off, e, Nat.lt_of_lt_of_le hlt ha.size, fun i hi => (World.cell?_of_block (ha.block b g1 g2)).trans (hc i hi)⟩
  · obtain ⟨g1, g2⟩ := h4 h0 x hx
    exact ⟨Nat.lt_of_lt_of_le g1 ha.size, ha.far g1 g2⟩
theorem Out.later {S : Nat → Prop} {w w' : World} {a : Option Addr} {len : Nat} {l : List Int} (h : Out S w a len l) (hb : Below w.heap.size w w') : Out S w' a len l :=
  ⟨h.1.later hb, fun h0 x hx => ⟨Nat.lt_of_lt_of_le (h.2 h0 x hx).1 hb.size, (h.2 h0 x hx).2⟩⟩
/-- What came in, and what the call laid ahead of the disk or since, is not the disk's. -/
theorem Has.out {w0 w : World} {p : Addr} {D : Dsk} {S : Nat → Prop} (h : Has w0 p D w S) {a : Option Addr} {len : Nat} {l : List Int} (hB : Bytes w a len l) (hx : 0 < len → ∀ x, a = some x → x.block < w0.heap.size ∨ ¬ S x.block) : Out S w a len l := by
  refine ⟨hB, fun h0 x e => ?_⟩
  obtain ⟨_, _, h3⟩ := hB
  obtain ⟨b, off, e', hlt, _⟩ := h3.resolve_left (by omega)
  rw [e] at e'
  cases e'
  refine ⟨hlt, ?_⟩
  rcases hx h0 _ e with g | g
  · exact h.fresh (Or.inr g)
  · exact g
/-- The result of a call that hands back bytes. -/
def GivesB (w0 : World) (p : Addr) (D : Dsk) (l : List Int) (err : Int) (S : Nat → Prop) (w : World) (e : Ending) (w' : World) : Prop :=
  ∃ a c S', e = .returned (.tuple #[.slice a l.length c, .int .i64 err]) ∧ Out S' w' a l.length l ∧ Has w0 p D w' S' ∧ Away S w S' w'
def Gives (w0 : World) (p : Addr) (D : Dsk) (v : Value) (S : Nat → Prop) (w : World) (e : Ending) (w' : World) : Prop :=
  ∃ S', e = .returned v ∧ Has w0 p D w' S' ∧ Away S w S' w'
theorem GivesB.named {w0 w w' : World} {p : Addr} {D : Dsk} {l : List Int} {err : Int} {S : Nat → Prop} {e : Ending} (h : GivesB w0 p D l err S w e w') {n : Nat} (hn : l.length = n) :
    ∃ a c S', e = .returned (.tuple #[.slice a n c, .int .i64 err]) ∧ Out S' w' a n l ∧ Has w0 p D w' S' ∧ Away S w S' w' := by
  subst hn
  exact h
end Go.Proofs.Ytnhaidofblfopaa
