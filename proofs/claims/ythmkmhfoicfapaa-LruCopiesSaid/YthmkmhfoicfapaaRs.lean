/-
  Two pairs of caches beside one another; what was told, spoilt (layer 10). Conditions: both as they lie.
-/
import Derived.Test.YthmkmhfoicfapaaRr
namespace Go.Proofs.Ythmkmhfoicfapaa
open Go.RowKit
set_option linter.unusedVariables false

theorem Bo.away {w0 w w' : World} {p : Addr} {B : Nat} {C : Lru} {D : RC} {S T T' : Nat → Prop} (h : Bo w0 p B C D S w) (ha : Away T w T' w') (hT : ∀ k, S k → ¬ T k) (hl : ∀ k, T k → w0.heap.size ≤ k) : Bo w0 p B C D S w' :=
  h.frame (fun k hk => ha.block k (h.lt k hk) (hT k hk)) (h.below.trans ⟨ha.os, ha.tape, ha.output, ha.size, fun k hk => ha.block k (Nat.lt_of_lt_of_le hk h.below.size) fun hs => by have := hl k hs; omega⟩)
theorem Bo.set {w0 w : World} {p : Addr} {B : Nat} {C : Lru} {D : RC} {S : Nat → Prop} (h : Bo w0 p B C D S w) {b : Nat} (hS : ¬ S b) (hb : w0.heap.size ≤ b) (i : Nat) (u : Value) : Bo w0 p B C D S (w.setCell ⟨b, i, none⟩ u) :=
  h.frame (fun k hk => Below.heap_setCell w ⟨b, i, none⟩ u k (fun e => hS (by rw [show k = b from e] at hk; exact hk))) (h.below.setCell hb u)
/-- Two pairs. -/
structure Qd (w0 : World) (p : Addr) (R j : Nat) (C : Lru) (D : RC) (S : Nat → Prop) (p2 : Addr) (R2 j2 : Nat) (C2 : Lru) (D2 : RC) (w : World) : Prop where
  two : Tw w0 p R j C D S w
  more : ∃ T, Tw w0 p2 R2 j2 C2 D2 T w ∧ ∀ k, S k → ¬ T k
theorem Qd.step {w0 w w' : World} {p p2 : Addr} {R R2 j j2 j3 : Nat} {C C3 : Lru} {D D3 : RC} {S T T' : Nat → Prop} {C2 : Lru} {D2 : RC} (h : Tw w0 p R j C D S w) (ht : Tw w0 p2 R2 j2 C2 D2 T w) (hd : ∀ k, S k → ¬ T k) (h2 : Tw w0 p2 R2 j3 C3 D3 T' w') (ha : Away T w T' w') : Qd w0 p R j C D S p2 R2 j3 C3 D3 w' :=
  ⟨⟨h.bo.away ha hd ht.bo.low, h.sim, h.few, h.uses⟩, T', h2, fun k hk hk' => by
    rcases ha.mine k hk' with h1 | h1
    · exact hd k hk h1
    · have := h.bo.lt k hk
      omega⟩
theorem copyBoth {w0 w : World} {p : Addr} {R j : Nat} {C : Lru} {D : RC} {S : Nat → Prop} (h : Tw w0 p R j C D S w) : Calls Try.prog 23 #[.pointer (some p)] w fun e w1 => ∃ p2, e = .returned (.pointer (some p2)) ∧
    Calls Try.prog 24 #[.pointer (some ⟨R, 0, none⟩)] w1 fun e w2 => ∃ R2, e = .returned (.pointer (some ⟨R2, 0, none⟩)) ∧ Qd w0 p R j C D S p2 R2 j C D w2 := by
  obtain ⟨S1, S2, h1, h2, h3, h4⟩ := h.bo.two
  obtain ⟨vL, vR, LM, hin, rfl⟩ := h2.at'
  refine (copy_any h1.at').mono fun e w1 ⟨p2, S3, e1, q1, q2, q3⟩ => ⟨p2, e1, ?_⟩
  have hok := h1.ok
  have hits : ∀ x ∈ LM, x.1.bs.length ≤ 1000 := fun x hx => by
    obtain ⟨it, hm, e⟩ := h.sim.mem (x := x.1) (by rw [← hin.its]; exact List.mem_map.2 ⟨x, hx, rfl⟩)
    rw [← e]
    exact hok.its.bsl it hm
  have hl : LM.length ≤ 1099 := by
    have a1 := hin.len
    have a2 := h.sim.len
    have a3 := hok.many
    have a4 := hok.room2
    omega
  refine (rCopy_any (hin.later q3) hits hl).mono fun e w2 ⟨R2, vL2, vR2, LM2, e2, g⟩ => ⟨R2, e2, ?_⟩
  have hb2 : Below w.heap.size w w2 := q3.trans (g.below.mono q3.size)
  have hbo := h.bo.later hb2
  have hT : ∀ k, (S3 k ∨ rcS R2 vL2 vR2 LM2 k) → w.heap.size ≤ k := fun k hk => by
    rcases hk with hk | hk
    · exact q2 k hk
    · exact Nat.le_trans q3.size (g.low k hk)
  have h0 := h.bo.below.size
  refine ⟨⟨hbo, h.sim, h.few, h.uses⟩, _, ⟨⟨S3, _, ⟨q1.frame fun k hk => g.below.block k (q1.lt k hk), fun k hk => Nat.le_trans h0 (q2 k hk), hbo.below⟩, ⟨⟨_, _, _, g.c, rfl⟩, fun k hk => Nat.le_trans h0 (hT k (Or.inr hk))⟩, fun k hk hk' => ?_, fun _ => Iff.rfl⟩, h.sim, h.few, h.uses⟩, fun k hk hk' => ?_⟩
  · have := q1.lt k hk
    have := g.low k hk'
    omega
  · have := h.bo.lt k hk
    have := hT k hk'
    omega
theorem getB1 {w0 w : World} {p : Addr} {B : Nat} {C : Lru} {D : RC} {S : Nat → Prop} (h : Bo w0 p B C D S w) (k : Int) (hu : C.uses + 1 ≤ 1000000) : Calls Try.prog 20 #[.pointer (some p), .int .i64 k] w fun e w' => ∃ a n c l, e = .returned (.tuple #[.slice a n c, .bool (C.get k).2.1]) ∧ Own w' w.heap.size (.slice a n c) n l ∧ n ≤ 1000 ∧ ∃ S', Bo w0 p B (C.get k).2.2 D S' w' ∧ ∀ j, (Value.slice a n c).ownBlock = some j → ¬ S' j := by
  obtain ⟨S1, S2, h1, h2, h3, h4⟩ := h.two
  refine (lruGet_any h1 k hu).mono fun e w1 ⟨a, n, c, S1', e1, q1, q2, q3, q4⟩ => ?_
  obtain ⟨r1, r2, r3⟩ := Bo.put1 h1 h2 h3 q2 q3
  refine ⟨a, n, c, _, e1, q1, ?_, _, ⟨S1', S2, q2, r1, r2, fun _ => Iff.rfl⟩, fun j hj hs => ?_⟩
  · rw [← q1.len]
    have hok := h1.ok
    unfold Lru.get
    split
    · exact Nat.zero_le _
    · rename_i it hf
      exact hok.its.bsl it (List.mem_of_find?_eq_some hf)
  · rcases hs with hs | hs
    · exact q4 j hj hs
    · have := h2.lt j hs
      have := (q1.1.lt j hj).1
      omega
theorem getR1 {w0 w : World} {p : Addr} {B : Nat} {C C0 : Lru} {D : RC} {S : Nat → Prop} (h : Bo w0 p B C0 D S w) (hs : Sim C D) (hc : C.Ok) (k : Int) : ∃ D', Sim (C.get k).2.2 D' ∧ D'.rels.length ≤ D.rels.length ∧
    Calls Try.prog 25 #[.pointer (some ⟨B, 0, none⟩), .int .i64 k] w fun e w' => ∃ v, e = .returned v ∧ ∃ S', Bo w0 p B C0 D' S' w' := by
  obtain ⟨S1, S2, h1, h2, h3, h4⟩ := h.two
  obtain ⟨vL, vR, LM, hin, rfl⟩ := h2.at'
  rcases key_or (LM := LM) k with ⟨i, x, hi, rfl⟩ | hk
  · have hx : x.1 ∈ D.items := by rw [← hin.its]; exact List.mem_map.2 ⟨x, List.mem_of_getElem? hi, rfl⟩
    obtain ⟨s1, s2, s3⟩ := hs.getS hc hx
    have hbl : x.1.bs.length ≤ 1000000 := by
      obtain ⟨it, hm, e⟩ := hs.mem hx
      have := hc.its.bsl it hm
      rw [← e]
      exact Nat.le_trans this (by decide)
    refine ⟨_, s3, Nat.le_refl _, (rGet_some hin hi hbl).mono fun e w2 ⟨a2, n2, c2, f1, f2, f3⟩ => ?_⟩
    obtain ⟨S2', t1, t2, t3, t4⟩ := Bo.put2 h1 h2 h3 f3
    exact ⟨_, f1, _, ⟨S1, S2', t1, t2, t3, fun _ => Iff.rfl⟩⟩
  · have hkD : ∀ x ∈ D.items, x.key ≠ k := fun x hx => by
      rw [← hin.its] at hx
      obtain ⟨z, hz, rfl⟩ := List.mem_map.1 hx
      exact hk z hz
    rw [hs.getN hkD]
    refine ⟨D, hs, Nat.le_refl _, (rGet_none hin hk).mono fun e w2 ⟨f1, f2⟩ => ?_⟩
    subst f2
    exact ⟨_, f1, _, h⟩
end Go.Proofs.Ythmkmhfoicfapaa
