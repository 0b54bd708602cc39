/-
  What an act does to both (layer 10), the answers and what the two states have in common; both sides: a cache of the project's and the reference's beside one another; the calls from state to state; 'Ints'. Conditions: both as they lie.
-/
import Derived.Test.YthmkmhfoicfapaaRm
import Derived.Test.YthmkmhfoicfapaaLs
namespace Go.Proofs.Ythmkmhfoicfapaa
open Go.RowKit
set_option linter.unusedVariables false

theorem Sim.len {C : Lru} {D : RC} (h : Sim C D) : D.items.length = C.items.length := by
  obtain ⟨s, hp, _, he⟩ := h.list
  rw [he, List.length_map]
  exact hp.length_eq
theorem Sim.pres {C : Lru} {D : RC} (h : Sim C D) {k : Int} (hd : isDR D k = true) : Present C.items k := by
  rw [h.isD] at hd
  obtain ⟨y, hy, hk, _⟩ := isD_iff.1 hd
  exact ⟨y, hy, hk⟩
theorem Sim.ctx {C : Lru} {D : RC} (h : Sim C D) (hc : ItsOk C.items C.uses) : ∃ rank : Int → Nat, (∀ k, ∀ f ∈ rfirsts D.rels k, rank f < rank k) ∧ (∀ k, ∀ f ∈ firstsOf C.items k, rank f < rank k) ∧ ∀ k, isDR D k = true → rank k < C.items.length ∧ (lineR D.rels C.items.length [] k).length ≤ C.items.length := by
  obtain ⟨rank, h1, h2⟩ := small_rank hc
  refine ⟨rank, fun k f hf => h1 k f (by rw [← h.rels]; exact hf), h1, fun k hd => ⟨h2 k (h.pres hd), ?_⟩⟩
  rw [h.line hc]
  exact lines_len hc.closed hc.rise _ fun f hf => by
    rw [List.mem_singleton] at hf
    rw [hf]
    exact h.pres hd
theorem cleans_few : ∀ (l : List Int) (D : RC), (l.foldl cleanR D).rels.length ≤ D.rels.length
  | [], D => Nat.le_refl _
  | k :: r, D => Nat.le_trans (cleans_few r (cleanR D k)) (List.length_filter_le _ _)
/-- Put. -/
theorem Sim.put {C : Lru} {D : RC} (h : Sim C D) (hc : C.Ok) {k : Int} (hk : -9223372036854775808 ≤ k ∧ k ≤ 9223372036854775807) {b : List Int} (hb : b.length ≤ 1000) (d : Bool) (hu : C.uses + 1 ≤ 1000000) :
    ∃ n, (rput n D k b d).1 = (C.put k b d).1 ∧ Sim (C.put k b d).2 (rput n D k b d).2 ∧ (rput n D k b d).2.rels.length ≤ D.rels.length ∧ (putR D.items k b d).length ≤ D.room + 1 ∧
      ∃ rank : Int → Nat, (∀ k, ∀ f ∈ rfirsts D.rels k, rank f < rank k) ∧ ∀ z, isDR ⟨D.room, putR D.items k b d, D.rels⟩ z = true → rank z < n ∧ (lineR D.rels n [] z).length ≤ 100000 := by
  have h1 := h.putIts hc.its hk hb d hu
  have hc1 : ItsOk (Go.Proofs.Ythmkmhfoicfapaa.putIts C.items (C.uses + 1) k b d) (C.uses + 1) := put_ok hc.its hk hb d hu
  have hl := (put_len (its := C.items) (u := C.uses + 1) (k := k) (b := b) (d := d)).1
  have hlen : (putR D.items k b d).length = (Go.Proofs.Ythmkmhfoicfapaa.putIts C.items (C.uses + 1) k b d).length := h1.len
  have hm := hc.many
  have hr2 := hc.room2
  obtain ⟨rank, r1, _, r3⟩ := h1.ctx hc1
  dsimp only at r1 r3
  refine ⟨(Go.Proofs.Ythmkmhfoicfapaa.putIts C.items (C.uses + 1) k b d).length, ?_, ?_, ?_, by rw [hlen, h.room]; omega, rank, r1, fun z hz => ⟨(r3 z hz).1, Nat.le_trans (r3 z hz).2 (by omega)⟩⟩
  all_goals
    unfold rput
    try unfold Lru.put
    try dsimp only
    rw [hlen, h.room]
    by_cases hg : C.room < (Go.Proofs.Ythmkmhfoicfapaa.putIts C.items (C.uses + 1) k b d).length
  · rw [if_pos hg, if_pos hg]
    cases hi : Go.Proofs.Ythmkmhfoicfapaa.putIts C.items (C.uses + 1) k b d with
    | nil => rw [hi] at hg; cases hg
    | cons x r =>
      obtain ⟨z, t, e1, e2, e3⟩ := h1.evict hc1 hi
      dsimp only at e1 e2 e3
      rw [← hi, e2]
      have e4 := h1.line hc1 z.key
      dsimp only at e4
      unfold evR
      rw [e1]
      dsimp only
      rw [h.room] at *
      rw [e1] at *
      rw [e4]
  · rw [if_neg hg, if_neg hg]
  · rw [if_pos hg, if_pos hg]
    cases hi : Go.Proofs.Ythmkmhfoicfapaa.putIts C.items (C.uses + 1) k b d with
    | nil => rw [hi] at hg; cases hg
    | cons x r =>
      obtain ⟨z, t, e1, e2, e3⟩ := h1.evict hc1 hi
      dsimp only at e1 e2 e3
      rw [← hi]
      have e4 := h1.line hc1 z.key
      dsimp only at e4
      unfold evR
      rw [e1]
      dsimp only
      rw [h.room] at *
      rw [e1] at *
      rw [e4]
      exact e3
  · rw [if_neg hg, if_neg hg]
    rw [h.room] at h1
    exact h1
  · rw [if_pos hg]
    unfold evR
    cases hi : putR D.items k b d with
    | nil => exact Nat.le_refl _
    | cons z t =>
      dsimp only
      refine Nat.le_trans (List.length_filter_le _ _) ?_
      split
      · exact cleans_few _ _
      · exact Nat.le_refl _
  · rw [if_neg hg]
    exact Nat.le_refl _
/-- Flush. -/
theorem dirty_isD {its : List It} {k : Int} (h : k ∈ dirtyL its) : Go.Proofs.Ythmkmhfoicfapaa.isD its k = true := by
  unfold dirtyL at h
  obtain ⟨y, hy, rfl⟩ := List.mem_map.1 h
  obtain ⟨h1, h2⟩ := List.mem_filter.1 hy
  exact isD_iff.2 ⟨y, h1, rfl, h2⟩
theorem Sim.flushS {C : Lru} {D : RC} (h : Sim C D) (hc : C.Ok) : (writesR C.items.length (dirtyR D.items) ([], D)).1 = C.flush.1 ∧ Sim C.flush.2 (writesR C.items.length (dirtyR D.items) ([], D)).2 ∧ (writesR C.items.length (dirtyR D.items) ([], D)).2.rels.length ≤ D.rels.length ∧ (writesR C.items.length (dirtyR D.items) ([], D)).1.length ≤ 100000 := by
  have hp : ∀ k ∈ dirtyL C.items, Present C.items k := fun k hk => by
    obtain ⟨y, hy, e, _⟩ := isD_iff.1 (dirty_isD hk)
    exact ⟨y, hy, e⟩
  rw [h.dirties hc.its, h.flush hc.its fun k hk => dirty_isD hk]
  have h1 := lines_len hc.its.closed hc.its.rise (dirtyL C.items) hp
  have h2 := hc.many
  have h3 := hc.room2
  exact ⟨rfl, h.write hc.its hp, cleans_few _ _, by show (linesL C.items (dirtyL C.items)).length ≤ 100000; omega⟩
/-- After. -/
theorem Sim.afterS {C : Lru} {D : RC} (h : Sim C D) (hc : C.Ok) {rank : Int → Nat} (hr : ∀ k, ∀ f ∈ firstsOf C.items k, rank f < rank k) (k f : Int) : (afterR D (rank f) k f).1 = (C.after k f).1 ∧ Sim (C.after k f).2 (afterR D (rank f) k f).2 ∧ (afterR D (rank f) k f).2.rels.length ≤ D.rels.length + 1 := by
  unfold afterR Lru.after
  rw [h.isD, h.isD]
  cases hk : Go.Proofs.Ythmkmhfoicfapaa.isD C.items k with
  | false => exact ⟨rfl, h, Nat.le_succ _⟩
  | true =>
    cases hf : Go.Proofs.Ythmkmhfoicfapaa.isD C.items f with
    | false => exact ⟨rfl, h, Nat.le_succ _⟩
    | true =>
      have hpf : Present C.items f := by
        obtain ⟨y, hy, e, _⟩ := isD_iff.1 hf
        exact ⟨y, hy, e⟩
      have hcir := h.circle hc.its hr (f := f) (k := k) hpf
      rw [if_neg (show ¬ ((true && true) = false) by decide), if_pos (show (true && true) = true from rfl)]
      by_cases hm : k ∈ linesL C.items [f]
      · rw [if_pos hm, if_pos (hcir.2 hm)]
        exact ⟨rfl, h, Nat.le_succ _⟩
      · rw [if_neg hm, if_neg (fun e => hm (hcir.1 e))]
        refine ⟨rfl, h.after hc.its hk, ?_⟩
        dsimp only
        split
        · exact Nat.le_succ _
        · simp
/-- Get. -/
theorem Sim.mem {C : Lru} {D : RC} (h : Sim C D) {x : RIt} (hx : x ∈ D.items) : ∃ it ∈ C.items, toR it = x := by
  obtain ⟨s, hp, _, he⟩ := h.list
  rw [he] at hx
  obtain ⟨it, h1, h2⟩ := List.mem_map.1 hx
  exact ⟨it, hp.mem_iff.1 h1, h2⟩
theorem Sim.no {C : Lru} {D : RC} (h : Sim C D) {k : Int} (hk : ∀ x ∈ D.items, x.key ≠ k) : ∀ it ∈ C.items, it.key ≠ k := fun it hi e => by
  obtain ⟨s, hp, _, he⟩ := h.list
  exact hk (toR it) (by rw [he]; exact List.mem_map.2 ⟨it, hp.mem_iff.2 hi, rfl⟩) e
theorem Sim.getS {C : Lru} {D : RC} (h : Sim C D) (hc : C.Ok) {x : RIt} (hx : x ∈ D.items) : (C.get x.key).1 = x.bs ∧ (C.get x.key).2.1 = true ∧ Sim (C.get x.key).2.2 ⟨D.room, setR D.items x.key id, D.rels⟩ := by
  obtain ⟨it, h1, rfl⟩ := h.mem hx
  have hf := find_mem hc.its.rise h1
  have hk : hasK C.items it.key = true := hasK_iff.2 ⟨it, h1, rfl⟩
  have hg := h.get hc.its hk
  unfold Lru.get
  rw [show (toR it).key = it.key from rfl, hf]
  exact ⟨rfl, rfl, hg⟩
theorem Sim.getN {C : Lru} {D : RC} (h : Sim C D) {k : Int} (hk : ∀ x ∈ D.items, x.key ≠ k) : C.get k = ([], false, C) := by
  unfold Lru.get
  rw [List.find?_eq_none.2 fun it hi => by simpa using h.no hk it hi]
theorem Sim.dropN {C : Lru} {D : RC} (h : Sim C D) {k : Int} (hk : ∀ x ∈ D.items, x.key ≠ k) : C.drop k = C := by
  have hd : Go.Proofs.Ythmkmhfoicfapaa.isD C.items k = false := by
    cases hd : Go.Proofs.Ythmkmhfoicfapaa.isD C.items k with
    | false => rfl
    | true =>
      obtain ⟨y, hy, e, _⟩ := isD_iff.1 hd
      exact absurd e (h.no hk y hy)
  unfold Lru.drop dropL
  rw [hd, if_neg Bool.false_ne_true]
  have : delIt C.items k = C.items := List.filter_eq_self.2 fun y hy => by simpa using h.no hk y hy
  rw [this]
/-- The reference's cache at block B tells D; its own blocks are those of S. -/
structure RcR (w0 : World) (B : Nat) (D : RC) (S : Nat → Prop) (w : World) : Prop where
  at' : ∃ vL vR LM, RcIn w B D vL vR LM ∧ S = rcS B vL vR LM
  low : ∀ k, S k → w0.heap.size ≤ k
section
variable {w0 w w' : World} {B : Nat} {D D' : RC} {S : Nat → Prop}
theorem RcR.lt (h : RcR w0 B D S w) : ∀ k, S k → k < w.heap.size := by
  obtain ⟨vL, vR, LM, h1, rfl⟩ := h.at'
  exact h1.lt
theorem RcR.frame (h : RcR w0 B D S w) (hb : ∀ k, S k → w'.heap[k]? = w.heap[k]?) : RcR w0 B D S w' := by
  obtain ⟨vL, vR, LM, h1, rfl⟩ := h.at'
  exact ⟨⟨vL, vR, LM, h1.frame hb, rfl⟩, h.low⟩
theorem RcR.turn {vL vR : Value} {LM : List RI} (hl : ∀ k, rcS B vL vR LM k → w0.heap.size ≤ k) (hsz : w0.heap.size ≤ w.heap.size) (h : Turn B D' (rcS B vL vR LM) w w') : ∃ S', RcR w0 B D' S' w' ∧ Away (rcS B vL vR LM) w S' w' := by
  obtain ⟨a, b, c, h1, h2⟩ := h
  exact ⟨_, ⟨⟨a, b, c, h1, rfl⟩, fun k hk => (h2.mine k hk).elim (hl k) fun h => Nat.le_trans hsz h⟩, h2⟩
end
/-- Both, apart. -/
structure Bo (w0 : World) (p : Addr) (B : Nat) (C : Lru) (D : RC) (S : Nat → Prop) (w : World) : Prop where
  two : ∃ S1 S2, Has w0 p C w S1 ∧ RcR w0 B D S2 w ∧ (∀ k, S1 k → ¬ S2 k) ∧ ∀ k, S k ↔ (S1 k ∨ S2 k)
section
variable {w0 w w' : World} {p : Addr} {B : Nat} {C : Lru} {D : RC} {S : Nat → Prop}
theorem Bo.lt (h : Bo w0 p B C D S w) : ∀ k, S k → k < w.heap.size := fun k hk => by
  obtain ⟨S1, S2, h1, h2, h3, h4⟩ := h.two
  rcases (h4 k).1 hk with hk | hk
  · exact h1.lt k hk
  · exact h2.lt k hk
theorem Bo.low (h : Bo w0 p B C D S w) : ∀ k, S k → w0.heap.size ≤ k := fun k hk => by
  obtain ⟨S1, S2, h1, h2, h3, h4⟩ := h.two
  rcases (h4 k).1 hk with hk | hk
  · exact h1.low k hk
  · exact h2.low k hk
theorem Bo.ok (h : Bo w0 p B C D S w) : C.Ok := by
  obtain ⟨S1, S2, h1, _⟩ := h.two
  exact h1.ok
theorem Bo.below (h : Bo w0 p B C D S w) : Below w0.heap.size w0 w := by
  obtain ⟨S1, S2, h1, _⟩ := h.two
  exact h1.below
theorem Bo.frame (h : Bo w0 p B C D S w) (hb : ∀ k, S k → w'.heap[k]? = w.heap[k]?) (hbel : Below w0.heap.size w0 w') : Bo w0 p B C D S w' := by
  obtain ⟨S1, S2, h1, h2, h3, h4⟩ := h.two
  exact ⟨S1, S2, ⟨h1.at'.frame fun k hk => hb k ((h4 k).2 (Or.inl hk)), h1.low, hbel⟩, h2.frame (fun k hk => hb k ((h4 k).2 (Or.inr hk))), h3, h4⟩
theorem Bo.later (h : Bo w0 p B C D S w) (hb : Below w.heap.size w w') : Bo w0 p B C D S w' :=
  h.frame (fun k hk => hb.block k (h.lt k hk)) (h.below.trans (hb.mono h.below.size))
theorem Bo.left (h : Bo w0 p B C D S w) : ∃ S1, Has w0 p C w S1 ∧ (∀ k, S1 k → S k) ∧ ∀ (w' : World) C' S', Has w0 p C' w' S' → Away S1 w S' w' → ∃ S'', Bo w0 p B C' D S'' w' ∧ Away S w S'' w' := by
  obtain ⟨S1, S2, h1, h2, h3, h4⟩ := h.two
  refine ⟨S1, h1, fun k hk => (h4 k).2 (Or.inl hk), fun w' C' S' g1 g2 => ⟨fun k => S' k ∨ S2 k, ⟨S', S2, g1, h2.frame (fun k hk => g2.block k (h2.lt k hk) fun hk' => h3 k hk' hk), fun k hk hk' => ?_, fun _ => Iff.rfl⟩, g2.os, g2.tape, g2.output, g2.size, fun k hk hS => g2.block k hk fun h => hS ((h4 k).2 (Or.inl h)), fun k hk => ?_⟩⟩
  · rcases g2.mine k hk with h | h
    · exact h3 k h hk'
    · have := h2.lt k hk'
      omega
  · rcases hk with hk | hk
    · rcases g2.mine k hk with h | h
      · exact Or.inl ((h4 k).2 (Or.inl h))
      · exact Or.inr h
    · exact Or.inl ((h4 k).2 (Or.inr hk))
theorem Bo.right (h : Bo w0 p B C D S w) : ∃ vL vR LM, RcIn w B D vL vR LM ∧ (∀ k, rcS B vL vR LM k → S k) ∧ ∀ (w' : World) D', Turn B D' (rcS B vL vR LM) w w' → ∃ S'', Bo w0 p B C D' S'' w' ∧ Away S w S'' w' := by
  obtain ⟨S1, S2, h1, h2, h3, h4⟩ := h.two
  obtain ⟨vL, vR, LM, hin, rfl⟩ := h2.at'
  refine ⟨vL, vR, LM, hin, fun k hk => (h4 k).2 (Or.inr hk), fun w' D' g => ?_⟩
  obtain ⟨S', g1, g2⟩ := RcR.turn h2.low h1.below.size g
  have hfr : ∀ k, S1 k → w'.heap[k]? = w.heap[k]? := fun k hk => g2.block k (h1.lt k hk) fun hk' => h3 k hk hk'
  refine ⟨fun k => S1 k ∨ S' k, ⟨S1, S', ⟨h1.at'.frame hfr, h1.low, h1.below.trans ⟨g2.os, g2.tape, g2.output, g2.size, fun k hk => g2.block k (Nat.lt_of_lt_of_le hk h1.below.size) fun hs => ?_⟩⟩, g1, fun k hk hk' => ?_, fun _ => Iff.rfl⟩, g2.os, g2.tape, g2.output, g2.size, fun k hk hS => g2.block k hk fun h => hS ((h4 k).2 (Or.inr h)), fun k hk => ?_⟩
  · have := h2.low k hs
    omega
  · rcases g2.mine k hk' with h | h
    · exact h3 k hk h
    · have := h1.lt k hk
      omega
  · rcases hk with hk | hk
    · exact Or.inl ((h4 k).2 (Or.inl hk))
    · rcases g2.mine k hk with h | h
      · exact Or.inl ((h4 k).2 (Or.inr h))
      · exact Or.inr h
end
/-- Both, since the world W1. -/
def Bt (w0 W1 : World) (p : Addr) (B : Nat) (C : Lru) (D : RC) (S : Nat → Prop) (W : World) : Prop := ∃ S', Bo w0 p B C D S' W ∧ Away S W1 S' W
section
variable {w0 W1 W W' : World} {p : Addr} {B : Nat} {C : Lru} {D : RC} {S : Nat → Prop}
theorem Bt.below (h : Bt w0 W1 p B C D S W) : Below w0.heap.size w0 W := by
  obtain ⟨S', h, _⟩ := h
  exact h.below
theorem Bt.ok (h : Bt w0 W1 p B C D S W) : C.Ok := by
  obtain ⟨S', h, _⟩ := h
  exact h.ok
theorem Bt.later (h : Bt w0 W1 p B C D S W) (hb : Below W.heap.size W W') : Bt w0 W1 p B C D S W' := by
  obtain ⟨S', h1, h2⟩ := h
  exact ⟨S', h1.later hb, h2.later' h1.lt hb⟩
theorem Bt.drew (h : Bt w0 W1 p B C D S W) : Bt w0 W1 p B C D S W.drew := h.later (Below.refl _ _).drew
theorem Bt.blk (h : Bt w0 W1 p B C D S W) {N : Nat} {t : TypeId} {cs : Array Value} (hB : Blk W1 N t cs) (hS : ¬ S N) : Blk W N t cs := by
  obtain ⟨S', _, h2⟩ := h
  exact hB.away hS h2
theorem Bt.bytes (h : Bt w0 W1 p B C D S W) {a : Option Addr} {n : Nat} {l : List Int} (hB : Away1 S W1 a n l) : ∃ S', Bo w0 p B C D S' W ∧ Away1 S' W a n l := by
  obtain ⟨S', h1, h2⟩ := h
  exact ⟨S', h1, hB.away h2⟩
theorem Bt.left (h : Bt w0 W1 p B C D S W) : ∃ S1, Has w0 p C W S1 ∧ (∀ {a n l}, Away1 S W1 a n l → Away1 S1 W a n l) ∧ ∀ (w' : World) C' S', Has w0 p C' w' S' → Away S1 W S' w' → Bt w0 W1 p B C' D S w' := by
  obtain ⟨S', h1, h2⟩ := h
  obtain ⟨S1, g1, g2, g3⟩ := h1.left
  refine ⟨S1, g1, fun hB => ?_, fun w' C' S2 k1 k2 => ?_⟩
  · have := hB.away h2
    exact ⟨this.1, fun x hx h0 => ⟨(this.2 x hx h0).1, fun hs => (this.2 x hx h0).2 (g2 _ hs)⟩⟩
  · obtain ⟨S3, q1, q2⟩ := g3 w' C' S2 k1 k2
    exact ⟨S3, q1, h2.trans q2⟩
theorem Bt.right (h : Bt w0 W1 p B C D S W) : ∃ vL vR LM, RcIn W B D vL vR LM ∧ (∀ {a n l}, Away1 S W1 a n l → Away1 (rcS B vL vR LM) W a n l) ∧ ∀ (w' : World) D', Turn B D' (rcS B vL vR LM) W w' → Bt w0 W1 p B C D' S w' := by
  obtain ⟨S', h1, h2⟩ := h
  obtain ⟨vL, vR, LM, g1, g2, g3⟩ := h1.right
  refine ⟨vL, vR, LM, g1, fun hB => ?_, fun w' D' k => ?_⟩
  · have := hB.away h2
    exact ⟨this.1, fun x hx h0 => ⟨(this.2 x hx h0).1, fun hs => (this.2 x hx h0).2 (g2 _ hs)⟩⟩
  · obtain ⟨S3, q1, q2⟩ := g3 w' D' k
    exact ⟨S3, q1, h2.trans q2⟩
end
/-- A list of keys that was made, and both states. -/
def KeysQ (w0 W1 : World) (p : Addr) (B : Nat) (C : Lru) (D : RC) (S : Nat → Prop) (l : List Int) (W : World) (e : Ending) (w' : World) : Prop := ∃ a c, e = .returned (.slice a l.length c) ∧ OwnG ivV 3 1 w' W.heap.size (.slice a l.length c) l.length l ∧ Bt w0 W1 p B C D S w'
/-- .. and every list of ints that there was is as it was. -/
def KeysRQ (w0 W1 : World) (p : Addr) (B : Nat) (C : Lru) (D : RC) (S : Nat → Prop) (l : List Int) (W : World) (e : Ending) (w' : World) : Prop := ∃ a c, e = .returned (.slice a l.length c) ∧ OwnG ivV 3 1 w' W.heap.size (.slice a l.length c) l.length l ∧ Bt w0 W1 p B C D S w' ∧ ∀ (base n : Nat) (v : Value) (x : List Int), OwnG ivV 3 1 W base v n x → OwnG ivV 3 1 w' base v n x
theorem away1_of {w0 W1 : World} {S : Nat → Prop} {a : Option Addr} {n : Nat} {l : List Int} (h : Bytes w0 a n l) (hb : Below w0.heap.size w0 W1) (hS : ∀ k, S k → w0.heap.size ≤ k) : Away1 S W1 a n l := by
  refine ⟨h.later hb, fun x hx h0 => ?_⟩
  rcases h.2.2 with h1 | ⟨b, off, e, hlt, _⟩
  · omega
  · rw [e] at hx
    cases hx
    exact ⟨Nat.lt_of_lt_of_le hlt hb.size, fun hs => by have := hS _ hs; dsimp only at this; omega⟩
section
variable {w0 W1 W : World} {p : Addr} {B : Nat} {C : Lru} {D : RC} {S : Nat → Prop}
theorem putB {k : Int} {b : List Int} {d : Bool} {a : Option Addr} {n c : Nat} (h : Bt w0 W1 p B C D S W) (hk : -9223372036854775808 ≤ k ∧ k ≤ 9223372036854775807) (hB : Away1 S W1 a n b) (hnil : a = none → c = 0) (hn : n ≤ 1000) (hu : C.uses + 1 ≤ 1000000) :
    Calls Try.prog 16 #[.pointer (some p), .int .i64 k, .slice a n c, .bool d] W (KeysQ w0 W1 p B (C.put k b d).2 D S (C.put k b d).1 W) := by
  obtain ⟨S1, g1, g2, g3⟩ := h.left
  exact (lruPut_any g1 k hk a n c b d (g2 hB) hnil hn hu).mono fun e w' ⟨a2, c2, S', e1, q1, q2, q3, _⟩ => ⟨a2, c2, e1, q1, g3 w' _ S' q2 q3⟩
theorem putR' {k : Int} {b : List Int} {d : Bool} {a : Option Addr} {n c : Nat} {C0 : Lru} (h : Bt w0 W1 p B C0 D S W) (hs : Sim C D) (hc : C.Ok) (hk : -9223372036854775808 ≤ k ∧ k ≤ 9223372036854775807) (hB : Away1 S W1 a n b) (hnil : a = none → c = 0) (hn : n ≤ 1000) (hu : C.uses + 1 ≤ 1000000) :
    ∃ D', Sim (C.put k b d).2 D' ∧ D'.rels.length ≤ D.rels.length ∧ Calls Try.prog 28 #[.pointer (some ⟨B, 0, none⟩), .int .i64 k, .slice a n c, .bool d] W (KeysRQ w0 W1 p B C0 D' S (C.put k b d).1 W) := by
  obtain ⟨vL, vR, LM, g1, g2, g3⟩ := h.right
  obtain ⟨m, s1, s2, s3, s4, rank, s5, s6⟩ := hs.put hc hk (by rw [hB.1.1]; exact hn) d hu
  have hl := g1.len
  have hl2 := hs.len
  have hm := hc.many
  have hr := hc.room2
  refine ⟨_, s2, s3, (rPut_any g1 s5 k a n c b d (g2 hB) hnil hn (by omega) s4 (fun z hz => (s6 z hz).1) (fun z hz => (s6 z hz).2)).mono fun e w' ⟨a2, c2, e1, q1, q2⟩ => ?_⟩
  rw [s1] at e1 q1
  exact ⟨a2, c2, e1, q1, g3 w' _ q2, fun base n v x ho => g1.intsT ho q2⟩
theorem flushB (h : Bt w0 W1 p B C D S W) : Calls Try.prog 18 #[.pointer (some p)] W (KeysQ w0 W1 p B C.flush.2 D S C.flush.1 W) := by
  obtain ⟨S1, g1, g2, g3⟩ := h.left
  exact (lruFlush_any g1).mono fun e w' ⟨a2, c2, S', e1, q1, q2, q3, _⟩ => ⟨a2, c2, e1, q1, g3 w' _ S' q2 q3⟩
theorem flushR' {C0 : Lru} (h : Bt w0 W1 p B C0 D S W) (hs : Sim C D) (hc : C.Ok) : ∃ D', Sim C.flush.2 D' ∧ D'.rels.length ≤ D.rels.length ∧ Calls Try.prog 30 #[.pointer (some ⟨B, 0, none⟩)] W (KeysRQ w0 W1 p B C0 D' S C.flush.1 W) := by
  obtain ⟨vL, vR, LM, g1, g2, g3⟩ := h.right
  obtain ⟨s1, s2, s3, s4⟩ := hs.flushS hc
  obtain ⟨rank, r1, _, r3⟩ := hs.ctx hc.its
  refine ⟨_, s2, s3, (rFlush_any g1 r1 (n := C.items.length) (fun k hk => (r3 k hk).1) s4).mono fun e w' ⟨a2, c2, e1, q1, q2⟩ => ?_⟩
  rw [s1] at e1 q1
  exact ⟨a2, c2, e1, q1, g3 w' _ q2, fun base n v x ho => g1.intsT ho q2⟩
theorem dirtyB (h : Bt w0 W1 p B C D S W) : Calls Try.prog 19 #[.pointer (some p)] W (KeysQ w0 W1 p B C D S (dirtyL C.items) W) := by
  obtain ⟨S1, g1, g2, g3⟩ := h.left
  exact (lruDirty_any g1).mono fun e w' ⟨a2, c2, S', e1, q1, q2, q3, _⟩ => ⟨a2, c2, e1, q1, g3 w' _ S' q2 q3⟩
theorem dirtyR' (h : Bt w0 W1 p B C D S W) (hs : Sim C D) (hc : C.Ok) : Calls Try.prog 32 #[.pointer (some ⟨B, 0, none⟩)] W (KeysRQ w0 W1 p B C D S (dirtyL C.items) W) := by
  obtain ⟨vL, vR, LM, g1, g2, g3⟩ := h.right
  refine (rDirtyL_any g1).mono fun e w' ⟨a2, c2, e1, q1, q2⟩ => ?_
  rw [hs.dirties hc.its] at e1 q1
  exact ⟨a2, c2, e1, q1, h.later q2, fun base n v x ho => ho.later q2⟩
theorem afterB (h : Bt w0 W1 p B C D S W) (k f : Int) : Calls Try.prog 17 #[.pointer (some p), .int .i64 k, .int .i64 f] W fun e w' => e = .returned (.int .i64 (C.after k f).1) ∧ Bt w0 W1 p B (C.after k f).2 D S w' := by
  obtain ⟨S1, g1, g2, g3⟩ := h.left
  exact (lruAfter_any g1 k f).mono fun e w' ⟨S', e1, q2, q3⟩ => ⟨e1, g3 w' _ S' q2 q3⟩
theorem afterR' {C0 : Lru} (h : Bt w0 W1 p B C0 D S W) (hs : Sim C D) (hc : C.Ok) (hr : D.rels.length ≤ 99999) (k f : Int) : ∃ D', Sim (C.after k f).2 D' ∧ D'.rels.length ≤ D.rels.length + 1 ∧ Calls Try.prog 29 #[.pointer (some ⟨B, 0, none⟩), .int .i64 k, .int .i64 f] W fun e w' => e = .returned (.int .i64 (C.after k f).1) ∧ Bt w0 W1 p B C0 D' S w' := by
  obtain ⟨vL, vR, LM, g1, g2, g3⟩ := h.right
  obtain ⟨rank, r1, r2, _⟩ := hs.ctx hc.its
  obtain ⟨s1, s2, s3⟩ := hs.afterS hc r2 k f
  refine ⟨_, s2, s3, (rAfter_any g1 r1 (rank f) k f (Nat.le_refl _) hr).mono fun e w' ⟨e1, q2⟩ => ?_⟩
  rw [s1] at e1
  exact ⟨e1, g3 w' _ q2⟩
theorem dropB (h : Bt w0 W1 p B C D S W) (k : Int) : Calls Try.prog 26 #[.pointer (some p), .int .i64 k] W fun e w' => e = .returned (.tuple #[]) ∧ Bt w0 W1 p B (C.drop k) D S w' := by
  obtain ⟨S1, g1, g2, g3⟩ := h.left
  exact (lruDrop_any g1 k).mono fun e w' ⟨S', e1, q2, q3⟩ => ⟨e1, g3 w' _ S' q2 q3⟩
theorem dropR' {C0 : Lru} (h : Bt w0 W1 p B C0 D S W) (hs : Sim C D) (hc : C.Ok) (k : Int) : ∃ D', Sim (C.drop k) D' ∧ D'.rels.length ≤ D.rels.length ∧ Calls Try.prog 31 #[.pointer (some ⟨B, 0, none⟩), .int .i64 k] W fun e w' => e = .returned (.tuple #[]) ∧ Bt w0 W1 p B C0 D' S w' := by
  obtain ⟨vL, vR, LM, g1, g2, g3⟩ := h.right
  rcases key_or (LM := LM) k with ⟨i, x, hi, rfl⟩ | hk
  · exact ⟨_, hs.drop hc.its x.1.key, List.length_filter_le _ _, (rDrop_some g1 hi).mono fun e w' ⟨e1, q2⟩ => ⟨e1, g3 w' _ q2⟩⟩
  · refine ⟨D, ?_, Nat.le_refl _, (rDrop_none g1 hk).mono fun e w' ⟨e1, q2⟩ => ⟨e1, q2 ▸ h⟩⟩
    rw [hs.dropN fun x hx => ?_]
    · exact hs
    · rw [← g1.its] at hx
      obtain ⟨z, hz, rfl⟩ := List.mem_map.1 hx
      exact hk z hz
end
theorem Bo.put1 {w0 w w' : World} {p : Addr} {B : Nat} {C C' : Lru} {D : RC} {S1 S2 S1' : Nat → Prop} (h1 : Has w0 p C w S1) (h2 : RcR w0 B D S2 w) (h3 : ∀ k, S1 k → ¬ S2 k) (g1 : Has w0 p C' w' S1') (g2 : Away S1 w S1' w') :
    RcR w0 B D S2 w' ∧ (∀ k, S1' k → ¬ S2 k) ∧ Away (fun k => S1 k ∨ S2 k) w (fun k => S1' k ∨ S2 k) w' := by
  refine ⟨h2.frame fun k hk => g2.block k (h2.lt k hk) fun hk' => h3 k hk' hk, fun k hk hk' => ?_, g2.os, g2.tape, g2.output, g2.size, fun k hk hS => g2.block k hk fun h => hS (Or.inl h), fun k hk => ?_⟩
  · rcases g2.mine k hk with h | h
    · exact h3 k h hk'
    · have := h2.lt k hk'
      omega
  · rcases hk with hk | hk
    · rcases g2.mine k hk with h | h
      · exact Or.inl (Or.inl h)
      · exact Or.inr h
    · exact Or.inl (Or.inr hk)
theorem Bo.put2 {w0 w w' : World} {p : Addr} {B : Nat} {C : Lru} {D D' : RC} {S1 : Nat → Prop} {vL vR : Value} {LM : List RI} (h1 : Has w0 p C w S1) (h2 : RcR w0 B D (rcS B vL vR LM) w) (h3 : ∀ k, S1 k → ¬ rcS B vL vR LM k) (g : Turn B D' (rcS B vL vR LM) w w') :
    ∃ S2, Has w0 p C w' S1 ∧ RcR w0 B D' S2 w' ∧ (∀ k, S1 k → ¬ S2 k) ∧ Away (fun k => S1 k ∨ rcS B vL vR LM k) w (fun k => S1 k ∨ S2 k) w' := by
  obtain ⟨S', g1, g2⟩ := RcR.turn h2.low h1.below.size g
  have hfr : ∀ k, S1 k → w'.heap[k]? = w.heap[k]? := fun k hk => g2.block k (h1.lt k hk) fun hk' => h3 k hk hk'
  refine ⟨S', ⟨h1.at'.frame hfr, h1.low, h1.below.trans ⟨g2.os, g2.tape, g2.output, g2.size, fun k hk => g2.block k (Nat.lt_of_lt_of_le hk h1.below.size) fun hs => ?_⟩⟩, g1, fun k hk hk' => ?_, g2.os, g2.tape, g2.output, g2.size, fun k hk hS => g2.block k hk fun h => hS (Or.inr h), fun k hk => ?_⟩
  · have := h2.low k hs
    omega
  · rcases g2.mine k hk' with h | h
    · exact h3 k hk h
    · have := h1.lt k hk
      omega
  · rcases hk with hk | hk
    · exact Or.inl (Or.inl hk)
    · rcases g2.mine k hk with h | h
      · exact Or.inl (Or.inr h)
      · exact Or.inr h
def GetRQ (w0 W1 : World) (p : Addr) (B : Nat) (C : Lru) (D' : RC) (S : Nat → Prop) (l : List Int) (b : Bool) (a : Option Addr) (n : Nat) (e : Ending) (w2 : World) : Prop := ∃ a2 n2 c2, e = .returned (.tuple #[.slice a2 n2 c2, .bool b]) ∧ Bytes w2 a2 n2 l ∧ Bytes w2 a n l ∧ Bt w0 W1 p B C D' S w2
def GetBQ (w0 W1 : World) (p : Addr) (B : Nat) (C : Lru) (D : RC) (S : Nat → Prop) (k : Int) (e : Ending) (w1 : World) : Prop := ∃ a n c, e = .returned (.tuple #[.slice a n c, .bool (C.get k).2.1]) ∧ Bt w0 W1 p B (C.get k).2.2 D S w1 ∧ ∃ D', Sim (C.get k).2.2 D' ∧ D'.rels.length ≤ D.rels.length ∧
  Calls Try.prog 25 #[.pointer (some ⟨B, 0, none⟩), .int .i64 k] w1 (GetRQ w0 W1 p B (C.get k).2.2 D' S (C.get k).1 (C.get k).2.1 a n)
theorem getBoth {w0 W1 W : World} {p : Addr} {B : Nat} {C : Lru} {D : RC} {S : Nat → Prop} (h : Bt w0 W1 p B C D S W) (hs : Sim C D) (k : Int) (hu : C.uses + 1 ≤ 1000000) : Calls Try.prog 20 #[.pointer (some p), .int .i64 k] W (GetBQ w0 W1 p B C D S k) := by
  obtain ⟨S', hb, ha⟩ := h
  have hc := hb.ok
  obtain ⟨S1, S2, h1, h2, h3, h4⟩ := hb.two
  obtain rfl : S' = fun k => S1 k ∨ S2 k := funext fun k => propext (h4 k)
  obtain ⟨vL, vR, LM, hin, rfl⟩ := h2.at'
  refine (lruGet_any h1 k hu).mono fun e w1 ⟨a, n, c, S1', e1, q1, q2, q3, q4⟩ => ?_
  obtain ⟨r1, r2, r3⟩ := Bo.put1 h1 h2 h3 q2 q3
  have hin1 : RcIn w1 B D vL vR LM := hin.frame fun j hj => q3.block j (hin.lt j hj) fun hs1 => h3 j hs1 hj
  refine ⟨a, n, c, e1, ⟨_, ⟨S1', _, q2, r1, r2, fun _ => Iff.rfl⟩, ha.trans r3⟩, ?_⟩
  have hits : ∀ x ∈ D.items, ∃ z ∈ LM, z.1 = x := fun x hx => by
    rw [← hin.its] at hx
    exact List.mem_map.1 hx
  rcases key_or (LM := LM) k with ⟨i, x, hi, rfl⟩ | hk
  · have hx : x.1 ∈ D.items := by rw [← hin.its]; exact List.mem_map.2 ⟨x, List.mem_of_getElem? hi, rfl⟩
    obtain ⟨s1, s2, s3⟩ := hs.getS hc hx
    have hbl : x.1.bs.length ≤ 1000000 := by
      obtain ⟨it, hm, e⟩ := hs.mem hx
      have := hc.its.bsl it hm
      rw [← e]
      exact Nat.le_trans this (by decide)
    refine ⟨_, s3, Nat.le_refl _, (rGet_some hin1 hi hbl).mono fun e w2 ⟨a2, n2, c2, f1, f2, f3⟩ => ?_⟩
    obtain ⟨S2', t1, t2, t3, t4⟩ := Bo.put2 q2 r1 r2 f3
    rw [s2, s1]
    rw [s1] at q1
    refine ⟨a2, n2, c2, f1, f2, ?_, ⟨_, ⟨S1', S2', t1, t2, t3, fun _ => Iff.rfl⟩, (ha.trans r3).trans t4⟩⟩
    obtain ⟨_, _, _, _, g⟩ := f3
    exact (q1.frame fun j hj => g.block j (q1.lt hj) fun hS => by
      have h5 := hin.lt j hS
      have h6 := (q1.1.lt j hj).1
      omega).bytes.1
  · have hkD : ∀ x ∈ D.items, x.key ≠ k := fun x hx => by
      obtain ⟨z, hz, rfl⟩ := hits x hx
      exact hk z hz
    have hg := hs.getN hkD
    rw [hg] at q1 q2 ⊢
    refine ⟨D, hs, Nat.le_refl _, (rGet_none hin1 hk).mono fun e w2 ⟨f1, f2⟩ => ?_⟩
    subst f2
    exact ⟨none, 0, 0, f1, none_bytes _, q1.bytes.1, ⟨_, ⟨S1', _, q2, r1, r2, fun _ => Iff.rfl⟩, ha.trans r3⟩⟩
/-- New, and the first state of both. -/
theorem rNew_no (room : Int) (w : World) (h : room < 1 ∨ 1024 < room) : Calls Try.prog 13 #[.int .i64 room] w fun e w' => e = .returned (.tuple #[.pointer none, .int .i64 1]) ∧ w' = w := by
  by_cases h1 : room < 1
  · go_enter Try.func13, Try.ntmps13
    go_wp2
    go_ret2
    exact ⟨rfl, rfl⟩
  · have h2 : 1024 < room := by omega
    clear h
    go_enter Try.func13, Try.ntmps13
    go_wp2
    go_ret2
    exact ⟨rfl, rfl⟩
theorem rNew_ok (room : Int) (w : World) (h1 : 1 ≤ room) (h2 : room ≤ 1024) : Calls Try.prog 13 #[.int .i64 room] w fun e w' => e = .returned (.tuple #[.pointer (some ⟨w.heap.size, 0, none⟩), .int .i64 0]) ∧ w' = w.alloc (.cells #[.int .i64 room, .slice none 0 0, .slice none 0 0] 68) := by
  have u1 : ¬ room < 1 := by omega
  have u2 : ¬ 1024 < room := by omega
  go_enter Try.func13, Try.ntmps13
  go_wp2
  go_ret2
  exact ⟨rfl, rfl⟩
theorem bo_new {w0 w : World} {p : Addr} {S : Nat → Prop} {room : Int} (h : Has w0 p (Lru.new room.toNat) w S) (h1 : 1 ≤ room) :
    ∃ S', Bo w0 p w.heap.size (Lru.new room.toNat) ⟨room.toNat, [], []⟩ S' (w.alloc (.cells #[.int .i64 room, .slice none 0 0, .slice none 0 0] 68)) := by
  have hr : ((room.toNat : Nat) : Int) = room := Int.toNat_of_nonneg (by omega)
  have hin : RcIn (w.alloc (.cells #[.int .i64 room, .slice none 0 0, .slice none 0 0] 68)) w.heap.size ⟨room.toNat, [], []⟩ (.slice none 0 0) (.slice none 0 0) [] := by
    refine ⟨?_, OwnG.none _ _ _ _ _, OwnG.none _ _ _ _ _, rfl, fun x hx => (by cases hx), List.nodup_nil, Nat.zero_le _, Nat.zero_le _⟩
    show Blk _ _ _ #[.int .i64 (room.toNat : Nat), _, _]
    rw [hr]
    exact Blk.new w _ _
  have hcov : ∀ k, rcS w.heap.size (.slice none 0 0) (.slice none 0 0) [] k → k = w.heap.size := fun k hk => by
    rcases hk with rfl | hk | hk | ⟨x, hx, _⟩
    · rfl
    · cases hk
    · cases hk
    · cases hx
  refine ⟨_, ⟨S, _, h.alloc _, ⟨⟨_, _, _, hin, rfl⟩, fun k hk => by rw [hcov k hk]; exact h.below.size⟩, fun k hk hk' => ?_, fun _ => Iff.rfl⟩⟩
  have := h.lt k hk
  have := hcov k hk'
  omega
theorem sim_new (room : Nat) : Sim (Lru.new room) ⟨room, [], []⟩ := ⟨rfl, ⟨[], List.Perm.refl _, List.Pairwise.nil, rfl⟩, fun _ => rfl⟩
set_option maxHeartbeats 1600000 in
/-- Ints, of two that are one. -/
theorem ints_same {w : World} {v1 v2 : Value} {b1 b2 n : Nat} {l : List Int} (h1 : OwnG ivV 3 1 w b1 v1 n l) (h2 : OwnG ivV 3 1 w b2 v2 n l) : Calls Try.prog 27 #[v1, v2] w fun e w' => e = .returned (.bool true) ∧ Below w.heap.size w w' := by
  obtain ⟨a1, c1, rfl, _, _, _⟩ := h1.shape iv_rowed
  obtain ⟨a2, c2, rfl, _, _, _⟩ := h2.shape iv_rowed
  have hn8 := h1.2.2
  have H1 := Lib.hid h1
  have H2 := Lib.hid h2
  clear h1 h2
  go_enter Try.func27, Try.ntmps27
  go_wp2
  go_loopw [5] (fun i wr => ∃ j : Nat, j ≤ n ∧ i = .int .i64 j ∧ Hid (Below w.heap.size w wr)) (fun i _ => n - (intOf i).toNat)
  case atStart => exact ⟨0, Nat.zero_le _, rfl, Below.refl _ _⟩
  case round =>
    obtain ⟨j, hj, rfl, HB⟩ := hrel
    by_cases hlt : j < n
    · obtain ⟨x, hx⟩ : ∃ x, l[j]? = some x := ⟨_, List.getElem?_eq_getElem (by have := H1.out.2.1; omega)⟩
      obtain ⟨p1, rfl⟩ := H1.out.at0 (by omega)
      obtain ⟨p2, rfl⟩ := H2.out.at0 (by omega)
      have e1 := iv_cell ((H1.out.later HB.out).rebase (Nat.zero_le _)) j x hx
      have e2 := iv_cell ((H2.out.later HB.out).rebase (Nat.zero_le _)) j x hx
      clear hx
      go_wp2_with fail
      go_quiet (fail)
      go_wp2
      go_roundw
      case rel => exact ⟨j + 1, by omega, by go_num, HB.out.trans ⟨rfl, rfl, rfl, Nat.le_refl _, fun _ _ => rfl⟩⟩
      case measure => simp [intOf]; omega
    · obtain rfl : j = n := by omega
      go_wp2
      go_ret
      exact ⟨rfl, HB.out⟩
end Go.Proofs.Ythmkmhfoicfapaa
