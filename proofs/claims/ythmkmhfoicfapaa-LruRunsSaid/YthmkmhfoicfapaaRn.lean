/-
  What an act does to both (layer 10): the answers are the same, and what the two states have in common stays. Conditions: the cache's state is as it always is.
-/
import Derived.Test.YthmkmhfoicfapaaRm
namespace Go.Proofs.Ythmkmhfoicfapaa
open Go.RowKit
set_option linter.unusedVariables false

theorem Sim.len {C : Lru} {D : RC} (h : Sim C D) : D.items.length = C.items.length := by
  obtain ⟨s, hp, _, he⟩ := h.list
  rw [he, List.length_map]
  exact hp.length_eq
theorem Sim.pres {C : Lru} {D : RC} (h : Sim C D) {k : Int} (hd : isDR D k = true) : Present C.items k := by
  rw [h.isD] at hd
  obtain ⟨y, hy, hk, _⟩ := isD_iff.1 hd
  exact ⟨y, hy, hk⟩
theorem Sim.ctx {C : Lru} {D : RC} (h : Sim C D) (hc : ItsOk C.items C.uses) : ∃ rank : Int → Nat, (∀ k, ∀ f ∈ rfirsts D.rels k, rank f < rank k) ∧ (∀ k, ∀ f ∈ firstsOf C.items k, rank f < rank k) ∧ ∀ k, isDR D k = true → rank k < C.items.length ∧ (lineR D.rels C.items.length [] k).length ≤ C.items.length := by
  obtain ⟨rank, h1, h2⟩ := small_rank hc
  refine ⟨rank, fun k f hf => h1 k f (by rw [← h.rels]; exact hf), h1, fun k hd => ⟨h2 k (h.pres hd), ?_⟩⟩
  rw [h.line hc]
  exact lines_len hc.closed hc.rise _ fun f hf => by
    rw [List.mem_singleton] at hf
    rw [hf]
    exact h.pres hd
theorem cleans_few : ∀ (l : List Int) (D : RC), (l.foldl cleanR D).rels.length ≤ D.rels.length
  | [], D => Nat.le_refl _
  | k :: r, D => Nat.le_trans (cleans_few r (cleanR D k)) (List.length_filter_le _ _)
/-- Put. -/
theorem Sim.put {C : Lru} {D : RC} (h : Sim C D) (hc : C.Ok) {k : Int} (hk : -9223372036854775808 ≤ k ∧ k ≤ 9223372036854775807) {b : List Int} (hb : b.length ≤ 1000) (d : Bool) (hu : C.uses + 1 ≤ 1000000) :
    ∃ n, (rput n D k b d).1 = (C.put k b d).1 ∧ Sim (C.put k b d).2 (rput n D k b d).2 ∧ (rput n D k b d).2.rels.length ≤ D.rels.length ∧ (putR D.items k b d).length ≤ D.room + 1 ∧
      ∃ rank : Int → Nat, (∀ k, ∀ f ∈ rfirsts D.rels k, rank f < rank k) ∧ ∀ z, isDR ⟨D.room, putR D.items k b d, D.rels⟩ z = true → rank z < n ∧ (lineR D.rels n [] z).length ≤ 100000 := by
  have h1 := h.putIts hc.its hk hb d hu
  have hc1 : ItsOk (Go.Proofs.Ythmkmhfoicfapaa.putIts C.items (C.uses + 1) k b d) (C.uses + 1) := put_ok hc.its hk hb d hu
  have hl := (put_len (its := C.items) (u := C.uses + 1) (k := k) (b := b) (d := d)).1
  have hlen : (putR D.items k b d).length = (Go.Proofs.Ythmkmhfoicfapaa.putIts C.items (C.uses + 1) k b d).length := h1.len
  have hm := hc.many
  have hr2 := hc.room2
  obtain ⟨rank, r1, _, r3⟩ := h1.ctx hc1
  dsimp only at r1 r3
  refine ⟨(Go.Proofs.Ythmkmhfoicfapaa.putIts C.items (C.uses + 1) k b d).length, ?_, ?_, ?_, by rw [hlen, h.room]; omega, rank, r1, fun z hz => ⟨(r3 z hz).1, Nat.le_trans (r3 z hz).2 (by omega)⟩⟩
  all_goals
    unfold rput
    try unfold Lru.put
    try dsimp only
    rw [hlen, h.room]
    by_cases hg : C.room < (Go.Proofs.Ythmkmhfoicfapaa.putIts C.items (C.uses + 1) k b d).length
  · rw [if_pos hg, if_pos hg]
    cases hi : Go.Proofs.Ythmkmhfoicfapaa.putIts C.items (C.uses + 1) k b d with
    | nil => rw [hi] at hg; cases hg
    | cons x r =>
      obtain ⟨z, t, e1, e2, e3⟩ := h1.evict hc1 hi
      dsimp only at e1 e2 e3
      rw [← hi, e2]
      have e4 := h1.line hc1 z.key
      dsimp only at e4
      unfold evR
      rw [e1]
      dsimp only
      rw [h.room] at *
      rw [e1] at *
      rw [e4]
  · rw [if_neg hg, if_neg hg]
  · rw [if_pos hg, if_pos hg]
    cases hi : Go.Proofs.Ythmkmhfoicfapaa.putIts C.items (C.uses + 1) k b d with
    | nil => rw [hi] at hg; cases hg
    | cons x r =>
      obtain ⟨z, t, e1, e2, e3⟩ := h1.evict hc1 hi
      dsimp only at e1 e2 e3
      rw [← hi]
      have e4 := h1.line hc1 z.key
      dsimp only at e4
      unfold evR
      rw [e1]
      dsimp only
      rw [h.room] at *
      rw [e1] at *
      rw [e4]
      exact e3
  · rw [if_neg hg, if_neg hg]
    rw [h.room] at h1
    exact h1
  · rw [if_pos hg]
    unfold evR
    cases hi : putR D.items k b d with
    | nil => exact Nat.le_refl _
    | cons z t =>
      dsimp only
      refine Nat.le_trans (List.length_filter_le _ _) ?_
      split
      · exact cleans_few _ _
      · exact Nat.le_refl _
  · rw [if_neg hg]
    exact Nat.le_refl _
/-- Flush. -/
theorem dirty_isD {its : List It} {k : Int} (h : k ∈ dirtyL its) : Go.Proofs.Ythmkmhfoicfapaa.isD its k = true := by
  unfold dirtyL at h
  obtain ⟨y, hy, rfl⟩ := List.mem_map.1 h
  obtain ⟨h1, h2⟩ := List.mem_filter.1 hy
  exact isD_iff.2 ⟨y, h1, rfl, h2⟩
theorem Sim.flushS {C : Lru} {D : RC} (h : Sim C D) (hc : C.Ok) : (writesR C.items.length (dirtyR D.items) ([], D)).1 = C.flush.1 ∧ Sim C.flush.2 (writesR C.items.length (dirtyR D.items) ([], D)).2 ∧ (writesR C.items.length (dirtyR D.items) ([], D)).2.rels.length ≤ D.rels.length ∧ (writesR C.items.length (dirtyR D.items) ([], D)).1.length ≤ 100000 := by
  have hp : ∀ k ∈ dirtyL C.items, Present C.items k := fun k hk => by
    obtain ⟨y, hy, e, _⟩ := isD_iff.1 (dirty_isD hk)
    exact ⟨y, hy, e⟩
  rw [h.dirties hc.its, h.flush hc.its fun k hk => dirty_isD hk]
  have h1 := lines_len hc.its.closed hc.its.rise (dirtyL C.items) hp
  have h2 := hc.many
  have h3 := hc.room2
  exact ⟨rfl, h.write hc.its hp, cleans_few _ _, by show (linesL C.items (dirtyL C.items)).length ≤ 100000; omega⟩
/-- After. -/
theorem Sim.afterS {C : Lru} {D : RC} (h : Sim C D) (hc : C.Ok) {rank : Int → Nat} (hr : ∀ k, ∀ f ∈ firstsOf C.items k, rank f < rank k) (k f : Int) : (afterR D (rank f) k f).1 = (C.after k f).1 ∧ Sim (C.after k f).2 (afterR D (rank f) k f).2 ∧ (afterR D (rank f) k f).2.rels.length ≤ D.rels.length + 1 := by
  unfold afterR Lru.after
  rw [h.isD, h.isD]
  cases hk : Go.Proofs.Ythmkmhfoicfapaa.isD C.items k with
  | false => exact ⟨rfl, h, Nat.le_succ _⟩
  | true =>
    cases hf : Go.Proofs.Ythmkmhfoicfapaa.isD C.items f with
    | false => exact ⟨rfl, h, Nat.le_succ _⟩
    | true =>
      have hpf : Present C.items f := by
        obtain ⟨y, hy, e, _⟩ := isD_iff.1 hf
        exact ⟨y, hy, e⟩
      have hcir := h.circle hc.its hr (f := f) (k := k) hpf
      rw [if_neg (show ¬ ((true && true) = false) by decide), if_pos (show (true && true) = true from rfl)]
      by_cases hm : k ∈ linesL C.items [f]
      · rw [if_pos hm, if_pos (hcir.2 hm)]
        exact ⟨rfl, h, Nat.le_succ _⟩
      · rw [if_neg hm, if_neg (fun e => hm (hcir.1 e))]
        refine ⟨rfl, h.after hc.its hk, ?_⟩
        dsimp only
        split
        · exact Nat.le_succ _
        · simp
/-- Get. -/
theorem Sim.mem {C : Lru} {D : RC} (h : Sim C D) {x : RIt} (hx : x ∈ D.items) : ∃ it ∈ C.items, toR it = x := by
  obtain ⟨s, hp, _, he⟩ := h.list
  rw [he] at hx
  obtain ⟨it, h1, h2⟩ := List.mem_map.1 hx
  exact ⟨it, hp.mem_iff.1 h1, h2⟩
theorem Sim.no {C : Lru} {D : RC} (h : Sim C D) {k : Int} (hk : ∀ x ∈ D.items, x.key ≠ k) : ∀ it ∈ C.items, it.key ≠ k := fun it hi e => by
  obtain ⟨s, hp, _, he⟩ := h.list
  exact hk (toR it) (by rw [he]; exact List.mem_map.2 ⟨it, hp.mem_iff.2 hi, rfl⟩) e
theorem Sim.getS {C : Lru} {D : RC} (h : Sim C D) (hc : C.Ok) {x : RIt} (hx : x ∈ D.items) : (C.get x.key).1 = x.bs ∧ (C.get x.key).2.1 = true ∧ Sim (C.get x.key).2.2 ⟨D.room, setR D.items x.key id, D.rels⟩ := by
  obtain ⟨it, h1, rfl⟩ := h.mem hx
  have hf := find_mem hc.its.rise h1
  have hk : hasK C.items it.key = true := hasK_iff.2 ⟨it, h1, rfl⟩
  have hg := h.get hc.its hk
  unfold Lru.get
  rw [show (toR it).key = it.key from rfl, hf]
  exact ⟨rfl, rfl, hg⟩
theorem Sim.getN {C : Lru} {D : RC} (h : Sim C D) {k : Int} (hk : ∀ x ∈ D.items, x.key ≠ k) : C.get k = ([], false, C) := by
  unfold Lru.get
  rw [List.find?_eq_none.2 fun it hi => by simpa using h.no hk it hi]
theorem Sim.dropN {C : Lru} {D : RC} (h : Sim C D) {k : Int} (hk : ∀ x ∈ D.items, x.key ≠ k) : C.drop k = C := by
  have hd : Go.Proofs.Ythmkmhfoicfapaa.isD C.items k = false := by
    cases hd : Go.Proofs.Ythmkmhfoicfapaa.isD C.items k with
    | false => rfl
    | true =>
      obtain ⟨y, hy, e, _⟩ := isD_iff.1 hd
      exact absurd e (h.no hk y hy)
  unfold Lru.drop dropL
  rw [hd, if_neg Bool.false_ne_true]
  have : delIt C.items k = C.items := List.filter_eq_self.2 fun y hy => by simpa using h.no hk y hy
  rw [this]
end Go.Proofs.Ythmkmhfoicfapaa
