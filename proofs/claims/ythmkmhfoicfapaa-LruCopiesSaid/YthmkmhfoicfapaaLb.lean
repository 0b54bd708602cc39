/-
  A cache in memory (package lru): a block for the cache, a row of pointers, a block and two rows an item; what stays when it turns. Conditions: none.
-/
import Derived.Test.YthmkmhfoicfapaaLa
import Derived.Test.YthmkmhfoicfapaaBl
import Derived.Test.YthmkmhfoicfapaaS2
namespace Go.Proofs.Ythmkmhfoicfapaa
open Go.RowKit
set_option linter.unusedVariables false

def ivV (z : Int) : List Value := [.int .i64 z]
theorem iv_rowed : Rowed Try.prog 38 3 1 8 ivV where
  under := Try.underlying38
  info := by
    have h : (Try.prog.info? 3).map (fun i => (i.zero.map (fun z => z.cells.size), i.size, i.bytes)) = some (some 1, 1, 8) := by kernel_rfl
    obtain ⟨i, hi, he⟩ := Option.map_eq_some_iff.1 h
    simp only [Prod.mk.injEq] at he
    obtain ⟨z, hz, hzs⟩ := Option.map_eq_some_iff.1 he.1
    exact ⟨i, z, hi, hz, he.2.1, he.2.2, hzs⟩
  pos := by decide
  small := by decide
  len := fun _ => rfl
  one := fun d u hu => by
    simp only [ivV, List.mem_cons, List.not_mem_nil, or_false] at hu
    subst hu
    rfl
theorem flat_iv : ∀ l : List Int, l.flatMap ivV = l.map fun z => Value.int .i64 z
  | [] => rfl
  | z :: l => by
    rw [List.flatMap_cons, flat_iv l]
    rfl
abbrev OwnI (w : World) (v : Value) (l : List Int) : Prop := OwnG ivV 3 1 w 0 v l.length l
structure IR where
  it : It
  G : Nat
  S : Nat → Prop
def ptrV (f : IR) : List Value := [.pointer (some ⟨f.G, 0, none⟩)]
theorem ptr_rowed : Rowed Try.prog 56 74 1 8 ptrV where
  under := Try.underlying56
  info := by
    have h : (Try.prog.info? 74).map (fun i => (i.zero.map (fun z => z.cells.size), i.size, i.bytes)) = some (some 1, 1, 8) := by kernel_rfl
    obtain ⟨i, hi, he⟩ := Option.map_eq_some_iff.1 h
    simp only [Prod.mk.injEq] at he
    obtain ⟨z, hz, hzs⟩ := Option.map_eq_some_iff.1 he.1
    exact ⟨i, z, hi, hz, he.2.1, he.2.2, hzs⟩
  pos := by decide
  small := by decide
  len := fun _ => rfl
  one := fun x u hu => by
    simp [ptrV] at hu
    subst hu
    rfl
/-- The item in memory. -/
structure ItemIn (w : World) (f : IR) (vb vf : Value) : Prop where
  blk : Blk w f.G 76 #[.int .i64 f.it.key, vb, .int .u64 f.it.used, .bool f.it.dirty, vf]
  bs : Own w 0 vb f.it.bs.length f.it.bs
  fs : OwnI w vf f.it.firsts
  mine : ∀ k, f.S k ↔ (k = f.G ∨ vb.ownBlock = some k ∨ vf.ownBlock = some k)
def ItemAt (w : World) (f : IR) : Prop := ∃ vb vf, ItemIn w f vb vf
theorem Own.lt {w : World} {base : Nat} {v : Value} {n : Nat} {xs : List Int} (h : Own w base v n xs) {k : Nat} (hk : v.ownBlock = some k) : k < w.heap.size := (h.1.lt k hk).2
theorem ownsRow_frame {w w' : World} {base : Nat} {e : TypeId} {sz : Nat} {v : Value} {n : Nat} {xs : List Value} (h : w.ownsRow base e sz v n xs) (hb : ∀ k, v.ownBlock = some k → w'.heap[k]? = w.heap[k]?) : w'.ownsRow base e sz v n xs := by
  refine ⟨h.1, ?_⟩
  rcases h.2 with h2 | ⟨g, cap, cur, rfl, h3, h4, h5⟩
  · exact Or.inl h2
  · exact Or.inr ⟨g, cap, cur, rfl, h3, (hb g rfl).trans h4, h5⟩
theorem Own.frame {w w' : World} {base : Nat} {v : Value} {n : Nat} {xs : List Int} (h : Own w base v n xs) (hb : ∀ k, v.ownBlock = some k → w'.heap[k]? = w.heap[k]?) : Own w' base v n xs := ⟨ownsRow_frame h.1 hb, h.2⟩
theorem OwnG.frame {α : Type} {cv : α → List Value} {e : TypeId} {sz : Nat} {w w' : World} {base n : Nat} {v : Value} {l : List α} (h : OwnG cv e sz w base v n l) (hb : ∀ k, v.ownBlock = some k → w'.heap[k]? = w.heap[k]?) : OwnG cv e sz w' base v n l := ⟨ownsRow_frame h.1 hb, h.2⟩
theorem OwnG.rebase {α : Type} {cv : α → List Value} {e : TypeId} {sz : Nat} {w : World} {base base' n : Nat} {v : Value} {l : List α} (h : OwnG cv e sz w base v n l) (hb : base' ≤ base) : OwnG cv e sz w base' v n l := by
  refine ⟨⟨h.1.1, ?_⟩, h.2⟩
  rcases h.1.2 with e | ⟨g, cap, cur, e, e1, e2⟩
  · exact Or.inl e
  · exact Or.inr ⟨g, cap, cur, e, by omega, e2⟩
theorem Own.rebase {w : World} {base base' : Nat} {v : Value} {n : Nat} {xs : List Int} (h : Own w base v n xs) (hb : base' ≤ base) : Own w base' v n xs := by
  refine ⟨⟨h.1.1, ?_⟩, h.2⟩
  rcases h.1.2 with e | ⟨g, cap, cur, e, e1, e2⟩
  · exact Or.inl e
  · exact Or.inr ⟨g, cap, cur, e, by omega, e2⟩
theorem ItemIn.lt {w : World} {f : IR} {vb vf : Value} (h : ItemIn w f vb vf) : ∀ k, f.S k → k < w.heap.size := fun k hk => by
  rcases (h.mine k).1 hk with rfl | h1 | h1
  · exact h.blk.lt
  · exact h.bs.lt h1
  · exact (h.fs.1.lt k h1).2
theorem ItemIn.frame {w w' : World} {f : IR} {vb vf : Value} (h : ItemIn w f vb vf) (hb : ∀ k, f.S k → w'.heap[k]? = w.heap[k]?) : ItemIn w' f vb vf :=
  ⟨(hb f.G ((h.mine _).2 (Or.inl rfl))).trans h.blk, h.bs.frame fun k hk => hb k ((h.mine k).2 (Or.inr (Or.inl hk))), h.fs.frame fun k hk => hb k ((h.mine k).2 (Or.inr (Or.inr hk))), h.mine⟩
theorem ItemIn.sG {w : World} {f : IR} {vb vf : Value} (h : ItemIn w f vb vf) : f.S f.G := (h.mine _).2 (Or.inl rfl)
theorem ItemIn.sB {w : World} {f : IR} {vb vf : Value} (h : ItemIn w f vb vf) {k : Nat} (e : vb.ownBlock = some k) : f.S k := (h.mine _).2 (Or.inr (Or.inl e))
theorem ItemIn.sF {w : World} {f : IR} {vb vf : Value} (h : ItemIn w f vb vf) {k : Nat} (e : vf.ownBlock = some k) : f.S k := (h.mine _).2 (Or.inr (Or.inr e))
theorem ItemAt.lt {w : World} {f : IR} (h : ItemAt w f) : ∀ k, f.S k → k < w.heap.size := by
  obtain ⟨_, _, h⟩ := h
  exact h.lt
theorem ItemAt.frame {w w' : World} {f : IR} (h : ItemAt w f) (hb : ∀ k, f.S k → w'.heap[k]? = w.heap[k]?) : ItemAt w' f := by
  obtain ⟨a, b, h⟩ := h
  exact ⟨a, b, h.frame hb⟩
/-- The cache in memory. -/
structure CacheIn (w : World) (B : Nat) (room : Nat) (vI : Value) (L : List IR) (uses : Nat) : Prop where
  blk : Blk w B 64 #[.int .i64 room, vI, .int .u64 uses]
  row : OwnG ptrV 74 1 w 0 vI L.length L
  item : ∀ f ∈ L, ItemAt w f
  apart : L.Pairwise fun f g => ∀ k, f.S k → ¬ g.S k
  out : ∀ f ∈ L, ¬ f.S B ∧ ∀ k, vI.ownBlock = some k → ¬ f.S k
/-- The blocks of a cache. -/
def ownS (B : Nat) (vI : Value) (L : List IR) : Nat → Prop := fun k => k = B ∨ vI.ownBlock = some k ∨ ∃ g ∈ L, g.S k
theorem CacheIn.frame {w w' : World} {B room uses : Nat} {vI : Value} {L : List IR} (h : CacheIn w B room vI L uses) (hb : ∀ k, ownS B vI L k → w'.heap[k]? = w.heap[k]?) : CacheIn w' B room vI L uses :=
  ⟨(hb B (Or.inl rfl)).trans h.blk, h.row.frame fun k hk => hb k (Or.inr (Or.inl hk)), fun f hf => (h.item f hf).frame fun k hk => hb k (Or.inr (Or.inr ⟨f, hf, hk⟩)), h.apart, h.out⟩
theorem CacheIn.ltS {w : World} {B room uses : Nat} {vI : Value} {L : List IR} (h : CacheIn w B room vI L uses) {k : Nat} (hk : ownS B vI L k) : k < w.heap.size := by
  rcases hk with rfl | h1 | ⟨f, hf, h1⟩
  · exact h.blk.lt
  · exact (h.row.1.lt k h1).2
  · exact (h.item f hf).lt k h1
/-- What a call of the cache's leaves: blocks that are not its own stay; its own are old ones of its own, or new. -/
structure Away (S : Nat → Prop) (w : World) (S' : Nat → Prop) (w' : World) : Prop where
  os : w'.os = w.os
  tape : w'.tape = w.tape
  output : w'.output = w.output
  size : w.heap.size ≤ w'.heap.size
  block : ∀ k, k < w.heap.size → ¬ S k → w'.heap[k]? = w.heap[k]?
  mine : ∀ k, S' k → S k ∨ w.heap.size ≤ k
theorem Away.refl (S : Nat → Prop) (w : World) : Away S w S w := ⟨rfl, rfl, rfl, Nat.le_refl _, fun _ _ _ => rfl, fun _ h => Or.inl h⟩
theorem Away.trans {S S1 S2 : Nat → Prop} {w w1 w2 : World} (h : Away S w S1 w1) (k : Away S1 w1 S2 w2) : Away S w S2 w2 :=
  ⟨k.os.trans h.os, k.tape.trans h.tape, k.output.trans h.output, Nat.le_trans h.size k.size, fun i hi hs => (k.block i (Nat.lt_of_lt_of_le hi h.size) (fun h1 => by
    rcases h.mine i h1 with h2 | h2
    · exact hs h2
    · omega)).trans (h.block i hi hs), fun i hi => by
    rcases k.mine i hi with h1 | h1
    · exact h.mine i h1
    · exact Or.inr (Nat.le_trans h.size h1)⟩
theorem Away.far {S S' : Nat → Prop} {w w' : World} (ha : Away S w S' w') {B : Nat} (hB : B < w.heap.size) (h : ¬ S B) : ¬ S' B := fun h' => by
  rcases ha.mine B h' with h1 | h1
  · exact h h1
  · omega
theorem Away.grown {S : Nat → Prop} {w0 w w' : World} {row : Option Nat} (ha : Away S w0 S w) (hg : w.grownBy w' row) (hr : ∀ k, row = some k → S k ∨ w0.heap.size ≤ k) : Away S w0 S w' :=
  ⟨hg.os.trans ha.os, hg.tape.trans ha.tape, hg.output.trans ha.output, Nat.le_trans ha.size hg.size, fun k hk hS => (hg.block k (Nat.lt_of_lt_of_le hk ha.size) (fun e => by
    rcases hr k e.symm with h | h
    · exact hS h
    · omega)).trans (ha.block k hk hS), fun _ h => Or.inl h⟩
theorem Away.later {S : Nat → Prop} {w0 w w' : World} (ha : Away S w0 S w) (hb : Below w.heap.size w w') : Away S w0 S w' := ha.grown (grown_of_below hb) (fun _ e => by cases e)
theorem Away.later' {S S' : Nat → Prop} {w0 w w' : World} (ha : Away S w0 S' w) (hS : ∀ k, S' k → k < w.heap.size) (hb : Below w.heap.size w w') : Away S w0 S' w' :=
  ⟨hb.os.trans ha.os, hb.tape.trans ha.tape, hb.output.trans ha.output, Nat.le_trans ha.size hb.size, fun k hk h => (hb.block k (Nat.lt_of_lt_of_le hk ha.size)).trans (ha.block k hk h), ha.mine⟩
theorem Away.set {S : Nat → Prop} {w0 w : World} (ha : Away S w0 S w) {B : Nat} (hB : S B) (i : Nat) (v : Value) : Away S w0 S (w.setCell ⟨B, i, none⟩ v) := ha.grown (grownBy_setCell4 w B i v) fun k e => by cases e; exact Or.inl hB
theorem Away.of_below {S : Nat → Prop} {w w' : World} (hb : Below w.heap.size w w') : Away S w S w' := (Away.refl S w).later hb
theorem Blk.away {S S' : Nat → Prop} {w w' : World} {B : Nat} {t : TypeId} {cs : Array Value} (h : Blk w B t cs) (hS : ¬ S B) (ha : Away S w S' w') : Blk w' B t cs := (ha.block B h.lt hS).trans h
theorem grown_past {w w1 w2 : World} {v : Value} (h1 : Below w.heap.size w w1) (h2 : w1.grownBy w2 v.ownBlock) : w.grownBy w2 v.ownBlock :=
  ⟨h2.os.trans h1.os, h2.tape.trans h1.tape, h2.output.trans h1.output, Nat.le_trans h1.size h2.size, fun k hk hne => (h2.block k (Nat.lt_of_lt_of_le hk h1.size) hne).trans (h1.block k hk)⟩
theorem undrew {w w' : World} {row : Option Nat} (h : w.drew.grownBy w' row) : w.grownBy w' row := ⟨h.os, h.tape, h.output, h.size, h.block⟩
theorem grown_then {w w1 w2 : World} {row : Option Nat} {g : Nat} (h1 : w.grownBy w1 row) (h2 : w1.grownBy w2 (some g)) (hg : row = some g ∨ w.heap.size ≤ g) : w.grownBy w2 row :=
  ⟨h2.os.trans h1.os, h2.tape.trans h1.tape, h2.output.trans h1.output, Nat.le_trans h1.size h2.size, fun k hk hne => (h2.block k (Nat.lt_of_lt_of_le hk h1.size) (fun e => by
    cases e
    rcases hg with e | e
    · exact hne e.symm
    · omega)).trans (h1.block k hk hne)⟩
theorem Blk.not_own {W : World} {B : Nat} {t : TypeId} {cs : Array Value} (h : Blk W B t cs) (hte : t ≠ 5) {base n : Nat} {v : Value} {l : List Int} (hr : Own W base v n l) : v.ownBlock ≠ some B := fun e' => by
  rcases hr.1.2 with ⟨rfl, _⟩ | ⟨g, cap, cur, rfl, _, hgb, _⟩
  · simp [Value.ownBlock] at e'
  · obtain rfl : g = B := by simpa [Value.ownBlock] using e'
    have := (show W.heap[g]? = _ from h).symm.trans hgb
    simp at this
    exact hte this.2
theorem OwnG.not_own {α : Type} {cv : α → List Value} {t : TypeId} {sz base' n' : Nat} {W : World} {u : Value} {m : List α} (h : OwnG cv t sz W base' u n' m) (hte : t ≠ 5) {base n : Nat} {v : Value} {l : List Int} (hr : Own W base v n l) {k : Nat} (hk : v.ownBlock = some k) : u.ownBlock ≠ some k := fun e' => by
  rcases h.1.2 with ⟨rfl, _⟩ | ⟨g, cap, cur, rfl, _, hgb, _⟩
  · simp [Value.ownBlock] at e'
  · obtain rfl : g = k := by simpa [Value.ownBlock] using e'
    exact Blk.not_own (show Blk W g t cur from hgb) hte hr hk
/-- The item anew. -/
theorem ItemIn.done {w w' : World} {f : IR} {vb vf : Value} (h : ItemIn w f vb vf) (it' : It) (vb' vf' : Value) (ha : Away f.S w f.S w') (hB : Blk w' f.G 76 #[.int .i64 it'.key, vb', .int .u64 it'.used, .bool it'.dirty, vf'])
    (hn : Own w' 0 vb' it'.bs.length it'.bs) (hw : OwnI w' vf' it'.firsts)
    (m1 : ∀ k, vb'.ownBlock = some k → f.S k ∨ w.heap.size ≤ k) (m3 : ∀ k, vf'.ownBlock = some k → f.S k ∨ w.heap.size ≤ k) :
    ∃ S', ItemAt w' ⟨it', f.G, S'⟩ ∧ Away f.S w S' w' := by
  refine ⟨fun k => k = f.G ∨ vb'.ownBlock = some k ∨ vf'.ownBlock = some k, ⟨vb', vf', hB, hn, hw, fun _ => Iff.rfl⟩, ha.os, ha.tape, ha.output, ha.size, ha.block, fun k hk => ?_⟩
  rcases hk with rfl | hk | hk
  · exact Or.inl ((h.mine _).2 (Or.inl rfl))
  · exact m1 k hk
  · exact m3 k hk
/-- An item's step is a step of the cache's. -/
theorem item_step {w w' : World} {B room uses : Nat} {vI : Value} {L1 L2 : List IR} {f f' : IR} (h : CacheIn w B room vI (L1 ++ f :: L2) uses) (ha : Away f.S w f'.S w') (hf : ItemAt w' f') (hG : f'.G = f.G) :
    CacheIn w' B room vI (L1 ++ f' :: L2) uses ∧ Away (ownS B vI (L1 ++ f :: L2)) w (ownS B vI (L1 ++ f' :: L2)) w' := by
  have hmem : f ∈ L1 ++ f :: L2 := by simp
  have hpw := h.apart
  rw [List.pairwise_append, List.pairwise_cons] at hpw
  obtain ⟨p1, ⟨p2, p3⟩, p4⟩ := hpw
  have hoth : ∀ g, (g ∈ L1 ∨ g ∈ L2) → g ∈ L1 ++ f :: L2 ∧ ∀ k, g.S k → ¬ f.S k := fun g hg => by
    rcases hg with hg | hg
    · exact ⟨by simp [hg], p4 g hg f (by simp)⟩
    · exact ⟨by simp [hg], fun k h1 h2 => p2 g hg k h2 h1⟩
  have hnew : ∀ g, (g ∈ L1 ∨ g ∈ L2) → ∀ k, g.S k → ¬ f'.S k := fun g hg k hk hk' => by
    obtain ⟨h1, h2⟩ := hoth g hg
    rcases ha.mine k hk' with h3 | h3
    · exact h2 k hk h3
    · have := (h.item g h1).lt k hk
      omega
  have hcases : ∀ g, g ∈ L1 ++ f' :: L2 → g = f' ∨ (g ∈ L1 ∨ g ∈ L2) := fun g hg => by
    rcases List.mem_append.1 hg with hg | hg
    · exact Or.inr (Or.inl hg)
    · rcases List.mem_cons.1 hg with hg | hg
      · exact Or.inl hg
      · exact Or.inr (Or.inr hg)
  have hlen : (L1 ++ f' :: L2).length = (L1 ++ f :: L2).length := by simp
  have hflat : (L1 ++ f' :: L2).flatMap ptrV = (L1 ++ f :: L2).flatMap ptrV := by simp [ptrV, hG]
  refine ⟨⟨(ha.block B h.blk.lt (h.out f hmem).1).trans h.blk, ?_, fun g hg => ?_, ?_, fun g hg => ?_⟩, ⟨ha.os, ha.tape, ha.output, ha.size, fun k hk hS => ha.block k hk fun hf' => hS (Or.inr (Or.inr ⟨f, hmem, hf'⟩)), fun k hk => ?_⟩⟩
  · have := h.row.frame (w' := w') fun k hk => ha.block k (h.row.1.lt k hk).2 ((h.out f hmem).2 k hk)
    rw [hlen]
    exact ⟨by rw [hflat]; exact this.1, hlen.trans this.2.1, this.2.2⟩
  · rcases hcases g hg with rfl | hg
    · exact hf
    · obtain ⟨h1, h2⟩ := hoth g hg
      exact (h.item g h1).frame fun k hk => ha.block k ((h.item g h1).lt k hk) (h2 k hk)
  · rw [List.pairwise_append, List.pairwise_cons]
    refine ⟨p1, ⟨fun g hg k hk hk' => hnew g (Or.inr hg) k hk' hk, p3⟩, fun g hg g' hg' => ?_⟩
    rcases List.mem_cons.1 hg' with rfl | hg'
    · exact hnew g (Or.inl hg)
    · exact p4 g hg g' (by simp [hg'])
  · rcases hcases g hg with rfl | hg
    · refine ⟨fun hk => ?_, fun k hk hk' => ?_⟩
      · rcases ha.mine B hk with h3 | h3
        · exact (h.out f hmem).1 h3
        · have := h.blk.lt
          omega
      · rcases ha.mine k hk' with h3 | h3
        · exact (h.out f hmem).2 k hk h3
        · have := (h.row.1.lt k hk).2
          omega
    · exact h.out g (hoth g hg).1
  · rcases hk with rfl | h1 | ⟨g, hg, h1⟩
    · exact Or.inl (Or.inl rfl)
    · exact Or.inl (Or.inr (Or.inl h1))
    · rcases hcases g hg with rfl | hg
      · rcases ha.mine k h1 with h3 | h3
        · exact Or.inl (Or.inr (Or.inr ⟨f, hmem, h3⟩))
        · exact Or.inr h3
      · exact Or.inl (Or.inr (Or.inr ⟨g, (hoth g hg).1, h1⟩))
/-- The row anew. -/
theorem cache_rows {w w' : World} {B room room' uses uses' : Nat} {vF vF' : Value} {L L' : List IR} (h : CacheIn w B room vF L uses)
    (hL : ∀ g ∈ L', g ∈ L ∨ (ItemAt w' g ∧ ∀ k, g.S k → w.heap.size ≤ k ∧ vF'.ownBlock ≠ some k)) (hap : L'.Pairwise fun f g => ∀ k, f.S k → ¬ g.S k) (hkeep : ∀ g ∈ L, ∀ k, g.S k → w'.heap[k]? = w.heap[k]?)
    (ha : Away (ownS B vF L) w (ownS B vF L) w') (hB : Blk w' B 64 #[.int .i64 room', vF', .int .u64 uses']) (hrow : OwnG ptrV 74 1 w' 0 vF' L'.length L')
    (hv : ∀ k, vF'.ownBlock = some k → vF.ownBlock = some k ∨ w.heap.size ≤ k) :
    CacheIn w' B room' vF' L' uses' ∧ Away (ownS B vF L) w (ownS B vF' L') w' := by
  refine ⟨⟨hB, hrow, fun g hg => ?_, hap, fun g hg => ?_⟩, ⟨ha.os, ha.tape, ha.output, ha.size, ha.block, fun k hk => ?_⟩⟩
  · rcases hL g hg with h1 | ⟨h1, _⟩
    · exact (h.item g h1).frame (hkeep g h1)
    · exact h1
  · rcases hL g hg with h1 | ⟨_, h2⟩
    · refine ⟨(h.out g h1).1, fun k hk hk' => ?_⟩
      rcases hv k hk with h3 | h3
      · exact (h.out g h1).2 k h3 hk'
      · have := (h.item g h1).lt k hk'
        omega
    · exact ⟨fun hk => by have := (h2 B hk).1; have := h.blk.lt; omega, fun k hk hk' => (h2 k hk').2 hk⟩
  · rcases hk with rfl | hk | ⟨g, hg, hk⟩
    · exact Or.inl (Or.inl rfl)
    · rcases hv k hk with h3 | h3
      · exact Or.inl (Or.inr (Or.inl h3))
      · exact Or.inr h3
    · rcases hL g hg with h1 | ⟨_, h2⟩
      · exact Or.inl (Or.inr (Or.inr ⟨g, h1, hk⟩))
      · exact Or.inr (h2 k hk).1
theorem ownS_B (B : Nat) (vF : Value) (L : List IR) : ownS B vF L B := Or.inl rfl
section
variable {w : World} {B room uses : Nat} {vI : Value} {L : List IR}
theorem CacheIn.c0 (h : CacheIn w B room vI L uses) : w.cell? ⟨B, 0, none⟩ = some (.int .i64 room) := by rw [h.blk.cell]; rfl
theorem CacheIn.c1 (h : CacheIn w B room vI L uses) : w.cell? ⟨B, 1, none⟩ = some vI := by rw [h.blk.cell]; rfl
theorem CacheIn.c2 (h : CacheIn w B room vI L uses) : w.cell? ⟨B, 2, none⟩ = some (.int .u64 uses) := by rw [h.blk.cell]; rfl
theorem CacheIn.rowB (h : CacheIn w B room vI L uses) : vI.ownBlock ≠ some B := fun e => by
  exact Blk.not_row h.blk (by decide) h.row e.symm
theorem CacheIn.later {w' : World} (h : CacheIn w B room vI L uses) (hb : Below w.heap.size w w') : CacheIn w' B room vI L uses := h.frame fun _ hk => hb.block _ (h.ltS hk)
theorem CacheIn.away {w' : World} {S S' : Nat → Prop} (h : CacheIn w B room vI L uses) (ha : Away S w S' w') (hS : ∀ k, ownS B vI L k → ¬ S k) : CacheIn w' B room vI L uses := h.frame fun k hk => ha.block k (h.ltS hk) (hS k hk)
end
/-- The cache at p is C; its own blocks are those of S. -/
def CacheAt (w : World) (p : Addr) (C : Lru) (S : Nat → Prop) : Prop :=
  ∃ B vI L, p = ⟨B, 0, none⟩ ∧ CacheIn w B C.room vI L C.uses ∧ L.map IR.it = C.items ∧ C.Ok ∧ S = ownS B vI L
theorem CacheAt.lt {w : World} {p : Addr} {C : Lru} {S : Nat → Prop} (h : CacheAt w p C S) : ∀ k, S k → k < w.heap.size := by
  obtain ⟨B, vI, L, _, h, _, _, rfl⟩ := h
  exact fun k hk => h.ltS hk
theorem CacheAt.frame {w w' : World} {p : Addr} {C : Lru} {S : Nat → Prop} (h : CacheAt w p C S) (hb : ∀ k, S k → w'.heap[k]? = w.heap[k]?) : CacheAt w' p C S := by
  obtain ⟨B, vI, L, hp, h, hC, hO, rfl⟩ := h
  exact ⟨B, vI, L, hp, h.frame hb, hC, hO, rfl⟩
/-- The cache at p is C; all that lay ahead of w0's end stays. -/
structure Has (w0 : World) (p : Addr) (C : Lru) (w : World) (S : Nat → Prop) : Prop where
  at' : CacheAt w p C S
  low : ∀ k, S k → w0.heap.size ≤ k
  below : Below w0.heap.size w0 w
theorem Has.lt {w0 w : World} {p : Addr} {D : Lru} {S : Nat → Prop} (h : Has w0 p D w S) : ∀ k, S k → k < w.heap.size := h.at'.lt
theorem Has.ok {w0 w : World} {p : Addr} {D : Lru} {S : Nat → Prop} (h : Has w0 p D w S) : D.Ok := by
  obtain ⟨_, _, _, _, _, _, h, _⟩ := h.at'
  exact h
theorem Has.later {w0 w w' : World} {p : Addr} {D : Lru} {S : Nat → Prop} (h : Has w0 p D w S) (hb : Below w.heap.size w w') : Has w0 p D w' S :=
  ⟨h.at'.frame fun k hk => hb.block k (h.lt k hk), h.low, h.below.trans (hb.mono h.below.size)⟩
theorem Has.alloc {w0 w : World} {p : Addr} {D : Lru} {S : Nat → Prop} (h : Has w0 p D w S) (o : Obj) : Has w0 p D (w.alloc o) S := h.later ((Below.refl _ _).alloc (Nat.le_refl _) o)
theorem Has.drew {w0 w : World} {p : Addr} {D : Lru} {S : Nat → Prop} (h : Has w0 p D w S) : Has w0 p D w.drew S := h.later (Below.refl _ _).drew
theorem Has.grown {w0 w w' : World} {p : Addr} {D : Lru} {S : Nat → Prop} {row : Option Nat} (h : Has w0 p D w S) (hg : w.grownBy w' row) (hr : ∀ k, row = some k → ¬ S k ∧ w0.heap.size ≤ k) : Has w0 p D w' S :=
  ⟨h.at'.frame fun k hk => hg.block k (h.lt k hk) (fun e => (hr k e.symm).1 hk), h.low, h.below.grown hg h.below.size fun k e => (hr k e).2⟩
theorem Has.set {w0 w : World} {p : Addr} {D : Lru} {S : Nat → Prop} (h : Has w0 p D w S) {B : Nat} (hB : ¬ S B) (h0 : w0.heap.size ≤ B) (i : Nat) (v : Value) : Has w0 p D (w.setCell ⟨B, i, none⟩ v) S :=
  h.grown (grownBy_setCell4 w B i v) fun k e => by cases e; exact ⟨hB, h0⟩
theorem Has.next {w0 w w' : World} {p : Addr} {D D' : Lru} {S S' : Nat → Prop} (h : Has w0 p D w S) (ha : Away S w S' w') (hd : CacheAt w' p D' S') : Has w0 p D' w' S' :=
  ⟨hd, fun k hk => by
    rcases ha.mine k hk with h1 | h1
    · exact h.low k h1
    · exact Nat.le_trans h.below.size h1, h.below.trans ⟨ha.os, ha.tape, ha.output, ha.size, fun k hk => ha.block k (Nat.lt_of_lt_of_le hk h.below.size) fun hS => by have := h.low k hS; omega⟩⟩
theorem Has.fresh {w0 w : World} {p : Addr} {D : Lru} {S : Nat → Prop} (h : Has w0 p D w S) {B : Nat} (hB : w.heap.size ≤ B ∨ B < w0.heap.size) : ¬ S B := fun hS => by
  have h1 := h.lt B hS
  have h2 := h.low B hS
  omega
end Go.Proofs.Ythmkmhfoicfapaa
