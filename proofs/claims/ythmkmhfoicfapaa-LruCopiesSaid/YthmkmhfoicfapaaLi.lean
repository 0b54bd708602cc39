/-
  Lines of dirty keys (package lru): the closure that calls itself. Conditions: the keys rise, what items are ordered after is there.
-/
import Derived.Test.YthmkmhfoicfapaaLh
import Derived.Maps.OwnSet
import Derived.Deep.Onto
namespace Go.Proofs.Ythmkmhfoicfapaa
open Go.RowKit Go.Maps
set_option linter.unusedVariables false

theorem lawI : Keyed Try.prog 3 := int_keyed Try.underlying3
def Dmet : List Int → DataW Unit
  | [] => .map []
  | k :: l => (Dmet l).put (.int .i64 k) (.agg [])
theorem Dmet_map : ∀ l, IsMap (Dmet l)
  | [] => isMap_empty
  | k :: l => (Dmet_map l).put _ _
theorem lit_ne {a b : Int} (h : a ≠ b) : (Lit.int .i64 a) ≠ (Lit.int .i64 b) := fun e => h (by injection e)
theorem Dmet_has (k : Int) : ∀ l, has (Dmet l) (.int .i64 k) = decide (k ∈ l)
  | [] => rfl
  | a :: l => by
    unfold Dmet
    by_cases h : k = a
    · subst h
      rw [has_put_same (Dmet_map l) (by trivial)]
      simp
    · rw [has_put_other (lit_ne h), Dmet_has k l]
      simp [h]
theorem wf64 {k : Int} (h : -9223372036854775808 ≤ k ∧ k ≤ 9223372036854775807) : (Lit.int .i64 k).wf = true := by
  simp only [Lit.wf, IntKind.min, IntKind.max, IntKind.signed, IntKind.bits, Bool.and_eq_true]
  simp
  omega
theorem keyI {k : Int} (h : -9223372036854775808 ≤ k ∧ k ≤ 9223372036854775807) : keyOf Try.prog 3 (.int .i64 k) = some (.int .i64 k) := keyOf_int_mk Try.underlying3 (wf64 h)
theorem zeroU (w : World) : (zeroValue 57).run Try.prog w = .ok (.agg #[]) w := by kernel_rfl
/-- The boxes of 'lines'. -/
structure Bx where
  c : Nat
  met : Nat
  add : Nat
  all : Nat
  M : Nat
def Bx.caps (x : Bx) : Array Value := #[.pointer (some ⟨x.met, 0, none⟩), .pointer (some ⟨x.c, 0, none⟩), .pointer (some ⟨x.add, 0, none⟩), .pointer (some ⟨x.all, 0, none⟩)]
structure StIn (w0 : World) (B : Nat) (x : Bx) (w : World) (st : List Int × List Int) : Prop where
  below : Below w0.heap.size w0 w
  c : Blk w x.c 25 #[.pointer (some ⟨B, 0, none⟩)]
  met : Blk w x.met 103 #[.map (some x.M)]
  add : Blk w x.add 52 #[.func (.func 64) #[] #[.pointer (some ⟨x.met, 0, none⟩), .pointer (some ⟨x.c, 0, none⟩), .pointer (some ⟨x.add, 0, none⟩), .pointer (some ⟨x.all, 0, none⟩)]]
  all : ∃ v, Blk w x.all 38 #[v] ∧ OwnG ivV 3 1 w w0.heap.size v st.2.length st.2
  mp : w.ownsMap Try.prog 3 (unitElem (H := Unit)) x.M st.1.length (Dmet st.1)
  low : w0.heap.size ≤ x.all ∧ w0.heap.size ≤ x.M
theorem map_not_cells {w : World} {k : TypeId} {b n : Nat} {D : DataW Unit} (h : w.ownsMap Try.prog k (unitElem (H := Unit)) b n D) {G : Nat} {t : TypeId} {cs : Array Value} (hB : Blk w G t cs) : G ≠ b := fun e => by
  subst e
  obtain ⟨es, clock, hb, _⟩ := h
  rw [show w.heap[G]? = some (.cells cs t (0, 0)) from hB] at hb
  cases hb
theorem map_not_row {w : World} {k : TypeId} {b n : Nat} {D : DataW Unit} (h : w.ownsMap Try.prog k (unitElem (H := Unit)) b n D) {base m : Nat} {v : Value} {l : List Int} (hr : OwnG ivV 3 1 w base v m l) : v.ownBlock ≠ some b := fun e => by
  obtain ⟨es, clock, hb, _⟩ := h
  have := hr.cells b _ e hb
  cases this
theorem OwnG.later {α : Type} {cv : α → List Value} {e : TypeId} {sz : Nat} {w w' : World} {base n : Nat} {v : Value} {l : List α} (h : OwnG cv e sz w base v n l) (hb : Below w.heap.size w w') : OwnG cv e sz w' base v n l := h.frame fun k hk => hb.block k (h.1.lt k hk).2
theorem StIn.later {w0 w w' : World} {B : Nat} {x : Bx} {st : List Int × List Int} (h : StIn w0 B x w st) (hb : Below w.heap.size w w') : StIn w0 B x w' st := by
  obtain ⟨v, h1, h2⟩ := h.all
  exact ⟨h.below.trans (hb.mono h.below.size), h.c.later hb, h.met.later hb, h.add.later hb, ⟨v, h1.later hb, h2.later hb⟩, h.mp.kept (grown_of_below hb) (by simp), h.low⟩
theorem StIn.put {w0 w w' : World} {B : Nat} {x : Bx} {met all : List Int} {k : Int} (h : StIn w0 B x w (met, all)) (hm : w'.ownsMap Try.prog 3 (unitElem (H := Unit)) x.M (met.length + 1) ((Dmet met).put (.int .i64 k) (.agg []))) (hg : w.grownBy w' (some x.M)) : StIn w0 B x w' (k :: met, all) := by
  obtain ⟨v, h1, h2⟩ := h.all
  have hn : ∀ {G : Nat} {t : TypeId} {cs : Array Value}, Blk w G t cs → some G ≠ some x.M := fun hB e => map_not_cells h.mp hB (by injection e)
  refine ⟨h.below.grown hg h.below.size fun k e => by cases e; exact h.low.2, h.c.kept hg (hn h.c), h.met.kept hg (hn h.met), h.add.kept hg (hn h.add), ⟨v, h1.kept hg (hn h1), h2.frame fun k hk => hg.block k (h2.1.lt k hk).2 fun e => map_not_row h.mp h2 (by rw [hk, e])⟩, hm, h.low⟩
theorem StIn.app {w0 w w1 w2 : World} {B : Nat} {x : Bx} {met all : List Int} {k : Int} {v v' : Value} (h : StIn w0 B x w (met, all)) (hv : Blk w x.all 38 #[v]) (hr : OwnG ivV 3 1 w w0.heap.size v all.length all) (h1 : Below w.heap.size w w1) (h2 : w1.grownBy w2 v.ownBlock)
    (hr2 : OwnG ivV 3 1 w2 w0.heap.size v' (all.length + 1) (all ++ [k])) : StIn w0 B x (w2.setCell ⟨x.all, 0, none⟩ v') (met, all ++ [k]) := by
  have q := h.later h1
  have hv1 := hv.later h1
  have hr1 := hr.later h1
  have hn : ∀ {G : Nat} {t : TypeId} {cs : Array Value}, Blk w1 G t cs → t ≠ 3 → some G ≠ v.ownBlock := fun hB ht => Blk.not_row hB ht hr1
  have a2 : Blk w2 x.all 38 #[v] := hv1.kept h2 (hn hv1 (by decide))
  have m2 : w2.ownsMap Try.prog 3 (unitElem (H := Unit)) x.M met.length (Dmet met) := q.mp.kept h2 (fun e => map_not_row q.mp hr1 e.symm)
  have hne : ∀ {G : Nat} {t : TypeId} {cs : Array Value}, Blk w2 G t cs → t ≠ 38 → G ≠ x.all := fun hB ht e => by
    subst e
    have := (show w2.heap[x.all]? = _ from hB).symm.trans a2
    simp at this
    exact ht this.2
  have c2 := q.c.kept h2 (hn q.c (by decide))
  have e2 := q.met.kept h2 (hn q.met (by decide))
  have d2 := q.add.kept h2 (hn q.add (by decide))
  refine ⟨(q.below.grown h2 q.below.size fun k e => (hr1.1.lt k e).1).grown (grownBy_setCell4 w2 x.all 0 v') (Nat.le_trans q.below.size h2.size) fun k e => by cases e; exact h.low.1, c2.other (hne c2 (by decide)) _, e2.other (hne e2 (by decide)) _, d2.other (hne d2 (by decide)) _, ⟨v', ?_, ?_⟩, m2.setCell (fun e => map_not_cells m2 a2 e.symm) _, h.low⟩
  · have := a2.set 0 v'
    exact this
  · have hl : (all ++ [k]).length = all.length + 1 := by simp
    rw [hl]
    exact hr2.frame fun j hj => Below.heap_setCell w2 ⟨x.all, 0, none⟩ v' j fun e => Blk.not_row a2 (by decide) hr2 (by rw [hj, e])
/-- What lies below 'lines'. -/
structure Base0 (w0 : World) (B room uses : Nat) (vI : Value) (L : List IR) : Prop where
  c : CacheIn w0 B room vI L uses
  rise : Rises L
  many : L.length ≤ 2000
  closed : Closed (L.map IR.it)
  kr : ∀ f ∈ L, -9223372036854775808 ≤ f.key ∧ f.key ≤ 9223372036854775807
def AddQ (w0 : World) (B : Nat) (x : Bx) (st : List Int × List Int) (e : Ending) (w' : World) : Prop := e = .returned (.tuple #[]) ∧ StIn w0 B x w' st
set_option maxRecDepth 100000 in
theorem add_met {w0 w : World} {B : Nat} {x : Bx} {st : List Int × List Int} (h : StIn w0 B x w st) {k : Int} (hk : -9223372036854775808 ≤ k ∧ k ≤ 9223372036854775807) (hm : k ∈ st.1) :
    Calls Try.prog 64 #[.int .i64 k, .pointer (some ⟨x.met, 0, none⟩), .pointer (some ⟨x.c, 0, none⟩), .pointer (some ⟨x.add, 0, none⟩), .pointer (some ⟨x.all, 0, none⟩)] w (AddQ w0 B x st) := by
  have c1 := (h.met.cell 0).trans rfl
  have HH := Lib.hid h
  have HK := Lib.hid (keyI hk)
  have hhas : has (Dmet st.1) (.int .i64 k) = true := by rw [Dmet_has]; simpa using hm
  clear h
  go_enter Try.func64, Try.ntmps64
  go_wp2_with (at_lookup; refine wpList_lookup_own_unit _ rfl _ _ 103 rfl 3 57 lawI Try.underlying103 (zeroU _) x.M _ _ rfl HH.out.mp _ _ rfl HK.out ?_; rw [hhas])
  go_end0
  exact ⟨rfl, HH.out.later ((Below.refl _ _).alloc (Nat.le_refl _) _)⟩
end Go.Proofs.Ythmkmhfoicfapaa
