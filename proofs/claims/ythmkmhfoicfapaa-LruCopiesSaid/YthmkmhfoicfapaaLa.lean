/-
  Plain mathematics of a write-back cache (package lru): items, lines of dirty keys, what a call makes of them. Condition: none.
-/
import Derived.Test.YthmkmhfoicfapaaBase
namespace Go.Proofs.Ythmkmhfoicfapaa
open Go.RowKit
set_option linter.unusedVariables false

structure It where
  key : Int
  bs : List Int
  used : Nat
  dirty : Bool
  firsts : List Int
structure Lru where
  room : Nat
  uses : Nat
  items : List It
def isD (its : List It) (k : Int) : Bool := its.any fun it => decide (it.key = k) && it.dirty
def hasK (its : List It) (k : Int) : Bool := its.any fun it => decide (it.key = k)
def firstsOf (its : List It) (k : Int) : List Int := ((its.find? fun it => decide (it.key = k)).map It.firsts).getD []
def addL (its : List It) : Nat → List Int × List Int → Int → List Int × List Int
  | 0, st, _ => st
  | n + 1, st, k => if k ∈ st.1 then st else
      let s := (firstsOf its k).foldl (addL its n) (k :: st.1, st.2)
      (s.1, s.2 ++ [k])
def linesL (its : List It) (ks : List Int) : List Int := (ks.foldl (addL its its.length) ([], [])).2
def unmet (its : List It) (met : List Int) : Nat := (its.filter fun it => !decide (it.key ∈ met)).length
def setIt (its : List It) (k : Int) (g : It → It) : List It := its.map fun it => if it.key = k then g it else it
def endR (its : List It) : List It := its.map fun it => { it with firsts := it.firsts.filter (isD its) }
def cleanL (its : List It) (l : List Int) : List It := its.map fun it => if it.key ∈ l then { it with dirty := false } else it
def writeL (its : List It) (ks : List Int) : List It := endR (cleanL its (linesL its ks))
def insIt (its : List It) (x : It) : List It := its.filter (fun y => decide (y.key < x.key)) ++ x :: its.filter (fun y => decide (x.key < y.key))
def delIt (its : List It) (k : Int) : List It := its.filter fun y => !decide (y.key = k)
def oldest : List It → It → It
  | [], m => m
  | x :: r, m => oldest r (if x.used < m.used then x else m)
def putIts (its : List It) (u : Nat) (k : Int) (b : List Int) (d : Bool) : List It :=
  if hasK its k then setIt its k fun it => { it with bs := b, dirty := it.dirty || d, used := u } else insIt its ⟨k, b, u, d, []⟩
def evictL : List It → List Int × List It
  | [] => ([], [])
  | x :: r =>
    let o := oldest r x
    if o.dirty then (linesL (x :: r) [o.key], delIt (writeL (x :: r) [o.key]) o.key) else ([], delIt (x :: r) o.key)
def Lru.put (C : Lru) (k : Int) (b : List Int) (d : Bool) : List Int × Lru :=
  let its := putIts C.items (C.uses + 1) k b d
  if C.room < its.length then ((evictL its).1, ⟨C.room, C.uses + 1, (evictL its).2⟩) else ([], ⟨C.room, C.uses + 1, its⟩)
def Lru.get (C : Lru) (k : Int) : List Int × Bool × Lru :=
  match C.items.find? fun it => decide (it.key = k) with
  | none => ([], false, C)
  | some it => (it.bs, true, ⟨C.room, C.uses + 1, setIt C.items k fun x => { x with used := C.uses + 1 }⟩)
def Lru.after (C : Lru) (k f : Int) : Int × Lru :=
  if isD C.items k && isD C.items f then
    if k ∈ linesL C.items [f] then (11, C)
    else (0, ⟨C.room, C.uses, setIt C.items k fun x => if f ∈ x.firsts then x else { x with firsts := x.firsts ++ [f] }⟩)
  else (15, C)
def dirtyL (its : List It) : List Int := (its.filter It.dirty).map It.key
def Lru.flush (C : Lru) : List Int × Lru := (linesL C.items (dirtyL C.items), ⟨C.room, C.uses, writeL C.items (dirtyL C.items)⟩)
def dropL (its : List It) (k : Int) : List It := if isD its k then endR (delIt its k) else delIt its k
def Lru.drop (C : Lru) (k : Int) : Lru := ⟨C.room, C.uses, dropL C.items k⟩
def Lru.new (room : Nat) : Lru := ⟨room, 0, []⟩

/-- What is always so. -/
structure ItsOk (its : List It) (u : Nat) : Prop where
  rise : its.Pairwise fun a b => a.key < b.key
  used : ∀ it ∈ its, it.used ≤ u
  bsl : ∀ it ∈ its, it.bs.length ≤ 1000
  fdirty : ∀ it ∈ its, ∀ f ∈ it.firsts, isD its f = true
  clean : ∀ it ∈ its, it.dirty = false → it.firsts = []
  nodup : ∀ it ∈ its, it.firsts.Nodup
  small : u ≤ 1000000
  kr : ∀ it ∈ its, -9223372036854775808 ≤ it.key ∧ it.key ≤ 9223372036854775807
  acyc : ∃ rank : Int → Nat, ∀ it ∈ its, ∀ f ∈ it.firsts, rank f < rank it.key
structure Lru.Ok (C : Lru) : Prop where
  its : ItsOk C.items C.uses
  many : C.items.length ≤ C.room
  room1 : 1 ≤ C.room
  room2 : C.room ≤ 1024

theorem isD_iff {its : List It} {k : Int} : isD its k = true ↔ ∃ it ∈ its, it.key = k ∧ it.dirty = true := by
  simp [isD]
theorem hasK_iff {its : List It} {k : Int} : hasK its k = true ↔ ∃ it ∈ its, it.key = k := by
  simp [hasK]
theorem key_one {its : List It} (h : its.Pairwise fun a b => a.key < b.key) {a b : It} (ha : a ∈ its) (hb : b ∈ its) (e : a.key = b.key) : a = b := by
  obtain ⟨i, hi, rfl⟩ := List.getElem_of_mem ha
  obtain ⟨j, hj, rfl⟩ := List.getElem_of_mem hb
  rcases Nat.lt_trichotomy i j with h' | h' | h'
  · have := List.pairwise_iff_getElem.1 h i j hi hj h'
    omega
  · subst h'
    rfl
  · have := List.pairwise_iff_getElem.1 h j i hj hi h'
    omega
theorem find_mem {its : List It} (h : its.Pairwise fun a b => a.key < b.key) {it : It} (hm : it ∈ its) : its.find? (fun x => decide (x.key = it.key)) = some it := by
  cases hf : its.find? (fun x => decide (x.key = it.key)) with
  | none => exact absurd (List.find?_eq_none.1 hf it hm) (by simp)
  | some y =>
    have h1 := List.find?_some hf
    have h2 := List.mem_of_find?_eq_some hf
    rw [key_one h h2 hm (by simpa using h1)]
theorem firstsOf_mem {its : List It} (h : its.Pairwise fun a b => a.key < b.key) {it : It} (hm : it ∈ its) : firstsOf its it.key = it.firsts := by
  unfold firstsOf
  rw [find_mem h hm]
  rfl
theorem isD_mem {its : List It} (h : its.Pairwise fun a b => a.key < b.key) {it : It} (hm : it ∈ its) : isD its it.key = it.dirty := by
  cases hd : it.dirty with
  | true => exact isD_iff.2 ⟨it, hm, rfl, hd⟩
  | false =>
    cases hi : isD its it.key with
    | false => rfl
    | true =>
      obtain ⟨y, hy, h1, h2⟩ := isD_iff.1 hi
      rw [key_one h hy hm h1, hd] at h2
      cases h2
theorem isD_none {its : List It} {k : Int} (h : ∀ it ∈ its, it.key ≠ k) : isD its k = false := by
  cases hi : isD its k with
  | false => rfl
  | true =>
    obtain ⟨y, hy, h1, _⟩ := isD_iff.1 hi
    exact absurd h1 (h y hy)
theorem ItsOk.firsts_key {its : List It} {u : Nat} (h : ItsOk its u) {it : It} (hm : it ∈ its) {f : Int} (hf : f ∈ it.firsts) : ∃ y ∈ its, y.key = f := by
  obtain ⟨y, hy, h1, _⟩ := isD_iff.1 (h.fdirty it hm f hf)
  exact ⟨y, hy, h1⟩
def Closed (its : List It) : Prop := ∀ it ∈ its, ∀ f ∈ it.firsts, ∃ y ∈ its, y.key = f
theorem ItsOk.closed {its : List It} {u : Nat} (h : ItsOk its u) : Closed its := fun _ hm _ hf => h.firsts_key hm hf
/-! What is met grows; what is not met shrinks. -/
theorem foldl_met {its : List It} {n : Nat} (ih : ∀ st k, st.1 ⊆ (addL its n st k).1) (ks : List Int) : ∀ st, st.1 ⊆ (ks.foldl (addL its n) st).1 := by
  induction ks with
  | nil => exact fun st => List.Subset.refl _
  | cons k r ihr => exact fun st => (ih st k).trans (ihr _)
theorem addL_met {its : List It} : ∀ n st k, st.1 ⊆ (addL its n st k).1
  | 0, st, k => List.Subset.refl _
  | n + 1, st, k => by
    unfold addL
    split
    · exact List.Subset.refl _
    · exact (List.subset_cons_self _ _).trans (foldl_met (addL_met n) _ (k :: st.1, st.2))
theorem unmet_mono {its : List It} {a b : List Int} (h : a ⊆ b) : unmet its b ≤ unmet its a := by
  unfold unmet
  rw [← List.countP_eq_length_filter, ← List.countP_eq_length_filter]
  refine List.countP_mono_left fun x _ hx => ?_
  simp at hx ⊢
  exact fun hc => hx (h hc)
theorem unmet_cons {its : List It} {met : List Int} {it : It} (hm : it ∈ its) (hn : it.key ∉ met) : unmet its (it.key :: met) < unmet its met := by
  unfold unmet
  rw [← List.countP_eq_length_filter, ← List.countP_eq_length_filter]
  obtain ⟨L1, L2, rfl⟩ := List.append_of_mem hm
  rw [List.countP_append, List.countP_append, List.countP_cons_of_neg (by simp), List.countP_cons_of_pos (by simpa using hn)]
  have h1 : L1.countP (fun x => !decide (x.key ∈ it.key :: met)) ≤ L1.countP (fun x => !decide (x.key ∈ met)) := List.countP_mono_left fun x _ hx => by
    simp at hx ⊢
    exact hx.2
  have h2 : L2.countP (fun x => !decide (x.key ∈ it.key :: met)) ≤ L2.countP (fun x => !decide (x.key ∈ met)) := List.countP_mono_left fun x _ hx => by
    simp at hx ⊢
    exact hx.2
  omega
theorem unmet_le (its : List It) (met : List Int) : unmet its met ≤ its.length := List.length_filter_le _ _
theorem unmet_zero {its : List It} {met : List Int} {it : It} (hm : it ∈ its) (h : unmet its met = 0) : it.key ∈ met := by
  have := List.eq_nil_of_length_eq_zero h
  have := List.filter_eq_nil_iff.1 this it hm
  simpa using this
def StOk (its : List It) (st : List Int × List Int) : Prop := st.1.length + unmet its st.1 ≤ its.length ∧ st.2.length ≤ st.1.length
theorem StOk.start (its : List It) : StOk its ([], []) := ⟨by simpa using unmet_le its [], Nat.le_refl _⟩
theorem StOk.met {its : List It} {met all : List Int} (h : StOk its (met, all)) {it : It} (hm : it ∈ its) (hn : it.key ∉ met) : StOk its (it.key :: met, all) := by
  have h1 := unmet_cons hm hn
  obtain ⟨h2, h3⟩ := h
  exact ⟨by simp at h2 ⊢; omega, by simp at h3 ⊢; omega⟩
theorem addL_more {its : List It} : ∀ (n : Nat) (st : List Int × List Int) (k : Int), StOk its st → Closed its → its.Pairwise (fun a b => a.key < b.key) → (∃ y ∈ its, y.key = k) →
    StOk its (addL its n st k) ∧ (addL its n st k).1.length + st.2.length ≥ (addL its n st k).2.length + st.1.length
  | 0, st, k, h, _, _, _ => ⟨h, by show st.1.length + st.2.length ≥ st.2.length + st.1.length; omega⟩
  | n + 1, (met, all), k, h, hc, hr, hk => by
    unfold addL
    split
    · exact ⟨h, by simp only []; omega⟩
    · rename_i hnk
      obtain ⟨y, hy, rfl⟩ := hk
      rw [firstsOf_mem hr hy]
      have key : ∀ (ks : List Int), (∀ f ∈ ks, ∃ z ∈ its, z.key = f) → ∀ st, StOk its st → StOk its (ks.foldl (addL its n) st) ∧ (ks.foldl (addL its n) st).1.length + st.2.length ≥ (ks.foldl (addL its n) st).2.length + st.1.length := by
        intro ks
        induction ks with
        | nil => intro _ st h; exact ⟨h, by show st.1.length + st.2.length ≥ st.2.length + st.1.length; omega⟩
        | cons f r ih =>
          intro hks st hst
          obtain ⟨g1, g2⟩ := addL_more n st f hst hc hr (hks f (by simp))
          obtain ⟨g3, g4⟩ := ih (fun f' hf' => hks f' (by simp [hf'])) _ g1
          exact ⟨g3, by simp only [List.foldl_cons] at g4 ⊢; omega⟩
      obtain ⟨g1, g2⟩ := key y.firsts (hc y hy) _ (h.met hy hnk)
      obtain ⟨q1, q2⟩ := h
      obtain ⟨p1, p2⟩ := g1
      dsimp only at q1 q2 p1 p2 g2 ⊢
      simp only [List.length_cons] at g2
      exact ⟨⟨p1, by simp; omega⟩, by simp; omega⟩
theorem fold_more {its : List It} {n : Nat} (hc : Closed its) (hr : its.Pairwise (fun a b => a.key < b.key)) : ∀ (ks : List Int), (∀ f ∈ ks, ∃ z ∈ its, z.key = f) → ∀ st, StOk its st → StOk its (ks.foldl (addL its n) st) := by
  intro ks
  induction ks with
  | nil => exact fun _ st h => h
  | cons f r ih => exact fun hks st hst => ih (fun f' hf' => hks f' (by simp [hf'])) _ (addL_more n st f hst hc hr (hks f (by simp))).1
theorem fold_met {its : List It} {n : Nat} (ks : List Int) (st : List Int × List Int) : st.1 ⊆ (ks.foldl (addL its n) st).1 := foldl_met (addL_met n) ks st
end Go.Proofs.Ythmkmhfoicfapaa
