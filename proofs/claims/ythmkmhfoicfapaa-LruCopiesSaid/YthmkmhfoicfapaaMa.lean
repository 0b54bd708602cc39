/-
  Mathematics of the reference's cache: a line of it is the line of La where no key is written in a circle (layer 10). Conditions: as the theorems say.
-/
import Derived.Test.YthmkmhfoicfapaaLn
namespace Go.Proofs.Ythmkmhfoicfapaa
open Go.RowKit
set_option linter.unusedVariables false

structure RIt where
  key : Int
  bs : List Int
  dirty : Bool
/-- The reference's state: items by use, pairs as they were told. -/
structure RC where
  room : Nat
  items : List RIt
  rels : List (Int × Int)
def rfirsts (R : List (Int × Int)) (k : Int) : List Int := (R.filter fun p => decide (p.1 = k)).map Prod.snd
def lineR (R : List (Int × Int)) : Nat → List Int → Int → List Int
  | 0, out, _ => out
  | n + 1, out, k => if k ∈ out then out else (rfirsts R k).foldl (lineR R n) out ++ [k]
def cleanR (C : RC) (k : Int) : RC := ⟨C.room, C.items.map fun x => if x.key = k then { x with dirty := false } else x, C.rels.filter fun p => !decide (p.1 = k) && !decide (p.2 = k)⟩
def isDR (C : RC) (k : Int) : Bool := C.items.any fun x => decide (x.key = k) && x.dirty
/-- What one line does to what was met and what was told. -/
def LineP (its : List It) (R : List (Int × Int)) (st st' : List Int × List Int) (out : List Int) : Prop := st'.2 = out ∧ st'.2 ⊆ st'.1 ∧ (∀ x ∈ st'.1, x ∉ st'.2 → x ∈ st.1 ∧ x ∉ st.2)
theorem line_fold {its : List It} {R : List (Int × Int)} {rank : Int → Nat} {n : Nat}
    (ih : ∀ (st : List Int × List Int) (k : Int), st.2 ⊆ st.1 → (∀ x ∈ st.1, x ∉ st.2 → rank k < rank x) → LineP its R st (addL its n st k) (lineR R n st.2 k)) :
    ∀ (ks : List Int) (st : List Int × List Int), st.2 ⊆ st.1 → (∀ f ∈ ks, ∀ x ∈ st.1, x ∉ st.2 → rank f < rank x) → LineP its R st (ks.foldl (addL its n) st) (ks.foldl (lineR R n) st.2)
  | [], st, h1, h2 => ⟨rfl, h1, fun x hx hn => ⟨hx, hn⟩⟩
  | f :: r, st, h1, h2 => by
    obtain ⟨g1, g2, g3⟩ := ih st f h1 (h2 f (List.mem_cons_self ..))
    obtain ⟨k1, k2, k3⟩ := line_fold ih r (addL its n st f) g2 fun f' hf x hx hn => by
      obtain ⟨m1, m2⟩ := g3 x hx hn
      exact h2 f' (List.mem_cons_of_mem _ hf) x m1 m2
    rw [List.foldl_cons, List.foldl_cons]
    refine ⟨?_, k2, fun x hx hn => ?_⟩
    · rw [k1, g1]
    · obtain ⟨m1, m2⟩ := k3 x hx hn
      exact g3 x m1 m2
/-- A line is the reference's, where the keys that are under way stand above. -/
theorem line_is {its : List It} {R : List (Int × Int)} {rank : Int → Nat} (hs : ∀ k, rfirsts R k = firstsOf its k) (hr : ∀ k, ∀ f ∈ firstsOf its k, rank f < rank k) :
    ∀ (n : Nat) (st : List Int × List Int) (k : Int), st.2 ⊆ st.1 → (∀ x ∈ st.1, x ∉ st.2 → rank k < rank x) → LineP its R st (addL its n st k) (lineR R n st.2 k)
  | 0, st, k, h1, h2 => ⟨rfl, h1, fun x hx hn => ⟨hx, hn⟩⟩
  | n + 1, st, k, h1, h2 => by
    unfold addL lineR
    by_cases hk : k ∈ st.1
    · have hk2 : k ∈ st.2 := by
        by_cases h : k ∈ st.2
        · exact h
        · exact absurd (h2 k hk h) (Nat.lt_irrefl _)
      rw [if_pos hk, if_pos hk2]
      exact ⟨rfl, h1, fun x hx hn => ⟨hx, hn⟩⟩
    · have hk2 : k ∉ st.2 := fun h => hk (h1 h)
      rw [if_neg hk, if_neg hk2, hs k]
      dsimp only
      obtain ⟨g1, g2, g3⟩ := line_fold (line_is hs hr n) (firstsOf its k) (k :: st.1, st.2) (fun x hx => List.mem_cons_of_mem _ (h1 hx)) fun f hf x hx hn => by
        have hfk := hr k f hf
        rcases List.mem_cons.1 hx with rfl | hx
        · exact hfk
        · exact Nat.lt_trans hfk (h2 x hx hn)
      have hkm : k ∈ ((firstsOf its k).foldl (addL its n) (k :: st.1, st.2)).1 := fold_met _ _ (List.mem_cons_self ..)
      refine ⟨?_, fun x hx => ?_, fun x hx hn => ?_⟩
      · show _ ++ [k] = _
        rw [g1]
      · rcases List.mem_append.1 hx with hx | hx
        · exact g2 hx
        · rw [List.mem_singleton] at hx
          subst hx
          exact hkm
      · have hn1 : x ∉ ((firstsOf its k).foldl (addL its n) (k :: st.1, st.2)).2 := fun h => hn (List.mem_append_left _ h)
        have hnk : x ≠ k := fun e => hn (List.mem_append_right _ (List.mem_singleton.2 e))
        obtain ⟨m1, m2⟩ := g3 x hx hn1
        rcases List.mem_cons.1 m1 with e | m1
        · exact absurd e hnk
        · exact ⟨m1, m2⟩
theorem firsts_rank {its : List It} {u : Nat} (h : ItsOk its u) : ∃ rank : Int → Nat, ∀ k, ∀ f ∈ firstsOf its k, rank f < rank k := by
  obtain ⟨rank, hr⟩ := h.acyc
  refine ⟨rank, fun k f hf => ?_⟩
  unfold firstsOf at hf
  cases hx : its.find? (fun it => decide (it.key = k)) with
  | none => rw [hx] at hf; simp at hf
  | some it =>
    rw [hx] at hf
    have hm := List.mem_of_find?_eq_some hx
    have hk := List.find?_some hx
    simp only [decide_eq_true_eq] at hk
    rw [← hk]
    exact hr it hm f (by simpa using hf)
/-- The lines of one key, told from the start. -/
theorem lines_one {its : List It} {u : Nat} (h : ItsOk its u) {R : List (Int × Int)} (hs : ∀ k, rfirsts R k = firstsOf its k) (k : Int) : linesL its [k] = lineR R its.length [] k := by
  obtain ⟨rank, hr⟩ := firsts_rank h
  obtain ⟨g1, _⟩ := line_is hs hr its.length ([], []) k (fun _ h => h) (fun x hx => by cases hx)
  exact g1
end Go.Proofs.Ythmkmhfoicfapaa
