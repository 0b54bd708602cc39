/-
  Mathematics of the reference's cache: a flush key by key is the lines of all (layer 10). Conditions: as the theorems say.
-/
import Derived.Test.YthmkmhfoicfapaaMc
namespace Go.Proofs.Ythmkmhfoicfapaa
open Go.RowKit
set_option linter.unusedVariables false

theorem skip_fold {R R' : List (Int × Int)} {l : List Int} {n : Nat} (ih : ∀ (out : List Int) (k : Int), k ∉ l → lineR R n (l ++ out) k = l ++ lineR R' n out k) :
    ∀ (ks : List Int) (out : List Int), ks.foldl (lineR R n) (l ++ out) = l ++ (ks.filter fun f => !decide (f ∈ l)).foldl (lineR R' n) out
  | [], out => rfl
  | f :: r, out => by
    by_cases h : f ∈ l
    · have e : lineR R n (l ++ out) f = l ++ out := by
        cases n with
        | zero => rfl
        | succ n => unfold lineR; rw [if_pos (List.mem_append_left _ h)]
      rw [List.foldl_cons, e, skip_fold ih r out, List.filter_cons_of_neg (by simp [h])]
    · rw [List.foldl_cons, ih out f h, skip_fold ih r _, List.filter_cons_of_pos (by simp [h]), List.foldl_cons]
/-- A line goes on behind what was told as if the pairs of what was told were gone. -/
theorem line_skip {R R' : List (Int × Int)} {l : List Int} (hR : ∀ k, k ∉ l → rfirsts R' k = (rfirsts R k).filter fun f => !decide (f ∈ l)) : ∀ (n : Nat) (out : List Int) (k : Int), k ∉ l → lineR R n (l ++ out) k = l ++ lineR R' n out k
  | 0, out, k, h => rfl
  | n + 1, out, k, h => by
    unfold lineR
    by_cases hk : k ∈ out
    · rw [if_pos (List.mem_append_right _ hk), if_pos hk]
    · rw [if_neg (fun hm => (List.mem_append.1 hm).elim h hk), if_neg hk, hR k h, skip_fold (line_skip hR n) _ out, List.append_assoc]
/-- Key by key, as the reference flushes. -/
def writesR (n : Nat) : List Int → List Int × RC → List Int × RC
  | [], s => s
  | k :: r, s => writesR n r (if isDR s.2 k then (s.1 ++ lineR s.2.rels n [] k, (lineR s.2.rels n [] k).foldl cleanR s.2) else s)
theorem cleans_isD (l : List Int) (D : RC) (k : Int) : isDR (l.foldl cleanR D) k = (isDR D k && !decide (k ∈ l)) := by
  unfold isDR
  rw [(cleans_items l D).1]
  induction D.items with
  | nil => rfl
  | cons x r ih =>
    rw [List.map_cons, List.any_cons, List.any_cons, ih]
    by_cases h : x.key = k
    · subst h
      by_cases m : x.key ∈ l
      · simp [m]
      · simp [m]
    · by_cases m : x.key ∈ l
      · simp [m, h]
      · simp [m, h]
theorem writes_is {C : Lru} {D : RC} (h : Sim C D) (hc : ItsOk C.items C.uses) {rank : Int → Nat} (hr : ∀ k, ∀ f ∈ firstsOf C.items k, rank f < rank k) (n : Nat) :
    ∀ (ks : List Int), (∀ k ∈ ks, isDR D k = true) → ∀ st : List Int × List Int, st.2 ⊆ st.1 → (∀ x ∈ st.1, x ∈ st.2) →
      writesR n ks (st.2, st.2.foldl cleanR D) = ((ks.foldl (addL C.items n) st).2, (ks.foldl (addL C.items n) st).2.foldl cleanR D)
  | [], _, st, _, _ => rfl
  | k :: r, hk, st, h1, h2 => by
    have hst : (st.2, st.2.foldl cleanR D).2 = st.2.foldl cleanR D := rfl
    obtain ⟨g1, g2, g3⟩ := line_is h.rels hr n st k h1 (fun x hx hn => absurd (h2 x hx) hn)
    have g4 : ∀ x ∈ (addL C.items n st k).1, x ∈ (addL C.items n st k).2 := fun x hx => by
      by_cases hn : x ∈ (addL C.items n st k).2
      · exact hn
      · obtain ⟨m1, m2⟩ := g3 x hx hn
        exact absurd (h2 x m1) m2
    have ih := writes_is h hc hr n r (fun x hx => hk x (List.mem_cons_of_mem _ hx)) (addL C.items n st k) g2 g4
    rw [List.foldl_cons, ← ih]
    show writesR n r (if isDR (st.2.foldl cleanR D) k then _ else _) = _
    rw [cleans_isD, hk k (List.mem_cons_self ..), Bool.true_and]
    by_cases hm : k ∈ st.2
    · have e : addL C.items n st k = st := by
        cases n with
        | zero => rfl
        | succ n => unfold addL; rw [if_pos (h1 hm)]
      rw [e]
      simp [hm]
    · have hs := line_skip (R := D.rels) (R' := (st.2.foldl cleanR D).rels) (l := st.2) (fun k' hk' => by rw [cleans_rels, if_neg hk']) n [] k hm
      rw [List.append_nil] at hs
      rw [g1, hs]
      simp [hm]
/-- A flush of dirty keys tells their lines, and cleans them. -/
theorem Sim.flush {C : Lru} {D : RC} (h : Sim C D) (hc : ItsOk C.items C.uses) {ks : List Int} (hk : ∀ k ∈ ks, Go.Proofs.Ythmkmhfoicfapaa.isD C.items k = true) : writesR C.items.length ks ([], D) = (linesL C.items ks, (linesL C.items ks).foldl cleanR D) := by
  obtain ⟨rank, hr⟩ := firsts_rank hc
  exact writes_is h hc hr C.items.length ks (fun k hm => by rw [h.isD]; exact hk k hm) ([], []) (fun _ h => h) (fun x hx => by cases hx)
end Go.Proofs.Ythmkmhfoicfapaa
