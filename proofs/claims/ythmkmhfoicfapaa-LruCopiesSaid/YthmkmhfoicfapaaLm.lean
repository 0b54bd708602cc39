/-
  Mathematics of a write-back cache, second part (package lru): what lines hold, and in what order; what stays always so. Conditions: none.
-/
import Derived.Test.YthmkmhfoicfapaaLa
namespace Go.Proofs.Ythmkmhfoicfapaa
open Go.RowKit
set_option linter.unusedVariables false

def Edge (its : List It) (a b : Int) : Prop := ∃ y ∈ its, y.key = a ∧ b ∈ y.firsts
inductive Reach (its : List It) : Int → Int → Prop
  | refl (a : Int) : Reach its a a
  | step {a b c : Int} : Edge its a b → Reach its b c → Reach its a c
theorem Reach.trans {its : List It} {a b c : Int} (h : Reach its a b) (k : Reach its b c) : Reach its a c := by
  induction h with
  | refl _ => exact k
  | step e _ ih => exact .step e (ih k)
theorem Edge.first {its : List It} (hr : its.Pairwise fun a b => a.key < b.key) {y : It} (hy : y ∈ its) {f : Int} (h : Edge its y.key f) : f ∈ y.firsts := by
  obtain ⟨z, hz, e, hf⟩ := h
  rw [← key_one hr hz hy e]
  exact hf
def Present (its : List It) (x : Int) : Prop := ∃ y ∈ its, y.key = x
structure Adds (its : List It) (R : Int → Prop) (st st' : List Int × List Int) (new : List Int) : Prop where
  all : st'.2 = st.2 ++ new
  met : ∀ x, x ∈ st'.1 ↔ x ∈ st.1 ∨ x ∈ new
  nodup : new.Nodup
  out : ∀ x ∈ new, x ∉ st.1
  reach : ∀ x ∈ new, R x
  closed : ∀ x ∈ new, ∀ f, Edge its x f → f ∈ st'.1
  ahead : ∀ A x C, new = A ++ x :: C → ∀ f, Edge its x f → f ∈ st.1 ∨ f ∈ A
theorem Adds.refl (its : List It) (R : Int → Prop) (st : List Int × List Int) : Adds its R st st [] :=
  ⟨by simp, by simp, List.nodup_nil, by simp, by simp, by simp, fun A x C h => by simp at h⟩
theorem Adds.trans {its : List It} {R : Int → Prop} {st st1 st2 : List Int × List Int} {n1 n2 : List Int} (h : Adds its R st st1 n1) (k : Adds its R st1 st2 n2) : Adds its R st st2 (n1 ++ n2) := by
  refine ⟨by rw [k.all, h.all, List.append_assoc], fun x => ?_, ?_, fun x hx => ?_, fun x hx => ?_, fun x hx f hf => ?_, fun A x C e f hf => ?_⟩
  · rw [k.met, h.met, List.mem_append, or_assoc]
  · rw [List.nodup_append]
    exact ⟨h.nodup, k.nodup, fun a ha b hb e => k.out b hb ((h.met b).2 (Or.inr (e ▸ ha)))⟩
  · rcases List.mem_append.1 hx with hx | hx
    · exact h.out x hx
    · exact fun hm => k.out x hx ((h.met x).2 (Or.inl hm))
  · rcases List.mem_append.1 hx with hx | hx
    · exact h.reach x hx
    · exact k.reach x hx
  · rcases List.mem_append.1 hx with hx | hx
    · exact (k.met f).2 (Or.inl (h.closed x hx f hf))
    · exact k.closed x hx f hf
  · rcases List.append_eq_append_iff.1 e with ⟨D, e1, e2⟩ | ⟨D, e1, e2⟩
    · -- n1 ++ D = A, n2 = D ++ x :: C
      rcases k.ahead D x C e2 f hf with h1 | h1
      · rcases (h.met f).1 h1 with h2 | h2
        · exact Or.inl h2
        · exact Or.inr (by rw [e1]; simp [h2])
      · exact Or.inr (by rw [e1]; simp [h1])
    · cases D with
      | nil =>
        rw [List.append_nil] at e1
        rw [List.nil_append] at e2
        rcases k.ahead [] x C e2.symm f hf with h1 | h1
        · rcases (h.met f).1 h1 with h2 | h2
          · exact Or.inl h2
          · exact Or.inr (by rw [← e1]; exact h2)
        · cases h1
      | cons d D =>
        obtain ⟨rfl, e3⟩ := List.cons.inj e2
        exact h.ahead A x D e1 f hf
theorem Adds.mono {its : List It} {R R' : Int → Prop} {st st1 : List Int × List Int} {n1 : List Int} (h : Adds its R st st1 n1) (hR : ∀ x ∈ n1, R x → R' x) : Adds its R' st st1 n1 :=
  ⟨h.all, h.met, h.nodup, h.out, fun x hx => hR x hx (h.reach x hx), h.closed, h.ahead⟩
theorem reach_rank {its : List It} {rank : Int → Nat} (hR : ∀ a b, Edge its a b → rank b < rank a) {a b : Int} (h : Reach its a b) : rank b ≤ rank a := by
  induction h with
  | refl _ => exact Nat.le_refl _
  | step e _ ih => exact Nat.le_trans ih (Nat.le_of_lt (hR _ _ e))
/-- What a line adds. -/
theorem addL_adds {its : List It} (hc : Closed its) (hr : its.Pairwise fun a b => a.key < b.key) {rank : Int → Nat} (hR : ∀ a b, Edge its a b → rank b < rank a) : ∀ (n : Nat) (st : List Int × List Int) (k : Int), unmet its st.1 ≤ n → Present its k →
    ∃ new, Adds its (Reach its k) st (addL its n st k) new ∧ k ∈ (addL its n st k).1
  | 0, st, k, hu, ⟨y, hy, e⟩ => ⟨[], Adds.refl _ _ _, by
    have := unmet_zero (met := st.1) hy (by omega)
    rw [e] at this
    exact this⟩
  | n + 1, (met, all), k, hu, ⟨y, hy, e⟩ => by
    subst e
    unfold addL
    split
    · rename_i h
      exact ⟨[], Adds.refl _ _ _, h⟩
    · rename_i hnk
      rw [firstsOf_mem hr hy]
      have hnk' : y.key ∉ met := hnk
      have hu1 : unmet its (y.key :: met) ≤ n := by
        have h1 := unmet_cons hy hnk'
        have h2 : unmet its met ≤ n + 1 := hu
        omega
      have key : ∀ (ks : List Int), (∀ f ∈ ks, Present its f) → ∀ st : List Int × List Int, unmet its st.1 ≤ n → ∃ new, Adds its (fun x => ∃ k ∈ ks, Reach its k x) st (ks.foldl (addL its n) st) new ∧ ∀ f ∈ ks, f ∈ (ks.foldl (addL its n) st).1 := by
        intro ks
        induction ks with
        | nil => exact fun _ st _ => ⟨[], Adds.refl _ _ _, by simp⟩
        | cons f r ih =>
          intro hks st hst
          obtain ⟨n1, g1, g2⟩ := addL_adds hc hr hR n st f hst (hks f (by simp))
          obtain ⟨n2, g3, g4⟩ := ih (fun f' hf' => hks f' (by simp [hf'])) (addL its n st f) (Nat.le_trans (unmet_mono (addL_met n st f)) hst)
          refine ⟨n1 ++ n2, (g1.mono fun x _ hx => ⟨f, by simp, hx⟩).trans (g3.mono fun x _ hx => by
            obtain ⟨k, hk, h⟩ := hx
            exact ⟨k, by simp [hk], h⟩), fun f' hf' => ?_⟩
          rcases List.mem_cons.1 hf' with rfl | hf'
          · exact foldl_met (addL_met n) r _ g2
          · exact g4 f' hf'
      obtain ⟨new, g1, g2⟩ := key y.firsts (fun f hf => hc y hy f hf) (y.key :: met, all) hu1
      show ∃ new, Adds its (Reach its y.key) (met, all) (((y.firsts.foldl (addL its n) (y.key :: met, all)).1), ((y.firsts.foldl (addL its n) (y.key :: met, all)).2) ++ [y.key]) new ∧ y.key ∈ (y.firsts.foldl (addL its n) (y.key :: met, all)).1
      obtain ⟨s, hs⟩ : ∃ s, y.firsts.foldl (addL its n) (y.key :: met, all) = s := ⟨_, rfl⟩
      rw [hs] at g1 g2 ⊢
      have hyn : y.key ∉ new := fun h => g1.out _ h (by simp)
      have hmet : ∀ x, x ∈ s.1 ↔ x ∈ met ∨ x ∈ new ++ [y.key] := fun x => by
        rw [g1.met x]
        simp only [List.mem_cons, List.mem_append, List.not_mem_nil, or_false]
        constructor
        · rintro ((h | h) | h)
          · exact Or.inr (Or.inr h)
          · exact Or.inl h
          · exact Or.inr (Or.inl h)
        · rintro (h | h | h)
          · exact Or.inl (Or.inr h)
          · exact Or.inr h
          · exact Or.inl (Or.inl h)
      have hlast : ∀ f, Edge its y.key f → f ∈ met ∨ f ∈ new := fun f hf => by
        have hrk := hR _ _ hf
        rcases (hmet f).1 (g2 f (hf.first hr hy)) with h1 | h1
        · exact Or.inl h1
        · rcases List.mem_append.1 h1 with h1 | h1
          · exact Or.inr h1
          · simp only [List.mem_singleton] at h1
            rw [h1] at hrk
            omega
      refine ⟨new ++ [y.key], ⟨?_, hmet, ?_, fun x hx => ?_, fun x hx => ?_, fun x hx f hf => ?_, fun A x C e f hf => ?_⟩, (hmet _).2 (Or.inr (by simp))⟩
      · show s.2 ++ [y.key] = all ++ (new ++ [y.key])
        rw [g1.all, List.append_assoc]
      · rw [List.nodup_append]
        refine ⟨g1.nodup, by simp, fun a ha b hb e => ?_⟩
        simp only [List.mem_singleton] at hb
        exact hyn (by rw [← hb, ← e]; exact ha)
      · rcases List.mem_append.1 hx with hx | hx
        · exact fun h => g1.out x hx (List.mem_cons_of_mem _ h)
        · simp only [List.mem_singleton] at hx
          rw [hx]
          exact hnk'
      · rcases List.mem_append.1 hx with hx | hx
        · obtain ⟨k, hk, h⟩ := g1.reach x hx
          exact .step ⟨y, hy, rfl, hk⟩ h
        · simp only [List.mem_singleton] at hx
          rw [hx]
          exact .refl _
      · rcases List.mem_append.1 hx with hx | hx
        · exact g1.closed x hx f hf
        · simp only [List.mem_singleton] at hx
          rw [hx] at hf
          exact g2 f (hf.first hr hy)
      · rcases List.append_eq_append_iff.1 e with ⟨D, e1, e2⟩ | ⟨D, e1, e2⟩
        · have hD : D = [] := by
            cases D with
            | nil => rfl
            | cons d D => simp at e2
          subst hD
          simp at e2
          rw [List.append_nil] at e1
          rw [← e2.1] at hf
          rcases hlast f hf with h1 | h1
          · exact Or.inl h1
          · exact Or.inr (by rw [e1]; exact h1)
        · cases D with
          | nil =>
            rw [List.nil_append] at e2
            injection e2 with e3 e4
            rw [e3] at hf
            rw [List.append_nil] at e1
            rcases hlast f hf with h1 | h1
            · exact Or.inl h1
            · exact Or.inr (by rw [← e1]; exact h1)
          | cons d D =>
            injection e2 with e3 e4
            rw [← e3] at e1
            rcases g1.ahead A x D e1 f hf with h1 | h1
            · rcases List.mem_cons.1 h1 with h1 | h1
              · exfalso
                obtain ⟨k, hk, hx⟩ := g1.reach x (by rw [e1]; simp)
                have h2 := hR _ _ (⟨y, hy, rfl, hk⟩ : Edge its y.key k)
                have h3 := reach_rank hR hx
                have h4 := hR _ _ hf
                rw [h1] at h4
                omega
              · exact Or.inl h1
            · exact Or.inr h1
theorem ItsOk.ranked {its : List It} {u : Nat} (h : ItsOk its u) : ∃ rank : Int → Nat, ∀ a b, Edge its a b → rank b < rank a := by
  obtain ⟨rank, h⟩ := h.acyc
  refine ⟨rank, fun a b ⟨y, hy, e, hb⟩ => ?_⟩
  rw [← e]
  exact h y hy b hb
/-- Lines of keys that are there. -/
structure LinesOk (its : List It) (ks l : List Int) : Prop where
  nodup : l.Nodup
  keys : ∀ k ∈ ks, k ∈ l
  reach : ∀ x ∈ l, ∃ k ∈ ks, Reach its k x
  closed : ∀ x ∈ l, ∀ f, Edge its x f → f ∈ l
  ahead : ∀ A x C, l = A ++ x :: C → ∀ f, Edge its x f → f ∈ A
theorem lines_ok {its : List It} {u : Nat} (h : ItsOk its u) (ks : List Int) (hks : ∀ k ∈ ks, Present its k) : LinesOk its ks (linesL its ks) := by
  obtain ⟨rank, hR⟩ := h.ranked
  have key : ∀ (ks : List Int), (∀ f ∈ ks, Present its f) → ∀ st : List Int × List Int, ∃ new, Adds its (fun x => ∃ k ∈ ks, Reach its k x) st (ks.foldl (addL its its.length) st) new ∧ ∀ f ∈ ks, f ∈ (ks.foldl (addL its its.length) st).1 := by
    intro ks
    induction ks with
    | nil => exact fun _ st => ⟨[], Adds.refl _ _ _, by simp⟩
    | cons f r ih =>
      intro hks st
      obtain ⟨n1, g1, g2⟩ := addL_adds h.closed h.rise hR its.length st f (unmet_le _ _) (hks f (by simp))
      obtain ⟨n2, g3, g4⟩ := ih (fun f' hf' => hks f' (by simp [hf'])) (addL its its.length st f)
      refine ⟨n1 ++ n2, (g1.mono fun x _ hx => ⟨f, by simp, hx⟩).trans (g3.mono fun x _ hx => by
        obtain ⟨k, hk, h⟩ := hx
        exact ⟨k, by simp [hk], h⟩), fun f' hf' => ?_⟩
      rcases List.mem_cons.1 hf' with rfl | hf'
      · exact foldl_met (addL_met its.length) r _ g2
      · exact g4 f' hf'
  obtain ⟨new, g1, g2⟩ := key ks hks ([], [])
  have e : linesL its ks = new := by
    show (ks.foldl (addL its its.length) ([], [])).2 = new
    rw [g1.all]
    rfl
  have hm : ∀ x, x ∈ (ks.foldl (addL its its.length) ([], [])).1 ↔ x ∈ new := fun x => by
    rw [g1.met]
    simp
  rw [e]
  refine ⟨g1.nodup, fun k hk => (hm k).1 (g2 k hk), g1.reach, fun x hx f hf => (hm f).1 (g1.closed x hx f hf), fun A x C e f hf => ?_⟩
  rcases g1.ahead A x C e f hf with h | h
  · cases h
  · exact h
theorem LinesOk.of_reach {its : List It} {ks l : List Int} (h : LinesOk its ks l) {k x : Int} (hk : k ∈ l) (hr : Reach its k x) : x ∈ l := by
  induction hr with
  | refl _ => exact hk
  | step e _ ih => exact ih (h.closed _ hk _ e)
theorem line_reach {its : List It} {u : Nat} (h : ItsOk its u) {f : Int} (hf : Present its f) (x : Int) : x ∈ linesL its [f] ↔ Reach its f x := by
  have hl := lines_ok h [f] (by simpa using hf)
  constructor
  · intro hx
    obtain ⟨k, hk, hr⟩ := hl.reach x hx
    simp only [List.mem_singleton] at hk
    rw [← hk]
    exact hr
  · exact hl.of_reach (hl.keys f (by simp))
end Go.Proofs.Ythmkmhfoicfapaa
