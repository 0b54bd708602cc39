/-
  Plain mathematics: what is unpacked with room enough is unpacked with more room and refused with less; what ends too early tells a beginning, or is refused. Conditions: bytes from 0 to 255.
-/
import Derived.Test.YtlkpedknhjgdiaaH3
namespace Go.Proofs.Ytlkpedknhjgdiaa
open Go.RowKit

theorem drop_step (b : List Int) (p : Nat) (h : p < b.length) : b.drop p = b.getD p 0 :: b.drop (p + 1) := by
  rw [List.drop_eq_getElem_cons h, List.getD_eq_getElem?_getD, List.getElem?_eq_getElem h]
  rfl
theorem lits_spec (b : List Int) (most : Nat) : ∀ (k p : Nat) (out : List Int) (p' : Nat) (o : List Int), lits b most k p out = .ok p' o → p' = p + k ∧ o = out ++ (b.drop p).take k ∧ (k = 0 ∨ (p + k ≤ b.length ∧ out.length + k ≤ most))
  | 0, p, out, p', o, h => by
    rw [lits_done] at h
    injection h with h1 h2
    subst h1 h2
    simp
  | k + 1, p, out, p', o, h => by
    by_cases h1 : b.length ≤ p
    · rw [lits_form _ _ _ _ _ h1] at h
      cases h
    · by_cases h2 : most ≤ out.length
      · rw [lits_long _ _ _ _ _ h1 h2] at h
        cases h
      · rw [lits_on _ _ _ _ _ h1 h2] at h
        obtain ⟨g1, g2, g3⟩ := lits_spec b most k (p + 1) _ p' o h
        rw [List.length_append] at g3
        refine ⟨by omega, ?_, Or.inr ⟨by omega, by simp at g3; omega⟩⟩
        rw [g2, drop_step b p (by omega), List.take_succ_cons, List.append_assoc]
        rfl
theorem lits_bad (b : List Int) (most : Nat) : ∀ (k p : Nat) (out : List Int) (e : Int), lits b most k p out = .bad e → e = 2 ∨ e = 3
  | 0, _, _, _, h => by
    rw [lits_done] at h
    cases h
  | k + 1, p, out, e, h => by
    by_cases h1 : b.length ≤ p
    · rw [lits_form _ _ _ _ _ h1] at h
      injection h with h
      exact Or.inr h.symm
    · by_cases h2 : most ≤ out.length
      · rw [lits_long _ _ _ _ _ h1 h2] at h
        injection h with h
        exact Or.inl h.symm
      · rw [lits_on _ _ _ _ _ h1 h2] at h
        exact lits_bad b most k (p + 1) _ e h
theorem lits_fits (b : List Int) (most : Nat) : ∀ (k p : Nat) (out : List Int), (k = 0 ∨ (p + k ≤ b.length ∧ out.length + k ≤ most)) → lits b most k p out = .ok (p + k) (out ++ (b.drop p).take k)
  | 0, _, _, _ => by simp [lits_done]
  | k + 1, p, out, h => by
    have h' : p + (k + 1) ≤ b.length ∧ out.length + (k + 1) ≤ most := h.resolve_left (by omega)
    rw [lits_on _ _ _ _ _ (by omega) (by omega), lits_fits b most k (p + 1) _ (Or.inr ⟨by omega, by simp; omega⟩), drop_step b p (by omega), List.take_succ_cons, List.append_assoc, show p + 1 + k = p + (k + 1) by omega]
    rfl
theorem lits_full (b : List Int) (most : Nat) : ∀ (k p : Nat) (out : List Int), p + k ≤ b.length → out.length ≤ most → most < out.length + k → lits b most k p out = .bad 2
  | 0, _, _, _, h, h2 => by omega
  | k + 1, p, out, h, h1, h2 => by
    by_cases he : most ≤ out.length
    · exact lits_long _ _ _ _ _ (by omega) he
    · rw [lits_on _ _ _ _ _ (by omega) he]
      exact lits_full b most k (p + 1) _ (by omega) (by simp; omega) (by simp; omega)
theorem lits_short (b : List Int) (most : Nat) : ∀ (k p : Nat) (out : List Int), p ≤ b.length → b.length < p + k → out.length + k ≤ most → lits b most k p out = .bad 3
  | 0, _, _, _, h, _ => by omega
  | k + 1, p, out, h, h1, h2 => by
    by_cases he : b.length ≤ p
    · exact lits_form _ _ _ _ _ he
    · rw [lits_on _ _ _ _ _ he (by omega)]
      exact lits_short b most k (p + 1) _ (by omega) (by omega) (by simp; omega)
theorem reps_spec (most far : Nat) : ∀ (k : Nat) (out : List Int) (z : Nat) (o : List Int), reps most far k out = .ok z o → z = 0 ∧ o = repL far k out ∧ (k = 0 ∨ out.length + k ≤ most)
  | 0, out, z, o, h => by
    rw [reps] at h
    injection h with h1 h2
    exact ⟨h1.symm, h2.symm, Or.inl rfl⟩
  | k + 1, out, z, o, h => by
    by_cases h2 : most ≤ out.length
    · rw [reps_long _ _ _ _ h2] at h
      cases h
    · rw [reps_on _ _ _ _ h2] at h
      obtain ⟨g1, g2, g3⟩ := reps_spec most far k _ z o h
      rw [List.length_append] at g3
      exact ⟨g1, g2, Or.inr (by simp at g3; omega)⟩
theorem reps_bad (most far : Nat) : ∀ (k : Nat) (out : List Int) (e : Int), reps most far k out = .bad e → e = 2
  | 0, _, _, h => by
    rw [reps] at h
    cases h
  | k + 1, out, e, h => by
    by_cases h2 : most ≤ out.length
    · rw [reps_long _ _ _ _ h2] at h
      injection h with h
      exact h.symm
    · rw [reps_on _ _ _ _ h2] at h
      exact reps_bad most far k _ e h
theorem repL_pre (far : Nat) : ∀ (k : Nat) (out : List Int), out <+: repL far k out
  | 0, out => List.prefix_refl out
  | k + 1, out => (List.prefix_append out _).trans (repL_pre far k _)
theorem pair0 {x : List Int} {e : Int} (h : (([], e) : List Int × Int) = (x, 0)) : e = 0 := (Prod.mk.inj h).2

/-- Bytes that unpack: one sequence, and what is behind it. -/
theorem unp_cases {b : List Int} {most f p : Nat} {out x : List Int} (h : unp b most (f + 1) p out = (x, 0)) (hp : p < b.length) :
    ∃ l q o1, lengthOf b (p + 1) ((b.getD p 0).toNat / 16) = (l, q, true) ∧ o1 = out ++ (b.drop q).take l ∧ (l = 0 ∨ (q + l ≤ b.length ∧ out.length + l ≤ most)) ∧
      ((q + l = b.length ∧ x = o1) ∨ (¬ q + l = b.length ∧ ¬ b.length - (q + l) < 2 ∧ ¬ (farOf b (q + l) = 0 ∨ o1.length < farOf b (q + l)) ∧
        ∃ n q2, lengthOf b (q + l + 2) ((b.getD p 0).toNat % 16) = (n, q2, true) ∧ o1.length + (n + 4) ≤ most ∧ unp b most f q2 (repL (farOf b (q + l)) (n + 4) o1) = (x, 0))) := by
  obtain ⟨⟨l, q, ok⟩, hl⟩ : ∃ r, lengthOf b (p + 1) ((b.getD p 0).toNat / 16) = r := ⟨_, rfl⟩
  cases ok with
  | false =>
    rw [unp_bad b most f p l q out hp hl] at h
    have := pair0 h
    omega
  | true =>
    rw [unp_lits b most f p l q out hp hl] at h
    obtain ⟨g, hg⟩ : ∃ g, lits b most l q out = g := ⟨_, rfl⟩
    rw [hg] at h
    cases g with
    | bad e =>
      have h1 := pair0 h
      have h2 := lits_bad b most l q out e hg
      omega
    | ok p' o1 =>
      obtain ⟨rfl, h2, h3⟩ := lits_spec b most l q out p' o1 hg
      refine ⟨l, q, o1, hl, h2, h3, ?_⟩
      by_cases k1 : q + l = b.length
      · rw [k1, back_end] at h
        exact Or.inl ⟨k1, ((Prod.mk.inj h).1).symm⟩
      · by_cases k2 : b.length - (q + l) < 2
        · rw [back_cut _ _ _ _ _ _ k1 k2] at h
          have := pair0 h
          omega
        · by_cases k3 : farOf b (q + l) = 0 ∨ o1.length < farOf b (q + l)
          · rw [back_far _ _ _ _ _ _ k1 k2 k3] at h
            have := pair0 h
            omega
          · obtain ⟨⟨n, q2, ok⟩, hn⟩ : ∃ r, lengthOf b (q + l + 2) ((b.getD p 0).toNat % 16) = r := ⟨_, rfl⟩
            cases ok with
            | false =>
              rw [back_bad _ _ _ _ _ n q2 _ k1 k2 k3 hn] at h
              have := pair0 h
              omega
            | true =>
              rw [back_reps _ _ _ _ _ n q2 _ k1 k2 k3 hn] at h
              obtain ⟨g, hg⟩ : ∃ g, reps most (farOf b (q + l)) (n + 4) o1 = g := ⟨_, rfl⟩
              rw [hg] at h
              cases g with
              | bad e =>
                have h1 := pair0 h
                have h2 := reps_bad most _ (n + 4) o1 e hg
                omega
              | ok z o2 =>
                obtain ⟨_, rfl, h5⟩ := reps_spec most _ (n + 4) o1 z o2 hg
                exact Or.inr ⟨k1, k2, k3, n, q2, hn, h5.resolve_left (by omega), h⟩
theorem tok_half {b : List Int} (hb : ∀ c ∈ b, 0 ≤ c ∧ c < 256) {p : Nat} (hp : p < b.length) : (b.getD p 0).toNat / 16 < 16 ∧ (b.getD p 0).toNat % 16 < 16 := by
  have := getD_bd hb p hp
  omega

theorem unp_grow {b : List Int} (hb : ∀ c ∈ b, 0 ≤ c ∧ c < 256) {m1 : Nat} {x : List Int} : ∀ (f p : Nat) (out : List Int), p ≤ b.length → b.length < p + f → unp b m1 f p out = (x, 0) →
    out <+: x ∧ ∀ m2, out.length ≤ m2 → (x.length ≤ m2 → unp b m2 f p out = (x, 0)) ∧ (m2 < x.length → unp b m2 f p out = ([], 2))
  | 0, p, out, h1, h2, _ => by omega
  | f + 1, p, out, h1, h2, h => by
    by_cases hp : b.length ≤ p
    · rw [unp_end b m1 f p out hp] at h
      obtain rfl : out = x := (Prod.mk.inj h).1
      exact ⟨List.prefix_refl _, fun m2 h3 => ⟨fun _ => unp_end b m2 f p out hp, fun h4 => by omega⟩⟩
    · obtain ⟨l, q, o1, hl, ho, hc, hx0⟩ := unp_cases h (by omega)
      have hx := Lib.hid hx0
      clear hx0
      have hh := tok_half hb (p := p) (by omega)
      have hq1 := lengthOf_ge hl
      have hq2 := (lengthOf_bd hb (p + 1) _ (by omega) hh.1).2
      rw [hl] at hq2
      have hql : q + l ≤ b.length := by
        have : q ≤ b.length := hq2
        omega
      have hlen : o1.length = out.length + l := by rw [ho, List.length_append, List.length_take, List.length_drop]; omega
      have hpre : out <+: o1 := by rw [ho]; exact List.prefix_append _ _
      have hfit : ∀ m2, o1.length ≤ m2 → lits b m2 l q out = .ok (q + l) o1 := fun m2 hm => by rw [ho]; exact lits_fits b m2 l q out (Or.inr ⟨hql, by omega⟩)
      rcases hx.out with ⟨k1, rfl⟩ | ⟨k1, k2, k3, n, q2, hn, hr, hu⟩
      · refine ⟨hpre, fun m2 h3 => ⟨fun h4 => ?_, fun h4 => ?_⟩⟩
        · rw [unp_lits b m2 f p l q out (by omega) hl, hfit m2 h4, k1]
          exact back_end _ _ _ _ _
        · rw [unp_lits b m2 f p l q out (by omega) hl, lits_full b m2 l q out hql h3 (by omega)]
          rfl
      · have hn1 := lengthOf_ge hn
        have hn2 := (lengthOf_bd hb (q + l + 2) _ (by omega) hh.2).2
        rw [hn] at hn2
        have hq2b : q2 ≤ b.length := hn2
        obtain ⟨g1, g2⟩ := unp_grow hb f q2 _ hq2b (by omega) hu
        have hrl := repL_len (farOf b (q + l)) (n + 4) o1
        have hpx := g1.length_le
        refine ⟨(hpre.trans (repL_pre _ _ _)).trans g1, fun m2 h3 => ?_⟩
        by_cases h5 : o1.length ≤ m2
        · have e1 : unp b m2 (f + 1) p out = unpReps b m2 q2 f (reps m2 (farOf b (q + l)) (n + 4) o1) := by
            rw [unp_lits b m2 f p l q out (by omega) hl, hfit m2 h5]
            exact back_reps _ _ _ _ _ n q2 _ k1 k2 k3 hn
          by_cases h6 : o1.length + (n + 4) ≤ m2
          · rw [e1, reps_run m2 _ (n + 4) o1 h6]
            exact g2 m2 (by omega)
          · rw [e1, reps_over m2 _ (n + 4) o1 h5 (by omega)]
            exact ⟨fun h7 => by omega, fun _ => rfl⟩
        · refine ⟨fun h7 => by omega, fun _ => ?_⟩
          rw [unp_lits b m2 f p l q out (by omega) hl, lits_full b m2 l q out hql h3 (by omega)]
          rfl

/-! What ends too early. -/
theorem take_getD (b : List Int) (k p : Nat) (h : p < k) : (b.take k).getD p 0 = b.getD p 0 := by
  rw [List.getD_eq_getElem?_getD, List.getD_eq_getElem?_getD, List.getElem?_take, if_pos h]
theorem addTo_gt (b : List Int) : ∀ (f p n m q : Nat), addTo b f p n = (m, q, true) → p < q
  | 0, _, _, _, _, h => by simp [addTo] at h
  | f + 1, p, n, m, q, h => by
    unfold addTo at h
    by_cases h1 : p < b.length
    · rw [if_pos h1] at h
      by_cases h2 : b.getD p 0 = 255
      · rw [if_pos h2] at h
        have := addTo_gt b f (p + 1) (n + 255) m q h
        omega
      · rw [if_neg h2] at h
        simp at h
        omega
    · rw [if_neg h1] at h
      simp at h
theorem addTo_cut (b : List Int) (k : Nat) (hk : k ≤ b.length) : ∀ (f f' p n m q : Nat), addTo b f p n = (m, q, true) → k ≤ p + f' →
    (q ≤ k → addTo (b.take k) f' p n = (m, q, true)) ∧ (k < q → ∃ x y, addTo (b.take k) f' p n = (x, y, false))
  | 0, _, _, _, _, _, h, _ => by simp [addTo] at h
  | f + 1, f', p, n, m, q, h, hf => by
    have hgt := addTo_gt b (f + 1) p n m q h
    have hlen : (b.take k).length = k := by rw [List.length_take]; omega
    unfold addTo at h
    by_cases h1 : p < b.length
    · rw [if_pos h1] at h
      by_cases hpk : p < k
      · obtain ⟨f2, rfl⟩ : ∃ f2, f' = f2 + 1 := ⟨f' - 1, by omega⟩
        rw [addTo, if_pos (by rw [hlen]; exact hpk), take_getD b k p hpk]
        by_cases h2 : b.getD p 0 = 255
        · rw [if_pos h2] at h ⊢
          exact addTo_cut b k hk f f2 (p + 1) (n + 255) m q h (by omega)
        · rw [if_neg h2] at h ⊢
          refine ⟨fun _ => h, fun h3 => ?_⟩
          simp at h
          omega
      · refine ⟨fun h3 => by omega, fun _ => ?_⟩
        cases f' with
        | zero => exact ⟨0, 0, rfl⟩
        | succ f2 => exact ⟨0, 0, by rw [addTo, if_neg (by rw [hlen]; exact hpk)]⟩
    · rw [if_neg h1] at h
      simp at h
theorem lengthOf_cut {b : List Int} {k p half m q : Nat} (hk : k ≤ b.length) (hp : p ≤ k) (h : lengthOf b p half = (m, q, true)) :
    (q ≤ k → lengthOf (b.take k) p half = (m, q, true)) ∧ (k < q → ∃ x y, lengthOf (b.take k) p half = (x, y, false)) := by
  have hlen : (b.take k).length = k := by rw [List.length_take]; omega
  unfold lengthOf at h ⊢
  by_cases h1 : half < 15
  · rw [if_pos h1] at h ⊢
    refine ⟨fun _ => h, fun h2 => ?_⟩
    simp at h
    omega
  · rw [if_neg h1] at h ⊢
    exact addTo_cut b k hk _ _ p 15 m q h (by rw [hlen]; omega)
theorem unp_cut {b : List Int} (hb : ∀ c ∈ b, 0 ≤ c ∧ c < 256) {most k : Nat} {x : List Int} (hk : k ≤ b.length) : ∀ (f p : Nat) (out : List Int), p ≤ k → b.length < p + f → unp b most f p out = (x, 0) →
    (∃ y, unp (b.take k) most f p out = (y, 0) ∧ y <+: x) ∨ unp (b.take k) most f p out = ([], 3)
  | 0, p, out, h1, h2, _ => by omega
  | f + 1, p, out, h1, h2, h => by
    have hlen : (b.take k).length = k := by rw [List.length_take]; omega
    have hpre := (unp_grow hb (f + 1) p out (by omega) h2 h).1
    by_cases hpk : p = k
    · exact Or.inl ⟨out, unp_end _ _ _ _ _ (by rw [hlen]; omega), hpre⟩
    · obtain ⟨l, q, o1, hl, ho, hc, hx0⟩ := unp_cases h (by omega)
      have hx := Lib.hid hx0
      clear hx0
      have hh := tok_half hb (p := p) (by omega)
      have hq1 := lengthOf_ge hl
      have ht := take_getD b k p (by omega)
      obtain ⟨c1, c2⟩ := lengthOf_cut hk (by omega) hl
      rw [← ht] at c1 c2
      by_cases hqk : q ≤ k
      · have hl' := c1 hqk
        by_cases hlk : q + l ≤ k
        · have hfit : lits (b.take k) most l q out = .ok (q + l) o1 := by
            have := lits_fits (b.take k) most l q out (by rw [hlen]; omega)
            rw [this, ho, List.drop_take, List.take_take, Nat.min_eq_left (by omega)]
          have e0 : unp (b.take k) most (f + 1) p out = unpLits (b.take k) most ((b.take k).getD p 0).toNat f (.ok (q + l) o1) := by
            rw [unp_lits _ most f p l q out (by rw [hlen]; omega) hl', hfit]
          by_cases hend : q + l = k
          · refine Or.inl ⟨o1, ?_, ?_⟩
            · rw [e0, hend]
              have := back_end (b.take k) most ((b.take k).getD p 0).toNat f o1
              rw [hlen] at this
              exact this
            · rcases hx.out with ⟨_, rfl⟩ | ⟨k1, k2, k3, n, q2, hn, hr, hu⟩
              · exact List.prefix_refl _
              · have hn1 := lengthOf_ge hn
                have hn2 := (lengthOf_bd hb (q + l + 2) _ (by omega) hh.2).2
                rw [hn] at hn2
                exact (repL_pre _ _ _).trans (unp_grow hb f q2 _ hn2 (by omega) hu).1
          · rcases hx.out with ⟨k1, _⟩ | ⟨k1, k2, k3, n, q2, hn, hr, hu⟩
            · omega
            · by_cases hk2 : k - (q + l) < 2
              · right
                rw [e0]
                exact back_cut _ _ _ _ _ _ (by rw [hlen]; exact hend) (by rw [hlen]; exact hk2)
              · have hfar : farOf (b.take k) (q + l) = farOf b (q + l) := by
                  unfold farOf
                  rw [take_getD b k _ (by omega), take_getD b k _ (by omega)]
                have hn1 := lengthOf_ge hn
                have hn2 := (lengthOf_bd hb (q + l + 2) _ (by omega) hh.2).2
                rw [hn] at hn2
                obtain ⟨d1, d2⟩ := lengthOf_cut hk (by omega) hn
                rw [← ht] at d1 d2
                by_cases hqk2 : q2 ≤ k
                · have e1 : unp (b.take k) most (f + 1) p out = unpReps (b.take k) most q2 f (reps most (farOf b (q + l)) (n + 4) o1) := by
                    rw [e0, ← hfar]
                    exact back_reps _ _ _ _ _ n q2 _ (by rw [hlen]; exact hend) (by rw [hlen]; exact hk2) (by rw [hfar]; exact k3) (d1 hqk2)
                  rw [e1, reps_run most _ (n + 4) o1 hr]
                  exact unp_cut hb hk f q2 _ hqk2 (by omega) hu
                · right
                  obtain ⟨x1, y1, hxy⟩ := d2 (by omega)
                  rw [e0]
                  exact back_bad _ _ _ _ _ x1 y1 _ (by rw [hlen]; exact hend) (by rw [hlen]; exact hk2) (by rw [hfar]; exact k3) hxy
        · right
          rw [unp_lits _ most f p l q out (by rw [hlen]; omega) hl', lits_short (b.take k) most l q out (by rw [hlen]; exact hqk) (by rw [hlen]; omega) (by omega)]
          rfl
      · right
        obtain ⟨x1, y1, hxy⟩ := c2 (by omega)
        exact unp_bad _ _ _ _ x1 y1 _ (by rw [hlen]; omega) hxy
end Go.Proofs.Ytlkpedknhjgdiaa
