/-
  Plain mathematics of Unpack as a whole: more room, less room, an end too early; how sequences put one behind the other are unpacked. Conditions: bytes from 0 to 255.
-/
import Derived.Test.YtlkpedknhjgdiaaM3
namespace Go.Proofs.Ytlkpedknhjgdiaa
open Go.RowKit

theorem unp_fuel {b : List Int} (hb : ∀ c ∈ b, 0 ≤ c ∧ c < 256) (most : Nat) : ∀ (f f' p : Nat) (out : List Int), p ≤ b.length → b.length < p + f → b.length < p + f' → unp b most f p out = unp b most f' p out
  | 0, _, p, _, h1, h2, _ => by omega
  | f + 1, 0, p, _, h1, _, h3 => by omega
  | f + 1, f' + 1, p, out, h1, h2, h3 => by
    by_cases hp : b.length ≤ p
    · rw [unp_end _ _ _ _ _ hp, unp_end _ _ _ _ _ hp]
    · have hh := tok_half hb (p := p) (by omega)
      obtain ⟨⟨l, q, ok⟩, hl⟩ : ∃ r, lengthOf b (p + 1) ((b.getD p 0).toNat / 16) = r := ⟨_, rfl⟩
      cases ok with
      | false => rw [unp_bad b most f p l q out (by omega) hl, unp_bad b most f' p l q out (by omega) hl]
      | true =>
        have hq1 := lengthOf_ge hl
        have hq2 := (lengthOf_bd hb (p + 1) _ (by omega) hh.1).2
        rw [hl] at hq2
        have hq2b : q ≤ b.length := hq2
        rw [unp_lits b most f p l q out (by omega) hl, unp_lits b most f' p l q out (by omega) hl]
        obtain ⟨g, hg⟩ : ∃ g, lits b most l q out = g := ⟨_, rfl⟩
        rw [hg]
        cases g with
        | bad e => rfl
        | ok p' o1 =>
          obtain ⟨rfl, _, hc⟩ := lits_spec b most l q out p' o1 hg
          by_cases k1 : q + l = b.length
          · rw [k1, back_end, back_end]
          · by_cases k2 : b.length - (q + l) < 2
            · rw [back_cut _ _ _ _ _ _ k1 k2, back_cut _ _ _ _ _ _ k1 k2]
            · by_cases k3 : farOf b (q + l) = 0 ∨ o1.length < farOf b (q + l)
              · rw [back_far _ _ _ _ _ _ k1 k2 k3, back_far _ _ _ _ _ _ k1 k2 k3]
              · obtain ⟨⟨n, q2, ok⟩, hn⟩ : ∃ r, lengthOf b (q + l + 2) ((b.getD p 0).toNat % 16) = r := ⟨_, rfl⟩
                cases ok with
                | false => rw [back_bad _ _ _ _ _ n q2 _ k1 k2 k3 hn, back_bad _ _ _ _ _ n q2 _ k1 k2 k3 hn]
                | true =>
                  have hn1 := lengthOf_ge hn
                  have hn2 := (lengthOf_bd hb (q + l + 2) _ (by omega) hh.2).2
                  rw [hn] at hn2
                  rw [back_reps _ _ _ _ _ n q2 _ k1 k2 k3 hn, back_reps _ _ _ _ _ n q2 _ k1 k2 k3 hn]
                  obtain ⟨g, hg⟩ : ∃ g, reps most (farOf b (q + l)) (n + 4) o1 = g := ⟨_, rfl⟩
                  rw [hg]
                  cases g with
                  | bad e => rfl
                  | ok z o2 => exact unp_fuel hb most f f' q2 o2 hn2 (by omega) (by omega)

theorem unpack_run {b : List Int} {m : Nat} (hm : m ≤ 1048576) (hne : b ≠ []) : unpackOf b m = unp b m (b.length + 1) 0 [] := by
  unfold unpackOf
  rw [if_neg (by omega), if_neg hne, Int.toNat_natCast]
theorem unpack_ne {b x : List Int} {m : Nat} (h : unpackOf b m = (x, 0)) : b ≠ [] ∧ m ≤ 1048576 := by
  unfold unpackOf at h
  by_cases h1 : (m : Int) < 0 ∨ 1048576 < (m : Int)
  · rw [if_pos h1] at h
    have := pair0 h
    omega
  · rw [if_neg h1] at h
    by_cases h2 : b = []
    · rw [if_pos h2] at h
      have := pair0 h
      omega
    · exact ⟨h2, by omega⟩
theorem unpack_grow {b x : List Int} {m : Nat} (hb : ∀ c ∈ b, 0 ≤ c ∧ c < 256) (h : unpackOf b m = (x, 0)) (m2 : Nat) (hm2 : m2 ≤ 1048576) :
    (x.length ≤ m2 → unpackOf b m2 = (x, 0)) ∧ (m2 < x.length → unpackOf b m2 = ([], 2)) := by
  obtain ⟨hne, hm⟩ := unpack_ne h
  rw [unpack_run hm hne] at h
  rw [unpack_run hm2 hne]
  exact (unp_grow hb (b.length + 1) 0 [] (Nat.zero_le _) (by omega) h).2 m2 (Nat.zero_le _)
theorem unpack_cut {b x : List Int} {m : Nat} (hb : ∀ c ∈ b, 0 ≤ c ∧ c < 256) (h : unpackOf b m = (x, 0)) (k : Nat) (hk : k ≤ b.length) :
    (∃ y, unpackOf (b.take k) m = (y, 0) ∧ y <+: x) ∨ unpackOf (b.take k) m = ([], 3) := by
  obtain ⟨hne, hm⟩ := unpack_ne h
  by_cases h0 : k = 0
  · right
    subst h0
    unfold unpackOf
    rw [if_neg (by omega), if_pos (List.take_zero)]
  · have hne2 : b.take k ≠ [] := fun e => by
      have := congrArg List.length e
      rw [List.length_take] at this
      have h3 : b.length ≠ 0 := fun e => hne (List.eq_nil_of_length_eq_zero e)
      have h4 : min k b.length = 0 := this
      omega
    have hb2 : ∀ c ∈ b.take k, 0 ≤ c ∧ c < 256 := fun c hc => hb c (List.mem_of_mem_take hc)
    rw [unpack_run hm hne] at h
    rw [unpack_run hm hne2, unp_fuel hb2 m _ (b.length + 1) 0 [] (Nat.zero_le _) (by omega) (by rw [List.length_take]; omega)]
    exact unp_cut hb hk (b.length + 1) 0 [] (Nat.zero_le _) (by omega) h

/-! Sequences, one behind the other. -/
theorem byte_at (A rest : List Int) (x : Nat) : ((A ++ (x : Int) :: rest).getD A.length 0).toNat = x := by
  rw [getD_mid]
  exact Int.toNat_natCast x
/-- One sequence at any place: its bytes, a distance, how many are told again; the rest from there on. -/
theorem seq_run (A rest l out : List Int) (far m most f : Nat) (hfar : far < 65536) (h0 : 0 < far) (h1 : far ≤ out.length + l.length) (hm : out.length + l.length + (m + 4) ≤ most) :
    unp (A ++ (seqL l far m ++ rest)) most (f + 1) A.length out = unp (A ++ (seqL l far m ++ rest)) most f (A ++ seqL l far m).length (repL far (m + 4) (out ++ l)) := by
  obtain ⟨b, hb⟩ : ∃ b, A ++ (seqL l far m ++ rest) = b := ⟨_, rfl⟩
  obtain ⟨T, hT⟩ : ∃ T : Nat, min l.length 15 * 16 + min m 15 = T := ⟨_, rfl⟩
  have f1 : b = A ++ (T : Int) :: (addedL l.length ++ (l ++ (((far % 256 : Nat) : Int) :: ((far / 256 : Nat) : Int) :: (addedL m ++ rest)))) := by rw [← hb, seq_form, hT]; simp
  have f2 : b = (A ++ [(T : Int)]) ++ (addedL l.length ++ (l ++ (((far % 256 : Nat) : Int) :: ((far / 256 : Nat) : Int) :: (addedL m ++ rest)))) := by rw [f1]; simp
  have f3 : b = (A ++ [(T : Int)] ++ addedL l.length) ++ (l ++ (((far % 256 : Nat) : Int) :: ((far / 256 : Nat) : Int) :: (addedL m ++ rest))) := by rw [f1]; simp
  have f4 : b = (A ++ [(T : Int)] ++ addedL l.length ++ l) ++ ((far % 256 : Nat) : Int) :: (((far / 256 : Nat) : Int) :: (addedL m ++ rest)) := by rw [f1]; simp
  have f5 : b = (A ++ [(T : Int)] ++ addedL l.length ++ l ++ [((far % 256 : Nat) : Int)]) ++ ((far / 256 : Nat) : Int) :: (addedL m ++ rest) := by rw [f1]; simp
  have f6 : b = (A ++ [(T : Int)] ++ addedL l.length ++ l ++ [((far % 256 : Nat) : Int)] ++ [((far / 256 : Nat) : Int)]) ++ (addedL m ++ rest) := by rw [f1]; simp
  have hbl : b.length = A.length + 1 + (addedL l.length).length + l.length + 2 + (addedL m).length + rest.length := by rw [f1]; simp; omega
  have hsl : (A ++ seqL l far m).length = A.length + 1 + (addedL l.length).length + l.length + 2 + (addedL m).length := by
    have : (A ++ (seqL l far m ++ rest)).length = b.length := by rw [hb]
    rw [hbl] at this
    simp at this ⊢
    omega
  rw [hb]
  have htok : (b.getD A.length 0).toNat = T := by rw [f1]; exact byte_at _ _ _
  have hlo : lengthOf b (A.length + 1) ((b.getD A.length 0).toNat / 16) = (l.length, A.length + 1 + (addedL l.length).length, true) := by
    rw [htok, show T / 16 = min l.length 15 by omega, f2]
    have := lengthOf_added (A ++ [(T : Int)]) (l ++ (((far % 256 : Nat) : Int) :: ((far / 256 : Nat) : Int) :: (addedL m ++ rest))) l.length
    rw [show (A ++ [(T : Int)]).length = A.length + 1 by simp] at this
    exact this
  have hli : lits b most l.length (A.length + 1 + (addedL l.length).length) out = .ok (A.length + 1 + (addedL l.length).length + l.length) (out ++ l) := by
    have := lits_run most l (A ++ [(T : Int)] ++ addedL l.length) (((far % 256 : Nat) : Int) :: ((far / 256 : Nat) : Int) :: (addedL m ++ rest)) out (by omega)
    rw [← f3, show (A ++ [(T : Int)] ++ addedL l.length).length = A.length + 1 + (addedL l.length).length by simp; omega] at this
    exact this
  obtain ⟨p2, hp2⟩ : ∃ p2, A.length + 1 + (addedL l.length).length + l.length = p2 := ⟨_, rfl⟩
  rw [hp2] at hli
  have hf0 : (b.getD p2 0).toNat = far % 256 := by
    rw [f4, show p2 = (A ++ [(T : Int)] ++ addedL l.length ++ l).length by rw [← hp2]; simp; omega]
    exact byte_at _ _ _
  have hf1 : (b.getD (p2 + 1) 0).toNat = far / 256 := by
    rw [f5, show p2 + 1 = (A ++ [(T : Int)] ++ addedL l.length ++ l ++ [((far % 256 : Nat) : Int)]).length by rw [← hp2]; simp; omega]
    exact byte_at _ _ _
  have hfo : farOf b p2 = far := by
    unfold farOf
    rw [hf0, hf1]
    omega
  have hlm : lengthOf b (p2 + 2) ((b.getD A.length 0).toNat % 16) = (m, p2 + 2 + (addedL m).length, true) := by
    rw [htok, show T % 16 = min m 15 by omega, f6]
    have := lengthOf_added (A ++ [(T : Int)] ++ addedL l.length ++ l ++ [((far % 256 : Nat) : Int)] ++ [((far / 256 : Nat) : Int)]) rest m
    rw [show (A ++ [(T : Int)] ++ addedL l.length ++ l ++ [((far % 256 : Nat) : Int)] ++ [((far / 256 : Nat) : Int)]).length = p2 + 2 by rw [← hp2]; simp; omega] at this
    exact this
  rw [unp_lits b most f A.length _ _ out (by omega) hlo, hli, hsl]
  have h3 := back_reps b most ((b.getD A.length 0).toNat) f p2 m _ (out ++ l) (by omega) (by omega) (by rw [hfo, List.length_append]; omega) hlm
  rw [h3, hfo, reps_run most far (m + 4) (out ++ l) (by rw [List.length_append]; omega), show A.length + 1 + (addedL l.length).length + l.length + 2 + (addedL m).length = p2 + 2 + (addedL m).length by omega]
  rfl

/-- Sequences and the bytes behind them, packed. -/
def encL : List (List Int × Nat × Nat) → List Int → List Int
  | [], t => lastL t
  | (l, far, m) :: r, t => seqL l far m ++ encL r t
/-- What they tell. -/
def decL : List (List Int × Nat × Nat) → List Int → List Int → List Int
  | [], t, out => out ++ t
  | (l, far, m) :: r, t, out => decL r t (repL far (m + 4) (out ++ l))
/-- Each distance reaches no further back than to the first byte. -/
def nearL : List (List Int × Nat × Nat) → Nat → Prop
  | [], _ => True
  | (l, far, m) :: r, n => 0 < far ∧ far < 65536 ∧ far ≤ n + l.length ∧ nearL r (n + l.length + (m + 4))
theorem decL_pre : ∀ (s : List (List Int × Nat × Nat)) (t out : List Int), out <+: decL s t out
  | [], _, _ => List.prefix_append _ _
  | (l, _, _) :: r, t, out => ((List.prefix_append out l).trans (repL_pre _ _ _)).trans (decL_pre r t _)
theorem enc_run (most : Nat) : ∀ (s : List (List Int × Nat × Nat)) (t A out : List Int) (f : Nat), nearL s out.length → (decL s t out).length ≤ most → s.length ≤ f →
    unp (A ++ encL s t) most (f + 1) A.length out = (decL s t out, 0)
  | [], t, A, out, f, _, h2, _ => last_run A t out most f (by rw [decL, List.length_append] at h2; exact h2)
  | (l, far, m) :: r, t, A, out, f, h1, h2, h3 => by
    obtain ⟨g1, g2, g3, g4⟩ := h1
    obtain ⟨f2, rfl⟩ : ∃ f2, f = f2 + 1 := ⟨f - 1, by simp at h3; omega⟩
    have hp := (decL_pre r t (repL far (m + 4) (out ++ l))).length_le
    have hr := repL_len far (m + 4) (out ++ l)
    rw [List.length_append] at hr
    have hd : (decL r t (repL far (m + 4) (out ++ l))).length ≤ most := h2
    show unp (A ++ (seqL l far m ++ encL r t)) most (f2 + 1 + 1) A.length out = _
    rw [seq_run A (encL r t) l out far m most (f2 + 1) g2 g1 g3 (by omega), ← List.append_assoc]
    exact enc_run most r t (A ++ seqL l far m) _ f2 (by rw [hr]; exact g4) hd (by simp at h3; omega)
theorem lastL_ne (t : List Int) : lastL t ≠ [] := by simp [lastL]
theorem encL_len : ∀ (s : List (List Int × Nat × Nat)) (t : List Int), s.length < (encL s t).length
  | [], t => by
    have : (encL [] t) ≠ [] := lastL_ne t
    cases h : encL [] t with
    | nil => exact absurd h this
    | cons a b => simp
  | (l, far, m) :: r, t => by
    have := encL_len r t
    have e : (encL ((l, far, m) :: r) t).length = (seqL l far m).length + (encL r t).length := by
      show (seqL l far m ++ encL r t).length = _
      rw [List.length_append]
    have h2 : 0 < (seqL l far m).length := by
      have := seq_form l [] far m
      rw [List.append_nil] at this
      rw [this]
      simp
    rw [e]
    simp
    omega
/-- What is packed is unpacked. -/
theorem enc_unpack (s : List (List Int × Nat × Nat)) (t : List Int) (most : Nat) (h : nearL s 0) (h2 : (decL s t []).length ≤ most) (hm : most ≤ 1048576) : unpackOf (encL s t) most = (decL s t [], 0) := by
  have hl := encL_len s t
  have hne : encL s t ≠ [] := fun e => by rw [e] at hl; simp at hl
  rw [unpack_run hm hne]
  have := enc_run most s t [] [] (encL s t).length h h2 (by omega)
  exact this
end Go.Proofs.Ytlkpedknhjgdiaa
