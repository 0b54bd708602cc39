/-
  Plain mathematics of Pack: what is packed is unpacked; how long it is; a byte again and again. Conditions: bytes from 0 to 255, no more than 1048576 of them.
-/
import Derived.Test.YtlkpedknhjgdiaaN3
import Derived.Test.YtlkpedknhjgdiaaJ3
import Derived.Test.YtlkpedknhjgdiaaO3
namespace Go.Proofs.Ytlkpedknhjgdiaa
open Go.RowKit

/-- The end of the work. -/
def finL (l : List Int) (lit : Nat) (out : List Int) : List Int := if lit < l.length ∨ out = [] then out ++ headL (l.drop lit) 0 else out
/-- How many bytes are alike from where the four at a place were last seen. -/
def alike (l : List Int) (k : Nat) : Nat := eqAt l (lastN l k) k l.length 0
/-- The sequence that is written at a place. -/
def seqAt (l : List Int) (lit k : Nat) : List Int := seqL ((l.drop lit).take (k - lit)) (k - lastN l k) (alike l k - 4)
/-- The work from a place on. -/
def pk (l : List Int) : Nat → Nat → Nat → List Int → List Int
  | 0, lit, _, out => finL l lit out
  | f + 1, lit, k, out => if k + 4 ≤ l.length then (if lastB l k = true ∧ k - lastN l k ≤ 65535 then pk l f (k + alike l k) (k + alike l k) (out ++ seqAt l lit k) else pk l f lit (k + 1) out) else finL l lit out
def packOf (l : List Int) : List Int := if 1048576 < l.length then [] else pk l l.length 0 0 []

theorem pk_end (l : List Int) (f lit k : Nat) (out : List Int) (h : l.length < k + 4) : pk l f lit k out = finL l lit out := by
  cases f with
  | zero => rfl
  | succ f => rw [pk, if_neg (by omega)]
theorem pk_skip (l : List Int) (f lit k : Nat) (out : List Int) (h : k + 4 ≤ l.length) (h2 : ¬ (lastB l k = true ∧ k - lastN l k ≤ 65535)) : pk l (f + 1) lit k out = pk l f lit (k + 1) out := by
  rw [pk, if_pos h, if_neg h2]
theorem pk_take (l : List Int) (f lit k : Nat) (out : List Int) (h : k + 4 ≤ l.length) (h2 : lastB l k = true ∧ k - lastN l k ≤ 65535) : pk l (f + 1) lit k out = pk l f (k + alike l k) (k + alike l k) (out ++ seqAt l lit k) := by
  rw [pk, if_pos h, if_pos h2]

/-! How many bytes are alike. -/
theorem eqAt_spec (l : List Int) (p q : Nat) : ∀ (f n : Nat), q + n ≤ l.length → n ≤ eqAt l p q f n ∧ q + eqAt l p q f n ≤ l.length ∧ ∀ i, n ≤ i → i < eqAt l p q f n → l.getD (p + i) 0 = l.getD (q + i) 0
  | 0, n, h => ⟨Nat.le_refl _, h, fun i h1 h2 => by rw [eqAt] at h2; omega⟩
  | f + 1, n, h => by
    unfold eqAt
    by_cases h1 : q + n < l.length
    · rw [if_pos h1]
      by_cases h2 : l.getD (p + n) 0 = l.getD (q + n) 0
      · rw [if_pos h2]
        obtain ⟨g1, g2, g3⟩ := eqAt_spec l p q f (n + 1) (by omega)
        refine ⟨by omega, g2, fun i hi hi2 => ?_⟩
        by_cases he : i = n
        · rw [he]; exact h2
        · exact g3 i (by omega) hi2
      · rw [if_neg h2]
        exact ⟨Nat.le_refl _, h, fun i hi hi2 => by omega⟩
    · rw [if_neg h1]
      exact ⟨Nat.le_refl _, h, fun i hi hi2 => by omega⟩
theorem eqAt_ge (l : List Int) (p q t : Nat) (h : ∀ i, i < t → q + i < l.length ∧ l.getD (p + i) 0 = l.getD (q + i) 0) : ∀ (f n : Nat), t ≤ n + f → (t ≤ eqAt l p q f n ∨ t ≤ n)
  | 0, n, h2 => Or.inr (by omega)
  | f + 1, n, h2 => by
    by_cases h3 : t ≤ n
    · exact Or.inr h3
    · obtain ⟨g1, g2⟩ := h n (by omega)
      unfold eqAt
      rw [if_pos g1, if_pos g2]
      rcases eqAt_ge l p q t h f (n + 1) (by omega) with g | g
      · exact Or.inl g
      · exact Or.inl (Nat.le_trans g ((eqAt_spec l p q f (n + 1) (by omega)).1))
theorem last_facts {l : List Int} {k : Nat} (hk : k + 4 ≤ l.length) (h : lastB l k = true) : lastN l k < k ∧ 4 ≤ alike l k ∧ k + alike l k ≤ l.length ∧ ∀ i, i < alike l k → l.getD (lastN l k + i) 0 = l.getD (k + i) 0 := by
  obtain ⟨j, hj⟩ : ∃ j, lastAt l (win l k) k = some j := by
    unfold lastB at h
    exact Option.isSome_iff_exists.1 h
  have hn : lastN l k = j := by unfold lastN; rw [hj]; rfl
  obtain ⟨h1, h2⟩ := lastAt_some hj
  rw [win_four (by omega), win_four hk] at h2
  simp only [List.cons.injEq, and_true] at h2
  obtain ⟨e0, e1, e2, e3⟩ := h2
  have hs := eqAt_spec l j k l.length 0 (by omega)
  have ha : alike l k = eqAt l j k l.length 0 := by unfold alike; rw [hn]
  rw [ha, hn]
  refine ⟨h1, ?_, hs.2.1, fun i hi => hs.2.2 i (Nat.zero_le _) hi⟩
  rcases eqAt_ge l j k 4 (fun i hi => ⟨by omega, by
    rcases (by omega : i = 0 ∨ i = 1 ∨ i = 2 ∨ i = 3) with rfl | rfl | rfl | rfl
    · exact e0
    · exact e1
    · exact e2
    · exact e3⟩) l.length 0 (by omega) with g | g
  · exact g
  · omega

/-! What is packed is unpacked. -/
theorem take_next (l : List Int) (k : Nat) (h : k < l.length) : l.take k ++ [l.getD k 0] = l.take (k + 1) := by
  rw [List.take_succ_eq_append_getElem h, List.getD_eq_getElem?_getD, List.getElem?_eq_getElem h]
  rfl
theorem getD_take (l : List Int) (n k : Nat) (h : k < n) : (l.take n).getD k 0 = l.getD k 0 := by
  rw [List.getD_eq_getElem?_getD, List.getD_eq_getElem?_getD, List.getElem?_take, if_pos h]
theorem repL_like (l : List Int) (j k : Nat) (hj : j < k) : ∀ n, k + n ≤ l.length → (∀ i, i < n → l.getD (j + i) 0 = l.getD (k + i) 0) → repL (k - j) n (l.take k) = l.take (k + n)
  | 0, _, _ => rfl
  | n + 1, h, he => by
    rw [repL_snoc, repL_like l j k hj n (by omega) (fun i hi => he i (by omega))]
    have hl : (l.take (k + n)).length = k + n := by rw [List.length_take]; omega
    rw [hl, show k + n - (k - j) = j + n by omega, getD_take _ _ _ (by omega), he n (by omega), take_next _ _ (by omega)]
    rfl
theorem take_drop (l : List Int) (i k : Nat) (h : i ≤ k) : l.take i ++ (l.drop i).take (k - i) = l.take k := by
  have := (List.take_append_drop i (l.take k))
  rw [List.take_take, Nat.min_eq_left h, List.drop_take] at this
  exact this
/-- The state of the work: what was written is unpacked to the bytes up to 'lit'. -/
structure Inv (l : List Int) (most lit k : Nat) (out : List Int) : Prop where
  le : lit ≤ k
  lek : k ≤ l.length
  bytes : ∀ c ∈ out, 0 ≤ c ∧ c < 256
  bound : 255 * out.length ≤ 256 * lit
  run : ∃ n, ∀ (rest : List Int) (f : Nat), unp (out ++ rest) most (f + n) 0 [] = unp (out ++ rest) most f out.length (l.take lit)
theorem added_bd (n : Nat) : ∀ c ∈ addedL n, 0 ≤ c ∧ c < 256 := fun c hc => by
  unfold addedL at hc
  split at hc
  · cases hc
  · rcases List.mem_append.1 hc with h | h
    · obtain rfl := List.eq_of_mem_replicate h
      decide
    · obtain rfl := List.mem_singleton.1 h
      omega
theorem head_bd {l : List Int} (h : ∀ c ∈ l, 0 ≤ c ∧ c < 256) (m : Nat) : ∀ c ∈ headL l m, 0 ≤ c ∧ c < 256 := fun c hc => by
  unfold headL at hc
  rcases List.mem_append.1 hc with hc | hc
  · rcases List.mem_append.1 hc with hc | hc
    · obtain rfl := List.mem_singleton.1 hc
      omega
    · exact added_bd _ c hc
  · exact h c hc
theorem seq_of_head (l : List Int) (far m : Nat) : seqL l far m = headL l m ++ [((far % 256 : Nat) : Int), ((far / 256 : Nat) : Int)] ++ addedL m := by simp [seqL, headL]
theorem seq_bd {l : List Int} (h : ∀ c ∈ l, 0 ≤ c ∧ c < 256) (far m : Nat) (hf : far < 65536) : ∀ c ∈ seqL l far m, 0 ≤ c ∧ c < 256 := fun c hc => by
  rw [seq_of_head] at hc
  rcases List.mem_append.1 hc with hc | hc
  · rcases List.mem_append.1 hc with hc | hc
    · exact head_bd h m c hc
    · simp only [List.mem_cons, List.not_mem_nil, or_false] at hc
      rcases hc with rfl | rfl <;> omega
  · exact added_bd _ c hc
theorem added_len (n : Nat) : 255 * (addedL n).length ≤ n + 240 ∧ (n < 15 → (addedL n).length = 0) ∧ 255 * (addedL n).length ≤ 256 * n := by
  unfold addedL
  split
  · simp
  · simp
    omega
theorem seq_len (l : List Int) (far m : Nat) : 255 * (seqL l far m).length ≤ 256 * (l.length + m + 4) := by
  have h1 := added_len l.length
  have h2 := added_len m
  simp [seqL]
  omega
theorem Inv.start (l : List Int) (most : Nat) : Inv l most 0 0 [] := ⟨Nat.le_refl _, Nat.zero_le _, by simp, Nat.le_refl _, 0, fun _ _ => rfl⟩
theorem Inv.skip {l : List Int} {most lit k : Nat} {out : List Int} (h : Inv l most lit k out) (hk : k + 4 ≤ l.length) : Inv l most lit (k + 1) out := ⟨by have := h.le; omega, by omega, h.bytes, h.bound, h.run⟩
theorem Inv.take {l : List Int} {lit k : Nat} {out : List Int} (h : Inv l l.length lit k out) (hb : ∀ c ∈ l, 0 ≤ c ∧ c < 256) (hk : k + 4 ≤ l.length) (h2 : lastB l k = true ∧ k - lastN l k ≤ 65535) : Inv l l.length (k + alike l k) (k + alike l k) (out ++ seqAt l lit k) := by
  obtain ⟨g1, g2, g3, g4⟩ := last_facts hk h2.1
  have hle := h.le
  have hsl : ((l.drop lit).take (k - lit)).length = k - lit := by rw [List.length_take, List.length_drop]; omega
  refine ⟨Nat.le_refl _, g3, fun c hc => ?_, ?_, ?_⟩
  · rcases List.mem_append.1 hc with hc | hc
    · exact h.bytes c hc
    · exact seq_bd (fun c hc => hb c (List.mem_of_mem_drop (List.mem_of_mem_take hc))) _ _ (by omega) c hc
  · have := seq_len ((l.drop lit).take (k - lit)) (k - lastN l k) (alike l k - 4)
    have h3 := h.bound
    rw [List.length_append]
    unfold seqAt
    rw [hsl] at this
    omega
  · obtain ⟨n, hn⟩ := h.run
    refine ⟨n + 1, fun rest f => ?_⟩
    have h4 := hn (seqAt l lit k ++ rest) (f + 1)
    rw [List.append_assoc, show f + (n + 1) = f + 1 + n by omega, h4]
    have htl : (l.take lit).length = lit := by rw [List.length_take]; omega
    have h5 := seq_run out rest ((l.drop lit).take (k - lit)) (l.take lit) (k - lastN l k) (alike l k - 4) l.length f (by omega) (by omega) (by rw [htl, hsl]; omega) (by rw [htl, hsl]; omega)
    unfold seqAt
    rw [h5, take_drop l lit k hle, show alike l k - 4 + 4 = alike l k by omega, repL_like l (lastN l k) k g1 (alike l k) g3 g4]
/-- What comes of the work is as it should be. -/
structure Good (l P : List Int) : Prop where
  bytes : ∀ c ∈ P, 0 ≤ c ∧ c < 256
  bound : P.length ≤ l.length + l.length / 200 + 16
  back : unpackOf P l.length = (l, 0)
theorem back_of {l P : List Int} {n : Nat} (hm : l.length ≤ 1048576) (hP : P ≠ []) (hb : ∀ c ∈ P, 0 ≤ c ∧ c < 256) (h : unp P l.length (P.length + 1 + n) 0 [] = (l, 0)) : unpackOf P l.length = (l, 0) := by
  rw [unpack_run hm hP, unp_fuel hb l.length (P.length + 1) (P.length + 1 + n) 0 [] (Nat.zero_le _) (by omega) (by omega)]
  exact h
theorem head_last (l : List Int) : headL l 0 = lastL l := by simp [headL, lastL]
theorem Inv.fin {l : List Int} {lit k : Nat} {out : List Int} (h : Inv l l.length lit k out) (hb : ∀ c ∈ l, 0 ≤ c ∧ c < 256) (hm : l.length ≤ 1048576) : Good l (finL l lit out) := by
  have hle : lit ≤ l.length := Nat.le_trans h.le h.lek
  obtain ⟨n, hn⟩ := h.run
  have hbo := h.bound
  unfold finL
  by_cases hc : lit < l.length ∨ out = []
  · rw [if_pos hc]
    have hbd : ∀ c ∈ out ++ headL (l.drop lit) 0, 0 ≤ c ∧ c < 256 := fun c hc => by
      rcases List.mem_append.1 hc with hc | hc
      · exact h.bytes c hc
      · exact head_bd (fun c hc => hb c (List.mem_of_mem_drop hc)) 0 c hc
    refine ⟨hbd, ?_, ?_⟩
    · have h1 := added_len (l.drop lit).length
      rw [List.length_drop] at h1
      rw [List.length_append]
      simp [headL]
      omega
    · refine back_of (n := n) hm (by simp [headL]) hbd ?_
      rw [hn, head_last]
      have := last_run out (l.drop lit) (l.take lit) l.length ((out ++ lastL (l.drop lit)).length) (by rw [List.length_take, List.length_drop]; omega)
      rw [this, List.take_append_drop]
  · rw [if_neg hc]
    have he : lit = l.length := by omega
    have hne : out ≠ [] := fun e => hc (Or.inr e)
    refine ⟨h.bytes, by omega, back_of (n := n) hm hne h.bytes ?_⟩
    have := hn [] (out.length + 1)
    rw [List.append_nil] at this
    rw [this, unp_end _ _ _ _ _ (Nat.le_refl _), he, List.take_length]
theorem pk_good {l : List Int} (hb : ∀ c ∈ l, 0 ≤ c ∧ c < 256) (hm : l.length ≤ 1048576) : ∀ (f lit k : Nat) (out : List Int), Inv l l.length lit k out → Good l (pk l f lit k out)
  | 0, _, _, _, h => h.fin hb hm
  | f + 1, lit, k, out, h => by
    by_cases h1 : k + 4 ≤ l.length
    · by_cases h2 : lastB l k = true ∧ k - lastN l k ≤ 65535
      · rw [pk_take l f lit k out h1 h2]
        exact pk_good hb hm f _ _ _ (h.take hb h1 h2)
      · rw [pk_skip l f lit k out h1 h2]
        exact pk_good hb hm f _ _ _ (h.skip h1)
    · rw [pk_end l _ lit k out (by omega)]
      exact h.fin hb hm
theorem packOf_good {l : List Int} (hb : ∀ c ∈ l, 0 ≤ c ∧ c < 256) (hm : l.length ≤ 1048576) : Good l (packOf l) := by
  unfold packOf
  rw [if_neg (by omega)]
  exact pk_good hb hm _ _ _ _ (Inv.start l l.length)

/-! A byte again and again. -/
theorem rep_getD (n : Nat) (c : Int) (i : Nat) (h : i < n) : (List.replicate n c).getD i 0 = c := by
  rw [List.getD_eq_getElem?_getD, List.getElem?_replicate, if_pos h]
  rfl
theorem packOf_run (c : Int) (n : Nat) (h1 : 1000 < n) (h2 : n ≤ 20000) : (packOf (List.replicate n c)).length * 10 < n := by
  obtain ⟨l, hl⟩ : ∃ l, List.replicate n c = l := ⟨_, rfl⟩
  have hln : l.length = n := by rw [← hl, List.length_replicate]
  have hg : ∀ i, i < n → l.getD i 0 = c := fun i hi => by rw [← hl]; exact rep_getD n c i hi
  have hw : win l 0 = win l 1 := by
    rw [win_four (by omega), win_four (by omega)]
    simp only [hg _ (by omega : 0 < n), hg _ (by omega : 0 + 1 < n), hg _ (by omega : 0 + 2 < n), hg _ (by omega : 0 + 3 < n), hg _ (by omega : 1 + 3 < n)]
  have ha : lastAt l (win l 1) 1 = some 0 := by
    rw [lastAt, if_pos hw]
  have hN : lastN l 1 = 0 := by unfold lastN; rw [ha]; rfl
  have hB : lastB l 1 = true := by unfold lastB; rw [ha]; rfl
  have hB0 : lastB l 0 = false := rfl
  have hal : alike l 1 = n - 1 := by
    have hs := last_facts (l := l) (k := 1) (by omega) hB
    have hge := eqAt_ge l 0 1 (n - 1) (fun i hi => ⟨by omega, by rw [hg _ (by omega), hg _ (by omega)]⟩) l.length 0 (by omega)
    have he : alike l 1 = eqAt l 0 1 l.length 0 := by unfold alike; rw [hN]
    rw [← he] at hge
    omega
  rw [hl]
  unfold packOf
  rw [if_neg (by omega), hln]
  obtain ⟨f, rfl⟩ : ∃ f, n = f + 2 := ⟨n - 2, by omega⟩
  rw [show f + 2 = (f + 1) + 1 from rfl, pk_skip l (f + 1) 0 0 [] (by omega) (by rw [hB0]; simp), pk_take l f 0 1 [] (by omega) ⟨hB, by omega⟩, pk_end l f _ _ _ (by omega)]
  have hne : ¬ ((1 + alike l 1 < l.length) ∨ ([] : List Int) ++ seqAt l 0 1 = []) := by
    rintro (h | h)
    · omega
    · simp [seqAt, seqL] at h
  unfold finL
  rw [if_neg hne, List.nil_append]
  unfold seqAt
  have hs : ((l.drop 0).take (1 - 0)).length = 1 := by rw [List.length_take, List.length_drop]; omega
  have h6 := added_len (alike l 1 - 4)
  have h7 := added_len 1
  simp [seqL]
  rw [show min 1 l.length = 1 by omega]
  omega
end Go.Proofs.Ytlkpedknhjgdiaa
