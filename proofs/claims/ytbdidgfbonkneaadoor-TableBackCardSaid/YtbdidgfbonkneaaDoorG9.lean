/-
  Plain mathematics of a table's bytes: what is put, what is read, that what was put is read (8.3, 8.4). Conditions: none.
-/
import Derived.Test.YtbdidgfbonkneaaDoorF9
namespace Go.Proofs.YtbdidgfbonkneaaDoor
open Go.RowKit
set_option linter.unusedVariables false

def leafB (i : Nat) (lf : List En) : List Int := numB false 2 i ++ lf.flatMap enB
def bodyB (T : Tb) : Nat → List Int
  | 0 => []
  | i + 1 => if tbAt T i = [] then bodyB T i else bodyB T i ++ leafB i (tbAt T i)
def cntT (T : Tb) : Nat → Nat
  | 0 => 0
  | i + 1 => if tbAt T i = [] then cntT T i else cntT T i + 1
def tblB (T : Tb) : List Int := numB false 2 (cntT T T.length) ++ bodyB T T.length
def partB (l : List Int) (k : Nat) : List Int := (l.drop k).take 16
/-- The first j entries that stand in l from k on. -/
def entsB (l : List Int) (k : Nat) (c : Int) : Nat → Option (List En)
  | 0 => some []
  | j + 1 => match entsB l k c j with
    | none => none
    | some xs => match getE (partB l (k + j * 16)) c with
      | none => none
      | some x => some (xs ++ [x])
def padTo (T : Tb) (p : Nat) : Tb := T ++ List.replicate (p - T.length) []
/-- The first i leaves that stand in l from k0 on, and where they end. -/
def readI (l : List Int) (k0 : Nat) (c : Int) : Nat → Option (Tb × Nat)
  | 0 => some ([], k0)
  | i + 1 => match readI l k0 c i with
    | none => none
    | some (T, k) => if l.length < k + 130 ∨ getTo false 2 k l 2 < T.length ∨ 512 ≤ getTo false 2 k l 2 then none else
      match entsB l (k + 2) c 8 with
      | none => none
      | some xs => some (padTo T (getTo false 2 k l 2) ++ [xs], k + 130)
noncomputable def readT (l : List Int) (at_ : Int) (n c : Int) : Option (Tb × Nat) := if at_ < 0 ∨ (l.length : Int) < at_ + 2 then none else
  match readI l (at_.toNat + 2) c (getTo false 2 at_.toNat l 2) with
  | none => none
  | some (T, k) => if rightT T n c then some (T, k) else none

theorem entsB_len {l : List Int} {k : Nat} {c : Int} : ∀ {j : Nat} {xs : List En}, entsB l k c j = some xs → xs.length = j
  | 0, xs, h => by
    simp only [entsB, Option.some.injEq] at h
    subst h
    rfl
  | j + 1, xs, h => by
    unfold entsB at h
    cases h1 : entsB l k c j with
    | none => rw [h1] at h; cases h
    | some ys =>
      rw [h1] at h
      dsimp only at h
      cases h2 : getE (partB l (k + j * 16)) c with
      | none => rw [h2] at h; cases h
      | some x =>
        rw [h2] at h
        simp only [Option.some.injEq] at h
        subst h
        rw [List.length_append, entsB_len h1]
        rfl
theorem entsB_may {l : List Int} {k : Nat} {c : Int} (hb : ∀ x ∈ l, 0 ≤ x ∧ x < 256) : ∀ {j : Nat} {xs : List En}, entsB l k c j = some xs → ∀ x ∈ xs, MayE x c ∧ EnOk x
  | 0, xs, h => by
    simp only [entsB, Option.some.injEq] at h
    subst h
    simp
  | j + 1, xs, h => by
    unfold entsB at h
    cases h1 : entsB l k c j with
    | none => rw [h1] at h; cases h
    | some ys =>
      rw [h1] at h
      dsimp only at h
      cases h2 : getE (partB l (k + j * 16)) c with
      | none => rw [h2] at h; cases h
      | some x =>
        rw [h2] at h
        simp only [Option.some.injEq] at h
        subst h
        intro y hy
        rcases List.mem_append.1 hy with hy | hy
        · exact entsB_may hb h1 y hy
        · rw [List.mem_singleton] at hy
          subst hy
          unfold getE at h2
          split at h2
          · rename_i hh
            simp only [Option.some.injEq] at h2
            subst h2
            refine ⟨hh.2.2, enOf_ok fun z hz => hb z ?_⟩
            unfold partB at hz
            exact List.mem_of_mem_drop (List.mem_of_mem_take hz)
          · cases h2
theorem padTo_len (T : Tb) (p : Nat) (h : T.length ≤ p) : (padTo T p).length = p := by
  unfold padTo
  rw [List.length_append, List.length_replicate]
  omega
theorem readI_none {l : List Int} {k0 : Nat} {c : Int} {i : Nat} (h : readI l k0 c i = none) : ∀ d, readI l k0 c (i + d) = none
  | 0 => h
  | d + 1 => by
    show readI l k0 c ((i + d) + 1) = none
    unfold readI
    rw [readI_none h d]
/-- Where so many leaves were read they end within l, and have as many leaves as they may. -/
theorem readI_at {l : List Int} {k0 : Nat} {c : Int} (hb : ∀ x ∈ l, 0 ≤ x ∧ x < 256) (hk : k0 ≤ l.length) : ∀ {i : Nat} {T : Tb} {k : Nat}, readI l k0 c i = some (T, k) → k = k0 + i * 130 ∧ k ≤ l.length ∧ T.length ≤ 512 ∧ ∀ lf ∈ T, lf.length ≤ 8 ∧ ∀ x ∈ lf, EnOk x
  | 0, T, k, h => by
    simp only [readI, Option.some.injEq, Prod.mk.injEq] at h
    obtain ⟨rfl, rfl⟩ := h
    simp [hk]
  | i + 1, T, k, h => by
    unfold readI at h
    cases h1 : readI l k0 c i with
    | none => rw [h1] at h; cases h
    | some p =>
      obtain ⟨T1, k1⟩ := p
      rw [h1] at h
      dsimp only at h
      obtain ⟨e1, e2, e3, e4⟩ := readI_at hb hk h1
      split at h
      · cases h
      · rename_i hc
        cases h2 : entsB l (k1 + 2) c 8 with
        | none => rw [h2] at h; cases h
        | some xs =>
          rw [h2] at h
          simp only [Option.some.injEq, Prod.mk.injEq] at h
          obtain ⟨rfl, rfl⟩ := h
          have hp := padTo_len T1 (getTo false 2 k1 l 2) (by omega)
          refine ⟨by omega, by omega, by rw [List.length_append, hp]; simp only [List.length_cons, List.length_nil]; omega, fun lf hlf => ?_⟩
          rcases List.mem_append.1 hlf with h' | h'
          · unfold padTo at h'
            rcases List.mem_append.1 h' with h' | h'
            · exact e4 lf h'
            · obtain ⟨_, rfl⟩ := List.mem_replicate.1 h'
              simp
          · rw [List.mem_singleton] at h'
            subst h'
            exact ⟨Nat.le_of_eq (entsB_len h2), fun x hx => (entsB_may hb h2 x hx).2⟩
theorem enBs_len : ∀ lf : List En, (lf.flatMap enB).length = lf.length * 16
  | [] => rfl
  | x :: r => by
    rw [List.flatMap_cons, List.length_append, enB_len, enBs_len r, List.length_cons]
    omega
theorem enBs_bd (lf : List En) : ∀ c ∈ lf.flatMap enB, 0 ≤ c ∧ c < 256 := fun c hc => by
  obtain ⟨x, _, h⟩ := List.mem_flatMap.1 hc
  exact enB_bd x c h
theorem bodyB_bd (T : Tb) : ∀ i, ∀ c ∈ bodyB T i, 0 ≤ c ∧ c < 256
  | 0, c, h => by simp [bodyB] at h
  | i + 1, c, h => by
    unfold bodyB at h
    split at h
    · exact bodyB_bd T i c h
    · rcases List.mem_append.1 h with h | h
      · exact bodyB_bd T i c h
      · unfold leafB at h
        rcases List.mem_append.1 h with h | h
        · exact numB_bd _ _ _ c h
        · exact enBs_bd _ c h
theorem tblB_bd (T : Tb) : ∀ c ∈ tblB T, 0 ≤ c ∧ c < 256 := fun c h => by
  unfold tblB at h
  rcases List.mem_append.1 h with h | h
  · exact numB_bd _ _ _ c h
  · exact bodyB_bd _ _ c h
theorem cntT_le (T : Tb) : ∀ i, cntT T i ≤ i
  | 0 => Nat.le_refl _
  | i + 1 => by
    have := cntT_le T i
    unfold cntT
    split <;> omega
theorem bodyB_len {T : Tb} {n c : Int} (h : rightT T n c) : ∀ i, i ≤ T.length → (bodyB T i).length = cntT T i * 130
  | 0, _ => rfl
  | i + 1, hi => by
    have ih := bodyB_len h i (by omega)
    unfold bodyB cntT
    by_cases he : tbAt T i = []
    · rw [if_pos he, if_pos he, ih]
    · rw [if_neg he, if_neg he, List.length_append, ih]
      unfold leafB
      rw [List.length_append, numB_len, enBs_len, (h.2.2.2.2 i (by omega) he).1]
      omega
theorem part_of (l1 : List Int) (x : En) (l2 : List Int) : partB (l1 ++ enB x ++ l2) l1.length = enB x := by
  unfold partB
  rw [List.append_assoc, List.drop_left, List.take_append_of_le_length (by rw [enB_len]; exact Nat.le_refl _), List.take_of_length_le (by rw [enB_len]; exact Nat.le_refl _)]
theorem entsB_back {c : Int} (l1 l2 : List Int) (lf : List En) (h : ∀ x ∈ lf, MayE x c ∧ EnOk x) : ∀ j, j ≤ lf.length → entsB (l1 ++ lf.flatMap enB ++ l2) l1.length c j = some (lf.take j)
  | 0, _ => rfl
  | j + 1, hj => by
    unfold entsB
    rw [entsB_back l1 l2 lf h j (by omega)]
    dsimp only
    have hs : lf = lf.take j ++ (lf[j] :: lf.drop (j + 1)) := by rw [← List.drop_eq_getElem_cons (by omega), List.take_append_drop]
    have hp : partB (l1 ++ lf.flatMap enB ++ l2) (l1.length + j * 16) = enB lf[j] := by
      have e : l1 ++ lf.flatMap enB ++ l2 = (l1 ++ (lf.take j).flatMap enB) ++ enB lf[j] ++ ((lf.drop (j + 1)).flatMap enB ++ l2) := by
        have hf : lf.flatMap enB = (lf.take j).flatMap enB ++ (enB lf[j] ++ (lf.drop (j + 1)).flatMap enB) := by
          conv => lhs; rw [hs]
          rw [List.flatMap_append, List.flatMap_cons]
        rw [hf]
        simp only [List.append_assoc]
      have el : l1.length + j * 16 = (l1 ++ (lf.take j).flatMap enB).length := by
        rw [List.length_append, enBs_len, List.length_take, Nat.min_eq_left (by omega)]
      rw [e, el, part_of]
    rw [hp]
    obtain ⟨m1, m2⟩ := h lf[j] (List.getElem_mem _)
    rw [getE_enB m1 m2]
    dsimp only
    rw [List.take_succ_eq_append_getElem (by omega)]
theorem trim_step (T : Tb) (i : Nat) (hi : i < T.length) (he : tbAt T i ≠ []) : trimN T (i + 1) = padTo (trimN T i) i ++ [tbAt T i] := by
  have e1 : trimN T (i + 1) = T.take (i + 1) := by
    show (if tbAt T i = [] then trimN T i else T.take (i + 1)) = _
    rw [if_neg he]
  have hl := trimN_len T i (by omega)
  rw [e1]
  refine List.ext_getElem ?_ fun j h1 h2 => ?_
  · rw [List.length_append, padTo_len _ _ hl.1, List.length_take]
    simp only [List.length_cons, List.length_nil]
    omega
  · rw [← tbAt_in h1, ← tbAt_in h2]
    rw [List.length_take] at h1
    unfold tbAt
    rw [List.getD_eq_getElem?_getD, List.getD_eq_getElem?_getD, List.getElem?_take, if_pos (by omega), List.getElem?_append, padTo_len _ _ hl.1]
    by_cases hj : j < i
    · rw [if_pos hj]
      unfold padTo
      rw [List.getElem?_append]
      have ha := trimN_at T i (by omega) j
      rw [if_pos hj] at ha
      unfold tbAt at ha
      rw [List.getD_eq_getElem?_getD, List.getD_eq_getElem?_getD] at ha
      by_cases h3 : j < (trimN T i).length
      · rw [if_pos h3]
        exact ha.symm
      · rw [List.getElem?_eq_none (Nat.le_of_not_lt h3)] at ha
        rw [if_neg h3, List.getElem?_replicate]
        rw [← ha]
        split <;> rfl
    · have : j = i := by omega
      subst this
      rw [if_neg hj, Nat.sub_self]
      rfl
theorem trim_right {T : Tb} {n c : Int} (h : rightT T n c) : trimN T T.length = T := by
  rcases hT : T.length with _ | m
  · have : T = [] := List.eq_nil_of_length_eq_zero hT
    rw [this]
    rfl
  · have hne := h.2.2.1 (by omega)
    rw [hT, Nat.add_sub_cancel] at hne
    show (if tbAt T m = [] then trimN T m else T.take (m + 1)) = _
    rw [if_neg hne, ← hT, List.take_length]
theorem num_back (l1 l2 : List Int) (v : Nat) (hv : v < 65536) : getTo false 2 l1.length (l1 ++ numB false 2 v ++ l2) 2 = v := by
  have p2 : (256 : Nat) ^ 2 = 65536 := by decide
  exact get_back l1 l2 false 2 v (fit4 (by omega)) (by omega) (fitsM (by omega) (by omega))
theorem lf_mem_may {T : Tb} {n c : Int} (h : rightT T n c) {i : Nat} (hi : i < T.length) (he : tbAt T i ≠ []) : (∀ x ∈ tbAt T i, MayE x c) ∧ (tbAt T i).length = 8 := by
  obtain ⟨g1, g2, _⟩ := h.2.2.2.2 i hi he
  refine ⟨fun x hx => ?_, g1⟩
  obtain ⟨k, hk, rfl⟩ := List.getElem_of_mem hx
  rw [← lfAt_in hk]
  exact (g2 k (by omega)).1
/-- What was put is read, whatever stands ahead of it and behind. -/
theorem readI_back {T : Tb} {c : Int} (h : rightT T 4096 c) (ho : ∀ lf ∈ T, ∀ x ∈ lf, EnOk x) (l1 l2 : List Int) : ∀ i, i ≤ T.length → readI (l1 ++ bodyB T T.length ++ l2) l1.length c (cntT T i) = some (trimN T i, l1.length + (bodyB T i).length)
  | 0, _ => rfl
  | i + 1, hi => by
    have ih := readI_back h ho l1 l2 i (by omega)
    have h512 := h.2.2.2.1
    by_cases he : tbAt T i = []
    · have e1 : cntT T (i + 1) = cntT T i := by
        show (if tbAt T i = [] then cntT T i else cntT T i + 1) = _
        rw [if_pos he]
      have e2 : bodyB T (i + 1) = bodyB T i := by
        show (if tbAt T i = [] then bodyB T i else _) = _
        rw [if_pos he]
      have e3 : trimN T (i + 1) = trimN T i := by
        show (if tbAt T i = [] then trimN T i else _) = _
        rw [if_pos he]
      rw [e1, e2, e3]
      exact ih
    · have e1 : cntT T (i + 1) = cntT T i + 1 := by
        show (if tbAt T i = [] then cntT T i else cntT T i + 1) = _
        rw [if_neg he]
      have e2 : bodyB T (i + 1) = bodyB T i ++ leafB i (tbAt T i) := by
        show (if tbAt T i = [] then bodyB T i else _) = _
        rw [if_neg he]
      have hpre : ∀ j, i + 1 + j ≤ T.length → ∃ r, bodyB T (i + 1 + j) = bodyB T (i + 1) ++ r := by
        intro j
        induction j with
        | zero => exact fun _ => ⟨[], by simp⟩
        | succ j ihj =>
          intro hj
          obtain ⟨r, hr⟩ := ihj (by omega)
          by_cases hz : tbAt T (i + 1 + j) = []
          · refine ⟨r, ?_⟩
            show (if tbAt T (i + 1 + j) = [] then bodyB T (i + 1 + j) else _) = _
            rw [if_pos hz]
            exact hr
          · refine ⟨r ++ leafB (i + 1 + j) (tbAt T (i + 1 + j)), ?_⟩
            show (if tbAt T (i + 1 + j) = [] then bodyB T (i + 1 + j) else bodyB T (i + 1 + j) ++ leafB (i + 1 + j) (tbAt T (i + 1 + j))) = _
            rw [if_neg hz, hr, List.append_assoc]
      obtain ⟨r, hr⟩ := hpre (T.length - (i + 1)) (by omega)
      rw [show i + 1 + (T.length - (i + 1)) = T.length by omega] at hr
      obtain ⟨m1, m2⟩ := lf_mem_may h (i := i) (by omega) he
      have hm : tbAt T i ∈ T := by rw [tbAt_in (by omega)]; exact List.getElem_mem _
      have hall : l1 ++ bodyB T T.length ++ l2 = (l1 ++ bodyB T i) ++ numB false 2 i ++ ((tbAt T i).flatMap enB ++ (r ++ l2)) := by
        rw [hr, e2]
        unfold leafB
        simp only [List.append_assoc]
      have hall2 : l1 ++ bodyB T T.length ++ l2 = (l1 ++ bodyB T i ++ numB false 2 i) ++ (tbAt T i).flatMap enB ++ (r ++ l2) := by
        rw [hall]
        simp only [List.append_assoc]
      have hk : l1.length + (bodyB T i).length = (l1 ++ bodyB T i).length := by rw [List.length_append]
      have hk2 : l1.length + (bodyB T i).length + 2 = (l1 ++ bodyB T i ++ numB false 2 i).length := by rw [List.length_append, List.length_append, numB_len]
      rw [e1]
      unfold readI
      rw [ih]
      dsimp only
      have hg : getTo false 2 (l1.length + (bodyB T i).length) (l1 ++ bodyB T T.length ++ l2) 2 = i := by
        rw [hall, hk]
        exact num_back _ _ i (by omega)
      have hen : entsB (l1 ++ bodyB T T.length ++ l2) (l1.length + (bodyB T i).length + 2) c 8 = some (tbAt T i) := by
        rw [hall2, hk2]
        have := entsB_back (l1 ++ bodyB T i ++ numB false 2 i) (r ++ l2) (tbAt T i) (fun x hx => ⟨m1 x hx, ho _ hm x hx⟩) 8 (by omega)
        rw [this, List.take_of_length_le (by omega)]
      have hlen : l1.length + (bodyB T i).length + 130 ≤ (l1 ++ bodyB T T.length ++ l2).length := by
        rw [hall2, List.length_append, List.length_append, ← hk2, enBs_len, m2]
        omega
      have hl := trimN_len T i (by omega)
      rw [hg, hen, if_neg (by omega)]
      dsimp only
      rw [← trim_step T i (by omega) he, e2]
      have : (bodyB T i ++ leafB i (tbAt T i)).length = (bodyB T i).length + 130 := by
        unfold leafB
        rw [List.length_append, List.length_append, numB_len, enBs_len, m2]
      rw [this, Nat.add_assoc]
theorem readT_back {T : Tb} {c : Int} (h : rightT T 4096 c) (ho : ∀ lf ∈ T, ∀ x ∈ lf, EnOk x) (l1 l2 : List Int) : readT (l1 ++ tblB T ++ l2) l1.length 4096 c = some (T, l1.length + (tblB T).length) := by
  have hc := cntT_le T T.length
  have h512 := h.2.2.2.1
  have hlen : (tblB T).length = 2 + (bodyB T T.length).length := by
    unfold tblB
    rw [List.length_append, numB_len]
  have hn : getTo false 2 l1.length (l1 ++ tblB T ++ l2) 2 = cntT T T.length := by
    have e : l1 ++ tblB T ++ l2 = l1 ++ numB false 2 (cntT T T.length) ++ (bodyB T T.length ++ l2) := by
      unfold tblB
      simp only [List.append_assoc]
    rw [e]
    exact num_back _ _ _ (by omega)
  have hb := readI_back h ho (l1 ++ numB false 2 (cntT T T.length)) l2 T.length (Nat.le_refl _)
  have e2 : l1 ++ numB false 2 (cntT T T.length) ++ bodyB T T.length ++ l2 = l1 ++ tblB T ++ l2 := by
    unfold tblB
    simp only [List.append_assoc]
  have e3 : (l1 ++ numB false 2 (cntT T T.length)).length = l1.length + 2 := by rw [List.length_append, numB_len]
  rw [e2, e3, trim_right h] at hb
  unfold readT
  rw [if_neg (by rw [List.length_append, List.length_append, hlen]; omega), Int.toNat_natCast, hn, hb]
  dsimp only
  rw [if_pos h, hlen, Nat.add_assoc]
end Go.Proofs.YtbdidgfbonkneaaDoor
