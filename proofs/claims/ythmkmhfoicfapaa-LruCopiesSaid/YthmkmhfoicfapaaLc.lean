/-
  Where an item of a key is, or would be (package lru): place, find, isDirty. Conditions: the keys rise.
-/
import Derived.Test.YthmkmhfoicfapaaLb
namespace Go.Proofs.Ythmkmhfoicfapaa
open Go.RowKit
set_option linter.unusedVariables false

def cmpI (a b : Int) : Int := if a < b then -1 else if b < a then 1 else 0
theorem cmpI_lt (a b : Int) : cmpI a b < 0 ↔ a < b := by unfold cmpI; split <;> (try split) <;> omega
theorem cmpI_eq (a b : Int) : cmpI a b = 0 ↔ a = b := by unfold cmpI; split <;> (try split) <;> omega
theorem nan_any (a : Int) (w : World) : Calls Try.prog 72 #[.int .i64 a] w fun e w' => e = .returned (.bool false) ∧ w' = w := by
  go_enter Try.func72, Try.ntmps72
  go_wp2
  go_ret
  exact ⟨rfl, rfl⟩
theorem compare_any (a b : Int) (w : World) : Calls Try.prog 56 #[.int .i64 a, .int .i64 b] w fun e w' => e = .returned (.int .i64 (cmpI a b)) ∧ w' = w := by
  rcases Int.lt_trichotomy a b with h | h | h
  · have e : cmpI a b = -1 := by unfold cmpI; rw [if_pos h]
    rw [e]
    go_enter Try.func56, Try.ntmps56
    go_wp2_with (go_at_call 72; refine (nan_any _ _).mono ?_; rintro e w' ⟨rfl, rfl⟩)
    go_ret
    exact ⟨rfl, rfl⟩
  · subst h
    have e : cmpI a a = 0 := by unfold cmpI; simp
    rw [e]
    go_enter Try.func56, Try.ntmps56
    go_wp2_with (go_at_call 72; refine (nan_any _ _).mono ?_; rintro e w' ⟨rfl, rfl⟩)
    go_ret
    exact ⟨rfl, rfl⟩
  · have h2 : ¬ a < b := by omega
    have e : cmpI a b = 1 := by unfold cmpI; rw [if_neg h2, if_pos h]
    rw [e]
    go_enter Try.func56, Try.ntmps56
    go_wp2_with (go_at_call 72; refine (nan_any _ _).mono ?_; rintro e w' ⟨rfl, rfl⟩)
    go_ret
    exact ⟨rfl, rfl⟩
abbrev IR.key (f : IR) : Int := f.it.key
/-- The comparison that place hands on. -/
theorem place1_any (G : Nat) (a s : Int) (w : World) (h : w.cell? ⟨G, 0, none⟩ = some (.int .i64 a)) : Calls Try.prog 55 #[.pointer (some ⟨G, 0, none⟩), .int .i64 s] w fun e w' => e = .returned (.int .i64 (cmpI a s)) ∧ w' = w := by
  go_enter Try.func55, Try.ntmps55
  go_wp2_with (go_at_call 56; refine (compare_any a s _).mono ?_; rintro e w' ⟨rfl, rfl⟩)
  go_ret
  exact ⟨rfl, rfl⟩
/-- A pointer's cell. -/
theorem ptr_cell {w : World} {b n c : Nat} {L : List IR} (h : OwnG ptrV 74 1 w 0 (.slice (some ⟨b, 0, none⟩) n c) n L) (i : Nat) (f : IR) (hi : L[i]? = some f) : w.cell? ⟨b, i, none⟩ = some (.pointer (some ⟨f.G, 0, none⟩)) := by
  have := (h.reads ptr_rowed).1.cellAt ptr_rowed i 0 f (.pointer (some ⟨f.G, 0, none⟩)) hi rfl
  rwa [Nat.zero_add, Nat.mul_one, Nat.add_zero] at this
/-- Where s stands among names that rise: how many are ahead of it, and whether it is there. -/
structure Pos (L : List IR) (s : Int) (k : Nat) (found : Bool) : Prop where
  le : k ≤ L.length
  ahead : ∀ i f, L[i]? = some f → i < k → (f.key < s)
  behind : ∀ i f, L[i]? = some f → k ≤ i → s ≤ f.key
  found : found = true ↔ ∃ f, L[k]? = some f ∧ f.key = s
theorem rise_at {L : List IR} (h : L.Pairwise fun f g => (f.key < g.key)) {i j : Nat} {f g : IR} (hi : L[i]? = some f) (hj : L[j]? = some g) (hij : i < j) : (f.key < g.key) := by
  obtain ⟨hi', rfl⟩ := List.getElem?_eq_some_iff.1 hi
  obtain ⟨hj', rfl⟩ := List.getElem?_eq_some_iff.1 hj
  exact List.pairwise_iff_getElem.1 h i j hi' hj' hij
def FoundQ (L : List IR) (s : Int) (w : World) (e : Ending) (w' : World) : Prop := (∃ (k : Nat) (found : Bool), e = .returned (.tuple #[.int .i64 k, .bool found]) ∧ Pos L s k found) ∧ w' = w
set_option maxHeartbeats 1000000 in
set_option maxRecDepth 100000 in
/-- slices.BinarySearchFunc over the items. -/
theorem search_any {w : World} {v : Value} {L : List IR} (hr : OwnG ptrV 74 1 w 0 v L.length L) (hL : L.length ≤ 2000) (hn : ∀ f ∈ L, w.cell? ⟨f.G, 0, none⟩ = some (.int .i64 f.key)) (hs : L.Pairwise fun f g => (f.key < g.key)) (s : Int) :
    Calls Try.prog 54 #[v, .int .i64 s, .func (.func 55) #[] #[]] w (FoundQ L s w) := by
  obtain ⟨a, c, rfl, _, hnil, hcap⟩ := hr.shape ptr_rowed
  obtain ⟨n, hN⟩ := named L.length
  rw [hN.out] at hr hL hcap ⊢
  have HR := Lib.hid hr
  have HS := Lib.hid hs
  have HM := Lib.hid hn
  clear hr hs hn
  go_enter Try.func54, Try.ntmps54
  go_wp2
  go_loopw [9, 10] (fun s9 s10 wr => ∃ lo hi : Nat, s9 = .int .i64 lo ∧ s10 = .int .i64 hi ∧ lo ≤ hi ∧ hi ≤ n ∧ wr = w ∧ Hid ((∀ i f, L[i]? = some f → i < lo → (f.key < s)) ∧ ∀ i f, L[i]? = some f → hi ≤ i → s ≤ f.key)) (fun s9 s10 _ => (intOf s10).toNat - (intOf s9).toNat)
  case atStart => exact ⟨0, n, rfl, rfl, Nat.zero_le _, Nat.le_refl _, rfl, fun i f _ h => absurd h (Nat.not_lt_zero _), fun i f hi h => by rw [List.getElem?_eq_none (by have := hN.out; omega)] at hi; cases hi⟩
  case round =>
    obtain ⟨lo, hi, rfl, rfl, hlh, hin, rfl, HI⟩ := hrel
    have hsome : 0 < n → ∃ b, a = some ⟨b, 0, none⟩ := fun h0 => by
      rcases HR.out.1.2 with ⟨e, e'⟩ | ⟨g, cap, cur, e, _⟩
      · omega
      · cases e
        exact ⟨_, rfl⟩
    by_cases hlt : lo < hi
    · obtain ⟨b, rfl⟩ := hsome (by omega)
      obtain ⟨f, hf⟩ : ∃ f, L[(lo + hi) / 2]? = some f := ⟨_, List.getElem?_eq_getElem (by have := hN.out; omega)⟩
      have cm := ptr_cell HR.out _ f hf
      have cn := HM.out f (List.mem_of_getElem? hf)
      have hq : ((lo : Int) + (hi : Int)).fdiv (2 ^ min (Int.toNat 1) IntKind.u64.bits) = (((lo + hi) / 2 : Nat) : Int) := by
        rw [show (2 : Int) ^ min (Int.toNat 1) IntKind.u64.bits = 2 from rfl, Int.fdiv_eq_ediv_of_nonneg _ (by omega)]
        omega
      have HF := Lib.hid hf
      by_cases hyx : cmpI f.key s < 0
      · have HY := Lib.hid ((cmpI_lt _ _).1 hyx)
        go_wp2_with (go_at_call 55; refine (place1_any f.G f.key s _ cn).mono ?_; rintro e w' ⟨rfl, rfl⟩)
        go_roundw
        case rel =>
          exact ⟨(lo + hi) / 2 + 1, hi, rfl, rfl, by omega, hin, trivial, fun i g hg hi' => by
            rcases Nat.lt_or_eq_of_le (Nat.lt_succ_iff.1 hi') with h | h
            · exact Int.lt_trans (rise_at HS.out hg HF.out h) HY.out
            · subst h
              rw [HF.out] at hg
              cases hg
              exact HY.out, HI.out.2⟩
        case measure => simp [intOf]; omega
      · have HY := Lib.hid (Int.not_lt.1 (fun h => hyx ((cmpI_lt _ _).2 h)) : s ≤ f.key)
        go_wp2_with (go_at_call 55; refine (place1_any f.G f.key s _ cn).mono ?_; rintro e w' ⟨rfl, rfl⟩)
        go_roundw
        case rel =>
          exact ⟨lo, (lo + hi) / 2, rfl, rfl, by omega, by omega, trivial, HI.out.1, fun i g hg hi' => by
            rcases Nat.lt_or_eq_of_le hi' with h' | h'
            · exact Int.le_trans HY.out (Int.le_of_lt (rise_at HS.out HF.out hg h'))
            · subst h'
              rw [HF.out] at hg
              cases hg
              exact HY.out⟩
        case measure => simp [intOf]; omega
    · obtain rfl : hi = lo := by omega
      by_cases hkn : hi < n
      · obtain ⟨b, rfl⟩ := hsome (by omega)
        obtain ⟨f, hf⟩ : ∃ f, L[hi]? = some f := ⟨_, List.getElem?_eq_getElem (by have := hN.out; omega)⟩
        have cm := ptr_cell HR.out _ f hf
        have cn := HM.out f (List.mem_of_getElem? hf)
        have HF := Lib.hid hf
        have HQ := Lib.hid (cmpI_eq f.key s)
        have hP : Pos L s hi (decide (cmpI f.key s = 0)) := ⟨by have := hN.out; omega, HI.out.1, HI.out.2, by
          rw [decide_eq_true_iff, HQ.out]
          exact ⟨fun h => ⟨f, HF.out, h⟩, fun ⟨g, hg, h⟩ => by rw [HF.out] at hg; cases hg; exact h⟩⟩
        have HP := Lib.hid hP
        clear hP hf
        go_wp2_with (go_at_call 55; refine (place1_any f.G f.key s _ cn).mono ?_; rintro e w' ⟨rfl, rfl⟩)
        all_goals go_ret2
        all_goals exact ⟨⟨hi, _, rfl, HP.out⟩, rfl⟩
      · have hP : Pos L s hi false := ⟨by have := hN.out; omega, HI.out.1, HI.out.2, by
          constructor
          · intro h; cases h
          · rintro ⟨f, hf, _⟩
            rw [List.getElem?_eq_none (by have := hN.out; omega)] at hf
            cases hf⟩
        have HP := Lib.hid hP
        clear hP
        go_wp2
        go_ret2
        exact ⟨⟨hi, false, rfl, HP.out⟩, rfl⟩
section
variable {w : World} {B room uses : Nat} {vI : Value} {L : List IR}
theorem ItemAt.c0 {f : IR} (h : ItemAt w f) : w.cell? ⟨f.G, 0, none⟩ = some (.int .i64 f.key) := by
  obtain ⟨_, _, h⟩ := h
  rw [h.blk.cell]
  rfl
theorem ItemAt.c3 {f : IR} (h : ItemAt w f) : w.cell? ⟨f.G, 3, none⟩ = some (.bool f.it.dirty) := by
  obtain ⟨_, _, h⟩ := h
  rw [h.blk.cell]
  rfl
def Rises (L : List IR) : Prop := L.Pairwise fun f g => f.key < g.key
theorem place_any (h : CacheIn w B room vI L uses) (hs : Rises L) (hm : L.length ≤ 2000) (s : Int) :
    Calls Try.prog 33 #[.pointer (some ⟨B, 0, none⟩), .int .i64 s] w (FoundQ L s w) := by
  have c1 := h.c1
  have H := Lib.hid h
  have HS := Lib.hid hs
  clear h hs
  go_enter Try.func33, Try.ntmps33
  go_wp2_with (go_at_call 54; refine (search_any H.out.row hm (fun f hf => (H.out.item f hf).c0) HS.out s).mono ?_; rintro e w' ⟨⟨k, found, rfl, hP⟩, rfl⟩; have HP := Lib.hid hP; clear hP)
  go_ret2
  exact ⟨⟨k, found, rfl, HP.out⟩, rfl⟩
/-- The place of an item that is there. -/
theorem Pos.at {s : Int} {k : Nat} {found : Bool} (hP : Pos L s k found) (hs : Rises L) {i : Nat} {f : IR} (hi : L[i]? = some f) (hf : f.key = s) : k = i ∧ found = true := by
  have hk : k = i := by
    rcases Nat.lt_trichotomy i k with h' | h' | h'
    · have := hP.ahead i f hi h'
      omega
    · exact h'.symm
    · obtain ⟨g, hg⟩ : ∃ g, L[k]? = some g := ⟨_, List.getElem?_eq_getElem (by have := (List.getElem?_eq_some_iff.1 hi).1; omega)⟩
      have h1 := rise_at hs hg hi h'
      have h2 := hP.behind k g hg (Nat.le_refl _)
      omega
  subst hk
  exact ⟨rfl, hP.found.2 ⟨f, hi, hf⟩⟩
theorem Pos.non {s : Int} {k : Nat} {found : Bool} (hP : Pos L s k found) (hf : ∀ f ∈ L, f.key ≠ s) : found = false := by
  cases found
  · rfl
  · obtain ⟨f, h1, h2⟩ := hP.found.1 rfl
    exact absurd h2 (hf f (List.mem_of_getElem? h1))
theorem row_at (h : CacheIn w B room vI L uses) (h0 : 0 < L.length) : ∃ b c, vI = .slice (some ⟨b, 0, none⟩) L.length c := by
  rcases h.row.1.2 with ⟨e, e'⟩ | ⟨g, cap, cur, e, _⟩
  · omega
  · exact ⟨g, cap, e⟩
set_option maxHeartbeats 400000 in
/-- An item that is there. -/
theorem find_some (h : CacheIn w B room vI L uses) (hs : Rises L) (hm : L.length ≤ 2000) {f : IR} (hf : f ∈ L) :
    Calls Try.prog 41 #[.pointer (some ⟨B, 0, none⟩), .int .i64 f.key] w fun e w' => e = .returned (.pointer (some ⟨f.G, 0, none⟩)) ∧ w' = w := by
  have c1 := h.c1
  obtain ⟨i, hi⟩ := List.getElem?_of_mem hf
  have hil := (List.getElem?_eq_some_iff.1 hi).1
  obtain ⟨b, c, rfl⟩ := row_at h (by omega)
  have ck := ptr_cell h.row i f hi
  have HK := Lib.hid (fun k found (hP : Pos L f.key k found) => hP.at hs hi rfl)
  obtain ⟨s, hsn⟩ := named f.key
  rw [hsn.out] at HK ⊢
  obtain ⟨n, hn⟩ := named L.length
  have HP : Hid (Calls Try.prog 33 #[.pointer (some ⟨B, 0, none⟩), .int .i64 s] w (FoundQ L s w)) := place_any h hs hm s
  rw [hn.out] at c1 hil
  have g1 : (i : Int) < (n : Int) := by omega
  clear h hs hf hi
  go_enter Try.func41, Try.ntmps41
  go_wp2_with (go_at_call 33; refine HP.out.mono ?_; rintro e w' ⟨⟨k, found, rfl, hP⟩, rfl⟩; obtain ⟨rfl, rfl⟩ := HK.out k found hP; clear hP)
  go_ret
  exact ⟨rfl, rfl⟩
theorem find_none (h : CacheIn w B room vI L uses) (hs : Rises L) (hm : L.length ≤ 2000) (s : Int) (hf : ∀ f ∈ L, f.key ≠ s) :
    Calls Try.prog 41 #[.pointer (some ⟨B, 0, none⟩), .int .i64 s] w fun e w' => e = .returned (.pointer none) ∧ w' = w := by
  have HF := Lib.hid hf
  have HP : Hid (Calls Try.prog 33 #[.pointer (some ⟨B, 0, none⟩), .int .i64 s] w (FoundQ L s w)) := place_any h hs hm s
  clear h hs hf
  go_enter Try.func41, Try.ntmps41
  go_wp2_with (go_at_call 33; refine HP.out.mono ?_; rintro e w' ⟨⟨k, found, rfl, hP⟩, rfl⟩; obtain rfl := hP.non HF.out; clear hP)
  go_ret
  exact ⟨rfl, rfl⟩
theorem find_nil (w : World) (s : Int) : Calls Try.prog 41 #[.pointer none, .int .i64 s] w fun e w' => e = .returned (.pointer none) ∧ w' = w := by
  go_enter Try.func41, Try.ntmps41
  go_wp2
  go_ret
  exact ⟨rfl, rfl⟩
/-- Is a key dirty? -/
theorem isDirty_any (h : CacheIn w B room vI L uses) (hs : Rises L) (hm : L.length ≤ 2000) (s : Int) :
    Calls Try.prog 38 #[.pointer (some ⟨B, 0, none⟩), .int .i64 s] w fun e w' => e = .returned (.bool (isD (L.map IR.it) s)) ∧ w' = w := by
  by_cases hf : ∃ f ∈ L, f.key = s
  · obtain ⟨f, hf, rfl⟩ := hf
    have hD : isD (L.map IR.it) f.key = f.it.dirty := isD_mem (List.pairwise_map.2 hs) (List.mem_map.2 ⟨f, hf, rfl⟩)
    rw [hD]
    have c3 := (h.item f hf).c3
    have HP := Lib.hid (find_some h hs hm hf)
    obtain ⟨s, hsn⟩ := named f.key
    rw [hsn.out] at HP ⊢
    obtain ⟨D, hDn⟩ := named f.it.dirty
    rw [hDn.out] at c3 ⊢
    clear h hs hf hD
    go_enter Try.func38, Try.ntmps38
    go_wp2_with (go_at_call 41; refine HP.out.mono ?_; rintro e w' ⟨rfl, rfl⟩)
    go_ret
    exact ⟨rfl, rfl⟩
  · have hno : ∀ f ∈ L, f.key ≠ s := fun f hf' e => hf ⟨f, hf', e⟩
    have hD : isD (L.map IR.it) s = false := isD_none fun it hit => by
      obtain ⟨f, hf', rfl⟩ := List.mem_map.1 hit
      exact hno f hf'
    rw [hD]
    have HP := Lib.hid (find_none h hs hm s hno)
    clear h hs hf hD hno
    go_enter Try.func38, Try.ntmps38
    go_wp2_with (go_at_call 41; refine HP.out.mono ?_; rintro e w' ⟨rfl, rfl⟩)
    go_ret
    exact ⟨rfl, rfl⟩
theorem isDirty_nil (w : World) (s : Int) : Calls Try.prog 38 #[.pointer none, .int .i64 s] w fun e w' => e = .returned (.bool false) ∧ w' = w := by
  go_enter Try.func38, Try.ntmps38
  go_wp2_with (go_at_call 41; refine (find_nil _ _).mono ?_; rintro e w' ⟨rfl, rfl⟩)
  go_ret
  exact ⟨rfl, rfl⟩
end
end Go.Proofs.Ythmkmhfoicfapaa
