/-
  Where a file of a name is, or would be (package disk): place, find, open, ready. Conditions: the names rise.
-/
import Derived.Test.YtnhaidofblfopaaH5
import Derived.Lib.Bytealg
import Derived.Laws.Externs
namespace Go.Proofs.Ytnhaidofblfopaa
open Go.RowKit

theorem cb_lt : ∀ a b : List UInt8, Lib.compareBytes a b < 0 ↔ a < b
  | [], [] => by simp [Lib.compareBytes]
  | [], y :: b => by simp [Lib.compareBytes]
  | x :: a, [] => by simp [Lib.compareBytes]
  | x :: a, y :: b => by
    have ih := cb_lt a b
    rw [Lib.compareBytes, List.cons_lt_cons_iff]
    by_cases h1 : x < y
    · simp [h1]
    · by_cases h2 : y < x
      · simp only [h1, if_false, h2, if_true, false_or]
        constructor
        · intro h; omega
        · rintro ⟨rfl, _⟩; exact absurd h2 h1
      · have : x = y := by
          rw [UInt8.lt_iff_toNat_lt] at h1 h2
          exact UInt8.toNat_inj.1 (by omega)
        subst this
        rw [if_neg h1, if_neg h1, ih]
        simp [h1]
theorem cb_eq : ∀ a b : List UInt8, Lib.compareBytes a b = 0 ↔ a = b
  | [], [] => by simp [Lib.compareBytes]
  | [], y :: b => by simp [Lib.compareBytes]
  | x :: a, [] => by simp [Lib.compareBytes]
  | x :: a, y :: b => by
    have ih := cb_eq a b
    rw [Lib.compareBytes, List.cons_eq_cons]
    by_cases h1 : x < y
    · simp only [h1, if_true]
      constructor
      · intro h; omega
      · rintro ⟨rfl, _⟩
        rw [UInt8.lt_iff_toNat_lt] at h1
        omega
    · by_cases h2 : y < x
      · simp only [h1, if_false, h2, if_true]
        constructor
        · intro h; omega
        · rintro ⟨rfl, _⟩; exact absurd h2 h1
      · have : x = y := by
          rw [UInt8.lt_iff_toNat_lt] at h1 h2
          exact UInt8.toNat_inj.1 (by omega)
        subst this
        rw [if_neg h1, if_neg h1, ih]
        simp
abbrev nmLt (a b : Nm) : Prop := a.data.toList < b.data.toList
theorem nm_eq {a b : Nm} : a.data.toList = b.data.toList ↔ a = b := by
  obtain ⟨⟨l⟩⟩ := a
  obtain ⟨⟨m⟩⟩ := b
  simp
theorem nm_trans {a b c : Nm} (h1 : nmLt a b) (h2 : nmLt b c) : nmLt a c := List.lt_trans h1 h2
theorem nm_irrefl (a : Nm) : ¬ nmLt a a := List.lt_irrefl _
def cmpN (a b : Nm) : Int := Lib.compareBytes a.data.toList b.data.toList
theorem cmpN_lt (a b : Nm) : cmpN a b < 0 ↔ nmLt a b := cb_lt _ _
theorem cmpN_eq (a b : Nm) : cmpN a b = 0 ↔ a = b := (cb_eq _ _).trans nm_eq
/-- strings.Compare. -/
theorem compare_any (a b : Nm) (w : World) : Calls Try.prog 47 #[.string a, .string b] w fun e w' => e = .returned (.int .i64 (cmpN a b)) ∧ w' = w := by
  have hx : ∀ w : World, (callFunc 69 #[.string a, .string b]).run Try.prog w = .ok (.value (.int .i64 (cmpN a b))) w := fun w => by
    rw [run_callFunc_extern Try.func69 (by kernel_rfl) (by kernel_rfl) (by kernel_rfl) (e := Extern.BytealgCompare.compare) (by kernel_rfl), Lib.run_compareString]
    rfl
  go_enter Try.func47, Try.ntmps47
  go_wp2
  go_ret
  exact ⟨rfl, rfl⟩
/-- The comparison that place hands on. -/
theorem place1_any (G : Nat) (a s : Nm) (w : World) (h : w.cell? ⟨G, 0, none⟩ = some (.string a)) : Calls Try.prog 46 #[.pointer (some ⟨G, 0, none⟩), .string s] w fun e w' => e = .returned (.int .i64 (cmpN a s)) ∧ w' = w := by
  go_enter Try.func46, Try.ntmps46
  go_wp2_with (go_at_call 47; refine (compare_any a s _).mono ?_; rintro e w' ⟨rfl, rfl⟩)
  go_ret
  exact ⟨rfl, rfl⟩
/-- A pointer's cell. -/
theorem ptr_cell {w : World} {b n c : Nat} {L : List FR} (h : OwnG ptrV 61 1 w 0 (.slice (some ⟨b, 0, none⟩) n c) n L) (i : Nat) (f : FR) (hi : L[i]? = some f) : w.cell? ⟨b, i, none⟩ = some (.pointer (some ⟨f.G, 0, none⟩)) := by
  have := (h.reads ptr_rowed).1.cellAt ptr_rowed i 0 f (.pointer (some ⟨f.G, 0, none⟩)) hi rfl
  rwa [Nat.zero_add, Nat.mul_one, Nat.add_zero] at this
/-- Where s stands among names that rise: how many are ahead of it, and whether it is there. -/
structure Pos (L : List FR) (s : Nm) (k : Nat) (found : Bool) : Prop where
  le : k ≤ L.length
  ahead : ∀ i f, L[i]? = some f → i < k → nmLt f.name s
  behind : ∀ i f, L[i]? = some f → k ≤ i → ¬ nmLt f.name s
  found : found = true ↔ ∃ f, L[k]? = some f ∧ f.name = s
theorem rise_at {L : List FR} (h : L.Pairwise fun f g => nmLt f.name g.name) {i j : Nat} {f g : FR} (hi : L[i]? = some f) (hj : L[j]? = some g) (hij : i < j) : nmLt f.name g.name := by
  obtain ⟨hi', rfl⟩ := List.getElem?_eq_some_iff.1 hi
  obtain ⟨hj', rfl⟩ := List.getElem?_eq_some_iff.1 hj
  exact List.pairwise_iff_getElem.1 h i j hi' hj' hij
set_option maxHeartbeats 1000000 in
set_option maxRecDepth 100000 in
/-- slices.BinarySearchFunc over the files. -/
theorem search_any {w : World} {v : Value} {L : List FR} (hr : OwnG ptrV 61 1 w 0 v L.length L) (hL : L.length ≤ 1000) (hn : ∀ f ∈ L, w.cell? ⟨f.G, 0, none⟩ = some (.string f.name)) (hs : L.Pairwise fun f g => nmLt f.name g.name) (s : Nm) :
    Calls Try.prog 45 #[v, .string s, .func (.func 46) #[] #[]] w fun e w' => (∃ k found, e = .returned (.tuple #[.int .i64 (k : Nat), .bool found]) ∧ Pos L s k found) ∧ w' = w := by
  obtain ⟨a, c, rfl, _, hnil, hcap⟩ := hr.shape ptr_rowed
  obtain ⟨n, hN⟩ := named L.length
  rw [hN.out] at hr hL hcap ⊢
  have HR := Lib.hid hr
  have HS := Lib.hid hs
  have HM := Lib.hid hn
  clear hr hs hn
  go_enter Try.func45, Try.ntmps45
  go_wp2
  go_loopw [9, 10] (fun s9 s10 wr => ∃ lo hi : Nat, s9 = .int .i64 lo ∧ s10 = .int .i64 hi ∧ lo ≤ hi ∧ hi ≤ n ∧ wr = w ∧ Hid ((∀ i f, L[i]? = some f → i < lo → nmLt f.name s) ∧ ∀ i f, L[i]? = some f → hi ≤ i → ¬ nmLt f.name s)) (fun s9 s10 _ => (intOf s10).toNat - (intOf s9).toNat)
  case atStart => exact ⟨0, n, rfl, rfl, Nat.zero_le _, Nat.le_refl _, rfl, fun i f _ h => absurd h (Nat.not_lt_zero _), fun i f hi h => by rw [List.getElem?_eq_none (by have := hN.out; omega)] at hi; cases hi⟩
  case round =>
    obtain ⟨lo, hi, rfl, rfl, hlh, hin, rfl, HI⟩ := hrel
    have hsome : 0 < n → ∃ b, a = some ⟨b, 0, none⟩ := fun h0 => by
      rcases HR.out.1.2 with ⟨e, e'⟩ | ⟨g, cap, cur, e, _⟩
      · omega
      · cases e
        exact ⟨_, rfl⟩
    by_cases hlt : lo < hi
    · obtain ⟨b, rfl⟩ := hsome (by omega)
      obtain ⟨f, hf⟩ : ∃ f, L[(lo + hi) / 2]? = some f := ⟨_, List.getElem?_eq_getElem (by have := hN.out; omega)⟩
      have cm := ptr_cell HR.out _ f hf
      have cn := HM.out f (List.mem_of_getElem? hf)
      have hq : ((lo : Int) + (hi : Int)).fdiv (2 ^ min (Int.toNat 1) IntKind.u64.bits) = (((lo + hi) / 2 : Nat) : Int) := by
        rw [show (2 : Int) ^ min (Int.toNat 1) IntKind.u64.bits = 2 from rfl, Int.fdiv_eq_ediv_of_nonneg _ (by omega)]
        omega
      have HF := Lib.hid hf
      by_cases hyx : cmpN f.name s < 0
      · have HY := Lib.hid ((cmpN_lt _ _).1 hyx)
        go_wp2_with (go_at_call 46; refine (place1_any f.G f.name s _ cn).mono ?_; rintro e w' ⟨rfl, rfl⟩)
        go_roundw
        case rel =>
          exact ⟨(lo + hi) / 2 + 1, hi, rfl, rfl, by omega, hin, trivial, fun i g hg hi' => by
            rcases Nat.lt_or_eq_of_le (Nat.lt_succ_iff.1 hi') with h | h
            · exact nm_trans (rise_at HS.out hg HF.out h) HY.out
            · subst h
              rw [HF.out] at hg
              cases hg
              exact HY.out, HI.out.2⟩
        case measure => simp [intOf]; omega
      · have HY := Lib.hid (fun h => hyx ((cmpN_lt _ _).2 h) : ¬ nmLt f.name s)
        go_wp2_with (go_at_call 46; refine (place1_any f.G f.name s _ cn).mono ?_; rintro e w' ⟨rfl, rfl⟩)
        go_roundw
        case rel =>
          exact ⟨lo, (lo + hi) / 2, rfl, rfl, by omega, by omega, trivial, HI.out.1, fun i g hg hi' h => by
            rcases Nat.lt_or_eq_of_le hi' with h' | h'
            · exact HY.out (nm_trans (rise_at HS.out HF.out hg h') h)
            · subst h'
              rw [HF.out] at hg
              cases hg
              exact HY.out h⟩
        case measure => simp [intOf]; omega
    · obtain rfl : hi = lo := by omega
      by_cases hkn : hi < n
      · obtain ⟨b, rfl⟩ := hsome (by omega)
        obtain ⟨f, hf⟩ : ∃ f, L[hi]? = some f := ⟨_, List.getElem?_eq_getElem (by have := hN.out; omega)⟩
        have cm := ptr_cell HR.out _ f hf
        have cn := HM.out f (List.mem_of_getElem? hf)
        have HF := Lib.hid hf
        have HQ := Lib.hid (cmpN_eq f.name s)
        have hP : Pos L s hi (decide (cmpN f.name s = 0)) := ⟨by have := hN.out; omega, HI.out.1, HI.out.2, by
          rw [decide_eq_true_iff, HQ.out]
          exact ⟨fun h => ⟨f, HF.out, h⟩, fun ⟨g, hg, h⟩ => by rw [HF.out] at hg; cases hg; exact h⟩⟩
        have HP := Lib.hid hP
        clear hP hf
        go_wp2_with (go_at_call 46; refine (place1_any f.G f.name s _ cn).mono ?_; rintro e w' ⟨rfl, rfl⟩)
        all_goals go_ret2
        all_goals exact ⟨⟨hi, _, rfl, HP.out⟩, rfl⟩
      · have hP : Pos L s hi false := ⟨by have := hN.out; omega, HI.out.1, HI.out.2, by
          constructor
          · intro h; cases h
          · rintro ⟨f, hf, _⟩
            rw [List.getElem?_eq_none (by have := hN.out; omega)] at hf
            cases hf⟩
        have HP := Lib.hid hP
        clear hP
        go_wp2
        go_ret2
        exact ⟨⟨hi, false, rfl, HP.out⟩, rfl⟩
end Go.Proofs.Ytnhaidofblfopaa
