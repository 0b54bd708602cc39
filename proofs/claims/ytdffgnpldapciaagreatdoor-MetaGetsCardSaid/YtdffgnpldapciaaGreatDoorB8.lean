/-
  What the reference's num, at and May answer (layer 7). Conditions: the fields are numbers of their types; the slice reads as bytes.
-/
import Derived.Test.YtdffgnpldapciaaGreatDoorA8
import Derived.RegionTactic
namespace Go.Proofs.YtdffgnpldapciaaGreatDoor
open Go.RowKit
set_option linter.unusedVariables false

theorem refNum_any (a : Option Addr) (len cap m v : Nat) (M : Int) (l : List Int) (w : World) (hB : Bytes w a len l) (hnil : a = none → cap = 0) (hlen : len ≤ 100000) (hM : (m : Int) = M) (hm1 : 1 ≤ m) (hm : m < 8) (hv : v < 256 ^ m) (hv4 : v < 4294967296) :
    Calls Tryz.prog 64 #[.slice a len cap, .int .i64 M, .int .i64 v] w fun e w' => ∃ a' c', e = .returned (.slice a' (len + m) c') ∧ Bytes w' a' (len + m) (l ++ numB false m v) ∧ ((a' = none → c' = 0) ∧ len + m ≤ c') ∧ Below w.heap.size w w' := by
  have HP : Hid (Calls Tryz.prog 83 #[.slice a len cap, .int .i64 M, .bool false, .int .u64 v] w (PutPost w (l ++ numB false m v) 0)) := by
    rw [← hM]
    exact refPut_ok a len cap m v l false w hB hnil hlen (by omega) (by omega) (fitsM hm hv)
  have hL : (l ++ numB false m v).length = len + m := by rw [List.length_append, numB_len, hB.1]
  obtain ⟨D, hD⟩ := named (l ++ numB false m v)
  rw [hD.out] at HP hL ⊢
  obtain ⟨K, hK⟩ := named (len + m)
  rw [hK.out] at hL ⊢
  have HL := Lib.hid hL
  have e1 : IntKind.u64.wrap (v : Int) = v := by rw [IntKind.wrap_u64]; omega
  clear hL hD hB hM hv
  go_enter Tryz.func64, Tryz.ntmps64
  go_wp2_with (go_at_call 83; refine HP.out.mono ?_; rintro e w1 hp; obtain ⟨a1, c1, rfl, g1, g2, g3⟩ := hp.sized HL.out; have HB := Lib.hid g1; have HC := Lib.hid g2; have HG := Lib.hid g3; clear hp g1 g2 g3)
  go_ret
  exact ⟨a1, c1, rfl, HB.out, HC.out, HG.out⟩
theorem refAt_any (a : Option Addr) (len cap m p : Nat) (M P : Int) (l : List Int) (w : World) (hB : Bytes w a len l) (hm1 : 1 ≤ m) (hm : m ≤ 4) (hp : p + m ≤ len) (hM : (m : Int) = M) (hP : (p : Int) = P) :
    Calls Tryz.prog 56 #[.slice a len cap, .int .i64 P, .int .i64 M] w fun e w' => e = .returned (.int .i64 (getTo false m p l m : Nat)) ∧ w = w' := by
  have HG : Hid (Calls Tryz.prog 35 #[.slice a len cap, .int .i64 P, .int .i64 M, .bool false] w fun e w' => e = .returned (.tuple #[.int .u64 (getTo false m p l m : Nat), .int .i64 0]) ∧ w = w') := by
    have := refGet_ok a len cap m p l false w hB (by omega) (by omega) hp
    rw [hP, hM] at this
    exact this
  have hs := small_get hB.small.2 m p hm
  obtain ⟨V, hV⟩ := named (getTo false m p l m)
  rw [hV.out] at HG hs ⊢
  have e1 : IntKind.i64.wrap (V : Int) = V := by rw [IntKind.wrap_i64]; omega
  clear hB hP hp hV hM
  go_enter Tryz.func56, Tryz.ntmps56
  go_wp2_with (go_at_call 35; refine HG.out.mono ?_; rintro e w1 ⟨rfl, rfl⟩)
  go_ret
  exact ⟨rfl, rfl⟩
theorem ret_dec {b : Bool} {p q : Prop} [Decidable p] [Decidable q] (hpq : p ↔ q) (h : b = decide q) : Ending.returned (.bool b) = .returned (.bool (decide p)) := by
  rw [h]
  congr 2
  exact decide_eq_decide.2 hpq.symm
set_option maxHeartbeats 4000000 in
theorem refMay_any (k s n z m c : Int) (ho : EnOk (k, s, n, z, m)) (w : World) : Calls Tryz.prog 81 #[.agg #[.int .i64 k, .int .i64 s, .int .i64 n, .int .i64 z, .int .u32 m], .int .i64 c] w fun e w' => e = .returned (.bool (decide (MayE (k, s, n, z, m) c))) ∧ Below w.heap.size w w' := by
  have HG : Hid (∀ cs, Below w.heap.size w (w.alloc (.cells cs 91))) := fun cs => (Below.refl _ _).alloc (Nat.le_refl _) _
  by_cases hc : 0 ≤ c ∧ c ≤ 6
  · obtain ⟨C, rfl⟩ : ∃ C : Nat, c = C := ⟨c.toNat, by omega⟩
    obtain ⟨P, hP⟩ := named ((2 : Int) ^ C)
    have hPb := pow_le6 hc
    rw [Int.toNat_natCast, hP.out] at hPb
    obtain ⟨hp1, hp2⟩ := hPb
    have hC6 : C ≤ 6 := by omega
    have hPP : wrap64 (2 ^ C) = P := by rw [hP.out]; unfold wrap64; omega
    have hM : ∀ n, MayE (k, s, n, z, m) (C : Int) ↔ (((k = 0 ∨ k = 1) ∧ s = 0 ∧ n = 0 ∧ z = 0 ∧ m = 0) ∨ (k = 2 ∧ 2 ≤ s ∧ n = P ∧ s ≤ 65536 - n ∧ z = 0) ∨ (k = 3 ∧ 2 ≤ s ∧ 1 ≤ n ∧ n < P ∧ s ≤ 65536 - n ∧ 1 ≤ z ∧ z ≤ n * 16 ∧ (n - 1) * 16 < z)) := by
      intro n
      unfold MayE
      rw [Int.toNat_natCast, hP.out]
      dsimp only
      exact ⟨fun h => h.2, fun h => ⟨by omega, h⟩⟩
    have hk : k = 0 ∨ k = 1 ∨ k = 2 ∨ k = 3 ∨ (k ≠ 0 ∧ k ≠ 1 ∧ k ≠ 2 ∧ k ≠ 3) := by omega
    rcases hk with rfl | rfl | rfl | rfl | ⟨k0, k1, k2, k3⟩
    · have HE : Hid (MayE (0, s, n, z, m) (C : Int) ↔ (s = 0 ∧ n = 0 ∧ z = 0 ∧ m = 0)) := by rw [Hid, hM n]; omega
      clear hM
      go_enter Tryz.func81, Tryz.ntmps81
      go_wp2
      all_goals go_ret
      all_goals refine ⟨ret_dec (HE.out) ?_, HG.out _⟩
      all_goals first | rfl | (rw [Bool.eq_iff_iff]; simp; omega) | (simp; omega) | (simp only [decide_eq_true_eq, Bool.eq_iff_iff]; omega)
    · have HE : Hid (MayE (1, s, n, z, m) (C : Int) ↔ (s = 0 ∧ n = 0 ∧ z = 0 ∧ m = 0)) := by rw [Hid, hM n]; omega
      clear hM
      go_enter Tryz.func81, Tryz.ntmps81
      go_wp2
      all_goals go_ret
      all_goals refine ⟨ret_dec (HE.out) ?_, HG.out _⟩
      all_goals first | rfl | (rw [Bool.eq_iff_iff]; simp; omega) | (simp; omega) | (simp only [decide_eq_true_eq, Bool.eq_iff_iff]; omega)
    · have HE : Hid (∀ n, MayE (2, s, n, z, m) (C : Int) ↔ (2 ≤ s ∧ n = P ∧ s ≤ 65536 - n ∧ z = 0)) := fun n => by rw [hM n]; omega
      clear hM
      go_enter Tryz.func81, Tryz.ntmps81
      go_wp2
      all_goals go_ret
      all_goals refine ⟨ret_dec (HE.out _) ?_, HG.out _⟩
      all_goals first | rfl | (rw [Bool.eq_iff_iff]; simp; omega) | (simp; omega) | (simp only [decide_eq_true_eq, Bool.eq_iff_iff]; omega)
    · have HE : Hid (MayE (3, s, n, z, m) (C : Int) ↔ (2 ≤ s ∧ 1 ≤ n ∧ n < P ∧ s ≤ 65536 - n ∧ 1 ≤ z ∧ z ≤ n * 16 ∧ (n - 1) * 16 < z)) := by rw [Hid, hM n]; omega
      clear hM
      have hcs : (2 ≤ s ∧ 1 ≤ n ∧ n < P) ∨ (2 ≤ s ∧ 1 ≤ n ∧ ¬ n < P) ∨ (2 ≤ s ∧ ¬ 1 ≤ n) ∨ ¬ 2 ≤ s := by omega
      rcases hcs with ⟨h1, h2, h3⟩ | ⟨h1, h2, h3⟩ | ⟨h1, h2⟩ | h1
      all_goals
          go_enter Tryz.func81, Tryz.ntmps81
          go_wp2
          all_goals go_ret
          all_goals refine ⟨ret_dec HE.out ?_, HG.out _⟩
          all_goals first | rfl | (rw [Bool.eq_iff_iff]; simp; omega) | (simp; omega) | (simp only [decide_eq_true_eq, Bool.eq_iff_iff]; omega)
    · have HE : Hid (MayE (k, s, n, z, m) (C : Int) ↔ False) := by
        rw [Hid, hM n]
        refine ⟨fun h => ?_, False.elim⟩
        rcases h with h | h | h <;> omega
      clear hM
      go_enter Tryz.func81, Tryz.ntmps81
      go_wp2
      all_goals go_ret
      all_goals refine ⟨ret_dec (HE.out) ?_, HG.out _⟩
      all_goals first | rfl | (rw [Bool.eq_iff_iff]; simp; omega) | (simp; omega) | (simp only [decide_eq_true_eq, Bool.eq_iff_iff]; omega)
  · have hd : decide (MayE (k, s, n, z, m) c) = false := by rw [decide_eq_false_iff_not]; exact fun h => hc h.1
    rw [hd]
    have hc' : c < 0 ∨ (0 ≤ c ∧ 6 < c) := by omega
    rcases hc' with h | ⟨h1, h2⟩
    · go_enter Tryz.func81, Tryz.ntmps81
      go_wp2
      go_ret
      exact ⟨rfl, HG.out _⟩
    · go_enter Tryz.func81, Tryz.ntmps81
      go_wp2
      go_ret
      exact ⟨rfl, HG.out _⟩
end Go.Proofs.YtdffgnpldapciaaGreatDoor
