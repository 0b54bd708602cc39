/-
  Where a bitmap of a name stands, which sizes may be: the reference's bitmap and sized (layer 12); which metas are right. Conditions: the bitmaps read.
-/
import Derived.Test.YtdffgnpldapciaaGreatDoorSp
namespace Go.Proofs.YtdffgnpldapciaaGreatDoor
open Go.RowKit
set_option linter.unusedVariables false

/-- The first place of a bitmap of a name; below 0: none. -/
def fndB (nm : ByteArray) : List BmM → Int
  | [] => -1
  | d :: r => if d.1 = nm then 0 else if fndB nm r < 0 then -1 else fndB nm r + 1
theorem fndB_at {nm : ByteArray} : ∀ {S : List BmM} {i : Nat} {d : BmM}, S[i]? = some d → d.1 = nm → (∀ k, k < i → ∀ e, S[k]? = some e → e.1 ≠ nm) → fndB nm S = i
  | [], i, d, h, _, _ => by simp at h
  | x :: r, 0, d, h, e, _ => by
    simp at h
    subst h
    unfold fndB
    rw [if_pos e]
    rfl
  | x :: r, i + 1, d, h, e, hn => by
    have h0 := hn 0 (by omega) x rfl
    rw [List.getElem?_cons_succ] at h
    have ih := fndB_at (S := r) h e fun k hk y hy => hn (k + 1) (by omega) y (by rw [List.getElem?_cons_succ]; exact hy)
    unfold fndB
    rw [if_neg h0, ih, if_neg (by omega)]
    omega
theorem fndB_none {nm : ByteArray} : ∀ {S : List BmM}, (∀ d ∈ S, d.1 ≠ nm) → fndB nm S = -1
  | [], _ => rfl
  | x :: r, h => by
    unfold fndB
    rw [if_neg (h x (by simp)), fndB_none fun d hd => h d (by simp [hd]), if_pos (by omega)]
theorem fndB_cases (nm : ByteArray) (S : List BmM) : (fndB nm S = -1 ∧ ∀ d ∈ S, d.1 ≠ nm) ∨ ∃ (i : Nat) (d : BmM), fndB nm S = i ∧ S[i]? = some d ∧ d.1 = nm ∧ i < S.length ∧ ∀ k, k < i → ∀ e, S[k]? = some e → e.1 ≠ nm := by
  induction S with
  | nil => exact Or.inl ⟨rfl, fun d hd => by cases hd⟩
  | cons x r ih =>
    by_cases h : x.1 = nm
    · exact Or.inr ⟨0, x, by unfold fndB; rw [if_pos h]; rfl, rfl, h, by simp, fun k hk => by omega⟩
    · rcases ih with ⟨h1, h2⟩ | ⟨i, d, h1, h2, h3, h4, h5⟩
      · refine Or.inl ⟨by unfold fndB; rw [if_neg h, h1]; rfl, fun d hd => ?_⟩
        rcases List.mem_cons.1 hd with rfl | hd
        · exact h
        · exact h2 d hd
      · refine Or.inr ⟨i + 1, d, by unfold fndB; rw [if_neg h, h1, if_neg (by omega)]; omega, by rw [List.getElem?_cons_succ]; exact h2, h3, by simpa using h4, fun k hk e he => ?_⟩
        cases k with
        | zero => simp at he; subst he; exact h
        | succ k => exact h5 k (by omega) e (by rw [List.getElem?_cons_succ] at he; exact he)
theorem refBitmap (w : World) (ma : Option Addr) (mn mc : Nat) (B : List BmM) (h : BmsD w ma mn mc B) (nm : ByteArray) {r : Int} (hr : fndB nm B = r) : Calls Tryz.prog 62 #[.slice ma mn mc, .string nm] w fun e w' => e = .returned (.int .i64 r) ∧ Below w.heap.size w w' := by
  have HS := Lib.hid h
  have HR := Lib.hid hr
  have HL := Lib.hid h.lens
  clear h hr
  go_enter Tryz.func62, Tryz.ntmps62
  go_wp2
  go_loopw [5] (fun i wr => ∃ j : Nat, j ≤ mn ∧ i = .int .i64 j ∧ Hid (Below w.heap.size w wr) ∧ Hid (∀ k, k < j → ∀ e, B[k]? = some e → e.1 ≠ nm)) (fun i _ => mn - (intOf i).toNat)
  case atStart => exact ⟨0, Nat.zero_le _, rfl, Below.refl _ _, fun k hk => by omega⟩
  case round =>
    obtain ⟨j, hj, rfl, HBj, HN⟩ := hrel
    have h1000 := HL.out.2
    by_cases hlt : j < mn
    · obtain ⟨b, off, n1, on, al, ll, cl, l, rfl, hSj, hb, _, x1, _, _, _⟩ := (HS.out.later HBj.out).at j hlt
      have HSJ := Lib.hid hSj
      clear hSj
      by_cases he : n1 = nm
      · have hse := str_yes he
        obtain rfl : r = (j : Int) := by rw [← HR.out]; exact fndB_at HSJ.out he HN.out
        clear he
        go_wp2
        go_ret
        exact ⟨rfl, HBj.out⟩
      · have hse := str_no he
        have HN2 : Hid (∀ k, k < j + 1 → ∀ e, B[k]? = some e → e.1 ≠ nm) := fun k hk e hke => by
          by_cases e1 : k = j
          · subst e1
            have := HSJ.out.symm.trans hke
            cases this
            exact he
          · exact HN.out k (by omega) e hke
        clear he
        have hj1000 : j ≤ 1000 := by omega
        go_wp2
        go_roundw
        case rel => exact ⟨j + 1, by omega, by go_num, HBj.out, HN2.out⟩
        case measure => simp [intOf]; omega
    · obtain rfl : j = mn := by omega
      obtain rfl : r = -1 := by
        rw [← HR.out]
        refine fndB_none fun d hd => ?_
        obtain ⟨i, hi⟩ := List.getElem?_of_mem hd
        exact HN.out i (by have := (List.getElem?_eq_some_iff.1 hi).1; have := HL.out.1; omega) d hi
      go_wp2
      go_ret
      exact ⟨rfl, HBj.out⟩
def sizedM (n c : Int) : Prop := 0 ≤ n ∧ n ≤ 4096 ∧ n / 2 ^ c.toNat * 2 ^ c.toNat = n
instance (n c : Int) : Decidable (sizedM n c) := by unfold sizedM; exact inferInstance
theorem refSized (n c : Int) (hn : I64 n) (hc : 0 ≤ c ∧ c ≤ 6) {R : Bool} (hR : decide (sizedM n c) = R) (w : World) : Calls Tryz.prog 59 #[.int .i64 n, .int .i64 c] w fun e w' => e = .returned (.bool R) ∧ Below w.heap.size w w' := by
  obtain ⟨C, rfl⟩ : ∃ C : Nat, c = C := ⟨c.toNat, by omega⟩
  have hC : C ≤ 6 := by omega
  have hR' : R = true ↔ 0 ≤ n ∧ n ≤ 4096 ∧ n / 2 ^ C * 2 ^ C = n := by
    rw [← hR, decide_eq_true_iff]
    exact Iff.rfl
  have hF : ¬ (0 ≤ n ∧ n ≤ 4096 ∧ n / 2 ^ C * 2 ^ C = n) → false = R := fun h => by
    cases R with
    | false => rfl
    | true => exact absurd (hR'.1 rfl) h
  clear hR
  by_cases h1 : n < 0
  · obtain rfl : false = R := hF (fun h => by omega)
    have d1 : decide (0 ≤ n) = false := decide_eq_false (by omega)
    clear hR' hF hn hc
    go_enter Tryz.func59, Tryz.ntmps59
    go_wp2
    go_ret
    exact ⟨rfl, Below.refl _ _⟩
  · by_cases h2 : 4096 < n
    · obtain rfl : false = R := hF (fun h => by omega)
      have d1 : decide (0 ≤ n) = true := decide_eq_true (by omega)
      have d2 : decide (n ≤ 4096) = false := decide_eq_false (by omega)
      clear hR' hF hn hc
      go_enter Tryz.func59, Tryz.ntmps59
      go_wp2
      go_ret
      exact ⟨rfl, Below.refl _ _⟩
    · obtain ⟨N, rfl⟩ : ∃ N : Nat, n = N := ⟨n.toNat, by omega⟩
      have hw : wrap64 ((N : Int) / 2 ^ C * 2 ^ C) = (N : Int) / 2 ^ C * 2 ^ C := by
        have h3 : (0 : Int) < 2 ^ C := by
          have e : (2 : Int) ^ C = ((2 ^ C : Nat) : Int) := by simp
          have := Nat.two_pow_pos C
          rw [e]
          omega
        have h4 := Int.ediv_mul_le (N : Int) (by omega : (2 : Int) ^ C ≠ 0)
        have h5 : 0 ≤ (N : Int) / 2 ^ C * 2 ^ C := Int.mul_nonneg (Int.ediv_nonneg (by omega) (by omega)) (by omega)
        unfold wrap64
        omega
      have hb : (((N : Int) / 2 ^ C * 2 ^ C) == (N : Int)) = R := by
        rw [Bool.eq_iff_iff, beq_iff_eq, hR']
        exact ⟨fun h => ⟨by omega, by omega, h⟩, fun h => h.2.2⟩
      clear hR' hF hc
      go_enter Tryz.func59, Tryz.ntmps59
      go_wp2
      go_ret
      exact ⟨rfl, Below.refl _ _⟩
/-- Which metas are right. -/
def shOk (c : Int) (S : List ShM) (i : Nat) (d : ShM) : Prop := nameOk d.1 ∧ fndS d.1 S = i ∧ sizedM d.2.1 c ∧ rightT d.2.2 (d.2.1 / 2 ^ c.toNat) c
def bmOk (B : List BmM) (i : Nat) (b : BmM) : Prop := nameOk b.1 ∧ fndB b.1 B = i ∧ Rt (-1) b.2.2 ∧ (0 < b.2.2.length → (spAt b.2.2 (b.2.2.length - 1)).2 ≤ 4096)
structure RightMt (M : MM) : Prop where
  c : 0 ≤ M.c ∧ M.c ≤ 6
  s : sizedM M.s M.c
  bk : 0 < M.bk.size → nameOk M.bk
  nS : M.S.length ≤ 8
  nB : M.B.length ≤ 8
  nK : M.K.length ≤ 65536
  T : rightT M.T (M.s / 2 ^ M.c.toNat) M.c
  S : ∀ i d, M.S[i]? = some d → shOk M.c M.S i d
  B : ∀ i b, M.B[i]? = some b → bmOk M.B i b
  K : ∀ k ∈ M.K, 0 ≤ k ∧ k ≤ 65535
end Go.Proofs.YtdffgnpldapciaaGreatDoor
