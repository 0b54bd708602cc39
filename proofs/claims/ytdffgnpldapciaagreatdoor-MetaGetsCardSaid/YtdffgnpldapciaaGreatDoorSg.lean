/-
  Where a shot of a name stands (12.2): the project's placeOf, the reference's shot. Conditions: the shots read.
-/
import Derived.Test.YtdffgnpldapciaaGreatDoorSb
namespace Go.Proofs.YtdffgnpldapciaaGreatDoor
open Go.RowKit
set_option linter.unusedVariables false

theorem str_ext {a b : ByteArray} (h : a.toList = b.toList) : a = b := by
  rw [ByteArray.toList_eq, ByteArray.toList_eq] at h
  cases a
  cases b
  congr 1
  exact Array.toList_inj.1 h
theorem str_yes {a b : ByteArray} (h : a = b) : (a.toList == b.toList) = true := by subst h; simp
theorem str_no {a b : ByteArray} (h : a ≠ b) : (a.toList == b.toList) = false := by
  rw [beq_eq_false_iff_ne]
  exact fun e => h (str_ext e)
/-- The first place of a name; below 0: none. -/
def fndS (nm : ByteArray) : List ShM → Int
  | [] => -1
  | d :: r => if d.1 = nm then 0 else if fndS nm r < 0 then -1 else fndS nm r + 1
theorem fndS_at {nm : ByteArray} : ∀ {S : List ShM} {i : Nat} {d : ShM}, S[i]? = some d → d.1 = nm → (∀ k, k < i → ∀ e, S[k]? = some e → e.1 ≠ nm) → fndS nm S = i
  | [], i, d, h, _, _ => by simp at h
  | x :: r, 0, d, h, e, _ => by
    simp at h
    subst h
    unfold fndS
    rw [if_pos e]
    rfl
  | x :: r, i + 1, d, h, e, hn => by
    have h0 := hn 0 (by omega) x rfl
    rw [List.getElem?_cons_succ] at h
    have ih := fndS_at (S := r) h e fun k hk y hy => hn (k + 1) (by omega) y (by rw [List.getElem?_cons_succ]; exact hy)
    unfold fndS
    rw [if_neg h0, ih, if_neg (by omega)]
    omega
theorem fndS_none {nm : ByteArray} : ∀ {S : List ShM}, (∀ d ∈ S, d.1 ≠ nm) → fndS nm S = -1
  | [], _ => rfl
  | x :: r, h => by
    unfold fndS
    rw [if_neg (h x (by simp)), fndS_none fun d hd => h d (by simp [hd]), if_pos (by omega)]
theorem fndS_cases (nm : ByteArray) (S : List ShM) : (fndS nm S = -1 ∧ ∀ d ∈ S, d.1 ≠ nm) ∨ ∃ (i : Nat) (d : ShM), fndS nm S = i ∧ S[i]? = some d ∧ d.1 = nm ∧ i < S.length ∧ ∀ k, k < i → ∀ e, S[k]? = some e → e.1 ≠ nm := by
  induction S with
  | nil => exact Or.inl ⟨rfl, fun d hd => by cases hd⟩
  | cons x r ih =>
    by_cases h : x.1 = nm
    · exact Or.inr ⟨0, x, by unfold fndS; rw [if_pos h]; rfl, rfl, h, by simp, fun k hk => by omega⟩
    · rcases ih with ⟨h1, h2⟩ | ⟨i, d, h1, h2, h3, h4, h5⟩
      · refine Or.inl ⟨by unfold fndS; rw [if_neg h, h1]; rfl, fun d hd => ?_⟩
        rcases List.mem_cons.1 hd with rfl | hd
        · exact h
        · exact h2 d hd
      · refine Or.inr ⟨i + 1, d, by unfold fndS; rw [if_neg h, h1, if_neg (by omega)]; omega, by rw [List.getElem?_cons_succ]; exact h2, h3, by simpa using h4, fun k hk e he => ?_⟩
        cases k with
        | zero => simp at he; subst he; exact h
        | succ k => exact h5 k (by omega) e (by rw [List.getElem?_cons_succ] at he; exact he)
theorem refShot (w : World) (x : Mt) (M : MM) (h : MetaD w x M) (nm : ByteArray) {r : Int} (hr : fndS nm M.S = r) : Calls Tryz.prog 61 #[.agg (mtA M x), .string nm] w fun e w' => e = .returned (.int .i64 r) ∧ Below w.heap.size w w' := by
  obtain ⟨a0, n0, c0, sa, sn, sc, ma, mn, mc, ca, cn, cc⟩ := x
  obtain ⟨c, s, bk, T, S, B, K⟩ := M
  have hS := h.S
  dsimp only [mtA] at hS hr ⊢
  clear h
  have hl := hS.lens
  have HS := Lib.hid hS
  have HR := Lib.hid hr
  have HM : Hid (Blk (w.alloc (.cells #[.int .i64 c, .int .i64 s, .string bk, .slice a0 n0 c0, .slice sa sn sc, .slice ma mn mc, .slice ca cn cc] 31)) w.heap.size 31 #[.int .i64 c, .int .i64 s, .string bk, .slice a0 n0 c0, .slice sa sn sc, .slice ma mn mc, .slice ca cn cc]) := Blk.new _ _ _
  have HB : Hid (Below w.heap.size w (w.alloc (.cells #[.int .i64 c, .int .i64 s, .string bk, .slice a0 n0 c0, .slice sa sn sc, .slice ma mn mc, .slice ca cn cc] 31))) := (Below.refl _ _).alloc (Nat.le_refl _) _
  have HL := Lib.hid hl
  clear hS hr hl
  go_enter Tryz.func61, Tryz.ntmps61
  go_wp2
  go_loopw [5] (fun i wr => ∃ j : Nat, j ≤ sn ∧ i = .int .i64 j ∧ Hid (Blk wr w.heap.size 31 #[.int .i64 c, .int .i64 s, .string bk, .slice a0 n0 c0, .slice sa sn sc, .slice ma mn mc, .slice ca cn cc]) ∧ Hid (Below w.heap.size w wr) ∧ Hid (∀ k, k < j → ∀ e, S[k]? = some e → e.1 ≠ nm)) (fun i _ => sn - (intOf i).toNat)
  case atStart => exact ⟨0, Nat.zero_le _, rfl, HM.out, HB.out, fun k hk => by omega⟩
  case round =>
    obtain ⟨j, hj, rfl, HMj, HBj, HN⟩ := hrel
    obtain ⟨_, _, _, _, m4, _, _⟩ := cells7 HMj.out
    have h1000 := HL.out.2
    by_cases hlt : j < sn
    · obtain ⟨b, off, n1, sz, al, ll, cl, T', rfl, hSj, hb, _, x1, _, _, _⟩ := (HS.out.later HBj.out).at j hlt
      have HSJ := Lib.hid hSj
      clear hSj
      by_cases he : n1 = nm
      · have hse := str_yes he
        obtain rfl : r = (j : Int) := by rw [← HR.out]; exact fndS_at HSJ.out he HN.out
        clear he
        go_wp2
        go_ret
        exact ⟨rfl, HBj.out⟩
      · have hse := str_no he
        have HN2 : Hid (∀ k, k < j + 1 → ∀ e, S[k]? = some e → e.1 ≠ nm) := fun k hk e hke => by
          by_cases e1 : k = j
          · subst e1
            have := HSJ.out.symm.trans hke
            cases this
            exact he
          · exact HN.out k (by omega) e hke
        clear he
        have hj1000 : j ≤ 1000 := by omega
        go_wp2
        go_roundw
        case rel => exact ⟨j + 1, by omega, by go_num, HMj.out, HBj.out, HN2.out⟩
        case measure => simp [intOf]; omega
    · obtain rfl : j = sn := by omega
      obtain rfl : r = -1 := by
        rw [← HR.out]
        refine fndS_none fun d hd => ?_
        obtain ⟨i, hi⟩ := List.getElem?_of_mem hd
        exact HN.out i (by have := (List.getElem?_eq_some_iff.1 hi).1; have := HL.out.1; omega) d hi
      go_wp2
      go_ret
      exact ⟨rfl, HBj.out⟩
end Go.Proofs.YtdffgnpldapciaaGreatDoor
