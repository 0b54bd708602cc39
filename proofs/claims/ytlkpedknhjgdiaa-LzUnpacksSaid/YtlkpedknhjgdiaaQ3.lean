/-
  What the statements' own helpers 'added' and 'seq' make. Conditions: short texts, a distance below 65536.
-/
import Derived.Test.YtlkpedknhjgdiaaU3
import Derived.Test.YtlkpedknhjgdiaaS2
namespace Go.Proofs.Ytlkpedknhjgdiaa
open Go.RowKit

/-- What is added to a half of n. -/
def addedL (n : Nat) : List Int := if n < 15 then [] else List.replicate ((n - 15) / 255) 255 ++ [(((n - 15) % 255 : Nat) : Int)]
/-- A sequence. -/
def seqL (l : List Int) (far m : Nat) : List Int := [((min l.length 15 * 16 + min m 15 : Nat) : Int)] ++ addedL l.length ++ l ++ [((far % 256 : Nat) : Int), ((far / 256 : Nat) : Int)] ++ addedL m
/-- A slice of the call's own comes back. -/
def OwnPost (base : Nat) (w0 : World) (xs : List Int) (e : Ending) (w : World) : Prop :=
  ∃ a n c, xs.length = n ∧ e = .returned (.slice a n c) ∧ Own w base (.slice a n c) n xs ∧ Below base w0 w
theorem rep_snoc (xs : List Int) (i : Nat) : (xs ++ List.replicate i 255) ++ [255] = xs ++ List.replicate (i + 1) 255 := by
  rw [List.append_assoc, List.replicate_succ']
theorem addedL_len (n : Nat) : (addedL n).length ≤ n + 1 := by
  unfold addedL
  split
  · simp
  · simp
    omega

set_option maxRecDepth 100000 in
set_option maxHeartbeats 800000 in
theorem added_any (base n c k : Nat) (a : Option Addr) (xs : List Int) (w : World) (hO : Own w base (.slice a n c) n xs) (hb : base ≤ w.heap.size) (hk : k ≤ 100000) (hn : n ≤ 1000000) :
    Calls Try.prog 17 #[.slice a n c, .int .i64 k] w (OwnPost base w (xs ++ addedL k)) := by
  by_cases h1 : k < 15
  · have HE : Hid (xs ++ addedL k = xs) := by rw [Hid, addedL, if_pos h1, List.append_nil]
    have HO := Lib.hid hO
    clear hO
    go_enter Try.func17, Try.ntmps17
    go_wp2
    go_ret
    rw [HE.out]
    exact ⟨a, n, c, HO.out.len, rfl, HO.out, Below.refl _ _⟩
  · have HE : Hid (xs ++ addedL k = (xs ++ List.replicate ((k - 15) / 255) 255) ++ [(((k - 15) % 255 : Nat) : Int)]) := by rw [Hid, addedL, if_neg h1, List.append_assoc]
    have HO := Lib.hid hO
    have HB := Lib.hid hb
    clear hO hb
    go_enter Try.func17, Try.ntmps17
    go_wp2
    go_loopw [0, 1] (fun o x wr => ∃ (i r c' : Nat) (a' : Option Addr), Hid (k - 15 = 255 * i + r) ∧ i ≤ 1000 ∧ r ≤ 100000 ∧ x = .int .i64 r ∧ o = .slice a' (n + i) c' ∧ Hid (Own wr base (.slice a' (n + i) c') (n + i) (xs ++ List.replicate i 255)) ∧ Hid (Below base w wr)) (fun _ x _ => (intOf x).toNat)
    case atStart => exact ⟨0, k - 15, c, a, by rw [Hid]; omega, by omega, by omega, int_eq (by omega), rfl, by rw [List.replicate_zero, List.append_nil]; exact HO.out, Below.refl _ _⟩
    case round =>
      obtain ⟨i, r, c', a', HI, hi, hr, rfl, rfl, HOi, HGi⟩ := hrel
      clear HO
      have HS := Lib.hid (Nat.le_trans HB.out HGi.out.size)
      by_cases hge : 255 ≤ r
      · have hi2 : i + 1 ≤ 1000 := by have := HI.out; omega
        go_wp2_with (at_builtin; refine append_more rfl (.tmp 12) (.tmp 13) rfl base _ (n + i) _ rfl (HOi.out.alloc _) _ 1 1 [255] rfl (fun e => by cases e) (one_byte _ 255 (by omega)) (by omega) (Nat.le_trans HS.out (by simp)) ?_; intro a4 c4 w4 g1 g2; have HO4 := Lib.hid g1; have HG4 : Hid (Below base w w4) := (HGi.out.alloc HS.out _).trans g2; clear g1 g2)
        go_roundw
        case rel => exact ⟨i + 1, r - 255, c4, a4, by rw [Hid]; have := HI.out; omega, hi2, by omega, int_eq (by omega), rfl, by rw [← rep_snoc]; exact HO4.out, HG4.out⟩
        case measure => simp [intOf]; omega
      · go_wp2_with (at_builtin; refine append_more rfl (.tmp 17) (.tmp 20) rfl base _ (n + i) _ rfl (HOi.out.alloc _) _ 1 1 [_] rfl (fun e => by cases e) (one_byte _ _ (by omega)) (by omega) (Nat.le_trans HS.out (by simp)) ?_; intro a4 c4 w4 g1 g2; have HO4 := Lib.hid g1; have HG4 : Hid (Below base w w4) := (HGi.out.alloc HS.out _).trans g2; clear g1 g2)
        go_ret
        have e := HO4.out
        have h2 : (k - 15) / 255 = i := by have := HI.out; omega
        have h3 : (k - 15) % 255 = r := by have := HI.out; omega
        rw [HE.out, h2, h3]
        exact ⟨a4, n + i + 1, c4, e.len, rfl, e, HG4.out⟩

theorem seq_eq {l : List Int} {n far m : Nat} {x f0 f1 : Int} (hx : x = ((min l.length 15 * 16 + min m 15 : Nat) : Int)) (h0 : f0 = ((far % 256 : Nat) : Int)) (h1 : f1 = ((far / 256 : Nat) : Int)) (hl : l.length = n) :
    ([] ++ [x] ++ addedL n ++ l ++ [f0, f1] ++ addedL m) = seqL l far m := by
  subst hx h0 h1 hl
  rfl
theorem Own.to {w : World} {base n : Nat} {v : Value} {xs ys : List Int} (h : Own w base v n xs) (e : xs = ys) : Own w base v n ys := e ▸ h
theorem len_of {x : Int} {l : List Int} {n N : Nat} (h : ([] ++ [x] ++ l).length = n) (hl : l.length = N) : n = 1 + N := by
  rw [← h, ← hl]
  simp
  omega
theorem le_of {n N k : Nat} (h : n = 1 + N) (h2 : N ≤ k + 1) (h3 : k ≤ 10000) : n ≤ 10002 := by omega
set_option maxHeartbeats 1600000 in
theorem seq_any (a1 : Option Addr) (len1 cap1 far m : Nat) (l1 : List Int) (w : World) (hB : Bytes w a1 len1 l1) (hn1 : a1 = none → cap1 = 0) (hlen : len1 ≤ 10000) (hfar : far < 65536) (hm : m ≤ 10000) :
    Calls Try.prog 16 #[.slice none 0 0, .slice a1 len1 cap1, .int .i64 far, .int .i64 ((m : Int) + 4)] w (OwnPost w.heap.size w (seqL l1 far m)) := by
  have HB := Lib.hid hB
  have HN := Lib.hid hn1
  have HO : Hid (Own w w.heap.size (.slice none 0 0) 0 []) := ⟨World.ownsRow_nil _ _ _ _, by unfold Small; simp⟩
  have HL := Lib.hid hB.1
  obtain ⟨N2, HN2⟩ := named (addedL len1).length
  have hN2 := addedL_len len1
  rw [HN2.out] at hN2
  clear hB hn1
  rcases (by omega : len1 ≤ 15 ∨ 15 < len1) with c1 | c1 <;> rcases (by omega : m ≤ 15 ∨ 15 < m) with c2 | c2
  all_goals
    go_enter Try.func16, Try.ntmps16
    go_wp2_with (first
      | (at_builtin; refine append_more rfl (.tmp 15) (.tmp 23) rfl w.heap.size _ 0 [] rfl (HO.out.alloc _) _ 1 1 [_] rfl (fun e => by cases e) (one_byte _ _ (by omega)) (by omega) (by simp) ?_; intro a4 c4 w4 g1 g2; simp only [Nat.zero_add] at g1; have HO4 := Lib.hid g1; have HG4 : Hid (Below w.heap.size w w4) := ((Below.refl _ _).alloc (Nat.le_refl _) _).trans g2; clear g1 g2)
      | (go_at_call 17; ((with_reducible refine (added_any w.heap.size _ c4 len1 a4 _ w4 HO4.out HG4.out.size (by omega) (by omega)).mono ?_); rintro e w5 ⟨a5, n5, c5, hl5, rfl, hO5, hb5⟩; have HO5 := Lib.hid hO5; have HL5 : Hid (n5 = 1 + N2) := len_of hl5 HN2.out; have hl55 : n5 ≤ 10002 := le_of HL5.out hN2 hlen; have HG5 := Lib.hid (HG4.out.trans hb5); clear hl5 hO5 hb5))
      | (at_builtin; refine append_more rfl (.tmp 28) (.tmp 29) rfl w.heap.size _ n5 _ rfl HO5.out a1 len1 cap1 l1 rfl HN.out (HB.out.later HG5.out) (by omega) HG5.out.size ?_; intro a6 c6 w6 g1 g2; have HO6 := Lib.hid g1; have HG6 := Lib.hid (HG5.out.trans g2); clear g1 g2)
      | (at_builtin; refine append_more rfl (.tmp 31) (.tmp 37) rfl w.heap.size _ (n5 + len1) _ rfl (HO6.out.alloc _) _ 2 2 [_, _] rfl (fun e => by cases e) (two_bytes _ _ _ (by omega) (by omega)) (by omega) (Nat.le_trans HG6.out.size (by simp)) ?_; intro a7 c7 w7 g1 g2; have HO7 := Lib.hid g1; have HG7 : Hid (Below w.heap.size w w7) := (HG6.out.alloc HG6.out.size _).trans g2; clear g1 g2)
      | (go_at_call 17; ((with_reducible refine (added_any w.heap.size _ c7 m a7 _ w7 HO7.out HG7.out.size (by omega) (by omega)).mono ?_); rintro e w8 ⟨a8, n8, c8, hl8, rfl, hO8, hb8⟩; have HO8 := Lib.hid hO8; have HL8 := Lib.hid hl8; have HG8 := Lib.hid (HG7.out.trans hb8); clear hl8 hO8 hb8)))
    go_ret
    have hl' : l1.length = len1 := HL.out
    have e8 := HO8.out.to (seq_eq (l := l1) (far := far) (m := m) (by omega) (by omega) (by omega) hl')
    exact ⟨a8, n8, c8, e8.len, rfl, e8, HG8.out⟩
end Go.Proofs.Ytlkpedknhjgdiaa
