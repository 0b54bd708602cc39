/-
  What Pack's own helpers 'half', 'appendAdded', 'appendLiterals' and 'appendSequence' make. Conditions: short texts, a distance below 65536.
-/
import Derived.Test.YtlkpedknhjgdiaaQ3
namespace Go.Proofs.Ytlkpedknhjgdiaa
open Go.RowKit

theorem half_any (n : Nat) (w : World) (h : n ≤ 100000) : Calls Try.prog 31 #[.int .i64 n] w fun e w' => e = .returned (.int .u8 ((min n 15 : Nat) : Int)) ∧ w = w' := by
  rcases (by omega : n ≤ 15 ∨ 15 < n) with k | k
  · have e : ((min n 15 : Nat) : Int) = (n : Int) := by omega
    rw [e]
    go_enter Try.func31, Try.ntmps31
    go_wp2
    go_ret
    exact ⟨rfl, rfl⟩
  · have e : ((min n 15 : Nat) : Int) = 15 := by omega
    rw [e]
    go_enter Try.func31, Try.ntmps31
    go_wp2
    go_ret
    exact ⟨rfl, rfl⟩

set_option maxRecDepth 100000 in
set_option maxHeartbeats 800000 in
theorem appendAdded_any (base n c k : Nat) (a : Option Addr) (xs : List Int) (w : World) (hO : Own w base (.slice a n c) n xs) (hb : base ≤ w.heap.size) (hk : k ≤ 100000) (hn : n ≤ 1000000) :
    Calls Try.prog 30 #[.slice a n c, .int .i64 k] w (OwnPost base w (xs ++ addedL k)) := by
  by_cases h1 : k < 15
  · have HE : Hid (xs ++ addedL k = xs) := by rw [Hid, addedL, if_pos h1, List.append_nil]
    have HO := Lib.hid hO
    clear hO
    go_enter Try.func30, Try.ntmps30
    go_wp2
    go_ret
    rw [HE.out]
    exact ⟨a, n, c, HO.out.len, rfl, HO.out, Below.refl _ _⟩
  · have HE : Hid (xs ++ addedL k = (xs ++ List.replicate ((k - 15) / 255) 255) ++ [(((k - 15) % 255 : Nat) : Int)]) := by rw [Hid, addedL, if_neg h1, List.append_assoc]
    have HO := Lib.hid hO
    have HB := Lib.hid hb
    clear hO hb
    go_enter Try.func30, Try.ntmps30
    go_wp2
    go_loopw [0, 5] (fun o x wr => ∃ (i r c' : Nat) (a' : Option Addr), Hid (k - 15 = 255 * i + r) ∧ i ≤ 1000 ∧ r ≤ 100000 ∧ x = .int .i64 r ∧ o = .slice a' (n + i) c' ∧ Hid (Own wr base (.slice a' (n + i) c') (n + i) (xs ++ List.replicate i 255)) ∧ Hid (Below base w wr)) (fun _ x _ => (intOf x).toNat)
    case atStart => exact ⟨0, k - 15, c, a, by rw [Hid]; omega, by omega, by omega, int_eq (by omega), rfl, by rw [List.replicate_zero, List.append_nil]; exact HO.out, Below.refl _ _⟩
    case round =>
      obtain ⟨i, r, c', a', HI, hi, hr, rfl, rfl, HOi, HGi⟩ := hrel
      clear HO
      have HS := Lib.hid (Nat.le_trans HB.out HGi.out.size)
      by_cases hge : 255 ≤ r
      · have hi2 : i + 1 ≤ 1000 := by have := HI.out; omega
        go_wp2_with (at_builtin; refine append_more rfl (.tmp 15) (.tmp 16) rfl base _ (n + i) _ rfl (HOi.out.alloc _) _ 1 1 [255] rfl (fun e => by cases e) (one_byte _ 255 (by omega)) (by omega) (Nat.le_trans HS.out (by simp)) ?_; intro a4 c4 w4 g1 g2; have HO4 := Lib.hid g1; have HG4 : Hid (Below base w w4) := (HGi.out.alloc HS.out _).trans g2; clear g1 g2)
        go_roundw
        case rel => exact ⟨i + 1, r - 255, c4, a4, by rw [Hid]; have := HI.out; omega, hi2, by omega, int_eq (by omega), rfl, by rw [← rep_snoc]; exact HO4.out, HG4.out⟩
        case measure => simp [intOf]; omega
      · go_wp2_with (at_builtin; refine append_more rfl (.tmp 18) (.tmp 21) rfl base _ (n + i) _ rfl (HOi.out.alloc _) _ 1 1 [_] rfl (fun e => by cases e) (one_byte _ _ (by omega)) (by omega) (Nat.le_trans HS.out (by simp)) ?_; intro a4 c4 w4 g1 g2; have HO4 := Lib.hid g1; have HG4 : Hid (Below base w w4) := (HGi.out.alloc HS.out _).trans g2; clear g1 g2)
        go_ret
        have e := HO4.out
        have h2 : (k - 15) / 255 = i := by have := HI.out; omega
        have h3 : (k - 15) % 255 = r := by have := HI.out; omega
        rw [HE.out, h2, h3]
        exact ⟨a4, n + i + 1, c4, e.len, rfl, e, HG4.out⟩

theorem u8_token (x y : Nat) (hx : x < 16) (hy : y < 16) : bits .or .u8 ((x : Int) * 16) (y : Int) = ((x * 16 + y : Nat) : Int) := by
  have h : bits .or .u8 ((x * 16 : Nat) : Int) ((y : Nat) : Int) = ((x * 16 ||| y : Nat) : Int) := by
    show IntKind.u8.wrap ((BitVec.ofInt 8 ((x * 16 : Nat) : Int) ||| BitVec.ofInt 8 ((y : Nat) : Int)).toNat : Int) = _
    have hor : x * 16 ||| y < 256 := Nat.or_lt_two_pow (n := 8) (by omega) (by omega)
    rw [BitVec.toNat_or, BitVec.ofInt_natCast, BitVec.ofInt_natCast, BitVec.toNat_ofNat, BitVec.toNat_ofNat, Nat.mod_eq_of_lt (by omega), Nat.mod_eq_of_lt (by omega), IntKind.wrap_u8]
    omega
  rw [nat_join 4 (x * 16) y (by omega) (by omega)] at h
  rw [← h]
  congr 1

/-- A slice whose block is not the grown one reads on; an empty one does anyway. -/
theorem bytes_grown {w w' : World} {a : Option Addr} {len : Nat} {l : List Int} {B : Nat} (h : Bytes w a len l) (hB : ∀ x, a = some x → len ≠ 0 → x.block < B) (hb : Below B w w') : Bytes w' a len l := by
  by_cases h0 : len = 0
  · exact ⟨h.1, h.2.1, Or.inl h0⟩
  · exact h.grown (fun x hx => hB x hx h0) hb
theorem bytes_block {w : World} {a : Option Addr} {len : Nat} {l : List Int} (h : Bytes w a len l) : ∀ x, a = some x → len ≠ 0 → x.block < w.heap.size := fun x hx h0 => by
  rcases h.2.2 with h1 | ⟨b, off, e, h1, _⟩
  · exact absurd h1 h0
  · rw [hx] at e
    cases e
    exact h1
/-- A sequence up to its literal bytes. -/
def headL (l : List Int) (m : Nat) : List Int := [((min l.length 15 * 16 + min m 15 : Nat) : Int)] ++ addedL l.length ++ l
theorem le3 {xs b : List Int} {x : Int} {n n5 N2 k : Nat} (h : (xs ++ [x] ++ b).length = n5) (hb : b.length = N2) (hx : xs.length = n) (h2 : N2 ≤ k + 1) (hn : n ≤ 100000) (hk : k ≤ 20000) : n5 ≤ 130000 := by
  rw [List.length_append, List.length_append, hb, hx, List.length_singleton] at h
  omega
set_option maxHeartbeats 1600000 in
theorem appendLiterals_any (base n c len1 cap1 m : Nat) (a a1 : Option Addr) (xs l1 : List Int) (w : World) (hO : Own w base (.slice a n c) n xs) (hb : base ≤ w.heap.size) (hn : n ≤ 100000) (hB : Bytes w a1 len1 l1) (hlt : ∀ x, a1 = some x → len1 ≠ 0 → x.block < base) (hn1 : a1 = none → cap1 = 0) (hlen : len1 ≤ 20000) (hm : m ≤ 20000) :
    Calls Try.prog 25 #[.slice a n c, .slice a1 len1 cap1, .int .i64 m] w (OwnPost base w (xs ++ headL l1 m)) := by
  have HB := Lib.hid hB
  have HLT := Lib.hid hlt
  have HN := Lib.hid hn1
  have HO := Lib.hid hO
  have HBA := Lib.hid hb
  have HL := Lib.hid hB.1
  obtain ⟨N2, HN2⟩ := named (addedL len1).length
  have hN2 := addedL_len len1
  rw [HN2.out] at hN2
  obtain ⟨X, HX⟩ := named (min len1 15)
  obtain ⟨Y, HY⟩ := named (min m 15)
  have HH1 := Lib.hid (half_any len1 w (by omega))
  have HH2 := Lib.hid (half_any m w (by omega))
  rw [HX.out] at HH1
  rw [HY.out] at HH2
  have hX : X < 16 := by have := HX.out; omega
  have hY : Y < 16 := by have := HY.out; omega
  have HTK := Lib.hid (u8_token X Y hX hY)
  have HBT : 0 ≤ ((X * 16 + Y : Nat) : Int) ∧ ((X * 16 + Y : Nat) : Int) < 256 := by omega
  obtain ⟨T, HT⟩ := named ((X * 16 + Y : Nat) : Int)
  rw [HT.out] at HTK HBT
  have htk : bits .or .u8 ((X : Int) * 16) (Y : Int) = T := HTK.out
  have HBT := Lib.hid HBT
  clear hO hb hB hlt hn1
  go_enter Try.func25, Try.ntmps25
  go_wp2_with (first
    | (go_at_call 31; ((with_reducible refine HH1.out.mono ?_); rintro e w' ⟨rfl, rfl⟩))
    | (go_at_call 31; ((with_reducible refine HH2.out.mono ?_); rintro e w' ⟨rfl, rfl⟩))
    | (at_builtin; refine append_more rfl (.tmp 7) (.tmp 15) rfl base _ n xs rfl (HO.out.alloc _) _ 1 1 [T] rfl (fun e => by cases e) (one_byte _ T HBT.out) (by omega) (Nat.le_trans HBA.out (by simp)) ?_; intro a4 c4 w4 g1 g2; have HO4 := Lib.hid g1; have HG4 : Hid (Below base w w4) := ((Below.refl _ _).alloc HBA.out _).trans g2; clear g1 g2)
    | (go_at_call 30; ((with_reducible refine (appendAdded_any base _ c4 len1 a4 _ w4 HO4.out (Nat.le_trans HBA.out HG4.out.size) (by omega) (by omega)).mono ?_); rintro e w5 ⟨a5, n5, c5, hl5, rfl, hO5, hb5⟩; have HO5 := Lib.hid hO5; have hl55 := le3 hl5 HN2.out HO.out.len hN2 hn hlen; have HG5 := Lib.hid (HG4.out.trans hb5); clear hl5 hO5 hb5))
    | (at_builtin; refine append_more rfl (.tmp 21) (.tmp 22) rfl base _ n5 _ rfl HO5.out a1 len1 cap1 l1 rfl HN.out (bytes_grown HB.out HLT.out HG5.out) (by omega) (Nat.le_trans HBA.out HG5.out.size) ?_; intro a6 c6 w6 g1 g2; have HO6 := Lib.hid g1; have HG6 := Lib.hid (HG5.out.trans g2); clear g1 g2))
  go_ret
  have e : xs ++ [T] ++ addedL len1 ++ l1 = xs ++ headL l1 m := by
    rw [headL, HL.out, HX.out, HY.out, HT.out]
    simp
  have e6 := HO6.out
  rw [e] at e6
  exact ⟨a6, n5 + len1, c6, e6.len, rfl, e6, HG6.out⟩
end Go.Proofs.Ytlkpedknhjgdiaa
