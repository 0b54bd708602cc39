/-
  What the reference's Put answers. Conditions: the slice reads as bytes and has no more than 100000 of them; the number is below 2^64.
-/
import Derived.Test.YtdffgnpldapciaaGreatDoorP2
namespace Go.Proofs.YtdffgnpldapciaaGreatDoor
open Go.RowKit

set_option maxHeartbeats 400000 in
theorem refPut_arg (sl : Value) (n : Int) (big : Bool) (v : Value) (w : World) (h : n < 1 ∨ 8 < n) :
    Calls Tryz.prog 83 #[sl, .int .i64 n, .bool big, v] w (PutPost w [] 1) := by
  by_cases h1 : n < 1
  · go_enter Tryz.func83, Tryz.ntmps83
    go_wp2
    go_ret2
    exact PutPost.empty w 1
  · have h2 : 8 < n := by omega
    go_enter Tryz.func83, Tryz.ntmps83
    go_wp2
    go_ret2
    exact PutPost.empty w 1

set_option maxHeartbeats 400000 in
theorem refPut_range (sl : Value) (m v : Nat) (big : Bool) (w : World) (h1 : 1 ≤ m) (hf : fitsIn m v = false) :
    Calls Tryz.prog 83 #[sl, .int .i64 m, .bool big, .int .u64 v] w (PutPost w [] 6) := by
  obtain ⟨h2, h3, h4⟩ := unfit hf
  clear hf
  go_enter Tryz.func83, Tryz.ntmps83
  go_wp2
  go_ret2
  exact PutPost.empty w 6

set_option maxHeartbeats 800000 in
theorem refPut_ok (a : Option Addr) (len cap m v : Nat) (l : List Int) (big : Bool) (w : World) (hB : Bytes w a len l) (hnil : a = none → cap = 0) (hlen : len ≤ 100000) (h1 : 1 ≤ m) (h2 : m ≤ 8) (hf : fitsIn m v = true) :
    Calls Tryz.prog 83 #[.slice a len cap, .int .i64 m, .bool big, .int .u64 v] w (PutPost w (l ++ numB big m v) 0) := by
  have HB := Lib.hid hB
  have HN := Lib.hid hnil
  have hS := numB_snoc big m v
  have hD := numB_len big m v
  obtain ⟨D, hDD⟩ := named (numB big m v)
  rw [hDD.out] at hS hD ⊢
  have HL : Hid ((l ++ D).length = len + m) := by rw [Hid, List.length_append, hD, hB.1]
  have HS := Lib.hid hS
  have HD := Lib.hid hD
  clear hB hnil hS hD hDD
  have hsplit : 8 ≤ m ∨ m < 8 ∧ ((v : Int) / 2 ^ (8 * m) == 0) = true ∧ ((v : Int) / 2 ^ (8 * m) != 0) = false := by
    by_cases h : m < 8
    · exact Or.inr ⟨h, fit_small hf h⟩
    · exact Or.inl (by omega)
  clear hf
  rcases hsplit with h3 | ⟨h3, h4, h5⟩
  all_goals cases big
  all_goals
    go_enter Tryz.func83, Tryz.ntmps83
    go_wp2_with (first
      | (at_builtin; refine append_copy rfl (.tmp 29) (.tmp 30) rfl w.heap.size rfl a len cap l rfl HN.out HB.out (by omega) (Nat.le_refl _) ?_; intro a1 c1 w1 g1 g2; have HO := Lib.hid g1; have HG := Lib.hid g2; clear g1 g2))
    go_loopw [10, 11, 12] (fun o i _ wr => ∃ (j : Nat) (a' : Option Addr) (c' : Nat), j ≤ m ∧ i = .int .i64 j ∧ o = .slice a' (len + j) c' ∧ Hid (Own wr w.heap.size (.slice a' (len + j) c') (len + j) (l ++ D.take j)) ∧ Hid (Below w.heap.size w wr)) (fun _ i _ _ => m - (intOf i).toNat)
    case atStart => exact ⟨0, a1, c1, Nat.zero_le _, rfl, rfl, by rw [List.take_zero, List.append_nil]; exact HO.out, HG.out⟩
    case round =>
      obtain ⟨j, a', c', hj, rfl, rfl, HOj, HGj⟩ := hrel
      clear HO HG
      by_cases hlt : j < m
      · obtain ⟨q, hq, hq2⟩ : ∃ q : Nat, (m : Int) - 1 - (j : Int) = (q : Int) ∧ Hid (q = m - 1 - j) := ⟨m - 1 - j, by omega, rfl⟩
        have hq3 : q < m := by have := hq2.out; omega
        have HSj := Lib.hid (HS.out j hlt)
        go_wp2_with (first
          | (at_builtin; refine append_more rfl (.tmp 43) (.tmp 50) rfl w.heap.size _ (len + j) _ rfl (HOj.out.alloc _) _ 1 1 [_] rfl (fun e => by cases e) (one_byte _ _ (byteOf_range _ _)) (by omega) (Nat.le_trans HGj.out.size (by simp)) ?_; intro a2 c2 w2 g1 g2; have HO2 := Lib.hid g1; have HG2 : Hid (Below w.heap.size w w2) := (HGj.out.alloc HGj.out.size _).trans g2; clear g1 g2))
        go_roundw
        case rel =>
          refine ⟨j + 1, a2, c2, by omega, by go_num, rfl, ?_, HG2.out⟩
          have e := HO2.out
          rw [byteOf_int] at e
          rw [HSj.out, ← List.append_assoc]
          first | exact e | (rw [hq2.out] at e; exact e)
        case measure => simp [intOf]; omega
      · obtain rfl : j = m := by omega
        have HE : Hid (D.take j = D) := by rw [Hid]; exact List.take_of_length_le (by rw [HD.out]; exact Nat.le_refl _)
        go_wp2
        go_ret2
        have e := HOj.out
        rw [HE.out] at e
        exact PutPost.own 0 e HGj.out

set_option maxHeartbeats 400000 in
theorem refGet_arg (sl at' : Value) (n : Int) (big : Bool) (w : World) (h : n < 1 ∨ 8 < n) :
    Calls Tryz.prog 35 #[sl, at', .int .i64 n, .bool big] w fun e w' => e = .returned (.tuple #[.int .u64 0, .int .i64 1]) ∧ w = w' := by
  by_cases h1 : n < 1
  · go_enter Tryz.func35, Tryz.ntmps35
    go_wp2
    go_ret2
    exact ⟨rfl, rfl⟩
  · have h2 : 8 < n := by omega
    go_enter Tryz.func35, Tryz.ntmps35
    go_wp2
    go_ret2
    exact ⟨rfl, rfl⟩

set_option maxHeartbeats 400000 in
theorem refGet_range (a : Option Addr) (len cap m : Nat) (at' : Int) (big : Bool) (w : World) (h1 : 1 ≤ m) (h2 : m ≤ 8) (_hlen : len ≤ 140737488351232) (h : at' < 0 ∨ (len : Int) < at' + m) :
    Calls Tryz.prog 35 #[.slice a len cap, .int .i64 at', .int .i64 m, .bool big] w fun e w' => e = .returned (.tuple #[.int .u64 0, .int .i64 6]) ∧ w = w' := by
  by_cases g1 : at' < 0
  · go_enter Tryz.func35, Tryz.ntmps35
    go_wp2
    go_ret2
    exact ⟨rfl, rfl⟩
  · by_cases g2 : (len : Int) < at'
    · go_enter Tryz.func35, Tryz.ntmps35
      go_wp2
      go_ret2
      exact ⟨rfl, rfl⟩
    · have g3 : (len : Int) - at' < m := by omega
      go_enter Tryz.func35, Tryz.ntmps35
      go_wp2
      go_ret2
      exact ⟨rfl, rfl⟩

set_option maxHeartbeats 800000 in
theorem refGet_ok (a : Option Addr) (len cap m p : Nat) (l : List Int) (big : Bool) (w : World) (hB : Bytes w a len l) (h1 : 1 ≤ m) (h2 : m ≤ 8) (hp : p + m ≤ len) :
    Calls Tryz.prog 35 #[.slice a len cap, .int .i64 p, .int .i64 m, .bool big] w fun e w' => e = .returned (.tuple #[.int .u64 (getTo big m p l m : Nat), .int .i64 0]) ∧ w = w' := by
  obtain ⟨rfl, hs, hl⟩ := hB
  obtain ⟨b, off, rfl, _, hc⟩ := hl.resolve_left (by omega)
  have hlen := hs.1
  have HC := Lib.hid hc
  have HS := Lib.hid hs
  have HSM := Lib.hid (getTo_small hs.2 big m p)
  have HG : Hid (∀ i, getTo big m p l (i + 1) = getTo big m p l i * 256 + (l.getD (p + if big then i else m - 1 - i) 0).toNat) := fun _ => rfl
  clear hc hs hl
  obtain ⟨len, HLEN⟩ : ∃ len, Hid (l.length = len) := ⟨_, rfl⟩
  rw [HLEN.out] at hlen hp ⊢
  cases big
  all_goals
    go_enter Tryz.func35, Tryz.ntmps35
    go_wp2
    go_loop [10, 11, 12] (fun x i _ => ∃ j t : Nat, j ≤ m ∧ i = .int .i64 j ∧ x = .int .u64 t ∧ Hid (t = getTo _ m p l j)) (fun _ i _ => m - (intOf i).toNat)
    case atStart => exact ⟨0, 0, Nat.zero_le _, rfl, rfl, rfl⟩
    case round =>
      obtain ⟨j, t, hj, rfl, rfl, HT⟩ := hrel
      by_cases hlt : j < m
      · obtain ⟨q, hq, hq2⟩ : ∃ q : Nat, (m : Int) - 1 - (j : Int) = (q : Int) ∧ Hid (q = m - 1 - j) := ⟨m - 1 - j, by omega, rfl⟩
        have hq3 : q < m := by have := hq2.out; omega
        have hcells : ∀ K, K < m → ∃ c : Int, w.cell? ⟨b, off + (p + K), none⟩ = some (.int .u8 c) ∧ 0 ≤ c ∧ c < 256 ∧ Hid (l.getD (p + K) 0 = c) := fun K hK => by
          have hk' : p + K < l.length := by rw [HLEN.out]; omega
          exact ⟨_, HC.out (p + K) hk', (HS.out.at hk').1, (HS.out.at hk').2, rfl⟩
        obtain ⟨c, hcell, hc0, hc1, HCV⟩ := hcells q hq3
        obtain ⟨d, dcell, hd0, hd1, HDV⟩ := hcells j hlt
        clear hcells
        have hts : t < 72057594037927936 := by rw [HT.out]; exact HSM.out j (by omega)
        have HX := Lib.hid (or_step t c hts hc0 hc1)
        have HY := Lib.hid (or_step t d hts hd0 hd1)
        have HGj := Lib.hid (HG.out j)
        clear hts
        go_wp2
        go_round
        case rel =>
          first | refine ⟨j + 1, t * 256 + d.toNat, by omega, by go_num, int_eq HY.out, ?_⟩ | refine ⟨j + 1, t * 256 + c.toNat, by omega, by go_num, int_eq HX.out, ?_⟩
          rw [Hid, HGj.out, ← HT.out]
          first | (rw [← HDV.out]; rfl) | (rw [← HCV.out, hq2.out]; rfl)
        case measure => simp [intOf]; omega
      · obtain rfl : j = m := by omega
        go_wp2
        go_ret2
        exact ⟨ret_pair (by rw [HT.out]), rfl⟩
end Go.Proofs.YtdffgnpldapciaaGreatDoor
