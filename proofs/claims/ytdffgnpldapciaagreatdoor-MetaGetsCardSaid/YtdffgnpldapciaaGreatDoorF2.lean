/-
  What the project's own Put, Get, Text and Read answer (package field). Conditions: the slices read as bytes, their lengths are no greater than their capacities, and those that are copied are short; offsets and numbers are of 64 bits.
-/
import Derived.Test.YtdffgnpldapciaaGreatDoorN2
import Derived.Test.YtdffgnpldapciaaGreatDoorA2
import Derived.Test.YtdffgnpldapciaaGreatDoorI2
import Derived.Test.YtdffgnpldapciaaGreatDoorJ2
import Derived.Test.YtdffgnpldapciaaGreatDoorK2
namespace Go.Proofs.YtdffgnpldapciaaGreatDoor
open Go.RowKit

/-- An int. -/
def In64 (x : Int) : Prop := -9223372036854775808 ≤ x ∧ x ≤ 9223372036854775807
/-- What 'Get' hands back. -/
def GetPost (w0 : World) (v : Nat) (err : Int) (e : Ending) (w : World) : Prop := e = .returned (.tuple #[.int .u64 v, .int .i64 err]) ∧ Below w0.heap.size w0 w
/-- What 'Read' hands back. -/
def ReadPost (w0 : World) (t : ByteArray) (k err : Int) (e : Ending) (w : World) : Prop := e = .returned (.tuple #[.string t, .int .i64 k, .int .i64 err]) ∧ Below w0.heap.size w0 w

theorem len64_any (v : Nat) (w : World) (hv : Fit64 v) (B : Int) (hB : (Lib.bitLen v : Int) = B) :
    Calls Tryz.prog 84 #[.int .u64 v] w fun e w' => e = .returned (.int .i64 B) ∧ w = w' := by
  unfold Fit64 at hv
  have := len64_int (v : Int) w (by omega) (by omega)
  rw [Int.toNat_natCast, hB] at this
  exact this
theorem one_int (w : World) (m : Nat) : ∀ i, i < 1 → (w.alloc (.cells #[.int .i64 m] 3)).cell? ⟨w.heap.size, i, none⟩ = some (.int .i64 ([m].getD i 0 : Nat)) := fun i hi => by
  obtain rfl : i = 0 := by omega
  simp
theorem two_ints (w : World) (m n : Nat) : ∀ i, i < 2 → (w.alloc (.cells #[.int .i64 m, .int .i64 n] 3)).cell? ⟨w.heap.size, i, none⟩ = some (.int .i64 ([m, n].getD i 0 : Nat)) := fun i hi => by
  have : i = 0 ∨ i = 1 := by omega
  rcases this with rfl | rfl <;> simp

theorem width_no (n : Int) (w : World) (h : n < 1 ∨ 8 < n) : Calls Tryz.prog 70 #[.int .i64 n] w fun e w' => e = .returned (.bool false) ∧ w = w' := by
  by_cases h1 : 1 ≤ n
  · have h2 : ¬ n ≤ 8 := by omega
    go_enter Tryz.func70, Tryz.ntmps70
    go_wp2
    go_ret
    exact ⟨by simp, rfl⟩
  · go_enter Tryz.func70, Tryz.ntmps70
    go_wp2
    go_ret
    exact ⟨rfl, rfl⟩
theorem width_yes (n : Int) (w : World) (h1 : 1 ≤ n) (h2 : n ≤ 8) : Calls Tryz.prog 70 #[.int .i64 n] w fun e w' => e = .returned (.bool true) ∧ w = w' := by
  go_enter Tryz.func70, Tryz.ntmps70
  go_wp2
  go_ret
  exact ⟨by simp, rfl⟩

set_option maxHeartbeats 800000 in
theorem fieldPut_arg (sl : Value) (n : Int) (big : Bool) (v : Value) (w : World) (h : n < 1 ∨ 8 < n) :
    Calls Tryz.prog 66 #[sl, .int .i64 n, .bool big, v] w (PutPost w [] 1) := by
  have HW := Lib.hid (width_no n w h)
  go_enter Tryz.func66, Tryz.ntmps66
  go_wp2_with (go_at_call 70; refine HW.out.mono ?_; rintro e w' ⟨rfl, rfl⟩)
  go_ret2
  exact PutPost.empty w 1

set_option maxHeartbeats 800000 in
theorem fieldPut_range (sl : Value) (m v : Nat) (big : Bool) (w : World) (h1 : 1 ≤ m) (hv : Fit64 v) (hf : fitsIn m v = false) :
    Calls Tryz.prog 66 #[sl, .int .i64 m, .bool big, .int .u64 v] w (PutPost w [] 6) := by
  have h2 := (unfit hf).1
  have hl := (fits_len m v hv).2 hf
  obtain ⟨B, HB⟩ := named (Lib.bitLen v : Int)
  rw [HB.out] at hl
  have HL := Lib.hid (fun w => len64_any v w hv B HB.out)
  have HW := Lib.hid (width_yes (m : Int) w (by omega) (by omega))
  clear hf hv
  go_enter Tryz.func66, Tryz.ntmps66
  go_wp2_with (first | (go_at_call 70; refine HW.out.mono ?_; rintro e w' ⟨rfl, rfl⟩) | (go_at_call 84; refine (HL.out _).mono ?_; rintro e w' ⟨rfl, rfl⟩))
  go_ret2
  exact PutPost.empty w 6

set_option maxHeartbeats 1600000 in
theorem fieldPut_ok (a : Option Addr) (len cap m v : Nat) (l : List Int) (big : Bool) (w : World) (hB : Bytes w a len l) (hnil : a = none → cap = 0) (hlen : len ≤ 100000) (h1 : 1 ≤ m) (h2 : m ≤ 8) (hv : Fit64 v) (hf : fitsIn m v = true) :
    Calls Tryz.prog 66 #[.slice a len cap, .int .i64 m, .bool big, .int .u64 v] w (PutPost w (l ++ numB big m v) 0) := by
  have hl : ¬ ((m : Int) * 8 < (Lib.bitLen v : Int)) := fun h => by
    rw [(fits_len m v hv).1 h] at hf
    cases hf
  obtain ⟨B, HBL⟩ := named (Lib.bitLen v : Int)
  rw [HBL.out] at hl
  have HL := Lib.hid (fun w => len64_any v w hv B HBL.out)
  have HW := Lib.hid (width_yes (m : Int) w (by omega) (by omega))
  have HC : Hid (Calls Tryz.prog 86 #[.slice a len cap, .slice (some ⟨w.heap.size, 0, none⟩) 1 1] (w.alloc (.cells #[.int .i64 m] 3)) fun e w' => ∃ a' c', e = .returned (.slice a' len c') ∧ Own w' w.heap.size (.slice a' len c') len l ∧ Below w.heap.size (w.alloc (.cells #[.int .i64 m] 3)) w') :=
    room_any a len cap w.heap.size 1 w.heap.size l [m] (w.alloc (.cells #[.int .i64 m] 3)) (hB.later ((Below.refl _ _).alloc (Nat.le_refl _) _)) hnil hlen
      (fun i hi => ⟨one_int w m i hi, by obtain rfl : i = 0 := by omega
                                         simp [sumTo]; omega⟩) (by simp) (by omega) (by simp)
  have HN := Lib.hid (fun (a : Option Addr) (c : Nat) (w1 : World) (hO : Own w1 w.heap.size (.slice a len c) len l) (hb : w.heap.size ≤ w1.heap.size) => number_any a len c m v w.heap.size l big w1 hO (by omega) h2 hb)
  have hD := numB_len big m v
  obtain ⟨D, HDD⟩ := named (numB big m v)
  rw [HDD.out] at hD HN ⊢
  have HLL : Hid ((l ++ D).length = len + m) := by rw [Hid, List.length_append, hD, hB.1]
  clear hB hnil hf hv hD
  go_enter Tryz.func66, Tryz.ntmps66
  go_wp2_with (first
    | (go_at_call 70; refine HW.out.mono ?_; rintro e w' ⟨rfl, rfl⟩)
    | (go_at_call 84; refine (HL.out _).mono ?_; rintro e w' ⟨rfl, rfl⟩)
    | (go_at_call 86; refine HC.out.mono ?_; rintro e w1 ⟨a1, c1, rfl, g1, g2⟩; have HO := Lib.hid g1; have HG : Hid (Below w.heap.size w w1) := ((Below.refl _ _).alloc (Nat.le_refl _) _).trans g2; clear g1 g2)
    | (go_at_call 85; refine (HN.out a1 c1 _ HO.out HG.out.size).mono ?_; rintro e w2 ⟨a2, c2, rfl, g1, g2⟩; have HO2 := Lib.hid g1; have HG2 : Hid (Below w.heap.size w w2) := HG.out.trans g2; clear g1 g2))
  go_ret2
  exact PutPost.own 0 HO2.out HG2.out

set_option maxHeartbeats 800000 in
theorem fieldGet_arg (sl at' : Value) (n : Int) (big : Bool) (w : World) (h : n < 1 ∨ 8 < n) :
    Calls Tryz.prog 48 #[sl, at', .int .i64 n, .bool big] w (GetPost w 0 1) := by
  have HW := Lib.hid (width_no n w h)
  go_enter Tryz.func48, Tryz.ntmps48
  go_wp2_with (go_at_call 70; refine HW.out.mono ?_; rintro e w' ⟨rfl, rfl⟩)
  go_ret2
  exact ⟨rfl, Below.refl _ _⟩

set_option maxHeartbeats 800000 in
theorem fieldGet_range (a : Option Addr) (len cap m : Nat) (at' : Int) (l : List Int) (big : Bool) (w : World) (hB : Bytes w a len l) (hcap : len ≤ cap) (hat : In64 at') (h1 : 1 ≤ m) (h2 : m ≤ 8) (h : at' < 0 ∨ (len : Int) < at' + m) :
    Calls Tryz.prog 48 #[.slice a len cap, .int .i64 at', .int .i64 m, .bool big] w (GetPost w 0 6) := by
  have HW := Lib.hid (width_yes (m : Int) w (by omega) (by omega))
  have HP := Lib.hid (part_out a len cap m at' l w hB hcap hat.1 hat.2 (by omega) h)
  clear hB h
  go_enter Tryz.func48, Tryz.ntmps48
  go_wp2_with (first
    | (go_at_call 70; refine HW.out.mono ?_; rintro e w' ⟨rfl, rfl⟩)
    | (go_at_call 71; refine HP.out.mono ?_; rintro e w1 ⟨rfl, g1⟩; have HG := Lib.hid g1; clear g1))
  go_ret2
  exact ⟨rfl, HG.out⟩

set_option maxHeartbeats 1600000 in
theorem fieldGet_ok (a : Option Addr) (len cap m p : Nat) (l : List Int) (big : Bool) (w : World) (hB : Bytes w a len l) (hcap : len ≤ cap) (h1 : 1 ≤ m) (h2 : m ≤ 8) (hp : p + m ≤ len) :
    Calls Tryz.prog 48 #[.slice a len cap, .int .i64 p, .int .i64 m, .bool big] w (GetPost w (getTo big m p l m) 0) := by
  have HW := Lib.hid (width_yes (m : Int) w (by omega) (by omega))
  have HP := Lib.hid (part_ok a len cap p m l w hB hcap hp)
  have hall : accTo big m ((l.drop p).take m) m = getTo big m p l m := by rw [acc_all, getTo_part big m p l (by rw [hB.1]; exact hp) m (Nat.le_refl _)]
  obtain ⟨E, HE⟩ := named ((l.drop p).take m)
  rw [HE.out] at hall HP
  rw [← hall]
  have hA : ∀ j, accTo big m E (j + 1) = accTo big m E j + (E.getD j 0).toNat * 256 ^ (if big then m - 1 - j else j) := fun _ => rfl
  have hF : ∀ j, j < m → Fit64 (accTo big m E j) ∧ (accTo big m E j % 2 ^ (8 * ((if big then m - 1 - j else j) + 1)) = 0 ∨ accTo big m E j < 2 ^ (8 * (if big then m - 1 - j else j))) := fun j hj =>
    acc_fit (by rw [← HE.out]; exact fun c hc => hB.small.2 c (List.mem_of_mem_drop (List.mem_of_mem_take hc))) big m j h2 hj
  have h0 : accTo big m E 0 = 0 := rfl
  obtain ⟨F, HFF⟩ := named (accTo big m E)
  rw [HFF.out] at hA hF h0 ⊢
  have HA := Lib.hid hA
  have HF := Lib.hid hF
  have H0 := Lib.hid h0
  clear hB hall hp hA hF h0
  cases big
  all_goals
    go_enter Tryz.func48, Tryz.ntmps48
    go_wp2_with (first
      | (go_at_call 70; refine HW.out.mono ?_; rintro e w' ⟨rfl, rfl⟩)
      | (go_at_call 71; refine HP.out.mono ?_; rintro e w1 ⟨a1, rfl, g1, g2⟩; obtain ⟨b, off, rfl⟩ := g1.lies (by omega); have HB := Lib.hid g1; have HG := Lib.hid g2; clear g1 g2))
    go_loop [12, 29] (fun x i => ∃ j t : Nat, j ≤ m ∧ i = .int .i64 j ∧ x = .int .u64 t ∧ Hid (t = F j)) (fun _ i => m - (intOf i).toNat)
    case atStart => exact ⟨0, 0, Nat.zero_le _, rfl, rfl, H0.out.symm⟩
    case round =>
      obtain ⟨j, t, hj, rfl, rfl, HT⟩ := hrel
      by_cases hlt : j < m
      · obtain ⟨q, hq, hq2⟩ : ∃ q : Nat, (m : Int) - 1 - (j : Int) = (q : Int) ∧ Hid (q = m - 1 - j) := ⟨m - 1 - j, by omega, rfl⟩
        have hq3 : q < m := by have := hq2.out; omega
        have hcell := HB.out.cellAt j hlt
        have hc := HB.out.small.at (k := j) (by rw [HB.out.1]; exact hlt)
        have hFj := HF.out j hlt
        have hAj := HA.out j
        obtain ⟨c, HC⟩ := named (E.getD j 0)
        rw [HC.out] at hcell hc hAj
        obtain ⟨hc0, hc1⟩ := hc
        first
          | (have HX : Hid (bits .or .u64 (t : Int) (IntKind.u64.wrap (c * 2 ^ (q * 8))) = ((F (j + 1) : Nat) : Int)) := by
               rw [if_pos trivial, ← hq2.out, ← HT.out] at hFj hAj
               rw [Hid, hAj]
               exact or_at t q c hc0 hc1 (by omega) hFj.1 hFj.2
             clear hFj hAj
             go_wp2_with (go_at_call 72; go_in)
             go_round
             case rel => exact ⟨j + 1, F (j + 1), by omega, by go_num, int_eq HX.out, rfl⟩
             case measure => simp [intOf]; omega)
          | (have HX : Hid (bits .or .u64 (t : Int) (IntKind.u64.wrap (c * 2 ^ (j * 8))) = ((F (j + 1) : Nat) : Int)) := by
               rw [if_neg Bool.false_ne_true, ← HT.out] at hFj hAj
               rw [Hid, hAj]
               exact or_at t j c hc0 hc1 (by omega) hFj.1 hFj.2
             clear hFj hAj
             go_wp2_with (go_at_call 72; go_in)
             go_round
             case rel => exact ⟨j + 1, F (j + 1), by omega, by go_num, int_eq HX.out, rfl⟩
             case measure => simp [intOf]; omega)
      · obtain rfl : j = m := by omega
        go_wp2
        go_ret2
        exact ⟨ret_pair (by rw [HT.out]), HG.out⟩

set_option maxHeartbeats 800000 in
theorem fieldText_long (sl : Value) (s : ByteArray) (w : World) (hs : s.size ≤ 140737488351232) (h : 65535 < s.size) :
    Calls Tryz.prog 67 #[sl, .string s] w (PutPost w [] 2) := by
  go_enter Tryz.func67, Tryz.ntmps67
  go_wp2
  go_ret2
  exact PutPost.empty w 2

set_option maxHeartbeats 1600000 in
theorem fieldText_ok (a : Option Addr) (len cap : Nat) (l : List Int) (s : ByteArray) (w : World) (hB : Bytes w a len l) (hnil : a = none → cap = 0) (hlen : len ≤ 100000) (h : s.size ≤ 65535) :
    Calls Tryz.prog 67 #[.slice a len cap, .string s] w (PutPost w (l ++ textB s) 0) := by
  have HT : Hid (textB s = numB false 2 s.size ++ strB s) := rfl
  have HC : Hid (Calls Tryz.prog 86 #[.slice a len cap, .slice (some ⟨w.heap.size, 0, none⟩) 2 2] (w.alloc (.cells #[.int .i64 2, .int .i64 s.size] 3)) fun e w' => ∃ a' c', e = .returned (.slice a' len c') ∧ Own w' w.heap.size (.slice a' len c') len l ∧ Below w.heap.size (w.alloc (.cells #[.int .i64 2, .int .i64 s.size] 3)) w') :=
    room_any a len cap w.heap.size 2 w.heap.size l [2, s.size] (w.alloc (.cells #[.int .i64 (2 : Nat), .int .i64 s.size] 3)) (hB.later ((Below.refl _ _).alloc (Nat.le_refl _) _)) hnil hlen
      (fun i hi => ⟨two_ints w 2 s.size i hi, by
        have : i = 0 ∨ i = 1 := by omega
        rcases this with rfl | rfl <;> simp [sumTo]
        omega⟩) (by simp) (by omega) (by simp)
  have HN : Hid (∀ (a : Option Addr) (c : Nat) (w1 : World), Own w1 w.heap.size (.slice a len c) len l → w.heap.size ≤ w1.heap.size → Calls Tryz.prog 85 #[.slice a len c, .int .i64 2, .bool false, .int .u64 s.size] w1 fun e w' => ∃ a' c', e = .returned (.slice a' (len + 2) c') ∧ Own w' w.heap.size (.slice a' (len + 2) c') (len + 2) (l ++ numB false 2 s.size) ∧ Below w.heap.size w1 w') :=
    fun a c w1 hO hb => number_any a len c 2 s.size w.heap.size l false w1 hO (by omega) (by omega) hb
  obtain ⟨D, HDD⟩ := named (numB false 2 s.size)
  rw [HDD.out] at HT HN
  clear hB hnil
  go_enter Tryz.func67, Tryz.ntmps67
  go_wp2_with (first
    | (go_at_call 86; refine HC.out.mono ?_; rintro e w1 ⟨a1, c1, rfl, g1, g2⟩; have HO := Lib.hid g1; have HG : Hid (Below w.heap.size w w1) := ((Below.refl _ _).alloc (Nat.le_refl _) _).trans g2; clear g1 g2)
    | (go_at_call 85; refine (HN.out a1 c1 _ HO.out HG.out.size).mono ?_; rintro e w2 ⟨a2, c2, rfl, g1, g2⟩; have HO2 := Lib.hid g1; have HG2 : Hid (Below w.heap.size w w2) := HG.out.trans g2; clear g1 g2)
    | (at_builtin; refine append_str rfl (.tmp 20) (.tmp 21) rfl w.heap.size _ (len + 2) _ rfl HO2.out s rfl (by omega) HG2.out.size ?_; intro a3 c3 w3 g1 g2; have HO3 := Lib.hid g1; have HG3 : Hid (Below w.heap.size w w3) := HG2.out.trans g2; clear g1 g2))
  go_ret2
  have e := HO3.out
  rw [List.append_assoc, ← HT.out] at e
  exact PutPost.own 0 e HG3.out

set_option maxHeartbeats 800000 in
theorem fieldRead_range (a : Option Addr) (len cap : Nat) (at' : Int) (l : List Int) (w : World) (hB : Bytes w a len l) (hcap : len ≤ cap) (hat : In64 at') (h : at' < 0 ∨ (len : Int) < at' + 2) :
    Calls Tryz.prog 49 #[.slice a len cap, .int .i64 at'] w (ReadPost w ByteArray.empty 0 6) := by
  have H : Hid (Calls Tryz.prog 48 #[.slice a len cap, .int .i64 at', .int .i64 2, .bool false] w (GetPost w 0 6)) := fieldGet_range a len cap 2 at' l false w hB hcap hat (by omega) (by omega) h
  clear hB h
  go_enter Tryz.func49, Tryz.ntmps49
  go_wp2_with (go_at_call 48; refine H.out.mono ?_; rintro e w1 ⟨rfl, g1⟩; have HG := Lib.hid g1; clear g1)
  go_ret3
  exact ⟨rfl, HG.out⟩

set_option maxHeartbeats 800000 in
theorem fieldRead_short (a : Option Addr) (len cap p : Nat) (l : List Int) (w : World) (hB : Bytes w a len l) (hcap : len ≤ cap) (hp : p + 2 ≤ len) (h : len < p + 2 + readN p l) :
    Calls Tryz.prog 49 #[.slice a len cap, .int .i64 p] w (ReadPost w ByteArray.empty 0 6) := by
  have H0 := fieldGet_ok a len cap 2 p l false w hB hcap (by omega) (by omega) hp
  have hn := readN_lt hB.small.2 p
  have hsm := hB.small.1
  rw [hB.1] at hsm
  have HP0 : ∀ w1, Below w.heap.size w w1 → Calls Tryz.prog 71 #[.slice a len cap, .int .i64 ((p : Int) + 2), .int .i64 (readN p l : Nat)] w1 fun e w' => e = .returned (.tuple #[.slice none 0 0, .bool false]) ∧ Below w1.heap.size w1 w' :=
    fun w1 hb => part_out a len cap (readN p l) ((p : Int) + 2) l w1 (hB.later hb) hcap (by omega) (by omega) (by omega) (by omega)
  obtain ⟨n, HN⟩ := named (readN p l)
  have H : Hid (Calls Tryz.prog 48 #[.slice a len cap, .int .i64 p, .int .i64 2, .bool false] w (GetPost w n 0)) := by rw [← HN.out]; exact H0
  rw [HN.out] at hn HP0
  have HP := Lib.hid HP0
  clear hB h H0 HN HP0
  go_enter Tryz.func49, Tryz.ntmps49
  go_wp2_with (first
    | (go_at_call 48; refine H.out.mono ?_; rintro e w1 ⟨rfl, g1⟩; have HG := Lib.hid g1; clear g1)
    | (go_at_call 71; refine (HP.out _ HG.out).mono ?_; rintro e w2 ⟨rfl, g1⟩; have HG2 := Lib.hid (HG.out.trans (g1.mono HG.out.size)); clear g1))
  go_ret3
  exact ⟨rfl, HG2.out⟩

set_option maxHeartbeats 800000 in
theorem fieldRead_ok (a : Option Addr) (len cap p : Nat) (l : List Int) (w : World) (hB : Bytes w a len l) (hcap : len ≤ cap) (hp : p + 2 + readN p l ≤ len) :
    Calls Tryz.prog 49 #[.slice a len cap, .int .i64 p] w (ReadPost w (strOfNums ((l.drop (p + 2)).take (readN p l))) ((p + 2 + readN p l : Nat) : Int) 0) := by
  have H0 := fieldGet_ok a len cap 2 p l false w hB hcap (by omega) (by omega) (by omega)
  have hn := readN_lt hB.small.2 p
  have hsm := hB.small.1
  rw [hB.1] at hsm
  have HP0 : ∀ w1, Below w.heap.size w w1 → Calls Tryz.prog 71 #[.slice a len cap, .int .i64 ((p : Int) + 2), .int .i64 (readN p l : Nat)] w1 fun e w' =>
      ∃ a', e = .returned (.tuple #[.slice a' (readN p l) (readN p l), .bool true]) ∧ Bytes w' a' (readN p l) ((l.drop (p + 2)).take (readN p l)) ∧ Below w1.heap.size w1 w' :=
    fun w1 hb => part_ok a len cap (p + 2) (readN p l) l w1 (hB.later hb) hcap hp
  obtain ⟨n, HN⟩ := named (readN p l)
  have H : Hid (Calls Tryz.prog 48 #[.slice a len cap, .int .i64 p, .int .i64 2, .bool false] w (GetPost w n 0)) := by rw [← HN.out]; exact H0
  rw [HN.out] at hn hp HP0 ⊢
  obtain ⟨E, HE⟩ := named ((l.drop (p + 2)).take n)
  rw [HE.out] at HP0 ⊢
  have HP := Lib.hid HP0
  clear hB H0 HN HP0 HE
  go_enter Tryz.func49, Tryz.ntmps49
  go_wp2_with (first
    | (go_at_call 48; refine H.out.mono ?_; rintro e w1 ⟨rfl, g1⟩; have HG := Lib.hid g1; clear g1)
    | (go_at_call 71; refine (HP.out _ HG.out).mono ?_; rintro e w2 ⟨a2, rfl, g1, g2⟩; have hcv := conv_str g1 n; have HG2 := Lib.hid (HG.out.trans (g2.mono HG.out.size)); clear g1 g2))
  go_ret3
  exact ⟨rfl, HG2.out⟩
end Go.Proofs.YtdffgnpldapciaaGreatDoor
