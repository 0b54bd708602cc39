/-
  What the reference's Text and Read answer. Conditions: the slice reads as bytes and has no more than 100000 of them, the text no more than 100000.
-/
import Derived.Test.YtdffgnpldapciaaGreatDoorS2
import Derived.Test.YtdffgnpldapciaaGreatDoorR2
namespace Go.Proofs.YtdffgnpldapciaaGreatDoor
open Go.RowKit

set_option maxHeartbeats 400000 in
theorem refText_long (sl : Value) (s : ByteArray) (w : World) (hs : s.size ≤ 140737488351232) (h : 65535 < s.size) :
    Calls Tryz.prog 40 #[sl, .string s] w (PutPost w [] 2) := by
  go_enter Tryz.func40, Tryz.ntmps40
  go_wp2
  go_ret2
  exact PutPost.empty w 2

set_option maxRecDepth 100000 in
set_option maxHeartbeats 800000 in
theorem refText_ok (a : Option Addr) (len cap : Nat) (l : List Int) (s : ByteArray) (w : World) (hB : Bytes w a len l) (hnil : a = none → cap = 0) (hlen : len ≤ 100000) (h : s.size ≤ 65535) :
    Calls Tryz.prog 40 #[.slice a len cap, .string s] w (PutPost w (l ++ textB s) 0) := by
  have HB := Lib.hid hB
  have HN := Lib.hid hnil
  have HT : Hid (textB s = [(s.size : Int) % 256, (s.size : Int) / 256] ++ strB s) := by rw [Hid, textB, numB_two, show (s.size : Int) / 256 % 256 = (s.size : Int) / 256 by omega]
  clear hB hnil
  go_enter Tryz.func40, Tryz.ntmps40
  go_wp2_with (first
    | (at_builtin; refine append_copy rfl (.tmp 10) (.tmp 11) rfl w.heap.size rfl a len cap l rfl HN.out HB.out (by omega) (Nat.le_refl _) ?_; intro a1 c1 w1 g1 g2; have HO := Lib.hid g1; have HG := Lib.hid g2; clear g1 g2)
    | (at_builtin; refine append_more rfl (.tmp 13) (.tmp 21) rfl w.heap.size _ len l rfl (HO.out.alloc _) _ 2 2 [_, _] rfl (fun e => by cases e) (two_bytes _ _ _ (by omega) (by omega)) (by omega) (Nat.le_trans HG.out.size (by simp)) ?_; intro a2 c2 w2 g1 g2; have HO2 := Lib.hid g1; have HG2 : Hid (Below w.heap.size w w2) := (HG.out.alloc HG.out.size _).trans g2; clear g1 g2)
    | (at_builtin; refine append_str rfl (.tmp 23) (.tmp 24) rfl w.heap.size _ (len + 2) _ rfl HO2.out s rfl (by omega) HG2.out.size ?_; intro a3 c3 w3 g1 g2; have HO3 := Lib.hid g1; have HG3 : Hid (Below w.heap.size w w3) := HG2.out.trans g2; clear g1 g2))
  go_ret2
  have e := HO3.out
  rw [List.append_assoc, ← HT.out] at e
  exact PutPost.own 0 e HG3.out

/-- What 'Read' hands back where the whole text is there. -/
def readN (p : Nat) (l : List Int) : Nat := getTo false 2 p l 2
theorem readN_lt {l : List Int} (h : ∀ c ∈ l, 0 ≤ c ∧ c < 256) (p : Nat) : readN p l < 65536 := getTo_lt h false 2 p 2

set_option maxHeartbeats 400000 in
theorem refRead_range (a : Option Addr) (len cap : Nat) (at' : Int) (w : World) (hlen : len ≤ 140737488351232) (h : at' < 0 ∨ (len : Int) < at' + 2) :
    Calls Tryz.prog 36 #[.slice a len cap, .int .i64 at'] w fun e w' => e = .returned (.tuple #[.string ByteArray.empty, .int .i64 0, .int .i64 6]) ∧ w = w' := by
  have H := Lib.hid (refGet_range a len cap 2 at' false w (by omega) (by omega) hlen h)
  go_enter Tryz.func36, Tryz.ntmps36
  go_wp2_with (go_at_call 35; refine H.out.mono ?_; rintro e w' ⟨rfl, rfl⟩)
  go_ret3
  exact ⟨rfl, rfl⟩

set_option maxHeartbeats 400000 in
theorem refRead_short (a : Option Addr) (len cap p : Nat) (l : List Int) (w : World) (hB : Bytes w a len l) (hp : p + 2 ≤ len) (h : len < p + 2 + readN p l) :
    Calls Tryz.prog 36 #[.slice a len cap, .int .i64 p] w fun e w' => e = .returned (.tuple #[.string ByteArray.empty, .int .i64 0, .int .i64 6]) ∧ w = w' := by
  have H := Lib.hid (refGet_ok a len cap 2 p l false w hB (by omega) (by omega) hp)
  have hn := readN_lt hB.small.2 p
  have hlen := hB.1
  have hsm := hB.small.1
  rw [hlen] at hsm
  obtain ⟨n, HN⟩ := named (readN p l)
  rw [HN.out] at hn h
  have H2 : Hid (Calls Tryz.prog 35 #[.slice a len cap, .int .i64 p, .int .i64 2, .bool false] w fun e w' => e = .returned (.tuple #[.int .u64 n, .int .i64 0]) ∧ w = w') := by rw [← HN.out]; exact H.out
  clear hB hlen
  go_enter Tryz.func36, Tryz.ntmps36
  go_wp2_with (go_at_call 35; refine H2.out.mono ?_; rintro e w' ⟨rfl, rfl⟩)
  go_ret3
  exact ⟨rfl, rfl⟩

set_option maxRecDepth 100000 in
set_option maxHeartbeats 800000 in
theorem refRead_ok (a : Option Addr) (len cap p : Nat) (l : List Int) (w : World) (hB : Bytes w a len l) (hcap : len ≤ cap) (hnil : a = none → cap = 0) (hp : p + 2 + readN p l ≤ len) :
    Calls Tryz.prog 36 #[.slice a len cap, .int .i64 p] w fun e w' => e = .returned (.tuple #[.string (strOfNums ((l.drop (p + 2)).take (readN p l))), .int .i64 ((p + 2 + readN p l : Nat) : Int), .int .i64 0]) ∧ w = w' := by
  have H := Lib.hid (refGet_ok a len cap 2 p l false w hB (by omega) (by omega) (by omega))
  have hn := readN_lt hB.small.2 p
  have hsm := hB.small.1
  rw [hB.1] at hsm
  obtain ⟨a2, c2, hsl, hB2, _⟩ := slice_mid hB hcap hnil (p + 2) (p + 2 + readN p l) (by omega) hp
  obtain ⟨n, HN⟩ := named (readN p l)
  have H2 : Hid (Calls Tryz.prog 35 #[.slice a len cap, .int .i64 p, .int .i64 2, .bool false] w fun e w' => e = .returned (.tuple #[.int .u64 n, .int .i64 0]) ∧ w = w') := by rw [← HN.out]; exact H.out
  rw [HN.out] at hn hp hsl hB2 ⊢
  rw [show p + 2 + n - (p + 2) = n by omega] at hsl hB2
  have hcv := conv_str hB2 c2
  have hsl' : ∀ w' : World, (Instr.slice 22 (.slice a len cap) (some (.int .i64 ((p : Int) + 2))) (some (.int .i64 ((p : Int) + 2 + (n : Int)))) none).run Tryz.prog w' = .ok (.slice a2 n c2) w' := hsl
  clear hB hsl hB2 H HN
  go_enter Tryz.func36, Tryz.ntmps36
  go_wp2_with (go_at_call 35; refine H2.out.mono ?_; rintro e w' ⟨rfl, rfl⟩)
  go_ret3
  exact ⟨rfl, rfl⟩
end Go.Proofs.YtdffgnpldapciaaGreatDoor
