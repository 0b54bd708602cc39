/-
  What the reference's Text and Read answer. Conditions: the slice reads as bytes and has no more than 100000 of them, the text no more than 100000.
-/
import Derived.Test.YtdffgnpldapciaaDoorS2
import Derived.Test.YtdffgnpldapciaaDoorR2
namespace Go.Proofs.YtdffgnpldapciaaDoor
open Go.RowKit

set_option maxHeartbeats 400000 in
theorem refText_long (sl : Value) (s : ByteArray) (w : World) (hs : s.size ≤ 140737488351232) (h : 65535 < s.size) :
    Calls Tryd.prog 21 #[sl, .string s] w (PutPost w [] 2) := by
  go_enter Tryd.func21, Tryd.ntmps21
  go_wp2
  go_ret2
  exact PutPost.empty w 2

set_option maxHeartbeats 800000 in
theorem refText_ok (a : Option Addr) (len cap : Nat) (l : List Int) (s : ByteArray) (w : World) (hB : Bytes w a len l) (hnil : a = none → cap = 0) (hlen : len ≤ 100000) (h : s.size ≤ 65535) :
    Calls Tryd.prog 21 #[.slice a len cap, .string s] w (PutPost w (l ++ textB s) 0) := by
  have HB := Lib.hid hB
  have HN := Lib.hid hnil
  have HT : Hid (textB s = [(s.size : Int) % 256, (s.size : Int) / 256] ++ strB s) := by rw [Hid, textB, numB_two, show (s.size : Int) / 256 % 256 = (s.size : Int) / 256 by omega]
  clear hB hnil
  go_enter Tryd.func21, Tryd.ntmps21
  go_wp2_with (first
    | (at_builtin; refine append_copy rfl (.tmp 10) (.tmp 11) rfl w.heap.size rfl a len cap l rfl HN.out HB.out (by omega) (Nat.le_refl _) ?_; intro a1 c1 w1 g1 g2; have HO := Lib.hid g1; have HG := Lib.hid g2; clear g1 g2)
    | (at_builtin; refine append_more rfl (.tmp 13) (.tmp 21) rfl w.heap.size _ len l rfl (HO.out.alloc _) _ 2 2 [_, _] rfl (fun e => by cases e) (two_bytes _ _ _ (by omega) (by omega)) (by omega) (Nat.le_trans HG.out.size (by simp)) ?_; intro a2 c2 w2 g1 g2; have HO2 := Lib.hid g1; have HG2 : Hid (Below w.heap.size w w2) := (HG.out.alloc HG.out.size _).trans g2; clear g1 g2)
    | (at_builtin; refine append_str rfl (.tmp 23) (.tmp 24) rfl w.heap.size _ (len + 2) _ rfl HO2.out s rfl (by omega) HG2.out.size ?_; intro a3 c3 w3 g1 g2; have HO3 := Lib.hid g1; have HG3 : Hid (Below w.heap.size w w3) := HG2.out.trans g2; clear g1 g2))
  go_ret2
  have e := HO3.out
  rw [List.append_assoc, ← HT.out] at e
  exact PutPost.own 0 e HG3.out

/-- What 'Read' hands back where the whole text is there. -/
def readN (p : Nat) (l : List Int) : Nat := getTo false 2 p l 2
theorem readN_lt {l : List Int} (h : ∀ c ∈ l, 0 ≤ c ∧ c < 256) (p : Nat) : readN p l < 65536 := getTo_lt h false 2 p 2

end Go.Proofs.YtdffgnpldapciaaDoor
