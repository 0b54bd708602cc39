/-
  What Pack's own helper 'appendSequence' makes. Conditions: short texts, a distance below 65536.
-/
import Derived.Test.YtlkpedknhjgdiaaK3
namespace Go.Proofs.Ytlkpedknhjgdiaa
open Go.RowKit

theorem seq_head {xs l : List Int} {far m : Nat} {f0 f1 : Int} (h0 : f0 = ((far % 256 : Nat) : Int)) (h1 : f1 = ((far / 256 : Nat) : Int)) : xs ++ headL l m ++ [f0, f1] ++ addedL m = xs ++ seqL l far m := by
  subst h0 h1
  simp [headL, seqL]
theorem head_len (l : List Int) (m : Nat) : (headL l m).length ≤ 2 * l.length + 2 := by
  have := addedL_len l.length
  simp [headL]
  omega
theorem le4 {xs l : List Int} {m n n5 k : Nat} (h : (xs ++ headL l m).length = n5) (hx : xs.length = n) (hl : l.length = k) (hn : n ≤ 100000) (hk : k ≤ 20000) : n5 ≤ 150000 := by
  have := head_len l m
  rw [List.length_append, hx] at h
  omega
set_option maxHeartbeats 1600000 in
theorem appendSequence_any (base n c len1 cap1 far m : Nat) (a a1 : Option Addr) (xs l1 : List Int) (w : World) (hO : Own w base (.slice a n c) n xs) (hb : base ≤ w.heap.size) (hn : n ≤ 100000) (hB : Bytes w a1 len1 l1) (hlt : ∀ x, a1 = some x → len1 ≠ 0 → x.block < base) (hn1 : a1 = none → cap1 = 0) (hlen : len1 ≤ 20000) (hm : m ≤ 20000) (hfar : far < 65536) :
    Calls Try.prog 23 #[.slice a n c, .slice a1 len1 cap1, .int .i64 far, .int .i64 ((m : Int) + 4)] w (OwnPost base w (xs ++ seqL l1 far m)) := by
  have H1 := Lib.hid (appendLiterals_any base n c len1 cap1 m a a1 xs l1 w hO hb hn hB hlt hn1 hlen hm)
  have HX := Lib.hid hO.len
  have HL := Lib.hid hB.1
  have HBA := Lib.hid hb
  clear hO hb hB hlt hn1
  go_enter Try.func23, Try.ntmps23
  go_wp2_with (first
    | (go_at_call 25; ((with_reducible refine H1.out.mono ?_); rintro e w4 ⟨a4, n4, c4, hl4, rfl, g1, g2⟩; have HO4 := Lib.hid g1; have HG4 := Lib.hid g2; have hn4 := le4 hl4 HX.out HL.out hn hlen; clear hl4 g1 g2))
    | (at_builtin; refine append_more rfl (.tmp 14) (.tmp 20) rfl base _ n4 _ rfl (HO4.out.alloc _) _ 2 2 [_, _] rfl (fun e => by cases e) (two_bytes _ _ _ (by omega) (by omega)) (by omega) (Nat.le_trans HBA.out (Nat.le_trans HG4.out.size (by simp))) ?_; intro a7 c7 w7 g1 g2; have HO7 := Lib.hid g1; have HG7 : Hid (Below base w w7) := (HG4.out.alloc (Nat.le_trans HBA.out HG4.out.size) _).trans g2; clear g1 g2)
    | (go_at_call 30; ((with_reducible refine (appendAdded_any base _ c7 m a7 _ w7 HO7.out (Nat.le_trans HBA.out HG7.out.size) (by omega) (by omega)).mono ?_); rintro e w8 ⟨a8, n8, c8, hl8, rfl, hO8, hb8⟩; have HO8 := Lib.hid hO8; have HG8 := Lib.hid (HG7.out.trans hb8); clear hl8 hO8 hb8)))
  go_ret
  have e8 := HO8.out.to (seq_head (far := far) (by omega) (by omega))
  exact ⟨a8, n8, c8, e8.len, rfl, e8, HG8.out⟩
end Go.Proofs.Ytlkpedknhjgdiaa
