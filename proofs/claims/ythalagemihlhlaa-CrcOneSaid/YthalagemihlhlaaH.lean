/-
  What Sum, More and Finger answer over a slice that reads as bytes, and that the document's examples hold ('awake'). Conditions: the slice reads as bytes.
-/
import Derived.Test.YthalagemihlhlaaG
import Derived.Test.YthalagemihlhlaaC
import Derived.Lib.SlBytesConst
namespace Go.Proofs.Ythalagemihlhlaa
open Go.RowKit

/-- The slice reads as the bytes l. -/
def Bytes (w : World) (a : Option Addr) (len : Nat) (l : List Int) : Prop :=
  l.length = len ∧ Small l ∧ (len = 0 ∨ ∃ b off, a = some ⟨b, off, none⟩ ∧ b < w.heap.size ∧ Lies w b off l)
theorem Bytes.later {w w' : World} {a : Option Addr} {len : Nat} {l : List Int} (h : Bytes w a len l) (hb : Below w.heap.size w w') : Bytes w' a len l := by
  obtain ⟨h1, h2, h3⟩ := h
  refine ⟨h1, h2, ?_⟩
  rcases h3 with h3 | ⟨b, off, ha, hlt, hc⟩
  · exact Or.inl h3
  · exact Or.inr ⟨b, off, ha, Nat.lt_of_lt_of_le hlt hb.size, fun i hi => (hb.cell (p := ⟨b, off + i, none⟩) hlt).trans (hc i hi)⟩
theorem Bytes.small {w : World} {a : Option Addr} {len : Nat} {l : List Int} (h : Bytes w a len l) : Small l := h.2.1

theorem more_any (a : Option Addr) (len cap s : Nat) (l : List Int) (w : World) (h : Bytes w a len l) (hs : s < 4294967296) :
    Calls Try.prog 13 #[.int .u32 s, .slice a len cap] w fun e w' => e = .returned (.int .u32 (moreOf s l : Nat)) ∧ Below w.heap.size w w' := by
  obtain ⟨rfl, h2, h3⟩ := h
  rcases h3 with h3 | ⟨b, off, rfl, hlt, hc⟩
  · obtain rfl : l = [] := List.eq_nil_of_length_eq_zero h3
    exact more_nil a cap s w hs
  · exact more_row b off cap s l w h2 hs hlt hc
theorem refMore_any (a : Option Addr) (len cap s : Nat) (l : List Int) (w : World) (h : Bytes w a len l) (hs : s < 4294967296) :
    Calls Try.prog 14 #[.int .u32 s, .slice a len cap] w fun e w' => e = .returned (.int .u32 (moreOf s l : Nat)) ∧ w = w' := by
  obtain ⟨rfl, h2, h3⟩ := h
  rcases h3 with h3 | ⟨b, off, rfl, hlt, hc⟩
  · obtain rfl : l = [] := List.eq_nil_of_length_eq_zero h3
    exact refMore_nil a cap s w hs
  · exact refMore_row b off cap s l w h2 hs hc
theorem finger_any (a : Option Addr) (len cap : Nat) (l : List Int) (w : World) (h : Bytes w a len l) :
    Calls Try.prog 15 #[.slice a len cap] w fun e w' => e = .returned (.int .u64 (fingerOf l : Nat)) ∧ w = w' := by
  obtain ⟨rfl, h2, h3⟩ := h
  rcases h3 with h3 | ⟨b, off, rfl, hlt, hc⟩
  · obtain rfl : l = [] := List.eq_nil_of_length_eq_zero h3
    exact finger_nil a cap w
  · exact finger_row b off cap l w h2 hc
theorem refFinger_any (a : Option Addr) (len cap : Nat) (l : List Int) (w : World) (h : Bytes w a len l) :
    Calls Try.prog 16 #[.slice a len cap] w fun e w' => e = .returned (.int .u64 (fingerOf l : Nat)) ∧ w = w' := by
  obtain ⟨rfl, h2, h3⟩ := h
  rcases h3 with h3 | ⟨b, off, rfl, hlt, hc⟩
  · obtain rfl : l = [] := List.eq_nil_of_length_eq_zero h3
    exact refFinger_nil a cap w
  · exact refFinger_row b off cap l w h2 hc
theorem sum_any (a : Option Addr) (len cap : Nat) (l : List Int) (w : World) (h : Bytes w a len l) :
    Calls Try.prog 11 #[.slice a len cap] w fun e w' => e = .returned (.int .u32 (moreOf 0 l : Nat)) ∧ Below w.heap.size w w' := by
  have H := Lib.hid (more_any a len cap 0 l w h (by omega))
  clear h
  go_enter Try.func11, Try.ntmps11
  go_wp2_with (go_at_call 13; refine H.out.mono ?_; rintro e w' ⟨rfl, hb⟩; have HB := Lib.hid hb; clear hb)
  go_ret
  exact ⟨rfl, HB.out⟩
theorem refSum_any (a : Option Addr) (len cap : Nat) (l : List Int) (w : World) (h : Bytes w a len l) :
    Calls Try.prog 12 #[.slice a len cap] w fun e w' => e = .returned (.int .u32 (moreOf 0 l : Nat)) ∧ w = w' := by
  have H := Lib.hid (refMore_any a len cap 0 l w h (by omega))
  clear h
  go_enter Try.func12, Try.ntmps12
  go_wp2_with (go_at_call 14; refine H.out.mono ?_; rintro e w' ⟨rfl, rfl⟩)
  go_ret
  exact ⟨rfl, rfl⟩

/-! The document's examples. -/
def digits : List Int := [49, 50, 51, 52, 53, 54, 55, 56, 57]
theorem sum_digits : moreOf 0 digits = 3808858755 := by kernel_rfl
theorem sum_none : moreOf 0 [] = 0 := by kernel_rfl
theorem finger_none : fingerOf [] = 14695981038468906945 := by unfold fingerOf; rw [fin_nil]; kernel_rfl
theorem none_bytes (w : World) : Bytes w none 0 [] := ⟨rfl, ⟨by simp, by simp⟩, Or.inl rfl⟩

def digitRow : Array Value := #[.int .u8 49, .int .u8 50, .int .u8 51, .int .u8 52, .int .u8 53, .int .u8 54, .int .u8 55, .int .u8 56, .int .u8 57]
theorem digits_bytes (w : World) : Bytes (w.alloc (.cells digitRow 5 (9, 10))) (some ⟨w.heap.size, 0, none⟩) 9 digits := by
  refine ⟨rfl, ⟨by decide, by decide⟩, Or.inr ⟨w.heap.size, 0, rfl, by simp, fun i hi => ?_⟩⟩
  rw [cell_of_row _ w.heap.size (0 + i) digitRow 5 (9, 10) (heap_alloc_new w _)]
  have h : i < 9 := hi
  rcases (by omega : i = 0 ∨ i = 1 ∨ i = 2 ∨ i = 3 ∨ i = 4 ∨ i = 5 ∨ i = 6 ∨ i = 7 ∨ i = 8) with rfl | rfl | rfl | rfl | rfl | rfl | rfl | rfl | rfl <;> rfl
theorem sum_digits_any (w : World) : Calls Try.prog 11 #[.slice (some ⟨w.heap.size, 0, none⟩) 9 9] (w.alloc (.cells digitRow 5 (9, 10))) fun e w' => e = .returned (.int .u32 3808858755) ∧ Below w.heap.size w w' := by
  refine (sum_any _ 9 9 digits _ (digits_bytes w)).mono ?_
  rintro e w' ⟨rfl, hb⟩
  exact ⟨by rw [sum_digits]; rfl, ((Below.refl _ _).alloc (Nat.le_refl _) _).trans (hb.mono (by simp))⟩
theorem sum_none_any (w : World) : Calls Try.prog 11 #[.slice none 0 0] w fun e w' => e = .returned (.int .u32 0) ∧ Below w.heap.size w w' := by
  refine (sum_any _ 0 0 [] _ (none_bytes w)).mono ?_
  rintro e w' ⟨rfl, hb⟩
  exact ⟨by rw [sum_none]; rfl, hb⟩
theorem finger_none_any (w : World) : Calls Try.prog 15 #[.slice none 0 0] w fun e w' => e = .returned (.int .u64 14695981038468906945) ∧ w = w' := by
  refine (finger_any _ 0 0 [] _ (none_bytes w)).mono ?_
  rintro e w' ⟨rfl, rfl⟩
  exact ⟨by rw [finger_none]; rfl, rfl⟩

set_option maxHeartbeats 800000 in
theorem awake_any (w : World) : Calls Try.prog 10 #[] w fun e w' => e = .returned (.bool true) ∧ Below w.heap.size w w' := by
  have kc := fun (w : World) (C : Array Value) (n c : Nat) => Lib.run_convert_bytes_const (P := Try.prog) w 22 5 C n c Try.underlying22 Try.underlying5
  have HA := Lib.hid (sum_digits_any w)
  go_enter Try.func10, Try.ntmps10
  go_wp2_with (first | (go_at_call 11; refine HA.out.mono ?_; rintro e w1 ⟨rfl, hb⟩; have HB := Lib.hid hb; clear hb) | (go_at_call 11; refine (sum_none_any w1).mono ?_; rintro e w2 ⟨rfl, hb⟩; have HB2 := Lib.hid hb; clear hb) | (go_at_call 15; refine (finger_none_any _).mono ?_; rintro e w' ⟨rfl, rfl⟩))
  go_ret
  exact ⟨rfl, HB.out.trans (HB2.out.mono HB.out.size)⟩
end Go.Proofs.Ythalagemihlhlaa
