/-
  What the project's own Put and Get answer (package field). Conditions: the slices read as bytes, their lengths are no greater than their capacities, and those that are copied are short; offsets and numbers are of 64 bits.
-/
import Derived.Test.YtdffgnpldapciaaGreatDoorF2
import Derived.Test.YtdffgnpldapciaaGreatDoorR2
import Derived.Test.YtdffgnpldapciaaGreatDoorA2
import Derived.Test.YtdffgnpldapciaaGreatDoorI2
import Derived.Test.YtdffgnpldapciaaGreatDoorJ2
import Derived.Test.YtdffgnpldapciaaGreatDoorK2
namespace Go.Proofs.YtdffgnpldapciaaGreatDoor
open Go.RowKit

set_option maxHeartbeats 1600000 in
/-- The number put lies in memory of the call's own. -/
theorem fieldPut_own (a : Option Addr) (len cap m v : Nat) (l : List Int) (big : Bool) (w : World) (hB : Bytes w a len l) (hnil : a = none → cap = 0) (hlen : len ≤ 100000) (h1 : 1 ≤ m) (h2 : m ≤ 8) (hv : Fit64 v) (hf : fitsIn m v = true) :
    Calls Tryz.prog 66 #[.slice a len cap, .int .i64 m, .bool big, .int .u64 v] w fun e w' => ∃ a' c', e = .returned (.tuple #[.slice a' (len + m) c', .int .i64 0]) ∧ Own w' w.heap.size (.slice a' (len + m) c') (len + m) (l ++ numB big m v) ∧ Below w.heap.size w w' := by
  have hl : ¬ ((m : Int) * 8 < (Lib.bitLen v : Int)) := fun h => by
    rw [(fits_len m v hv).1 h] at hf
    cases hf
  obtain ⟨B, HBL⟩ := named (Lib.bitLen v : Int)
  rw [HBL.out] at hl
  have HL := Lib.hid (fun w => len64_any v w hv B HBL.out)
  have HW := Lib.hid (width_yes (m : Int) w (by omega) (by omega))
  have HC : Hid (Calls Tryz.prog 86 #[.slice a len cap, .slice (some ⟨w.heap.size, 0, none⟩) 1 1] (w.alloc (.cells #[.int .i64 m] 3)) fun e w' => ∃ a' c', e = .returned (.slice a' len c') ∧ Own w' w.heap.size (.slice a' len c') len l ∧ Below w.heap.size (w.alloc (.cells #[.int .i64 m] 3)) w') :=
    room_any a len cap w.heap.size 1 w.heap.size l [m] (w.alloc (.cells #[.int .i64 m] 3)) (hB.later ((Below.refl _ _).alloc (Nat.le_refl _) _)) hnil hlen
      (fun i hi => ⟨one_int w m i hi, by obtain rfl : i = 0 := by omega
                                         simp [sumTo]; omega⟩) (by simp) (by omega) (by simp)
  have HN := Lib.hid (fun (a : Option Addr) (c : Nat) (w1 : World) (hO : Own w1 w.heap.size (.slice a len c) len l) (hb : w.heap.size ≤ w1.heap.size) => number_any a len c m v w.heap.size l big w1 hO (by omega) h2 hb)
  have hD := numB_len big m v
  obtain ⟨D, HDD⟩ := named (numB big m v)
  rw [HDD.out] at hD HN ⊢
  have HLL : Hid ((l ++ D).length = len + m) := by rw [Hid, List.length_append, hD, hB.1]
  clear hB hnil hf hv hD
  go_enter Tryz.func66, Tryz.ntmps66
  go_wp2_with (first
    | (go_at_call 70; refine HW.out.mono ?_; rintro e w' ⟨rfl, rfl⟩)
    | (go_at_call 84; refine (HL.out _).mono ?_; rintro e w' ⟨rfl, rfl⟩)
    | (go_at_call 86; refine HC.out.mono ?_; rintro e w1 ⟨a1, c1, rfl, g1, g2⟩; have HO := Lib.hid g1; have HG : Hid (Below w.heap.size w w1) := ((Below.refl _ _).alloc (Nat.le_refl _) _).trans g2; clear g1 g2)
    | (go_at_call 85; refine (HN.out a1 c1 _ HO.out HG.out.size).mono ?_; rintro e w2 ⟨a2, c2, rfl, g1, g2⟩; have HO2 := Lib.hid g1; have HG2 : Hid (Below w.heap.size w w2) := HG.out.trans g2; clear g1 g2))
  go_ret2
  exact ⟨_, _, rfl, HO2.out, HG2.out⟩

end Go.Proofs.YtdffgnpldapciaaGreatDoor
