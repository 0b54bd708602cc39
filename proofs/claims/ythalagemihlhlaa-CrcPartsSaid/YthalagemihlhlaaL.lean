/-
  The calls of Sum, More and of the examples while three slices stay readable. Conditions: the slices read as bytes.
-/
import Derived.Test.YthalagemihlhlaaJ
import Derived.Test.YthalagemihlhlaaK
import Derived.Deep.RegionHeld3
namespace Go.Proofs.Ythalagemihlhlaa
open Go.RowKit

theorem sumG (w0 : World) (a0 : Option Addr) (n0 c0 : Nat) (l0 : List Int) (a1 : Option Addr) (n1 : Nat) (l1 : List Int) (a2 : Option Addr) (n2 : Nat) (l2 : List Int) (w : World) (h : Thrice w0 a0 n0 l0 a1 n1 l1 a2 n2 l2 w) :
    Calls Try.prog 11 #[.slice a0 n0 c0] w fun e w' => e = .returned (.int .u32 (moreOf 0 l0 : Nat)) ∧ Thrice w0 a0 n0 l0 a1 n1 l1 a2 n2 l2 w' :=
  (sum_any a0 n0 c0 l0 w h.2.1).mono fun _ _ ⟨he, hb⟩ => ⟨he, h.later hb⟩
theorem sumBothG (w0 : World) (a0 : Option Addr) (n0 : Nat) (l0 : List Int) (a1 : Option Addr) (n1 : Nat) (l1 : List Int) (a2 : Option Addr) (n2 c2 : Nat) (l2 : List Int) (w : World) (h : Thrice w0 a0 n0 l0 a1 n1 l1 a2 n2 l2 w) :
    Calls Try.prog 11 #[.slice a2 n2 c2] w fun e w' => e = .returned (.int .u32 (moreOf 0 l2 : Nat)) ∧ Thrice w0 a0 n0 l0 a1 n1 l1 a2 n2 l2 w' :=
  (sum_any a2 n2 c2 l2 w h.2.2.2).mono fun _ _ ⟨he, hb⟩ => ⟨he, h.later hb⟩
theorem moreG (w0 : World) (a0 : Option Addr) (n0 : Nat) (l0 : List Int) (a1 : Option Addr) (n1 c1 : Nat) (l1 : List Int) (a2 : Option Addr) (n2 : Nat) (w : World) (h : Thrice w0 a0 n0 l0 a1 n1 l1 a2 n2 (l0 ++ l1) w) :
    Calls Try.prog 13 #[.int .u32 (moreOf 0 l0 : Nat), .slice a1 n1 c1] w fun e w' => e = .returned (.int .u32 (moreOf 0 (l0 ++ l1) : Nat)) ∧ Thrice w0 a0 n0 l0 a1 n1 l1 a2 n2 (l0 ++ l1) w' :=
  (more_any a1 n1 c1 _ l1 w h.2.2.1 (moreOf_lt (by decide) h.2.1.small.lt)).mono fun _ _ ⟨he, hb⟩ => ⟨by rw [he, moreOf_append], h.later hb⟩
theorem moreNilG (w0 : World) (a0 : Option Addr) (n0 : Nat) (l0 : List Int) (a1 : Option Addr) (n1 : Nat) (l1 : List Int) (a2 : Option Addr) (n2 : Nat) (l2 : List Int) (w : World) (h : Thrice w0 a0 n0 l0 a1 n1 l1 a2 n2 l2 w) :
    Calls Try.prog 13 #[.int .u32 (moreOf 0 l0 : Nat), .slice none 0 0] w fun e w' => e = .returned (.int .u32 (moreOf 0 l0 : Nat)) ∧ Thrice w0 a0 n0 l0 a1 n1 l1 a2 n2 l2 w' :=
  (more_any none 0 0 _ [] w (none_bytes w) (moreOf_lt (by decide) h.2.1.small.lt)).mono fun _ _ ⟨he, hb⟩ => ⟨by rw [he, moreOf_nil], h.later hb⟩
theorem awakeG (w0 : World) (a0 : Option Addr) (n0 : Nat) (l0 : List Int) (a1 : Option Addr) (n1 : Nat) (l1 : List Int) (a2 : Option Addr) (n2 : Nat) (l2 : List Int) (w : World) (h : Thrice w0 a0 n0 l0 a1 n1 l1 a2 n2 l2 w) :
    Calls Try.prog 10 #[] w fun e w' => e = .returned (.bool true) ∧ Below w0.heap.size w0 w' :=
  (awake_any w).mono fun _ _ ⟨he, hb⟩ => ⟨he, (h.later hb).1⟩
theorem place_of (x : Int) (n : Nat) (h0 : 0 < n) (hn : n ≤ 1000000) : ∃ K : Nat, wrap64 ((IntKind.u64.wrap x).tmod (n : Int)) = (K : Int) ∧ K < n := by
  have hw : 0 ≤ IntKind.u64.wrap x := by rw [IntKind.wrap_u64]; omega
  have e : (IntKind.u64.wrap x).tmod (n : Int) = IntKind.u64.wrap x % (n : Int) := Int.tmod_eq_emod_of_nonneg hw
  have h1 : 0 ≤ IntKind.u64.wrap x % (n : Int) := Int.emod_nonneg _ (by omega)
  have h2 : IntKind.u64.wrap x % (n : Int) < n := Int.emod_lt_of_pos _ (by omega)
  refine ⟨(IntKind.u64.wrap x % (n : Int)).toNat, ?_, by omega⟩
  rw [e, IntWalk.wrap64_in _ ⟨by omega, by omega⟩, Int.toNat_of_nonneg h1]
end Go.Proofs.Ythalagemihlhlaa
