/-
  What the project's own part answers: a part of the bytes where all of it is there, else false. Conditions: the slice reads as bytes, its length is no greater than its capacity.
-/
import Derived.Test.YtdffgnpldapciaaGreatDoorG2
namespace Go.Proofs.YtdffgnpldapciaaGreatDoor
open Go.RowKit

theorem caught (p : Addr) (x : Bool) (u : TypeId) (pv : Value) (older : List PanicEntry) (w : World) (hc : w.cell? p = some (.bool x)) (hz : w.frozen? p = false) :
    CallsD Tryz.prog 89 #[.pointer (some p)] (.panicking ({ v := .iface u pv, recovered := false } :: older)) w fun e u' w' =>
      e = .returned (.tuple #[]) ∧ u' = .panicking ({ v := .iface u pv, recovered := true } :: older) ∧ w' = w.setCell p (.bool false) := by
  refine callsD_of_wpS Tryz.func89 rfl fun c₀ cs hu => ?_
  apply wpS_region
  simp [wpOpsS, go_sem, recoverD, hu, Tryz.ntmps89, hc, hz, bodyPostS, results, Tryz.results89]

theorem idle (p : Addr) (x : Bool) (w : World) (hc : w.cell? p = some (.bool x)) (hz : w.frozen? p = false) :
    CallsD Tryz.prog 89 #[.pointer (some p)] .returning w fun e u' w' => e = .returned (.tuple #[]) ∧ u' = .returning ∧ w' = w.setCell p (.bool true) := by
  refine callsD_of_wpS Tryz.func89 rfl fun c₀ cs hu => ?_
  apply wpS_region
  simp [wpOpsS, go_sem, recoverD, hu, Tryz.ntmps89, hc, hz, bodyPostS, results, Tryz.results89]
  cases c₀
  simp_all

set_option maxRecDepth 100000 in
set_option maxHeartbeats 1600000 in
theorem part_ok (a : Option Addr) (len cap p n : Nat) (l : List Int) (w : World) (hB : Bytes w a len l) (hcap : len ≤ cap) (hp : p + n ≤ len) :
    Calls Tryz.prog 71 #[.slice a len cap, .int .i64 p, .int .i64 n] w fun e w' =>
      ∃ a', e = .returned (.tuple #[.slice a' n n, .bool true]) ∧ Bytes w' a' n ((l.drop p).take n) ∧ Below w.heap.size w w' := by
  have hmf : ∀ (fn : Fn) (first cap : Array Value) (w : World), (Instr.makeFunc fn first cap).run Tryz.prog w = .ok (.func fn first cap) w := fun _ _ _ _ => rfl
  have hsmall := hB.small.1
  rw [hB.1] at hsmall
  obtain ⟨a1, h1, hB1⟩ := slice_whole hB hcap
  obtain ⟨K, hK, hK2, hK3⟩ : ∃ K : Nat, (p : Int) + (n : Int) = (K : Int) ∧ Hid (K = p + n) ∧ K ≤ len := ⟨p + n, by omega, rfl, hp⟩
  obtain ⟨a2, h2, hB2⟩ := slice_part hB1 p n K hK2.out hK3
  have HB2 := Lib.hid hB2
  clear hB hB1 hB2
  go_enter_defers Tryz.func71, Tryz.ntmps71
  go_wp2
  refine leaves_cons (f := 89) (args := #[.pointer (some ⟨w.heap.size, 0, none⟩)]) (by simp) (by simp [go_sem]) ?_
  refine (idle ⟨w.heap.size, 0, none⟩ true _ ?_ ?_).mono ?_
  · simp [go_sem]
  · simp [go_sem]
  rintro e u' w'' ⟨rfl, rfl, rfl⟩
  simp [Leaves, settle, results, Tryz.results71, go_sem]
  exact ⟨HB2.out.later ((Below.refl _ _).alloc (Nat.le_refl _) _), (Below.refl _ _).alloc (Nat.le_refl _) _⟩

set_option maxRecDepth 100000 in
set_option maxHeartbeats 1600000 in
theorem part_out (a : Option Addr) (len cap n : Nat) (at' : Int) (l : List Int) (w : World) (hB : Bytes w a len l) (hcap : len ≤ cap) (h0 : -9223372036854775808 ≤ at') (h1 : at' ≤ 9223372036854775807) (hn : n ≤ 100000000) (h : at' < 0 ∨ (len : Int) < at' + n) :
    Calls Tryz.prog 71 #[.slice a len cap, .int .i64 at', .int .i64 n] w fun e w' =>
      e = .returned (.tuple #[.slice none 0 0, .bool false]) ∧ Below w.heap.size w w' := by
  have hmf : ∀ (fn : Fn) (first cap : Array Value) (w : World), (Instr.makeFunc fn first cap).run Tryz.prog w = .ok (.func fn first cap) w := fun _ _ _ _ => rfl
  have hsmall := hB.small.1
  rw [hB.1] at hsmall
  obtain ⟨a1, h1, hB1⟩ := slice_whole hB hcap
  obtain ⟨s, hs, hs2⟩ : ∃ s : Int, wrap64 (at' + (n : Int)) = s ∧ Hid (s < 0 ∨ (len : Int) < s ∨ at' < 0) := ⟨_, rfl, by unfold Hid wrap64; omega⟩
  obtain ⟨pv, W', h2, hW⟩ := slice_out a1 len at' s (w.alloc (.cells #[.bool false] 4)) hs2.out
  have HW := Lib.hid hW
  clear hB hB1 hW
  go_enter_defers Tryz.func71, Tryz.ntmps71
  go_wp2
  have hcell : W'.cell? ⟨w.heap.size, 0, none⟩ = some (.bool false) := by rcases HW.out with rfl | rfl <;> simp [go_sem]
  have hfree : W'.frozen? ⟨w.heap.size, 0, none⟩ = false := by rcases HW.out with rfl | rfl <;> simp [go_sem]
  have hbel : Below w.heap.size w W' := by
    have h0 : Below w.heap.size w (w.alloc (.cells #[.bool false] 4)) := (Below.refl _ _).alloc (Nat.le_refl _) _
    rcases HW.out with rfl | rfl
    · exact h0
    · exact h0.drew
  refine leaves_cons (f := 89) (args := #[.pointer (some ⟨w.heap.size, 0, none⟩)]) (by simp) (by simp [go_sem]) ?_
  refine (caught ⟨w.heap.size, 0, none⟩ false _ _ [] _ hcell hfree).mono ?_
  rintro e u' w'' ⟨rfl, rfl, rfl⟩
  have hc2 := World.cell?_setCell_same W' ⟨w.heap.size, 0, none⟩ (.bool false) hcell
  simp [Leaves, settle, results, Tryz.results71, go_sem, hc2]
  exact Below.setCell hbel (Nat.le_refl _) _
end Go.Proofs.YtdffgnpldapciaaGreatDoor
