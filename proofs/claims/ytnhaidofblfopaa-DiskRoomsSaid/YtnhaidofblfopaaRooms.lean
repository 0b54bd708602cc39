/-
  Proved: 'matryoshkalaw5.DiskRooms' returns true for every input, and each argument reads afterwards as before: the statement DiskRoomsSaid as given. Conditions: none beyond the row's own.
-/
import Derived.Test.YtnhaidofblfopaaRows
import Derived.Test.YtnhaidofblfopaaG5
import Derived.Test.YtnhaidofblfopaaK6
import Derived.Deep.RegionHeld3
import Derived.WalkKit
import Derived.ProofKit
import Derived.OpenShut
import Derived.ShutString
import Derived.ChangeOld
import Derived.Below
namespace Go.Proofs.Ytnhaidofblfopaa.diskRooms
open Go.ChangeShapes Go.WideShapes Go.ChangeAt Go.RowKit
open Go.ChangeMaps (open_string shut_string)
set_option linter.unusedVariables false

theorem own : ownKnob Try.prog.godebug = none := by kernel_rfl
theorem laidOut : laidOutB Try.prog = true := by kernel_rfl

abbrev nA : Nm := ⟨#[97]⟩
abbrev nB : Nm := ⟨#[98]⟩
theorem nAB : nA ≠ nB := by decide
theorem flat_zeros : ∀ n : Nat, noughts (16 * n) = (List.replicate n zero16).flatten
  | 0 => rfl
  | n + 1 => by
    rw [List.replicate_succ, List.flatten_cons, ← flat_zeros n]
    unfold zero16 noughts
    rw [List.replicate_append_replicate, show 16 + 16 * n = 16 * (n + 1) by omega]
theorem zeros_16 (n : Nat) : ∀ x ∈ List.replicate n zero16, x.length = 16 := fun x hx => by
  rw [List.eq_of_mem_replicate hx]
  rfl
abbrev PC := List (Nm × Nat × Sec) × Nat
def two (room : Nat) (na nb : List Sec) (P : PC) : Dsk := ⟨room, [(nA, ⟨na, []⟩), (nB, ⟨nb, []⟩)], P.1, 0, false, P.2⟩
theorem two_a (na nb : FileM) : fget [(nA, na), (nB, nb)] nA = some na := by simp [fget]
theorem two_b (na nb : FileM) : fget [(nA, na), (nB, nb)] nB = some nb := by simp [fget]
theorem two_used (room : Nat) (na nb : List Sec) (P : PC) : usedF (two room na nb P).files = na.length + nb.length := by simp [two, usedF]
/-- Noughts that fit. -/
theorem two_wa (room : Nat) (nb : List Sec) (P : PC) (k : Nat) (hk : nb.length + k ≤ room) (hr : room ≤ 1000) :
    ∃ na' P', (two room [] nb P).write nA 0 (noughts (16 * k)) = (0, two room na' nb P') ∧ na'.length = k ∧ P'.2 = P.2 + k := by
  by_cases h0 : k = 0
  · subst h0
    refine ⟨[], P, ?_, rfl, rfl⟩
    unfold Dsk.write
    rw [if_neg (by simp [two])]
    have hg : fget (two room [] nb P).files nA = some ⟨[], []⟩ := two_a _ _
    rw [hg]
    simp [noughts, chunks, Dsk.go]
  · rw [flat_zeros]
    have hw := write_go (two room [] nb P) nA ⟨[], []⟩ 0 (List.replicate k zero16) (zeros_16 k) rfl (two_a _ _) (by simp; omega) (by rw [two_used]; simp [two]; omega)
    rw [show (((0 : Nat) : Int)) = 0 from rfl] at hw
    obtain ⟨now', P', h1, h2⟩ := go_zero nA (List.replicate k zero16) 0 (two room [] nb P) ⟨[], []⟩ rfl (two_a _ _) (by intro e; have := congrArg List.length e; simp at this; omega)
    refine ⟨now', (P', P.2 + k), ?_, by rw [h2]; simp, rfl⟩
    rw [hw, h1]
    simp [two, fset]
theorem two_wb (room : Nat) (na nb : List Sec) (P : PC) (i k : Nat) (hk : na.length + max nb.length (i + k) ≤ room) (hr : room ≤ 1000) (h0 : 0 < k) :
    ∃ nb' P', (two room na nb P).write nB i (noughts (16 * k)) = (0, two room na nb' P') ∧ nb'.length = max nb.length (i + k) ∧ P'.2 = P.2 + k := by
  rw [flat_zeros]
  have hw := write_go (two room na nb P) nB ⟨nb, []⟩ i (List.replicate k zero16) (zeros_16 k) rfl (two_b _ _) (by simp; omega) (by rw [two_used]; simp [two]; omega)
  obtain ⟨now', P', h1, h2⟩ := go_zero nB (List.replicate k zero16) i (two room na nb P) ⟨nb, []⟩ rfl (two_b _ _) (by intro e; have := congrArg List.length e; simp at this; omega)
  refine ⟨now', (P', P.2 + k), ?_, by rw [h2]; simp, rfl⟩
  rw [hw, h1]
  simp [two, fset]
theorem two_wb0 (room : Nat) (na : List Sec) (P : PC) (k : Nat) (hk : na.length + k ≤ room) (hr : room ≤ 1000) :
    ∃ nb' P', (two room na [] P).write nB 0 (noughts (16 * k)) = (0, two room na nb' P') ∧ nb'.length = k ∧ P'.2 = P.2 + k := by
  by_cases h0 : k = 0
  · subst h0
    refine ⟨[], P, ?_, rfl, rfl⟩
    unfold Dsk.write
    rw [if_neg (by simp [two])]
    have hg : fget (two room na [] P).files nB = some ⟨[], []⟩ := two_b _ _
    rw [hg]
    simp [noughts, chunks, Dsk.go]
  · obtain ⟨nb', P', h1, h2, h3⟩ := two_wb room na [] P 0 k (by simp; omega) hr (by omega)
    exact ⟨nb', P', h1, by rw [h2]; simp, h3⟩
/-- Noughts that do not fit. -/
theorem two_no (room : Nat) (na nb : List Sec) (P : PC) (i k : Nat) (hk : room < na.length + max nb.length (i + k)) (hi : i + k ≤ 65536) (h0 : 0 < k) :
    (two room na nb P).write nB i (noughts (16 * k)) = (7, two room na nb P) := by
  have hl : (noughts (16 * k)).length = 16 * k := by simp [noughts]
  have hne : noughts (16 * k) ≠ [] := fun e => by rw [e] at hl; simp at hl; omega
  unfold Dsk.write
  have hg : fget (two room na nb P).files nB = some ⟨nb, []⟩ := two_b _ _
  rw [if_neg (by simp [two]), hg]
  dsimp only
  rw [hl, two_used, if_neg (by omega), show 16 * k / 16 = k by omega, if_neg (by omega), if_pos ⟨hne, by show (room : Int) < _; omega⟩]
def onlyB (room : Nat) (nb : List Sec) (P : PC) : Dsk := ⟨room, [(nB, ⟨nb, []⟩)], P.1, 0, false, P.2⟩
theorem two_rm (room : Nat) (na nb : List Sec) (P : PC) : ∃ P' : PC, (two room na nb P).remove nA = (0, onlyB room nb P') ∧ P'.2 = P.2 := by
  refine ⟨(P.1.filter fun x => !decide (x.1 = nA), P.2), ?_, rfl⟩
  unfold Dsk.remove two onlyB
  dsimp only
  rw [if_neg (by simp), if_neg (by rw [two_a]; simp)]
  simp [fdel]
theorem only_wb (room : Nat) (nb : List Sec) (P : PC) (i : Nat) (hk : max nb.length (i + 1) ≤ room) (hr : room ≤ 1000) :
    ∃ nb' P', (onlyB room nb P).write nB i (noughts (16 * 1)) = (0, onlyB room nb' P') ∧ nb'.length = max nb.length (i + 1) ∧ P'.2 = P.2 + 1 := by
  rw [flat_zeros]
  have hg : fget (onlyB room nb P).files nB = some ⟨nb, []⟩ := one_get nB _
  have hw := write_go (onlyB room nb P) nB ⟨nb, []⟩ i (List.replicate 1 zero16) (zeros_16 1) rfl hg (by simp; omega) (by simp [onlyB, usedF]; omega)
  obtain ⟨now', P', h1, h2⟩ := go_zero nB (List.replicate 1 zero16) i (onlyB room nb P) ⟨nb, []⟩ rfl hg (by simp)
  refine ⟨now', (P', P.2 + 1), ?_, by rw [h2]; simp, rfl⟩
  rw [hw, h1]
  simp [onlyB, fset]
theorem two_made (room : Nat) : ((Dsk.new room).create nA) = (0, ⟨room, [(nA, ⟨[], []⟩)], [], 0, false, 0⟩) := by
  unfold Dsk.create Dsk.new
  rw [if_neg (by simp), if_neg (by decide), if_neg (by simp)]
  simp [fdel]
theorem two_made2 (room : Nat) : (Dsk.create ⟨room, [(nA, ⟨[], []⟩)], [], 0, false, 0⟩ nB) = (0, two room [] [] ([], 0)) := by
  unfold Dsk.create two
  rw [if_neg (by simp), if_neg (by decide), if_neg (by simp)]
  simp [fdel]
theorem two_usedD (room : Nat) (na nb : List Sec) (P : PC) : (two room na nb P).used = na.length + nb.length := two_used room na nb P
theorem only_usedD (room : Nat) (nb : List Sec) (P : PC) : (onlyB room nb P).used = nb.length := by simp [Dsk.used, onlyB, usedF]
def zeros5 (n : Nat) : Array Value := madeCells #[.int .u8 0] n
theorem make_eq (n : Nat) (hn : n ≤ 100000) (w : World) : (Instr.makeSlice 22 (.int .i64 n) (.int .i64 n)).run Try.prog w = .ok (.slice (some ⟨w.heap.size, 0, none⟩) n n) (w.alloc (.cells (zeros5 n) 5)) := by
  obtain ⟨i0, hi, hz0, hz1, hz2⟩ := info_parts info5
  have := run_make (P := Try.prog) w 22 5 i0 (.int .u8 0) Try.underlying22 hi hz0 .i64 .i64 n n (by omega) (Int.le_refl _) (by rw [hz2]; omega) (by omega)
  rw [hz1, Int.toNat_natCast, Nat.mul_one] at this
  exact this
theorem makeO {w0 w : World} {p : Addr} {D : Dsk} {S : Nat → Prop} (h : Has w0 p D w S) (n : Nat) (hn : n ≤ 100000) : Out S (w.alloc (.cells (zeros5 n) 5)) (some ⟨w.heap.size, 0, none⟩) n (noughts n) := by
  refine (h.alloc _).out ⟨by simp [noughts], noughts_small n (by omega), ?_⟩ (fun _ x e => by cases e; exact Or.inr (h.fresh (Or.inl (Nat.le_refl _))))
  by_cases h0 : n = 0
  · exact Or.inl h0
  · refine Or.inr ⟨w.heap.size, 0, rfl, by simp, fun i hi => ?_⟩
    have hl : (noughts n).length = n := by simp [noughts]
    rw [Nat.zero_add, World.cell?_alloc_new]
    have e : (zeros5 n).toList = List.replicate n (.int .u8 0) := toList_madeCells_one _ _
    rw [← Array.getElem?_toList, e, List.getElem?_replicate, if_pos (by omega)]
    unfold noughts
    rw [List.getD_eq_getElem?_getD, List.getElem?_replicate, if_pos (by omega)]
    rfl

set_option maxRecDepth 100000 in
set_option maxHeartbeats 4000000 in
theorem walk (a0 : Int) (a1 : Int) (a2 : Int) (w : World) (w0 : (Lit.int .u8 a0).wf = true) (w1 : (Lit.int .u8 a1).wf = true) (w2 : (Lit.int .u8 a2).wf = true) :
    Calls Try.prog 6 #[.int .u8 a0, .int .u8 a1, .int .u8 a2] w fun e w' => e = .returned (.bool true) ∧ Below w.heap.size w w' := by
  have hA := byte_of_wf w0
  have hF := byte_of_wf w1
  have hT := byte_of_wf w2
  obtain ⟨r, rfl⟩ : ∃ r : Nat, a0 = (r : Int) := ⟨a0.toNat, by omega⟩
  obtain ⟨f, rfl⟩ : ∃ f : Nat, a1 = (f : Int) := ⟨a1.toNat, by omega⟩
  obtain ⟨t, rfl⟩ : ∃ t : Nat, a2 = (t : Int) := ⟨a2.toNat, by omega⟩
  have hr256 : r < 256 := by omega
  have hf256 : f < 256 := by omega
  have ht256 : t < 256 := by omega
  obtain ⟨n, hn, hn1, hn60⟩ : ∃ n : Nat, (1 : Int) + (r : Int) % 60 = (n : Int) ∧ 1 ≤ n ∧ n ≤ 60 := ⟨1 + r % 60, by omega, by omega, by omega⟩
  obtain ⟨np, hnp, hnp2⟩ : ∃ np : Nat, (n : Int) + 1 = (np : Int) ∧ np = n + 1 := ⟨n + 1, by omega, rfl⟩
  have hml := Nat.mod_lt f (show 0 < np by omega)
  obtain ⟨k, hk, hk2⟩ : ∃ k : Nat, (f : Int) % (np : Int) = (k : Int) ∧ k < np := ⟨f % np, by rw [← Int.natCast_emod], hml⟩
  have hkn : k ≤ n := by omega
  obtain ⟨m, hm, hm2⟩ : ∃ m : Nat, (n : Int) - (k : Int) = (m : Int) ∧ m + k = n := ⟨n - k, by omega, by omega⟩
  obtain ⟨m1, hm1, hm12⟩ : ∃ m1 : Nat, (m : Int) + 1 = (m1 : Int) ∧ m1 = m + 1 := ⟨m + 1, by omega, rfl⟩
  obtain ⟨M1, hM1, hM12⟩ : ∃ M1 : Nat, (16 : Int) * (k : Int) = (M1 : Int) ∧ M1 = 16 * k := ⟨16 * k, by omega, rfl⟩
  obtain ⟨M2, hM2, hM22⟩ : ∃ M2 : Nat, (16 : Int) * (m1 : Int) = (M2 : Int) ∧ M2 = 16 * m1 := ⟨16 * m1, by omega, rfl⟩
  obtain ⟨M3, hM3, hM32⟩ : ∃ M3 : Nat, (16 : Int) * (m : Int) = (M3 : Int) ∧ M3 = 16 * m := ⟨16 * m, by omega, rfl⟩
  obtain ⟨n1, hn11, hn12⟩ : ∃ n1 : Nat, (n : Int) - 1 = (n1 : Int) ∧ n1 + 1 = n := ⟨n - 1, by omega, by omega⟩
  have hmk1 := make_eq M1 (by omega)
  have hmk2 := make_eq M2 (by omega)
  have hmk3 := make_eq M3 (by omega)
  have hmk4 : ∀ w : World, (Instr.makeSlice 22 (.int .i64 16) (.int .i64 16)).run Try.prog w = .ok (.slice (some ⟨w.heap.size, 0, none⟩) 16 16) (w.alloc (.cells (zeros5 16) 5)) := make_eq 16 (by omega)
  have E1 := Lib.hid (two_made n)
  have E2 := Lib.hid (two_made2 n)
  obtain ⟨na, P1, x1, la, lp1⟩ := two_wa n [] ([], 0) k (by simp; omega) (by omega)
  have q1 : P1.2 = k := by rw [lp1]; simp
  have x2 := two_no n na [] P1 0 m1 (by rw [la]; simp; omega) (by omega) (by omega)
  obtain ⟨nb, P2, x3, lb, lp2⟩ := two_wb0 n na P1 m (by rw [la]; omega) (by omega)
  have HC0 : Hid (∀ a b, (two n a b ([], 0)).cnt ≤ 1000000) := Lib.hid fun a b => Nat.zero_le _
  have HC1 : Hid (∀ a b, (two n a b P1).cnt ≤ 1000000) := Lib.hid fun a b => by show P1.2 ≤ 1000000; omega
  have HC2 : Hid (∀ a b, (two n a b P2).cnt ≤ 1000000) := Lib.hid fun a b => by show P2.2 ≤ 1000000; omega
  have hc2 : P2.2 ≤ 1000 := by omega
  clear lp1 q1 lp2
  have x4 := two_no n na nb P2 m 1 (by rw [la, lb]; omega) (by omega) (by omega)
  rw [← hM12] at x1
  rw [← hM22] at x2
  rw [← hM32] at x3
  have E3 := Lib.hid x1
  have E4 : Hid ((two n na [] P1).write nB 0 (noughts M2) = (7, two n na [] P1)) := x2
  have E5 := Lib.hid x3
  have E6 : Hid ((two n na nb P2).write nB m (noughts 16) = (7, two n na nb P2)) := x4
  have U1 : Hid ((two n na [] P1).used = k) := by rw [two_usedD, la]; exact Lib.hid (by simp)
  have U2 : Hid ((two n na nb P2).used = n) := by rw [two_usedD, la, lb]; exact Lib.hid (by omega)
  by_cases hm0 : m = 0
  · obtain ⟨P4, x8, lp4⟩ := two_rm n na nb P2
    have HC4 : Hid (∀ b, (onlyB n b P4).cnt ≤ 1000000) := Lib.hid fun b => by show P4.2 ≤ 1000000; omega
    clear lp4
    have E8 := Lib.hid x8
    obtain ⟨nb3, P5, x9, lb3, _⟩ := only_wb n nb P4 n1 (by rw [lb]; omega) (by omega)
    have E9 : Hid ((onlyB n nb P4).write nB n1 (noughts 16) = (0, onlyB n nb3 P5)) := x9
    have U3 : Hid ((onlyB n nb3 P5).used = n) := by rw [only_usedD, lb3, lb]; exact Lib.hid (by omega)
    have hkn2 : ¬ k < n := by omega
    clear hm0
    clear w0 w1 w2 x1 x2 x3 x4 x8 x9 la lb lb3 hM12 hM22 hM32 hA hF hT hml hnp2 hm12 hn12
    go_enter Try.func6, Try.ntmps6
    go_wp2_with (first
      | (go_at_call 12; refine (num5_any _ _).mono ?_; rintro e wn ⟨rfl, rfl⟩)
      | (go_at_call 11; refine (diskNew_ok w w n (by omega) (by omega) (Below.refl _ _)).mono ?_; rintro e w1 ⟨p, S1, rfl, hh, _⟩; rw [Int.toNat_natCast] at hh; have HD := Lib.hid hh; clear hh)
      | (go_at_call 13; refine (diskCreate_any HD.out _ 0 E1.out).mono ?_; clear E1; rintro e w2 ⟨S2, rfl, hh, _⟩; replace HD := Lib.hid hh; clear hh)
      | (go_at_call 13; refine (diskCreate_any HD.out _ 0 E2.out).mono ?_; clear E2; rintro e w2 ⟨S2, rfl, hh, _⟩; replace HD := Lib.hid hh; clear hh)
      | (go_at_call 14; refine (diskWrite_any (HD.out.alloc _) _ 0 (by omega) _ M1 M1 (noughts M1) (makeO HD.out M1 (by omega)) (Nat.le_refl _) (fun e => by cases e) (by omega) 0 E3.out (HC0.out _ _)).mono ?_; clear E3; rintro e w4 ⟨S4, rfl, hh, _⟩; replace HD := Lib.hid hh; clear hh)
      | (go_at_call 14; refine (diskWrite_any (HD.out.alloc _) _ 0 (by omega) _ M2 M2 (noughts M2) (makeO HD.out M2 (by omega)) (Nat.le_refl _) (fun e => by cases e) (by omega) 7 E4.out (HC1.out _ _)).mono ?_; clear E4; rintro e w4 ⟨S4, rfl, hh, _⟩; replace HD := Lib.hid hh; clear hh)
      | (go_at_call 14; refine (diskWrite_any (HD.out.alloc _) _ 0 (by omega) _ M3 M3 (noughts M3) (makeO HD.out M3 (by omega)) (Nat.le_refl _) (fun e => by cases e) (by omega) 0 E5.out (HC1.out _ _)).mono ?_; clear E5; rintro e w4 ⟨S4, rfl, hh, _⟩; replace HD := Lib.hid hh; clear hh)
      | (go_at_call 14; refine (diskWrite_any (HD.out.alloc _) _ m (by omega) _ 16 16 (noughts 16) (makeO HD.out 16 (by omega)) (Nat.le_refl _) (fun e => by cases e) (by omega) 7 E6.out (HC2.out _ _)).mono ?_; clear E6; rintro e w4 ⟨S4, rfl, hh, _⟩; replace HD := Lib.hid hh; clear hh)
      | (go_at_call 24; refine (diskUsed_any HD.out).mono ?_; rw [U1.out]; clear U1; rintro e w4 ⟨S4, rfl, hh, _⟩; replace HD := Lib.hid hh; clear hh)
      | (go_at_call 24; refine (diskUsed_any HD.out).mono ?_; rw [U2.out]; clear U2; rintro e w4 ⟨S4, rfl, hh, _⟩; replace HD := Lib.hid hh; clear hh))
    refine wp_region_held_drew (S := fun _ => True) (by kernel_rfl) (trivial) (fun hHeld => ?_)
    refine wpAnyH_take (i := 0) (oi := _) (v := ?vz0) rfl (by kernel_rfl) (by kernel_rfl) (by kernel_rfl) (fun _ _ _ h => h) (Or.inl ⟨by rfl, ?hyz0⟩) (by assumption) ?restz0
    case hyz0 => (intro wz hSw; (try dsimp only at hSw); go_simp; try with_reducible rfl)
    (try simp only [List.getElem_toArray, List.getElem_cons_zero, Act.put, List.setIfInBounds_toArray, List.set_cons_zero, List.set_cons_succ])
    refine wpAnyH_take (i := 1) (oi := _) (v := ?vz1) rfl (by kernel_rfl) (by kernel_rfl) (by kernel_rfl) (fun _ _ _ h => h) (Or.inl ⟨by rfl, ?hyz1⟩) (by assumption) ?restz1
    case hyz1 => (intro wz hSw; (try dsimp only at hSw); go_simp; try with_reducible rfl)
    (try simp only [List.getElem_toArray, List.getElem_cons_zero, List.getElem_cons_succ, Act.put, List.setIfInBounds_toArray, List.set_cons_zero, List.set_cons_succ])
    refine wpAnyH_take (i := 2) (oi := _) (v := ?vz2) rfl (by kernel_rfl) (by kernel_rfl) (by kernel_rfl) (fun _ _ _ h => h) (Or.inl ⟨by rfl, ?hyz2⟩) (by assumption) ?restz2
    case hyz2 => (intro wz hSw; (try dsimp only at hSw); go_simp; try with_reducible rfl)
    (try simp only [List.getElem_toArray, List.getElem_cons_zero, List.getElem_cons_succ, Act.put, List.setIfInBounds_toArray, List.set_cons_zero, List.set_cons_succ])
    refine wpAnyH_take (i := 3) (oi := _) (v := ?vz3) rfl (by kernel_rfl) (by kernel_rfl) (by kernel_rfl) (fun _ _ _ h => h) (Or.inl ⟨by rfl, ?hyz3⟩) (by assumption) ?restz3
    case hyz3 => (intro wz hSw; (try dsimp only at hSw); go_simp; try with_reducible rfl)
    (try simp only [List.getElem_toArray, List.getElem_cons_zero, List.getElem_cons_succ, Act.put, List.setIfInBounds_toArray, List.set_cons_zero, List.set_cons_succ])
    refine wpAnyH_take (i := 4) (oi := _) (v := undef) rfl (by kernel_rfl) (by kernel_rfl) (by kernel_rfl) (fun _ _ _ h => h) (Or.inr ⟨by rfl, rfl⟩) (by assumption) ?_
    (try simp only [List.getElem_toArray, List.getElem_cons_zero, List.getElem_cons_succ, Act.put, List.setIfInBounds_toArray, List.set_cons_zero, List.set_cons_succ])
    refine wpAnyH_take (i := 5) (oi := _) (v := undef) rfl (by kernel_rfl) (by kernel_rfl) (by kernel_rfl) (fun _ _ _ h => h) (Or.inr ⟨by rfl, rfl⟩) (by assumption) ?_
    (try simp only [List.getElem_toArray, List.getElem_cons_zero, List.getElem_cons_succ, Act.put, List.setIfInBounds_toArray, List.set_cons_zero, List.set_cons_succ])
    refine wpAnyH_take (i := 6) (oi := _) (v := undef) rfl (by kernel_rfl) (by kernel_rfl) (by kernel_rfl) (fun _ _ _ h => h) (Or.inr ⟨by rfl, rfl⟩) (by assumption) ?_
    (try simp only [List.getElem_toArray, List.getElem_cons_zero, List.getElem_cons_succ, Act.put, List.setIfInBounds_toArray, List.set_cons_zero, List.set_cons_succ])
    refine wpAnyH_take (i := 7) (oi := _) (v := undef) rfl (by kernel_rfl) (by kernel_rfl) (by kernel_rfl) (fun _ _ _ h => h) (Or.inr ⟨by rfl, rfl⟩) (by assumption) ?_
    (try simp only [List.getElem_toArray, List.getElem_cons_zero, List.getElem_cons_succ, Act.put, List.setIfInBounds_toArray, List.set_cons_zero, List.set_cons_succ])
    refine wpAnyH_take (i := 8) (oi := _) (v := undef) rfl (by kernel_rfl) (by kernel_rfl) (by kernel_rfl) (fun _ _ _ h => h) (Or.inr ⟨by rfl, rfl⟩) (by assumption) ?_
    (try simp only [List.getElem_toArray, List.getElem_cons_zero, List.getElem_cons_succ, Act.put, List.setIfInBounds_toArray, List.set_cons_zero, List.set_cons_succ])
    refine wpAnyH_take (i := 9) (oi := _) (v := undef) rfl (by kernel_rfl) (by kernel_rfl) (by kernel_rfl) (fun _ _ _ h => h) (Or.inr ⟨by rfl, rfl⟩) (by assumption) ?_
    (try simp only [List.getElem_toArray, List.getElem_cons_zero, List.getElem_cons_succ, Act.put, List.setIfInBounds_toArray, List.set_cons_zero, List.set_cons_succ])
    refine wpAnyH_take (i := 10) (oi := _) (v := undef) rfl (by kernel_rfl) (by kernel_rfl) (by kernel_rfl) (fun _ _ _ h => h) (Or.inr ⟨by rfl, rfl⟩) (by assumption) ?_
    (try simp only [List.getElem_toArray, List.getElem_cons_zero, List.getElem_cons_succ, Act.put, List.setIfInBounds_toArray, List.set_cons_zero, List.set_cons_succ])
    refine wpAnyH_take (i := 11) (oi := _) (v := undef) rfl (by kernel_rfl) (by kernel_rfl) (by kernel_rfl) (fun _ _ _ h => h) (Or.inr ⟨by rfl, rfl⟩) (by assumption) ?_
    (try simp only [List.getElem_toArray, List.getElem_cons_zero, List.getElem_cons_succ, Act.put, List.setIfInBounds_toArray, List.set_cons_zero, List.set_cons_succ])
    refine wpAnyH_take (i := 12) (oi := _) (v := undef) rfl (by kernel_rfl) (by kernel_rfl) (by kernel_rfl) (fun _ _ _ h => h) (Or.inr ⟨by rfl, rfl⟩) (by assumption) ?_
    (try simp only [List.getElem_toArray, List.getElem_cons_zero, List.getElem_cons_succ, Act.put, List.setIfInBounds_toArray, List.set_cons_zero, List.set_cons_succ])
    refine wpAnyH_take (i := 13) (oi := _) (v := undef) rfl (by kernel_rfl) (by kernel_rfl) (by kernel_rfl) (fun _ _ _ h => h) (Or.inr ⟨by rfl, rfl⟩) (by assumption) ?_
    (try simp only [List.getElem_toArray, List.getElem_cons_zero, List.getElem_cons_succ, Act.put, List.setIfInBounds_toArray, List.set_cons_zero, List.set_cons_succ])
    refine wpAnyH_take (i := 14) (oi := _) (v := undef) rfl (by kernel_rfl) (by kernel_rfl) (by kernel_rfl) (fun _ _ _ h => h) (Or.inr ⟨by rfl, rfl⟩) (by assumption) ?_
    (try simp only [List.getElem_toArray, List.getElem_cons_zero, List.getElem_cons_succ, Act.put, List.setIfInBounds_toArray, List.set_cons_zero, List.set_cons_succ])
    refine wpAnyH_take (i := 15) (oi := _) (v := ?vz15) rfl (by kernel_rfl) (by kernel_rfl) (by kernel_rfl) (fun _ _ _ h => h) (Or.inl ⟨by rfl, ?hyz15⟩) (by assumption) ?restz15
    case hyz15 => (intro wz hSw; (try dsimp only at hSw); go_simp; try with_reducible rfl)
    (try simp only [List.getElem_toArray, List.getElem_cons_zero, List.getElem_cons_succ, Act.put, List.setIfInBounds_toArray, List.set_cons_zero, List.set_cons_succ])
    refine wpAnyH_done (by kernel_rfl) ?_ _
    replace HD := Lib.hid HD.out.drew
    go_wp2_with (first
      | (go_at_call 12; refine (num5_any _ _).mono ?_; rintro e wn ⟨rfl, rfl⟩)
      | (go_at_call 24; refine (diskUsed_any HD.out).mono ?_; rw [U3.out]; clear U3; rintro e w4 ⟨S4, rfl, hh, _⟩; replace HD := Lib.hid hh; clear hh)
      | (go_at_call 21; refine (diskRemove_any HD.out _ 0 E8.out).mono ?_; clear E8; rintro e w4 ⟨S4, rfl, hh, _⟩; replace HD := Lib.hid hh; clear hh)
      | (go_at_call 14; refine (diskWrite_any (HD.out.alloc _) _ n1 (by omega) _ 16 16 (noughts 16) (makeO HD.out 16 (by omega)) (Nat.le_refl _) (fun e => by cases e) (by omega) 0 E9.out (HC4.out _)).mono ?_; clear E9; rintro e w4 ⟨S4, rfl, hh, _⟩; replace HD := Lib.hid hh; clear hh)
      | (go_at_call 10; refine (awake5_any _).mono ?_; rintro e w13 ⟨rfl, hb⟩; have HZ := Lib.hid (HD.out.below.trans (hb.mono HD.out.below.size)); clear hb))
    go_ret
    exact ⟨rfl, HZ.out⟩
  · have hmp : 0 < m := by omega
    obtain ⟨q, hq, hq2⟩ : ∃ q : Nat, (t : Int) % (m : Int) = (q : Int) ∧ q < m := ⟨t % m, by rw [← Int.natCast_emod], Nat.mod_lt _ hmp⟩
    obtain ⟨nb2, P3, x7, lb2, lp3⟩ := two_wb n na nb P2 q 1 (by rw [la, lb]; omega) (by omega) (by omega)
    have E7 : Hid ((two n na nb P2).write nB q (noughts 16) = (0, two n na nb2 P3)) := x7
    obtain ⟨P4, x8, lp4⟩ := two_rm n na nb2 P3
    have HC4 : Hid (∀ b, (onlyB n b P4).cnt ≤ 1000000) := Lib.hid fun b => by show P4.2 ≤ 1000000; omega
    clear lp3 lp4
    have E8 := Lib.hid x8
    obtain ⟨nb3, P5, x9, lb3, _⟩ := only_wb n nb2 P4 n1 (by rw [lb2, lb]; omega) (by omega)
    have E9 : Hid ((onlyB n nb2 P4).write nB n1 (noughts 16) = (0, onlyB n nb3 P5)) := x9
    have U3 : Hid ((onlyB n nb3 P5).used = n) := by rw [only_usedD, lb3, lb2, lb]; exact Lib.hid (by omega)
    have hkn2 : k < n := by omega
    have hwm : IntKind.i64.wrap (m : Int) = (m : Int) := by rw [IntKind.wrap_i64]; omega
    have hwt : IntKind.i64.wrap (t : Int) = (t : Int) := by rw [IntKind.wrap_i64]; omega
    have htm : (t : Int).tmod (m : Int) = (q : Int) := by rw [Int.tmod_eq_emod_of_nonneg (by omega)]; exact hq
    have hmz : ¬ (m : Int) = 0 := by omega
    clear w0 w1 w2 x1 x2 x3 x4 x7 x8 x9 la lb lb2 lb3 hM12 hM22 hM32 hA hF hT hml hnp2 hm12 hn12
    go_enter Try.func6, Try.ntmps6
    go_wp2_with (first
      | (go_at_call 12; refine (num5_any _ _).mono ?_; rintro e wn ⟨rfl, rfl⟩)
      | (go_at_call 11; refine (diskNew_ok w w n (by omega) (by omega) (Below.refl _ _)).mono ?_; rintro e w1 ⟨p, S1, rfl, hh, _⟩; rw [Int.toNat_natCast] at hh; have HD := Lib.hid hh; clear hh)
      | (go_at_call 13; refine (diskCreate_any HD.out _ 0 E1.out).mono ?_; clear E1; rintro e w2 ⟨S2, rfl, hh, _⟩; replace HD := Lib.hid hh; clear hh)
      | (go_at_call 13; refine (diskCreate_any HD.out _ 0 E2.out).mono ?_; clear E2; rintro e w2 ⟨S2, rfl, hh, _⟩; replace HD := Lib.hid hh; clear hh)
      | (go_at_call 14; refine (diskWrite_any (HD.out.alloc _) _ 0 (by omega) _ M1 M1 (noughts M1) (makeO HD.out M1 (by omega)) (Nat.le_refl _) (fun e => by cases e) (by omega) 0 E3.out (HC0.out _ _)).mono ?_; clear E3; rintro e w4 ⟨S4, rfl, hh, _⟩; replace HD := Lib.hid hh; clear hh)
      | (go_at_call 14; refine (diskWrite_any (HD.out.alloc _) _ 0 (by omega) _ M2 M2 (noughts M2) (makeO HD.out M2 (by omega)) (Nat.le_refl _) (fun e => by cases e) (by omega) 7 E4.out (HC1.out _ _)).mono ?_; clear E4; rintro e w4 ⟨S4, rfl, hh, _⟩; replace HD := Lib.hid hh; clear hh)
      | (go_at_call 14; refine (diskWrite_any (HD.out.alloc _) _ 0 (by omega) _ M3 M3 (noughts M3) (makeO HD.out M3 (by omega)) (Nat.le_refl _) (fun e => by cases e) (by omega) 0 E5.out (HC1.out _ _)).mono ?_; clear E5; rintro e w4 ⟨S4, rfl, hh, _⟩; replace HD := Lib.hid hh; clear hh)
      | (go_at_call 14; refine (diskWrite_any (HD.out.alloc _) _ m (by omega) _ 16 16 (noughts 16) (makeO HD.out 16 (by omega)) (Nat.le_refl _) (fun e => by cases e) (by omega) 7 E6.out (HC2.out _ _)).mono ?_; clear E6; rintro e w4 ⟨S4, rfl, hh, _⟩; replace HD := Lib.hid hh; clear hh)
      | (go_at_call 24; refine (diskUsed_any HD.out).mono ?_; rw [U1.out]; clear U1; rintro e w4 ⟨S4, rfl, hh, _⟩; replace HD := Lib.hid hh; clear hh)
      | (go_at_call 24; refine (diskUsed_any HD.out).mono ?_; rw [U2.out]; clear U2; rintro e w4 ⟨S4, rfl, hh, _⟩; replace HD := Lib.hid hh; clear hh))
    refine wp_region_held_drew (S := fun _ => True) (by kernel_rfl) (trivial) (fun hHeld => ?_)
    refine wpAnyH_take (i := 0) (oi := _) (v := ?vy0) rfl (by kernel_rfl) (by kernel_rfl) (by kernel_rfl) (fun _ _ _ h => h) (Or.inl ⟨by rfl, ?hyy0⟩) (by assumption) ?resty0
    case hyy0 => (intro wz hSw; (try dsimp only at hSw); go_simp; try with_reducible rfl)
    (try simp only [List.getElem_toArray, List.getElem_cons_zero, Act.put, List.setIfInBounds_toArray, List.set_cons_zero, List.set_cons_succ])
    refine wpAnyH_take (i := 1) (oi := _) (v := ?vy1) rfl (by kernel_rfl) (by kernel_rfl) (by kernel_rfl) (fun _ _ _ h => h) (Or.inl ⟨by rfl, ?hyy1⟩) (by assumption) ?resty1
    case hyy1 => (intro wz hSw; (try dsimp only at hSw); go_simp; try with_reducible rfl)
    (try simp only [List.getElem_toArray, List.getElem_cons_zero, List.getElem_cons_succ, Act.put, List.setIfInBounds_toArray, List.set_cons_zero, List.set_cons_succ])
    refine wpAnyH_take (i := 2) (oi := _) (v := ?vy2) rfl (by kernel_rfl) (by kernel_rfl) (by kernel_rfl) (fun _ _ _ h => h) (Or.inl ⟨by rfl, ?hyy2⟩) (by assumption) ?resty2
    case hyy2 => (intro wz hSw; (try dsimp only at hSw); go_simp; try with_reducible rfl)
    (try simp only [List.getElem_toArray, List.getElem_cons_zero, List.getElem_cons_succ, Act.put, List.setIfInBounds_toArray, List.set_cons_zero, List.set_cons_succ])
    refine wpAnyH_take (i := 3) (oi := _) (v := ?vy3) rfl (by kernel_rfl) (by kernel_rfl) (by kernel_rfl) (fun _ _ _ h => h) (Or.inl ⟨by rfl, ?hyy3⟩) (by assumption) ?resty3
    case hyy3 => (intro wz hSw; (try dsimp only at hSw); go_simp; try with_reducible rfl)
    (try simp only [List.getElem_toArray, List.getElem_cons_zero, List.getElem_cons_succ, Act.put, List.setIfInBounds_toArray, List.set_cons_zero, List.set_cons_succ])
    refine wpAnyH_take (i := 4) (oi := _) (v := ?vy4) rfl (by kernel_rfl) (by kernel_rfl) (by kernel_rfl) (fun _ _ _ h => h) (Or.inl ⟨by rfl, ?hyy4⟩) (by assumption) ?resty4
    case hyy4 => (intro wz hSw; (try dsimp only at hSw); go_simp; try with_reducible rfl)
    (try simp only [List.getElem_toArray, List.getElem_cons_zero, List.getElem_cons_succ, Act.put, List.setIfInBounds_toArray, List.set_cons_zero, List.set_cons_succ])
    refine wpAnyH_take (i := 5) (oi := _) (v := ?vy5) rfl (by kernel_rfl) (by kernel_rfl) (by kernel_rfl) (fun _ _ _ h => h) (Or.inl ⟨by rfl, ?hyy5⟩) (by assumption) ?resty5
    case hyy5 => (intro wz hSw; (try dsimp only at hSw); go_simp; try with_reducible rfl)
    (try simp only [List.getElem_toArray, List.getElem_cons_zero, List.getElem_cons_succ, Act.put, List.setIfInBounds_toArray, List.set_cons_zero, List.set_cons_succ])
    refine wpAnyH_take (i := 6) (oi := _) (v := ?vy6) rfl (by kernel_rfl) (by kernel_rfl) (by kernel_rfl) (fun _ _ _ h => h) (Or.inl ⟨by rfl, ?hyy6⟩) (by assumption) ?resty6
    case hyy6 => (intro wz hSw; (try dsimp only at hSw); go_simp; try with_reducible rfl)
    (try simp only [List.getElem_toArray, List.getElem_cons_zero, List.getElem_cons_succ, Act.put, List.setIfInBounds_toArray, List.set_cons_zero, List.set_cons_succ])
    refine wpAnyH_take (i := 7) (oi := _) (v := ?vy7) rfl (by kernel_rfl) (by kernel_rfl) (by kernel_rfl) (fun _ _ _ h => h) (Or.inl ⟨by rfl, ?hyy7⟩) (by assumption) ?resty7
    case hyy7 => (intro wz hSw; (try dsimp only at hSw); go_simp; try with_reducible rfl)
    (try simp only [List.getElem_toArray, List.getElem_cons_zero, List.getElem_cons_succ, Act.put, List.setIfInBounds_toArray, List.set_cons_zero, List.set_cons_succ])
    refine wpAnyH_take (i := 8) (oi := _) (v := ?vy8) rfl (by kernel_rfl) (by kernel_rfl) (by kernel_rfl) (fun _ _ _ h => h) (Or.inl ⟨by rfl, ?hyy8⟩) (by assumption) ?resty8
    case hyy8 => (intro wz hSw; (try dsimp only at hSw); go_simp; try with_reducible rfl)
    (try simp only [List.getElem_toArray, List.getElem_cons_zero, List.getElem_cons_succ, Act.put, List.setIfInBounds_toArray, List.set_cons_zero, List.set_cons_succ])
    refine wpAnyH_take (i := 9) (oi := _) (v := ?vy9) rfl (by kernel_rfl) (by kernel_rfl) (by kernel_rfl) (fun _ _ _ h => h) (Or.inl ⟨by rfl, ?hyy9⟩) (by assumption) ?resty9
    case hyy9 => (intro wz hSw; (try dsimp only at hSw); go_simp; try with_reducible rfl)
    (try simp only [List.getElem_toArray, List.getElem_cons_zero, List.getElem_cons_succ, Act.put, List.setIfInBounds_toArray, List.set_cons_zero, List.set_cons_succ])
    refine wpAnyH_take (i := 10) (oi := _) (v := ?vy10) rfl (by kernel_rfl) (by kernel_rfl) (by kernel_rfl) (fun _ _ _ h => h) (Or.inl ⟨by rfl, ?hyy10⟩) (by assumption) ?resty10
    case hyy10 => (intro wz hSw; (try dsimp only at hSw); go_simp; try with_reducible rfl)
    (try simp only [List.getElem_toArray, List.getElem_cons_zero, List.getElem_cons_succ, Act.put, List.setIfInBounds_toArray, List.set_cons_zero, List.set_cons_succ])
    refine wpAnyH_ready (rs := [11]) (by kernel_rfl) (by simp) ?_
    refine AllReadyH.cons (o := _) rfl (fun K hK => ?_) AllReadyH.nil
    rw [if_pos (by rfl)]
    go_simp
    refine hK.out _ _ (trivial) (fun hHeld => ?_)
    clear hK K
    (try simp only [List.getElem_toArray, List.getElem_cons_zero, List.getElem_cons_succ, Act.put, List.setIfInBounds_toArray, List.set_cons_zero, List.set_cons_succ])
    refine wpAnyH_ready (rs := [12]) (by kernel_rfl) (by simp) ?_
    refine AllReadyH.cons (o := _) rfl (fun K hK => ?_) AllReadyH.nil
    rw [if_pos (by rfl)]
    go_simp
    (go_at_call 14; refine (diskWrite_any (HD.out.drew.alloc _) _ q (by omega) _ 16 16 (noughts 16) (makeO HD.out.drew 16 (by omega)) (Nat.le_refl _) (fun e => by cases e) (by omega) 0 E7.out (HC2.out _ _)).mono ?_; clear E7; rintro e w4 ⟨S4, rfl, hh, _⟩; replace HD := Lib.hid hh; clear hh)
    dsimp only
    refine hK.out _ _ (trivial) (fun hHeld => ?_)
    clear hK K
    (try simp only [List.getElem_toArray, List.getElem_cons_zero, List.getElem_cons_succ, Act.put, List.setIfInBounds_toArray, List.set_cons_zero, List.set_cons_succ])
    refine wpAnyH_ready (rs := [13]) (by kernel_rfl) (by simp) ?_
    refine AllReadyH.cons (o := _) rfl (fun K hK => ?_) AllReadyH.nil
    rw [if_pos (by rfl)]
    go_simp
    (go_at_call 12; refine (num5_any _ _).mono ?_; rintro e wn ⟨rfl, rfl⟩)
    dsimp only
    refine hK.out _ _ (trivial) (fun hHeld => ?_)
    clear hK K
    (try simp only [List.getElem_toArray, List.getElem_cons_zero, List.getElem_cons_succ, Act.put, List.setIfInBounds_toArray, List.set_cons_zero, List.set_cons_succ])
    refine wpAnyH_take (i := 14) (oi := _) (v := ?vy14) rfl (by kernel_rfl) (by kernel_rfl) (by kernel_rfl) (fun _ _ _ h => h) (Or.inl ⟨by rfl, ?hyy14⟩) (by assumption) ?resty14
    case hyy14 => (intro wz hSw; (try dsimp only at hSw); go_simp; try with_reducible rfl)
    (try simp only [List.getElem_toArray, List.getElem_cons_zero, List.getElem_cons_succ, Act.put, List.setIfInBounds_toArray, List.set_cons_zero, List.set_cons_succ])
    refine wpAnyH_take (i := 15) (oi := _) (v := ?vy15) rfl (by kernel_rfl) (by kernel_rfl) (by kernel_rfl) (fun _ _ _ h => h) (Or.inl ⟨by rfl, ?hyy15⟩) (by assumption) ?resty15
    case hyy15 => (intro wz hSw; (try dsimp only at hSw); go_simp; try with_reducible rfl)
    (try simp only [List.getElem_toArray, List.getElem_cons_zero, List.getElem_cons_succ, Act.put, List.setIfInBounds_toArray, List.set_cons_zero, List.set_cons_succ])
    refine wpAnyH_done (by kernel_rfl) ?_ _
    go_wp2_with (first
      | (go_at_call 12; refine (num5_any _ _).mono ?_; rintro e wn ⟨rfl, rfl⟩)
      | (go_at_call 24; refine (diskUsed_any HD.out).mono ?_; rw [U3.out]; clear U3; rintro e w4 ⟨S4, rfl, hh, _⟩; replace HD := Lib.hid hh; clear hh)
      | (go_at_call 21; refine (diskRemove_any HD.out _ 0 E8.out).mono ?_; clear E8; rintro e w4 ⟨S4, rfl, hh, _⟩; replace HD := Lib.hid hh; clear hh)
      | (go_at_call 14; refine (diskWrite_any (HD.out.alloc _) _ n1 (by omega) _ 16 16 (noughts 16) (makeO HD.out 16 (by omega)) (Nat.le_refl _) (fun e => by cases e) (by omega) 0 E9.out (HC4.out _)).mono ?_; clear E9; rintro e w4 ⟨S4, rfl, hh, _⟩; replace HD := Lib.hid hh; clear hh)
      | (go_at_call 10; refine (awake5_any _).mono ?_; rintro e w13 ⟨rfl, hb⟩; have HZ := Lib.hid (HD.out.below.trans (hb.mono HD.out.below.size)); clear hb))
    go_ret
    exact ⟨rfl, HZ.out⟩

set_option maxRecDepth 100000 in
theorem lifted (os : Os) (started : os.Started) (H : Type) (enc : TypeId × Value → H) :
    ReturnsInHanded {} Try.checked os 6 .any (Rows.diskRoomsSpec.pre6 enc Try.prog Try.f6 Rows.diskRoomsRow.domain false) (Rows.diskRoomsSpec.post enc Try.prog Try.f6 false true false false) := by
  refine returnsInHanded_of_change (C := Try.checked) own started (by kernel_rfl) Try.func6
    (ChangeSpec.witness6 (enc := enc) (C := Try.checked) false ⟨#[], #[.int .u8 0, .int .u8 0, .int .u8 0], []⟩ 8 (by kernel_rfl) (by kernel_rfl) (by kernel_rfl) (by kernel_rfl)) ?_
  intro W base args ds gs before hval0 hW hcnd _
  have hval : ∀ (j : Nat) t v, Try.f6.params[j]? = some t → args[j]? = some v → Value.okWide Try.prog W .any base t v := hval0
  have hW' := hW
  obtain ⟨p, q, hA0, hV, rfl, hfz, hnd⟩ := hW
  have hA : DataW.TrodAll enc Try.prog W 0 (fun _ => true) true Try.f6.params.toList args.toList ds p := hA0
  rw [Try.params6] at hA hval
  obtain ⟨v0, vs0, d0, ds0, p0, q0, hargs, rfl, rfl, h0, r0⟩ := trodAll_cons hA
  obtain ⟨v1, vs1, d1, ds1, p1, q1, rfl, rfl, rfl, h1, r1⟩ := trodAll_cons r0
  obtain ⟨v2, vs2, d2, ds2, p2, q2, rfl, rfl, rfl, h2, r2⟩ := trodAll_cons r1
  obtain ⟨rfl, rfl, rfl⟩ := trodAll_nil r2
  obtain rfl : args = #[v0, v1, v2] := by cases args; simp_all
  obtain ⟨rfl, rfl⟩ := trodVars_none hV
  have k0 := h0
  have lt0 : ∀ x ∈ p0, x.block < W.heap.size := by obtain ⟨m, hm⟩ := k0; exact DataW.trod_lt m _ _ _ hm
  obtain ⟨a0, rfl, _, _, w0⟩ := open_int Try.underlying5 (hval 0 5 v0 rfl rfl) h0
  have k1 := h1
  have lt1 : ∀ x ∈ p1, x.block < W.heap.size := by obtain ⟨m, hm⟩ := k1; exact DataW.trod_lt m _ _ _ hm
  obtain ⟨a1, rfl, _, _, w1⟩ := open_int Try.underlying5 (hval 1 5 v1 rfl rfl) h1
  have k2 := h2
  have lt2 : ∀ x ∈ p2, x.block < W.heap.size := by obtain ⟨m, hm⟩ := k2; exact DataW.trod_lt m _ _ _ hm
  obtain ⟨a2, rfl, _, _, w2⟩ := open_int Try.underlying5 (hval 2 5 v2 rfl rfl) h2
  clear hA0 hval0
  refine (walk a0 a1 a2 W w0 w1 w2).mono fun e W' ⟨he, bel⟩ => ?_
  subst he
  exact ⟨_, rfl, _, _, _, [], _, [], hW', trodAll_mk1 (shut_bool Try.underlying4 _), (trodAll_cons_mk (Below.trod laidOut (by kernel_rfl) (of_decide_eq_true (by kernel_rfl)) k0 bel lt0) (trodAll_cons_mk (Below.trod laidOut (by kernel_rfl) (of_decide_eq_true (by kernel_rfl)) k1 bel lt1) (trodAll_cons_mk (Below.trod laidOut (by kernel_rfl) (of_decide_eq_true (by kernel_rfl)) k2 bel lt2) trodAll_mk0))), rfl, bel.frame _, fun h => by cases h⟩

theorem over : Rows.diskRoomsRow.holds Try.pinned (OpenSpec.ofChange Rows.diskRoomsSpec) :=
  OpenClaim.holds_of_wide 6 Try.f6 rfl rfl rfl rfl rfl rfl rfl ⟨rfl, rfl, rfl, rfl, rfl⟩ rfl rfl rfl rfl rfl (by kernel_rfl) Try.func6 (by kernel_rfl)
    (of_decide_eq_true (by kernel_rfl)) (by unfold Func.isWrapper; first | (rw [if_pos (by decide +kernel)]; kernel_rfl) | (rw [if_neg (by decide +kernel)]; exact ⟨rfl, rfl⟩))
    (fun os started H enc _ => lifted os started H enc)

/-- The statement. -/
theorem proved : Rows.DiskRoomsSaid := over
#print axioms proved
end Go.Proofs.Ytnhaidofblfopaa.diskRooms
