/-
  What the project's own Put answers (package entry). Conditions: the fields are numbers of their types; the table of widths reads as it was laid.
-/
import Derived.Test.YtdffgnpldapciaaGreatDoorJ8
import Derived.Test.YtdffgnpldapciaaGreatDoorF7
import Derived.Deep.Onto
import Derived.LoopN
namespace Go.Proofs.YtdffgnpldapciaaGreatDoor
open Go.RowKit
set_option linter.unusedVariables false

set_option maxHeartbeats 1600000 in
theorem entryPut_arg {k s n z m c : Int} (h : ¬ MayE (k, s, n, z, m) c) (ho : EnOk (k, s, n, z, m)) (w : World) : Calls Tryz.prog 96 #[.agg #[.int .i64 k, .int .i64 s, .int .i64 n, .int .i64 z, .int .u32 m], .int .i64 c] w (PutPost w [] 1) := by
  have h1 := fun w => entryMay_any k s n z m c ho w
  rw [decide_eq_false h] at h1
  have H1 := Lib.hid h1
  have HG0 : Hid (Below w.heap.size w (w.alloc (.cells #[.int .i64 k, .int .i64 s, .int .i64 n, .int .i64 z, .int .u32 m] 91))) := (Below.refl _ _).alloc (Nat.le_refl _) _
  clear h1 h ho
  go_enter Tryz.func96, Tryz.ntmps96
  go_wp2_with (go_at_call 91; (with_reducible refine (H1.out _).mono ?_); rintro e w1 ⟨rfl, g⟩; have HG := Lib.hid (HG0.out.trans (g.mono HG0.out.size)); clear g)
  go_ret2
  exact ⟨none, 0, rfl, none_bytes _, ⟨fun _ => rfl, Nat.le_refl _⟩, HG.out⟩
/-- A step of Put: what was put so far, and the next number. -/
def Step8 (w0 : World) (n : Nat) (l : List Int) (e : Ending) (w : World) : Prop := ∃ a c, e = .returned (.tuple #[.slice a n c, .int .i64 0]) ∧ Own w w0.heap.size (.slice a n c) n l ∧ Below w0.heap.size w0 w
theorem step8 (a : Option Addr) (len cap m v K : Nat) (M V : Int) (l : List Int) (w : World) (hB : Bytes w a len l) (hnil : a = none → cap = 0) (hlen : len ≤ 100000) (hM : (m : Int) = M) (hV : (v : Int) = V) (h1 : 1 ≤ m) (h2 : m < 8) (hv4 : v < 4294967296) (hv : v < 256 ^ m) (hK : len + m = K) :
    Calls Tryz.prog 66 #[.slice a len cap, .int .i64 M, .bool false, .int .u64 V] w (Step8 w K (l ++ numB false m v)) := by
  subst hM hV hK
  exact fieldPut_own a len cap m v l false w hB hnil hlen h1 (by omega) (fit4 hv4) (fitsM h2 hv)
theorem Step8.next {w0 w : World} {n : Nat} {l : List Int} {e : Ending} (h : Step8 w0 n l e w) : ∃ a c, e = .returned (.tuple #[.slice a n c, .int .i64 0]) ∧ Own w w0.heap.size (.slice a n c) n l ∧ (Bytes w a n l ∧ (a = none → c = 0)) ∧ Below w0.heap.size w0 w := by
  obtain ⟨a, c, rfl, h1, h2⟩ := h
  exact ⟨a, c, rfl, h1, h1.bytes, h2⟩
set_option maxHeartbeats 4000000 in
theorem entryPut_own {k s n z m c : Int} (h : MayE (k, s, n, z, m) c) (ho : EnOk (k, s, n, z, m)) (w : World) (hw : Wid w) : Calls Tryz.prog 96 #[.agg #[.int .i64 k, .int .i64 s, .int .i64 n, .int .i64 z, .int .u32 m], .int .i64 c] w fun e w' =>
    ∃ g c', e = .returned (.tuple #[.slice (some ⟨g, 0, none⟩) 16 c', .int .i64 0]) ∧ Own w' w.heap.size (.slice (some ⟨g, 0, none⟩) 16 c') 16 (enB (k, s, n, z, m)) ∧ Below w.heap.size w w' := by
  have h1 := fun w => entryMay_any k s n z m c ho w
  rw [decide_eq_true h] at h1
  obtain ⟨⟨p1, p2⟩, ⟨p3, p4⟩, ⟨p5, p6⟩, p7, p8⟩ := h.bounds
  obtain ⟨_, _, _, _, p9, p10⟩ := ho
  dsimp only at p1 p2 p3 p4 p5 p6 p7 p8 p9 p10
  obtain ⟨Kd, rfl⟩ : ∃ Q : Nat, k = Q := ⟨k.toNat, by omega⟩
  obtain ⟨S, rfl⟩ : ∃ Q : Nat, s = Q := ⟨s.toNat, by omega⟩
  obtain ⟨N, rfl⟩ : ∃ Q : Nat, n = Q := ⟨n.toNat, by omega⟩
  obtain ⟨Z, rfl⟩ : ∃ Q : Nat, z = Q := ⟨z.toNat, by omega⟩
  obtain ⟨M, rfl⟩ : ∃ Q : Nat, m = Q := ⟨m.toNat, by omega⟩
  have q1 : (256 : Nat) ^ 1 = 256 := by decide
  have q2 : (256 : Nat) ^ 2 = 65536 := by decide
  have q4 : (256 : Nat) ^ 4 = 4294967296 := by decide
  have hO := fun w => numbersOf_any Kd S N Z M (by omega) (by omega) (by omega) (by omega) (by omega) w
  have e0 : enB ((Kd : Int), (S : Int), (N : Int), (Z : Int), (M : Int)) = [] ++ numB false 1 Kd ++ numB false 1 0 ++ numB false 2 N ++ numB false 4 S ++ numB false 4 Z ++ numB false 4 M := rfl
  rw [e0]
  have n1 := fun w => step8 none 0 0 1 Kd 1 1 Kd [] w (none_bytes w) (fun _ => rfl) (by omega) rfl rfl (by omega) (by omega) (by omega) (by omega) rfl
  obtain ⟨L1, hL1⟩ := named ([] ++ numB false 1 Kd)
  rw [hL1.out] at n1 ⊢
  have n2 := fun a c w (h : Bytes w a 1 L1 ∧ (a = none → c = 0)) => step8 a 1 c 1 0 2 1 0 L1 w h.1 h.2 (by omega) rfl rfl (by omega) (by omega) (by omega) (by omega) rfl
  obtain ⟨L2, hL2⟩ := named (L1 ++ numB false 1 0)
  rw [hL2.out] at n2 ⊢
  have n3 := fun a c w (h : Bytes w a 2 L2 ∧ (a = none → c = 0)) => step8 a 2 c 2 N 4 2 N L2 w h.1 h.2 (by omega) rfl rfl (by omega) (by omega) (by omega) (by omega) rfl
  obtain ⟨L3, hL3⟩ := named (L2 ++ numB false 2 N)
  rw [hL3.out] at n3 ⊢
  have n4 := fun a c w (h : Bytes w a 4 L3 ∧ (a = none → c = 0)) => step8 a 4 c 4 S 8 4 S L3 w h.1 h.2 (by omega) rfl rfl (by omega) (by omega) (by omega) (by omega) rfl
  obtain ⟨L4, hL4⟩ := named (L3 ++ numB false 4 S)
  rw [hL4.out] at n4 ⊢
  have n5 := fun a c w (h : Bytes w a 8 L4 ∧ (a = none → c = 0)) => step8 a 8 c 4 Z 12 4 Z L4 w h.1 h.2 (by omega) rfl rfl (by omega) (by omega) (by omega) (by omega) rfl
  obtain ⟨L5, hL5⟩ := named (L4 ++ numB false 4 Z)
  rw [hL5.out] at n5 ⊢
  have n6 := fun a c w (h : Bytes w a 12 L5 ∧ (a = none → c = 0)) => step8 a 12 c 4 M 16 4 M L5 w h.1 h.2 (by omega) rfl rfl (by omega) (by omega) (by omega) (by omega) rfl
  obtain ⟨L6, hL6⟩ := named (L5 ++ numB false 4 M)
  rw [hL6.out] at n6 ⊢
  have HN1 := Lib.hid n1
  have HN2 := Lib.hid n2
  have HN3 := Lib.hid n3
  have HN4 := Lib.hid n4
  have HN5 := Lib.hid n5
  have HN6 := Lib.hid n6
  have HO := Lib.hid hO
  have H1 := Lib.hid h1
  have HX0 : Hid (Blk (w.alloc (.cells #[.int .i64 Kd, .int .i64 S, .int .i64 N, .int .i64 Z, .int .u32 M] 91)) w.heap.size 91 #[.int .i64 Kd, .int .i64 S, .int .i64 N, .int .i64 Z, .int .u32 M] ∧ Below w.heap.size w (w.alloc (.cells #[.int .i64 Kd, .int .i64 S, .int .i64 N, .int .i64 Z, .int .u32 M] 91))) :=
    ⟨Blk.new w _ _, (Below.refl _ _).alloc (Nat.le_refl _) _⟩
  have HWD := Lib.hid hw
  have i0 : ∀ w, (Instr.index 148 (.agg #[.int .u64 Kd, .int .u64 0, .int .u64 N, .int .u64 S, .int .u64 Z, .int .u64 M]) (.int .i64 0)).run Tryz.prog w = .ok (.int .u64 Kd) w := fun _ => by kernel_rfl
  have i1 : ∀ w, (Instr.index 148 (.agg #[.int .u64 Kd, .int .u64 0, .int .u64 N, .int .u64 S, .int .u64 Z, .int .u64 M]) (.int .i64 1)).run Tryz.prog w = .ok (.int .u64 0) w := fun _ => by kernel_rfl
  have i2 : ∀ w, (Instr.index 148 (.agg #[.int .u64 Kd, .int .u64 0, .int .u64 N, .int .u64 S, .int .u64 Z, .int .u64 M]) (.int .i64 2)).run Tryz.prog w = .ok (.int .u64 N) w := fun _ => by kernel_rfl
  have i3 : ∀ w, (Instr.index 148 (.agg #[.int .u64 Kd, .int .u64 0, .int .u64 N, .int .u64 S, .int .u64 Z, .int .u64 M]) (.int .i64 3)).run Tryz.prog w = .ok (.int .u64 S) w := fun _ => by kernel_rfl
  have i4 : ∀ w, (Instr.index 148 (.agg #[.int .u64 Kd, .int .u64 0, .int .u64 N, .int .u64 S, .int .u64 Z, .int .u64 M]) (.int .i64 4)).run Tryz.prog w = .ok (.int .u64 Z) w := fun _ => by kernel_rfl
  have i5 : ∀ w, (Instr.index 148 (.agg #[.int .u64 Kd, .int .u64 0, .int .u64 N, .int .u64 S, .int .u64 Z, .int .u64 M]) (.int .i64 5)).run Tryz.prog w = .ok (.int .u64 M) w := fun _ => by kernel_rfl
  clear n1 n2 n3 n4 n5 n6 h1 hO hL1 hL2 hL3 hL4 hL5 hL6 e0 h hw p9 p10
  go_enter Tryz.func96, Tryz.ntmps96
  go_wp2_with (first
    | (go_at_call 91; (with_reducible refine (H1.out _).mono ?_); rintro e w1 ⟨rfl, g⟩; have HX1 := Lib.hid (HX0.out.1.later g); have HG1 := Lib.hid (HX0.out.2.trans (g.mono HX0.out.2.size)); clear g H1)
    | (refine wpList_load_row rfl 91 (.tmp 2) rfl w.heap.size rfl 91 #[.int .i64 Kd, .int .i64 S, .int .i64 N, .int .i64 Z, .int .u32 M] (0, 0) _ HX1.out Tryz.underlying91 rfl entry_size ?_)
    | (go_at_call 104; (with_reducible refine (HO.out _).mono ?_); rintro e w2 ⟨rfl, g⟩; have HG2 := Lib.hid (HG1.out.trans (g.mono HG1.out.size)); obtain ⟨k0, k1, k2, k3, k4, k5⟩ := HWD.out.later HG2.out; clear g HO))
  refine wp_loop_rounds 7 ?_
  rw [rounds_succ]
  go_wp2_with (go_at_call 66; (with_reducible refine (HN1.out _).mono ?_); rintro e w3 hp; obtain ⟨a3, c3, rfl, _, hb, g⟩ := hp.next; have HB3 := Lib.hid hb; have HG3 := Lib.hid (HG2.out.trans (g.mono HG2.out.size)); obtain ⟨k0, k1, k2, k3, k4, k5⟩ := HWD.out.later HG3.out; clear g hp hb HN1)
  rw [rounds_succ]
  go_wp2_with (go_at_call 66; (with_reducible refine (HN2.out _ _ _ HB3.out).mono ?_); rintro e w4 hp; obtain ⟨a4, c4, rfl, _, hb, g⟩ := hp.next; have HB4 := Lib.hid hb; have HG4 := Lib.hid (HG3.out.trans (g.mono HG3.out.size)); obtain ⟨k0, k1, k2, k3, k4, k5⟩ := HWD.out.later HG4.out; clear g hp hb HN2)
  rw [rounds_succ]
  go_wp2_with (go_at_call 66; (with_reducible refine (HN3.out _ _ _ HB4.out).mono ?_); rintro e w5 hp; obtain ⟨a5, c5, rfl, _, hb, g⟩ := hp.next; have HB5 := Lib.hid hb; have HG5 := Lib.hid (HG4.out.trans (g.mono HG4.out.size)); obtain ⟨k0, k1, k2, k3, k4, k5⟩ := HWD.out.later HG5.out; clear g hp hb HN3)
  rw [rounds_succ]
  go_wp2_with (go_at_call 66; (with_reducible refine (HN4.out _ _ _ HB5.out).mono ?_); rintro e w6 hp; obtain ⟨a6, c6, rfl, _, hb, g⟩ := hp.next; have HB6 := Lib.hid hb; have HG6 := Lib.hid (HG5.out.trans (g.mono HG5.out.size)); obtain ⟨k0, k1, k2, k3, k4, k5⟩ := HWD.out.later HG6.out; clear g hp hb HN4)
  rw [rounds_succ]
  go_wp2_with (go_at_call 66; (with_reducible refine (HN5.out _ _ _ HB6.out).mono ?_); rintro e w7 hp; obtain ⟨a7, c7, rfl, _, hb, g⟩ := hp.next; have HB7 := Lib.hid hb; have HG7 := Lib.hid (HG6.out.trans (g.mono HG6.out.size)); obtain ⟨k0, k1, k2, k3, k4, k5⟩ := HWD.out.later HG7.out; clear g hp hb HN5)
  rw [rounds_succ]
  go_wp2_with (go_at_call 66; (with_reducible refine (HN6.out _ _ _ HB7.out).mono ?_); rintro e w8 hp; obtain ⟨a8, c8, rfl, ho, hb, g⟩ := hp.next; have HO8 := Lib.hid ho; have HG8 := Lib.hid (HG7.out.trans (g.mono HG7.out.size)); clear g hp hb ho HN6)
  rw [rounds_succ]
  go_wp2
  obtain ⟨g, rfl, _, _⟩ := HO8.out.lies (by omega)
  go_ret2
  exact ⟨g, c8, rfl, ⟨HO8.out.1.mono HG7.out.size, HO8.out.2⟩, HG8.out⟩
theorem entryPut_ok {k s n z m c : Int} (h : MayE (k, s, n, z, m) c) (ho : EnOk (k, s, n, z, m)) (w : World) (hw : Wid w) : Calls Tryz.prog 96 #[.agg #[.int .i64 k, .int .i64 s, .int .i64 n, .int .i64 z, .int .u32 m], .int .i64 c] w (PutPost w (enB (k, s, n, z, m)) 0) :=
  (entryPut_own h ho w hw).mono fun e w' ⟨g, c', he, hO, hb⟩ => by
    subst he
    exact PutPost.of_sized (enB_len _) hO.bytes.1 ⟨hO.bytes.2, hO.capOk⟩ hb
end Go.Proofs.YtdffgnpldapciaaGreatDoor
