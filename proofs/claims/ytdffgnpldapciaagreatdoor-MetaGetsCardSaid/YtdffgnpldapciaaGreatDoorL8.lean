/-
  What the project's own decode answers (package entry). Conditions: the slice reads as sixteen bytes; the table of widths reads as it was laid.
-/
import Derived.Test.YtdffgnpldapciaaGreatDoorK8
import Derived.Deep.MidRow
namespace Go.Proofs.YtdffgnpldapciaaGreatDoor
open Go.RowKit
set_option linter.unusedVariables false

theorem dget (a : Option Addr) (cap m p : Nat) (M P : Int) (l : List Int) (w : World) (hB : Bytes w a 16 l) (hcap : 16 ≤ cap) (h1 : 1 ≤ m) (h2 : m ≤ 8) (hp : p + m ≤ 16) (hM : (m : Int) = M) (hP : (p : Int) = P) :
    Calls Tryz.prog 48 #[.slice a 16 cap, .int .i64 P, .int .i64 M, .bool false] w fun e w' => e = .returned (.tuple #[.int .u64 (getTo false m p l m : Nat), .int .i64 0]) ∧ Below w.heap.size w w' := by
  subst hM hP
  exact fieldGet_ok a 16 cap m p l false w hB hcap h1 h2 hp
/-- What decode has: its result's block, the numbers that it fills in, the table of widths, the bytes. -/
def Dec (X : Nat) (w0 : World) (a : Option Addr) (l : List Int) (R : Array Value) (W : World) : Prop := Blk W X 148 #[.int .u64 0, .int .u64 0, .int .u64 0, .int .u64 0, .int .u64 0, .int .u64 0] ∧ Blk W (X + 1) 148 R ∧ Below X w0 W ∧ Wid W ∧ Bytes W a 16 l
theorem Dec.first {w : World} {a : Option Addr} {l : List Int} (hw : Wid w) (hB : Bytes w a 16 l) : Dec w.heap.size w a l #[.int .u64 0, .int .u64 0, .int .u64 0, .int .u64 0, .int .u64 0, .int .u64 0] ((w.alloc (.cells #[.int .u64 0, .int .u64 0, .int .u64 0, .int .u64 0, .int .u64 0, .int .u64 0] 148)).alloc (.cells #[.int .u64 0, .int .u64 0, .int .u64 0, .int .u64 0, .int .u64 0, .int .u64 0] 148)) := by
  have hb : Below w.heap.size w ((w.alloc (.cells #[.int .u64 0, .int .u64 0, .int .u64 0, .int .u64 0, .int .u64 0, .int .u64 0] 148)).alloc (.cells #[.int .u64 0, .int .u64 0, .int .u64 0, .int .u64 0, .int .u64 0, .int .u64 0] 148)) := ((Below.refl _ _).alloc (Nat.le_refl _) _).alloc (by simp) _
  exact ⟨(Blk.new w _ _).alloc _, blk_next _ _ _ _ _, hb, hw.later hb, hB.later hb⟩
theorem Dec.called {X : Nat} {w0 W W' : World} {a : Option Addr} {l : List Int} {R : Array Value} (h : Dec X w0 a l R W) (hb : Below W.heap.size W W') : Dec X w0 a l R W' :=
  ⟨h.1.later hb, h.2.1.later hb, h.2.2.1.trans (hb.mono (Nat.le_of_lt h.1.lt)), h.2.2.2.1.later hb, h.2.2.2.2.later hb⟩
theorem Dec.set {X : Nat} {w0 W : World} {a : Option Addr} {l : List Int} {R : Array Value} (h : Dec X w0 a l R W) (ha : w0.heap.size = X) (hw : Wid w0) (hB : Bytes w0 a 16 l) (i : Nat) (v : Value) : Dec X w0 a l (R.setIfInBounds i v) (W.setCell ⟨X + 1, i, none⟩ v) := by
  have hb : Below X w0 (W.setCell ⟨X + 1, i, none⟩ v) := h.2.2.1.setCell (by show X ≤ X + 1; omega) v
  subst ha
  exact ⟨h.1.other (by omega) _, h.2.1.set i v, hb, hw.later hb, hB.later hb⟩
theorem Dec.slot {X : Nat} {w0 W : World} {a : Option Addr} {l : List Int} {R : Array Value} (h : Dec X w0 a l R W) (i : Nat) (hi : i < R.size) : W.cell? ⟨X + 1, i, none⟩ = some R[i] ∧ W.frozen? ⟨X + 1, i, none⟩ = false := by
  refine ⟨?_, h.2.1.free i⟩
  rw [h.2.1.cell, Array.getElem?_eq_getElem hi]
set_option maxHeartbeats 4000000 in
theorem decode_any8 (w : World) (a : Option Addr) (cap : Nat) (l : List Int) (hB : Bytes w a 16 l) (hcap : 16 ≤ cap) (hw : Wid w) : Calls Tryz.prog 97 #[.slice a 16 cap] w fun e w' =>
    e = .returned (.agg #[.int .u64 (getTo false 1 0 l 1 : Nat), .int .u64 (getTo false 1 1 l 1 : Nat), .int .u64 (getTo false 2 2 l 2 : Nat), .int .u64 (getTo false 4 4 l 4 : Nat), .int .u64 (getTo false 4 8 l 4 : Nat), .int .u64 (getTo false 4 12 l 4 : Nat)]) ∧ Below w.heap.size w w' := by
  have n0 := fun (w : World) (hB : Bytes w a 16 l) => dget a cap 1 0 1 0 l w hB hcap (by omega) (by omega) (by omega) rfl rfl
  obtain ⟨V0, hV0⟩ := named (getTo false 1 0 l 1)
  rw [hV0.out] at n0 ⊢
  have HN0 := Lib.hid n0
  have n1 := fun (w : World) (hB : Bytes w a 16 l) => dget a cap 1 1 1 1 l w hB hcap (by omega) (by omega) (by omega) rfl rfl
  obtain ⟨V1, hV1⟩ := named (getTo false 1 1 l 1)
  rw [hV1.out] at n1 ⊢
  have HN1 := Lib.hid n1
  have n2 := fun (w : World) (hB : Bytes w a 16 l) => dget a cap 2 2 2 2 l w hB hcap (by omega) (by omega) (by omega) rfl rfl
  obtain ⟨V2, hV2⟩ := named (getTo false 2 2 l 2)
  rw [hV2.out] at n2 ⊢
  have HN2 := Lib.hid n2
  have n3 := fun (w : World) (hB : Bytes w a 16 l) => dget a cap 4 4 4 4 l w hB hcap (by omega) (by omega) (by omega) rfl rfl
  obtain ⟨V3, hV3⟩ := named (getTo false 4 4 l 4)
  rw [hV3.out] at n3 ⊢
  have HN3 := Lib.hid n3
  have n4 := fun (w : World) (hB : Bytes w a 16 l) => dget a cap 4 8 4 8 l w hB hcap (by omega) (by omega) (by omega) rfl rfl
  obtain ⟨V4, hV4⟩ := named (getTo false 4 8 l 4)
  rw [hV4.out] at n4 ⊢
  have HN4 := Lib.hid n4
  have n5 := fun (w : World) (hB : Bytes w a 16 l) => dget a cap 4 12 4 12 l w hB hcap (by omega) (by omega) (by omega) rfl rfl
  obtain ⟨V5, hV5⟩ := named (getTo false 4 12 l 4)
  rw [hV5.out] at n5 ⊢
  have HN5 := Lib.hid n5
  have HD0 := Lib.hid (Dec.first hw hB)
  have HSET := Lib.hid (fun (W : World) (R : Array Value) (i : Nat) (v : Value) (h : Dec w.heap.size w a l R W) => h.set rfl hw hB i v)
  obtain ⟨X, hX⟩ := named w.heap.size
  have hXX := hX.out
  rw [hX.out] at HD0 HSET ⊢
  have i0 : ∀ w, (Instr.index 157 (.agg #[.int .i64 1, .int .i64 1, .int .i64 2, .int .i64 4, .int .i64 4, .int .i64 4]) (.int .i64 0)).run Tryz.prog w = .ok (.int .i64 1) w := fun _ => by kernel_rfl
  have i1 : ∀ w, (Instr.index 157 (.agg #[.int .i64 1, .int .i64 1, .int .i64 2, .int .i64 4, .int .i64 4, .int .i64 4]) (.int .i64 1)).run Tryz.prog w = .ok (.int .i64 1) w := fun _ => by kernel_rfl
  have i2 : ∀ w, (Instr.index 157 (.agg #[.int .i64 1, .int .i64 1, .int .i64 2, .int .i64 4, .int .i64 4, .int .i64 4]) (.int .i64 2)).run Tryz.prog w = .ok (.int .i64 2) w := fun _ => by kernel_rfl
  have i3 : ∀ w, (Instr.index 157 (.agg #[.int .i64 1, .int .i64 1, .int .i64 2, .int .i64 4, .int .i64 4, .int .i64 4]) (.int .i64 3)).run Tryz.prog w = .ok (.int .i64 4) w := fun _ => by kernel_rfl
  have i4 : ∀ w, (Instr.index 157 (.agg #[.int .i64 1, .int .i64 1, .int .i64 2, .int .i64 4, .int .i64 4, .int .i64 4]) (.int .i64 4)).run Tryz.prog w = .ok (.int .i64 4) w := fun _ => by kernel_rfl
  have i5 : ∀ w, (Instr.index 157 (.agg #[.int .i64 1, .int .i64 1, .int .i64 2, .int .i64 4, .int .i64 4, .int .i64 4]) (.int .i64 5)).run Tryz.prog w = .ok (.int .i64 4) w := fun _ => by kernel_rfl
  have wsz : (Tryz.prog.info? 157).map (·.size) = some 6 := by kernel_rfl
  clear n0 hV0 n1 hV1 n2 hV2 n3 hV3 n4 hV4 n5 hV5 hB hw
  go_enter Tryz.func97, Tryz.ntmps97
  go_wp2_with (refine wpList_load_mid rfl 157 (.global 0) rfl 0 0 rfl [.int .i64 1, .int .i64 1, .int .i64 2, .int .i64 4, .int .i64 4, .int .i64 4] _ HD0.out.2.2.2.1.range Tryz.underlying157 rfl wsz ?_)
  refine wp_loop_rounds 7 ?_
  rw [rounds_succ]
  go_wp2_with (go_at_call 48; have bb := HD0.out.2.2.2.2; (with_reducible refine (HN0.out _ bb).mono ?_); clear bb; rintro e w1 ⟨rfl, g⟩; have HC0 := Lib.hid (HD0.out.called g); obtain ⟨s1, s2⟩ := HC0.out.slot 0 (by simp); have HD1 := Lib.hid (HSET.out _ _ 0 (.int .u64 V0) HC0.out); clear g)
  rw [rounds_succ]
  go_wp2_with (go_at_call 48; have bb := HD1.out.2.2.2.2; (with_reducible refine (HN1.out _ bb).mono ?_); clear bb; rintro e w2 ⟨rfl, g⟩; have HC1 := Lib.hid (HD1.out.called g); obtain ⟨s1, s2⟩ := HC1.out.slot 1 (by simp); have HD2 := Lib.hid (HSET.out _ _ 1 (.int .u64 V1) HC1.out); clear g)
  rw [rounds_succ]
  go_wp2_with (go_at_call 48; have bb := HD2.out.2.2.2.2; (with_reducible refine (HN2.out _ bb).mono ?_); clear bb; rintro e w3 ⟨rfl, g⟩; have HC2 := Lib.hid (HD2.out.called g); obtain ⟨s1, s2⟩ := HC2.out.slot 2 (by simp); have HD3 := Lib.hid (HSET.out _ _ 2 (.int .u64 V2) HC2.out); clear g)
  rw [rounds_succ]
  go_wp2_with (go_at_call 48; have bb := HD3.out.2.2.2.2; (with_reducible refine (HN3.out _ bb).mono ?_); clear bb; rintro e w4 ⟨rfl, g⟩; have HC3 := Lib.hid (HD3.out.called g); obtain ⟨s1, s2⟩ := HC3.out.slot 3 (by simp); have HD4 := Lib.hid (HSET.out _ _ 3 (.int .u64 V3) HC3.out); clear g)
  rw [rounds_succ]
  go_wp2_with (go_at_call 48; have bb := HD4.out.2.2.2.2; (with_reducible refine (HN4.out _ bb).mono ?_); clear bb; rintro e w5 ⟨rfl, g⟩; have HC4 := Lib.hid (HD4.out.called g); obtain ⟨s1, s2⟩ := HC4.out.slot 4 (by simp); have HD5 := Lib.hid (HSET.out _ _ 4 (.int .u64 V4) HC4.out); clear g)
  rw [rounds_succ]
  go_wp2_with (go_at_call 48; have bb := HD5.out.2.2.2.2; (with_reducible refine (HN5.out _ bb).mono ?_); clear bb; rintro e w6 ⟨rfl, g⟩; have HC5 := Lib.hid (HD5.out.called g); obtain ⟨s1, s2⟩ := HC5.out.slot 5 (by simp); have HD6 := Lib.hid (HSET.out _ _ 5 (.int .u64 V5) HC5.out); clear g)
  have hsz : (#[Value.int .u64 0, .int .u64 0, .int .u64 0, .int .u64 0, .int .u64 0, .int .u64 0] : Array Value).size = (#[Value.int .u64 V0, .int .u64 V1, .int .u64 V2, .int .u64 V3, .int .u64 V4, .int .u64 V5] : Array Value).size := rfl
  have hon : (#[Value.int .u64 V0, .int .u64 V1, .int .u64 V2, .int .u64 V3, .int .u64 V4, .int .u64 V5] : Array Value).all (·.oneCell') = true := all_oneCell_toArray fun v hv => by
    simp only [List.mem_cons, List.not_mem_nil, or_false] at hv
    rcases hv with rfl | rfl | rfl | rfl | rfl | rfl <;> rfl
  have HON := Lib.hid hon
  have HSZ := Lib.hid hsz
  clear hon hsz
  have HF : Hid (Dec X w a l #[.int .u64 V0, .int .u64 V1, .int .u64 V2, .int .u64 V3, .int .u64 V4, .int .u64 V5] _) := HD6
  have r1 : Blk _ X 148 _ := HF.out.1
  have r2 : Blk _ (X + 1) 148 _ := HF.out.2.1
  have r3 : Below X w _ := HF.out.2.2.1
  have R1 := Lib.hid r1
  have R2 := Lib.hid r2
  have R3 := Lib.hid r3
  clear r1 r2 r3
  rw [rounds_succ]
  go_wp2_with (first
    | (refine wpList_load_row rfl 148 (.tmp 3) rfl (X + 1) rfl 148 #[.int .u64 V0, .int .u64 V1, .int .u64 V2, .int .u64 V3, .int .u64 V4, .int .u64 V5] (0, 0) _ R2.out Tryz.underlying148 rfl six_size ?_)
    | (refine wpList_store_row rfl 148 (.tmp 2) (.tmp 25) rfl X #[.int .u64 V0, .int .u64 V1, .int .u64 V2, .int .u64 V3, .int .u64 V4, .int .u64 V5] rfl rfl 148 #[.int .u64 0, .int .u64 0, .int .u64 0, .int .u64 0, .int .u64 0, .int .u64 0] R1.out six_size HSZ.out HON.out ?_))
  refine bodyPost_ret (v := .agg #[.int .u64 V0, .int .u64 V1, .int .u64 V2, .int .u64 V3, .int .u64 V4, .int .u64 V5]) (results_cell_row rfl _ _ X 148 #[.int .u64 V0, .int .u64 V1, .int .u64 V2, .int .u64 V3, .int .u64 V4, .int .u64 V5] (0, 0) _ rfl ?_ Tryz.underlying148 rfl six_size) rfl ⟨rfl, ?_⟩
  · exact setRow_heap _ X _ _ _ _ R1.out
  · exact below_setRow R3.out (Nat.le_refl _) _
end Go.Proofs.YtdffgnpldapciaaGreatDoor
