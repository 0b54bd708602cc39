/-
  What the project's own Order answers (package slot). Conditions: the slices read as bytes.
-/
import Derived.Test.YtpjlnanalielmaaJ7
namespace Go.Proofs.Ytpjlnanalielmaa
open Go.RowKit
set_option linter.unusedVariables false

def foundS (o1 o2 : Option Sl) : Nat → List Sl
  | 0 => []
  | 1 => o1.toList
  | _ => o1.toList ++ o2.toList
theorem found_ord (o1 o2 : Option Sl) : sortS (foundS o1 o2 2) = ordS o1 o2 := by
  cases o1 <;> cases o2 <;> rfl
theorem found_len (o1 o2 : Option Sl) (j : Nat) : (foundS o1 o2 j).length ≤ 2 := by
  match j with
  | 0 => simp [foundS]
  | 1 => cases o1 <;> simp [foundS]
  | j + 2 => cases o1 <;> cases o2 <;> simp [foundS]
theorem info_slot : Hid ((Try.prog.info? 24).map (·.size) = some 4) := slot_size
set_option maxHeartbeats 4000000 in
set_option maxRecDepth 100000 in
theorem order_any7 (w : World) (a1 a2 : Option Addr) (n1 c1 n2 c2 : Nat) (l1 l2 : List Int) (hB1 : Bytes w a1 n1 l1) (hc1 : n1 ≤ c1) (hB2 : Bytes w a2 n2 l2) (hc2 : n2 ≤ c2) :
    Calls Try.prog 16 #[.slice a1 n1 c1, .slice a2 n2 c2] w fun e w' => ∃ v n, e = .returned v ∧ OwnG slV 24 4 w' w.heap.size v n (ordS (getS l1) (getS l2)) ∧ Below w.heap.size w w' := by
  have HG1 : Hid (∀ wr, Below w.heap.size w wr → Calls Try.prog 13 #[.slice a1 n1 c1] wr (GotS (getS l1) wr)) := fun wr h => slotGet_any wr a1 n1 c1 l1 (hB1.later h) hc1
  have HG2 : Hid (∀ wr, Below w.heap.size w wr → Calls Try.prog 13 #[.slice a2 n2 c2] wr (GotS (getS l2) wr)) := fun wr h => slotGet_any wr a2 n2 c2 l2 (hB2.later h) hc2
  obtain ⟨o1, ho1⟩ := named (getS l1)
  obtain ⟨o2, ho2⟩ := named (getS l2)
  rw [ho1.out] at HG1 ⊢
  rw [ho2.out] at HG2 ⊢
  have hI0 : ∀ W, (Instr.index 53 (.agg #[.slice a1 n1 c1, .slice a2 n2 c2]) (.int .i64 0)).run Try.prog W = .ok (.slice a1 n1 c1) W := fun W => by
    simp [Instr.index, run_underlying Try.underlying53, asIntOf, go_sem]
  have hI1 : ∀ W, (Instr.index 53 (.agg #[.slice a1 n1 c1, .slice a2 n2 c2]) (.int .i64 1)).run Try.prog W = .ok (.slice a2 n2 c2) W := fun W => by
    simp [Instr.index, run_underlying Try.underlying53, asIntOf, go_sem]
  clear hB1 hc1 hB2 hc2 ho1 ho2
  go_enter Try.func16, Try.ntmps16
  go_wp2
  go_loopw [5, 13] (fun v i wr => ∃ (j m : Nat), j ≤ 2 ∧ i = .int .i64 j ∧ Hid (OwnG slV 24 4 wr w.heap.size v m (foundS o1 o2 j)) ∧ Hid (Below w.heap.size w wr)) (fun _ i _ => 2 - (intOf i).toNat)
  case atStart => exact ⟨0, 0, by omega, rfl, OwnG.none _ _ _ _ _, Below.refl _ _⟩
  case round =>
    obtain ⟨j, m, hj, rfl, HO, HB⟩ := hrel
    have hm2 : m ≤ 2 := by rw [← HO.out.2.1]; exact found_len o1 o2 j
    have hj3 : j = 0 ∨ j = 1 ∨ j = 2 := by omega
    rcases hj3 with rfl | rfl | rfl
    · cases o1 with
      | none =>
        go_wp2_with (first
          | (go_at_call 13; refine (HG1.out _ HB.out).mono ?_; rintro e w1 ⟨rfl, g⟩; have HB1 : Hid (Below w.heap.size w w1) := HB.out.trans (g.mono HB.out.size); have HO1 := Lib.hid (HO.out.kept' (grown_of_below g) (fun k _ e => by cases e)); clear g)
          | (refine store_new7 rfl (.tmp 8) (.tmp 19) rfl (slV slZ).toArray (by rfl) (by rfl) info_slot.out rfl (slV_all slZ) ?_))
        go_roundw
        case rel => exact ⟨1, m, by omega, rfl, HO1.out.alloc _, HB1.out.alloc HB1.out.size _⟩
        case measure => simp [intOf]
      | some x =>
        obtain ⟨RS, hRS⟩ := named (slV x).toArray
        have hRSs : RS.size = 4 := by rw [← hRS.out]; rfl
        have HFO : Hid ((Array.foldl (fun (cs : Array Value) (x : Value × Nat) => cs.setIfInBounds x.snd x.fst) #[Value.int .i64 0, Value.int .i64 0, Value.int .i64 0, Value.int .u32 0] RS.zipIdx 0 4).toList = slV x) := by rw [Hid, ← hRS.out]; rfl
        have HR1 : Hid (RS.all (·.oneCell') = true) := by rw [← hRS.out]; exact slV_all x
        have HI : Hid ((Try.prog.info? 24).map (·.size) = some RS.size) := by rw [Hid, hRSs]; exact slot_size
        have HZS : Hid ((slV slZ).toArray.size = RS.size) := hRSs.symm
        have HAG : Hid (Value.agg (slV x).toArray = .agg RS) := congrArg Value.agg hRS.out
        go_wp2_with (first
          | (go_at_call 13; refine (HG1.out _ HB.out).mono ?_; rintro e w1 ⟨rfl, g⟩; have HB1 : Hid (Below w.heap.size w w1) := HB.out.trans (g.mono HB.out.size); have HO1 := Lib.hid (HO.out.kept' (grown_of_below g) (fun k _ e => by cases e)); clear g)
          | (refine store_new7 rfl (.tmp 8) (.tmp 19) rfl RS (by rfl) HAG.out HI.out HZS.out HR1.out ?_)
          | (refine wpList_load_row rfl 24 (.tmp 8) rfl w1.heap.size rfl 24 RS (0, 0) _ (Blk.new w1 _ RS) Try.underlying24 rfl HI.out ?_)
          | (at_builtin; refine append_gg sl_rowed rfl (.tmp 23) (.tmp 25) rfl w.heap.size _ m _ rfl ((HO1.out.alloc _).alloc _) (some ⟨w1.heap.size + 1, 0, none⟩) 1 1 [x] rfl (fun e => by cases e) (one_reads2 w1 _ x _ _ HFO.out) (by omega) (Nat.le_trans HB1.out.size (by simp only [World.size_alloc]; omega)) ?_; intro a3 c3 w3 g1 g2 g3; have HO3 := Lib.hid g1; have HB3 := Lib.hid (((HB1.out.alloc HB1.out.size _).alloc (Nat.le_trans HB1.out.size (by simp)) _).trans g2); clear g1 g2 g3))
        go_roundw
        case rel => exact ⟨1, m + 1, by omega, rfl, HO3.out, HB3.out⟩
        case measure => simp [intOf]
    · cases o2 with
      | none =>
        go_wp2_with (first
          | (go_at_call 13; refine (HG2.out _ HB.out).mono ?_; rintro e w1 ⟨rfl, g⟩; have HB1 : Hid (Below w.heap.size w w1) := HB.out.trans (g.mono HB.out.size); have HO1 := Lib.hid (HO.out.kept' (grown_of_below g) (fun k _ e => by cases e)); clear g)
          | (refine store_new7 rfl (.tmp 8) (.tmp 19) rfl (slV slZ).toArray (by rfl) (by rfl) info_slot.out rfl (slV_all slZ) ?_))
        go_roundw
        case rel => exact ⟨2, m, by omega, rfl, by rw [show foundS o1 none 2 = foundS o1 none 1 by cases o1 <;> rfl]; exact HO1.out.alloc _, HB1.out.alloc HB1.out.size _⟩
        case measure => simp [intOf]
      | some x =>
        obtain ⟨RS, hRS⟩ := named (slV x).toArray
        have hRSs : RS.size = 4 := by rw [← hRS.out]; rfl
        have HFO : Hid ((Array.foldl (fun (cs : Array Value) (x : Value × Nat) => cs.setIfInBounds x.snd x.fst) #[Value.int .i64 0, Value.int .i64 0, Value.int .i64 0, Value.int .u32 0] RS.zipIdx 0 4).toList = slV x) := by rw [Hid, ← hRS.out]; rfl
        have HR1 : Hid (RS.all (·.oneCell') = true) := by rw [← hRS.out]; exact slV_all x
        have HI : Hid ((Try.prog.info? 24).map (·.size) = some RS.size) := by rw [Hid, hRSs]; exact slot_size
        have HZS : Hid ((slV slZ).toArray.size = RS.size) := hRSs.symm
        have HAG : Hid (Value.agg (slV x).toArray = .agg RS) := congrArg Value.agg hRS.out
        go_wp2_with (first
          | (go_at_call 13; refine (HG2.out _ HB.out).mono ?_; rintro e w1 ⟨rfl, g⟩; have HB1 : Hid (Below w.heap.size w w1) := HB.out.trans (g.mono HB.out.size); have HO1 := Lib.hid (HO.out.kept' (grown_of_below g) (fun k _ e => by cases e)); clear g)
          | (refine store_new7 rfl (.tmp 8) (.tmp 19) rfl RS (by rfl) HAG.out HI.out HZS.out HR1.out ?_)
          | (refine wpList_load_row rfl 24 (.tmp 8) rfl w1.heap.size rfl 24 RS (0, 0) _ (Blk.new w1 _ RS) Try.underlying24 rfl HI.out ?_)
          | (at_builtin; refine append_gg sl_rowed rfl (.tmp 23) (.tmp 25) rfl w.heap.size _ m _ rfl ((HO1.out.alloc _).alloc _) (some ⟨w1.heap.size + 1, 0, none⟩) 1 1 [x] rfl (fun e => by cases e) (one_reads2 w1 _ x _ _ HFO.out) (by omega) (Nat.le_trans HB1.out.size (by simp only [World.size_alloc]; omega)) ?_; intro a3 c3 w3 g1 g2 g3; have HO3 := Lib.hid g1; have HB3 := Lib.hid (((HB1.out.alloc HB1.out.size _).alloc (Nat.le_trans HB1.out.size (by simp)) _).trans g2); clear g1 g2 g3))
        go_roundw
        case rel => exact ⟨2, m + 1, by omega, rfl, HO3.out, HB3.out⟩
        case measure => simp [intOf]
    · go_wp2_with (go_at_call 23; refine (sortStable_any7 _ _ _ _ _ hm2 HO.out).mono ?_; rintro e w1 ⟨rfl, g1, g2⟩; have HO1 := Lib.hid g1; have HB1 := Lib.hid (HO.out.below HB.out g2 HB.out.size (Nat.le_refl _)); clear g1 g2)
      go_ret
      exact ⟨_, m, rfl, by rw [← found_ord]; exact HO1.out, HB1.out⟩
end Go.Proofs.Ytpjlnanalielmaa
