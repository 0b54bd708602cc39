/-
  What layer 5's helpers answer: a sector of a byte, an error's number, the document's example. Conditions: none.
-/
import Derived.Test.YtnhaidofblfopaaF5
import Derived.Deep.RegionHeld3
namespace Go.Proofs.Ytnhaidofblfopaa
open Go.RowKit
set_option linter.unusedVariables false

def secC (c : Int) : Sec := List.replicate 16 c
theorem secC_len (c : Int) : (secC c).length = 16 := List.length_replicate
abbrev nF : Nm := ⟨#[102]⟩
theorem num5_any (n : Int) (w : World) : Calls Try.prog 12 #[.int .i64 n] w fun e w' => e = .returned (.int .i64 n) ∧ w = w' := by
  go_enter Try.func12, Try.ntmps12
  go_wp2
  go_ret
  exact ⟨rfl, rfl⟩
theorem set_sec (c : Int) (j : Nat) (h : j < 16) : (List.replicate j c ++ noughts (16 - j)).set j c = List.replicate (j + 1) c ++ noughts (16 - (j + 1)) := by
  obtain ⟨r, hr⟩ : ∃ r, 16 - j = r + 1 := ⟨16 - j - 1, by omega⟩
  rw [hr, show 16 - (j + 1) = r by omega]
  unfold noughts
  rw [List.replicate_succ, List.set_append, if_neg (by simp)]
  simp
  rw [show List.replicate (j + 1) c = List.replicate j c ++ [c] from List.replicate_succ']
  simp
set_option maxHeartbeats 800000 in
theorem sector_any (c : Int) (hc : 0 ≤ c ∧ c < 256) (w : World) : Calls Try.prog 15 #[.int .u8 c] w fun e w' => ∃ b, e = .returned (.slice (some ⟨b, 0, none⟩) 16 16) ∧ w.heap.size ≤ b ∧ Bytes w' (some ⟨b, 0, none⟩) 16 (secC c) ∧ Below w.heap.size w w' := by
  go_enter Try.func15, Try.ntmps15
  go_wp2_with (at_make; refine make_bytes rfl _ _ rfl w.heap.size 16 rfl rfl (by omega) (Nat.le_refl _) ?_; intro w1 h1 h2; have HO := Lib.hid h1; have HG := Lib.hid h2; clear h1 h2)
  go_loopw [4] (fun i wr => ∃ j : Nat, j ≤ 16 ∧ i = .int .i64 j ∧ Hid (Own wr w.heap.size (.slice (some ⟨w.heap.size, 0, none⟩) 16 16) 16 (List.replicate j c ++ noughts (16 - j))) ∧ Hid (Below w.heap.size w wr)) (fun i _ => 16 - (intOf i).toNat)
  case atStart => exact ⟨0, Nat.zero_le _, rfl, HO.out, HG.out⟩
  case round =>
    obtain ⟨j, hj, rfl, HOj, HGj⟩ := hrel
    clear HO HG
    by_cases hlt : j < 16
    · obtain ⟨u, hcell⟩ : ∃ u, wr.cell? ⟨w.heap.size, j, none⟩ = some u := ⟨_, HOj.out.cell j hlt⟩
      have hfree := HOj.out.free j
      have HS := Lib.hid (HOj.out.put j c hc)
      have HGS := Lib.hid (HGj.out.setCell (p := ⟨w.heap.size, j, none⟩) (Nat.le_refl _) (.int .u8 c))
      go_wp2
      go_roundw
      case rel => exact ⟨j + 1, by omega, by go_num, by have e := HS.out; rw [set_sec c j hlt] at e; exact e, HGS.out⟩
      case measure => simp [intOf]; omega
    · obtain rfl : j = 16 := by omega
      go_wp2
      go_ret
      refine ⟨w.heap.size, rfl, Nat.le_refl _, ?_, HGj.out⟩
      have := HOj.out.bytes.1
      simpa [secC, noughts] using this

theorem sectorD {w0 w : World} {p : Addr} {D : Dsk} {S : Nat → Prop} (h : Has w0 p D w S) (c : Int) (hc : 0 ≤ c ∧ c < 256) : Calls Try.prog 15 #[.int .u8 c] w fun e w' =>
    ∃ b, e = .returned (.slice (some ⟨b, 0, none⟩) 16 16) ∧ Out S w' (some ⟨b, 0, none⟩) 16 (secC c) ∧ Has w0 p D w' S ∧ Below w.heap.size w w' ∧ w.heap.size ≤ b :=
  (sector_any c hc w).mono fun _ _ ⟨b, he, hb, hB, hbel⟩ => ⟨b, he, (h.later hbel).out hB (fun _ x e => by cases e; exact Or.inr (h.fresh (Or.inl hb))), h.later hbel, hbel, hb⟩
theorem picks_one (w : World) (x : Bool) : Picks (w.alloc (.cells #[.bool x] 4)) (some ⟨w.heap.size, 0, none⟩) 1 [x] := by
  refine ⟨rfl, by omega, Or.inr ⟨w.heap.size, 0, rfl, by simp, fun i hi => ?_⟩⟩
  obtain rfl : i = 0 := by omega
  exact (Blk.new w _ _).cell 0
theorem picks_none (w : World) (a : Option Addr) : Picks w a 0 [] := ⟨rfl, by omega, Or.inl rfl⟩
theorem one_keep (room : Nat) (s : Nm) (now dur : List Sec) (pend : List (Nat × Sec)) (fuse : Nat) (dead : Bool) (c : Nat) (x : Nat × Sec) : (one room s now dur [x] fuse dead c).crash [false] = one room s dur dur [] 0 false c := by
  rw [one_crash]
  rfl

/-- What stands beside the disk: bytes that were read. -/
def Keep (w0 : World) (p : Addr) (D : Dsk) (S : Nat → Prop) (a : Option Addr) (n : Nat) (l : List Int) (w : World) : Prop := Out S w a n l ∧ Has w0 p D w S
theorem Keep.drew {w0 w : World} {p : Addr} {D : Dsk} {S : Nat → Prop} {a : Option Addr} {n : Nat} {l : List Int} (h : Keep w0 p D S a n l w) : Keep w0 p D S a n l w.drew := ⟨h.1.later (Below.refl _ _).drew, h.2.drew⟩
theorem Keep.later {w0 w w' : World} {p : Addr} {D : Dsk} {S : Nat → Prop} {a : Option Addr} {n : Nat} {l : List Int} (h : Keep w0 p D S a n l w) (hb : Below w.heap.size w w') : Keep w0 p D S a n l w' := ⟨h.1.later hb, h.2.later hb⟩
theorem Keep.all {w0 w : World} {p : Addr} {D : Dsk} {S : Nat → Prop} {a : Option Addr} {n : Nat} {l : List Int} (h : Keep w0 p D S a n l w) (c : Nat) :
    (convert 22 9 (.slice a n c)).run Try.prog w = .ok (.string (strOfNums l)) w ∧ Keep w0 p D S a n l w := ⟨conv_str h.1.1 c, h⟩
theorem sectorK {w0 w : World} {p : Addr} {D : Dsk} {S : Nat → Prop} {a : Option Addr} {n : Nat} {l : List Int} {q : Prop} (h : q ∧ Keep w0 p D S a n l w) (c : Int) (hc : 0 ≤ c ∧ c < 256) : Calls Try.prog 15 #[.int .u8 c] w fun e w' =>
    ∃ b, e = .returned (.slice (some ⟨b, 0, none⟩) 16 16) ∧ (convert 22 9 (.slice (some ⟨b, 0, none⟩) 16 16)).run Try.prog w' = .ok (.string (strOfNums (secC c))) w' ∧ Keep w0 p D S a n l w' :=
  (sectorD h.2.2 c hc).mono fun _ _ ⟨b, he, hO, _, hbel, _⟩ => ⟨b, he, conv_str hO.1 16, h.2.later hbel⟩

theorem Keep.all2 {w0 w : World} {p : Addr} {D : Dsk} {S : Nat → Prop} {a : Option Addr} {n : Nat} {l : List Int} (h : Keep w0 p D S a n l w) (c : Nat) {q : Addr} {v : Value} (hq : w0.cell? q = some v) (hlt : q.block < w0.heap.size) :
    (convert 22 9 (.slice a n c)).run Try.prog w = .ok (.string (strOfNums l)) w ∧ w.cell? q = some v ∧ Keep w0 p D S a n l w := ⟨conv_str h.1.1 c, (h.2.below.cell hlt).trans hq, h⟩
theorem sectorK3 {w0 w : World} {p : Addr} {D : Dsk} {S : Nat → Prop} {a : Option Addr} {n : Nat} {l : List Int} {q q2 : Prop} (h : q ∧ q2 ∧ Keep w0 p D S a n l w) (c : Int) (hc : 0 ≤ c ∧ c < 256) : Calls Try.prog 15 #[.int .u8 c] w fun e w' =>
    ∃ b, e = .returned (.slice (some ⟨b, 0, none⟩) 16 16) ∧ (convert 22 9 (.slice (some ⟨b, 0, none⟩) 16 16)).run Try.prog w' = .ok (.string (strOfNums (secC c))) w' ∧ Keep w0 p D S a n l w' := sectorK h.2 c hc

set_option maxHeartbeats 1600000 in
theorem awake5_any (w : World) : Calls Try.prog 10 #[] w fun e w' => e = .returned (.bool true) ∧ Below w.heap.size w w' := by
  have E1 := Lib.hid (new_create 10 nF (by decide) (by decide))
  have E2 : Hid ((one 10 nF [] [] [] 0 false 0).write nF 0 (secC 120) = (0, one 10 nF [secC 120] [] [(0, secC 120)] 0 false 1)) := one_write1 10 nF [] [] [] 0 0 0 (secC 120) (secC_len _) (by omega) (by simp) (by omega)
  have E3 := Lib.hid (one_flush 10 nF [secC 120] [] [(0, secC 120)] 0 1)
  have E4 : Hid ((one 10 nF [secC 120] [secC 120] [] 0 false 1).write nF 0 (secC 121) = (0, one 10 nF [secC 121] [secC 120] [(0, secC 121)] 0 false 2)) := one_write1 10 nF [secC 120] [secC 120] [] 0 1 0 (secC 121) (secC_len _) (by omega) (by simp) (by omega)
  have E5 := Lib.hid (one_crash 10 nF [secC 121] [secC 120] [(0, secC 121)] 0 false 2 [false])
  have E6 : Hid ((one 10 nF [secC 120] [secC 120] [] 0 false 2).read nF 0 1 = (secC 120, 0)) := one_read 10 nF [secC 120] [secC 120] [] 0 2 0 1 (by simp)
  go_enter Try.func10, Try.ntmps10
  go_wp2_with (first
    | (go_at_call 12; go_in)
    | (go_at_call 11; refine (diskNew_ok w w 10 (by omega) (by omega) (Below.refl _ _)).mono ?_; rintro e w1 ⟨p, S1, rfl, hh, _⟩; have HD := Lib.hid hh; clear hh)
    | (go_at_call 13; refine (diskCreate_any HD.out nF 0 E1.out).mono ?_; clear E1; rintro e w2 ⟨S2, rfl, hh, _⟩; replace HD := Lib.hid hh; clear hh)
    | (go_at_call 15; refine (sectorD HD.out _ (by omega)).mono ?_; rintro e w3 ⟨b3, rfl, hO, hh, hb, _⟩; replace HD := Lib.hid hh; have HO := Lib.hid hO; clear hh hO hb)
    | (go_at_call 14; refine (diskWrite_any HD.out nF 0 (by omega) _ 16 16 _ HO.out (Nat.le_refl _) (fun e => by cases e) (by omega) 0 E2.out (by decide)).mono ?_; clear E2 HO; rintro e w4 ⟨S4, rfl, hh, _⟩; replace HD := Lib.hid hh; clear hh)
    | (go_at_call 14; refine (diskWrite_any HD.out nF 0 (by omega) _ 16 16 _ HO.out (Nat.le_refl _) (fun e => by cases e) (by omega) 0 E4.out (by decide)).mono ?_; clear E4 HO; rintro e w5 ⟨S5, rfl, hh, _⟩; replace HD := Lib.hid hh; clear hh)
    | (go_at_call 16; refine (diskFlush_any HD.out nF 0 E3.out).mono ?_; clear E3; rintro e w6 ⟨S6, rfl, hh, _⟩; replace HD := Lib.hid hh; clear hh)
    | (go_at_call 18; refine (diskCrash_any (HD.out.alloc _) _ 1 1 [false] (picks_one _ false) (fun _ x e => by cases e; exact HD.out.fresh (Or.inl (Nat.le_refl _))) (Nat.le_refl _) (fun e => by cases e)).mono ?_; rw [E5.out]; rintro e w7 ⟨S7, rfl, hh, _⟩; replace HD := Lib.hid hh; clear hh)
    | (go_at_call 19; refine (diskRead_any HD.out nF 0 1 (by omega) (by omega) _ 0 E6.out).mono ?_; rintro e w8 hp; obtain ⟨ar, cr, S8, rfl, hO, hh, _⟩ := hp.named (secC_len _); replace HD := Lib.hid hh; have HR := Lib.hid hO; clear hh hO hp))
  have hk : Keep w p (one 10 nF [secC 120] [secC 120] [] 0 false 2) S8 ar 16 (secC 120) w8 := ⟨HR.out, HD.out⟩
  refine wp_region_held_drew (S := fun w' => (convert 22 9 (.slice ar 16 cr)).run Try.prog w' = .ok (.string (strOfNums (secC 120))) w' ∧ Keep w p (one 10 nF [secC 120] [secC 120] [] 0 false 2) S8 ar 16 (secC 120) w') (by kernel_rfl) (by first | exact Keep.all (by assumption) cr | exact Keep.all (Keep.drew (by assumption)) cr) (fun hHeld => ?_)
  refine wpAnyH_take (i := 0) (oi := _) (v := ?va0) rfl (by kernel_rfl) (by kernel_rfl) (by kernel_rfl) (fun _ _ _ h => h) (Or.inl ⟨by rfl, ?hya0⟩) (by assumption) ?resta0
  case hya0 => (intro wz hSw; (try dsimp only at hSw); go_simp; try with_reducible rfl)
  (try simp only [List.getElem_toArray, List.getElem_cons_zero, Act.put, List.setIfInBounds_toArray, List.set_cons_zero, List.set_cons_succ])
  refine wpAnyH_ready (rs := [1]) (by kernel_rfl) (by simp) ?_
  refine AllReadyH.cons (o := _) rfl (fun K hK => ?_) AllReadyH.nil
  rw [if_pos (by rfl)]
  go_simp
  (go_at_call 12; refine (num5_any _ _).mono ?_; rintro e w9 ⟨rfl, rfl⟩)
  dsimp only
  refine hK.out _ _ (by first | exact Keep.all (by assumption) cr | exact Keep.all (Keep.drew (by assumption)) cr) (fun hHeld => ?_)
  clear hK K
  (try simp only [List.getElem_toArray, List.getElem_cons_zero, List.getElem_cons_succ, Act.put, List.setIfInBounds_toArray, List.set_cons_zero, List.set_cons_succ])
  refine wpAnyH_take (i := 2) (oi := _) (v := ?va2) rfl (by kernel_rfl) (by kernel_rfl) (by kernel_rfl) (fun _ _ _ h => h) (Or.inl ⟨by rfl, ?hya2⟩) (by assumption) ?resta2
  case hya2 => (intro wz hSw; (try dsimp only at hSw); go_simp; try with_reducible rfl)
  (try simp only [List.getElem_toArray, List.getElem_cons_zero, List.getElem_cons_succ, Act.put, List.setIfInBounds_toArray, List.set_cons_zero, List.set_cons_succ])
  refine wpAnyH_take (i := 3) (oi := _) (v := ?va3) rfl (by kernel_rfl) (by kernel_rfl) (by kernel_rfl) (fun _ _ _ h => h) (Or.inl ⟨by rfl, ?hya3⟩) (by assumption) ?resta3
  case hya3 => (intro wz hSw; (try dsimp only at hSw); go_simp; try with_reducible rfl)
  (try simp only [List.getElem_toArray, List.getElem_cons_zero, List.getElem_cons_succ, Act.put, List.setIfInBounds_toArray, List.set_cons_zero, List.set_cons_succ])
  refine wpAnyH_take (i := 4) (oi := _) (v := ?va4) rfl (by kernel_rfl) (by kernel_rfl) (by kernel_rfl) (fun _ _ _ h => h) (Or.inl ⟨by rfl, ?hya4⟩) (by assumption) ?resta4
  case hya4 => (intro wz hSw; (try dsimp only at hSw); go_simp; try with_reducible rfl)
  (try simp only [List.getElem_toArray, List.getElem_cons_zero, List.getElem_cons_succ, Act.put, List.setIfInBounds_toArray, List.set_cons_zero, List.set_cons_succ])
  refine wpAnyH_take (i := 5) (oi := _) (v := ?va5) rfl (by kernel_rfl) (by kernel_rfl) (by kernel_rfl) (fun _ _ _ h => h) (Or.inl ⟨by rfl, ?hya5⟩) (by assumption) ?resta5
  case hya5 => (intro wz hSw; (try dsimp only at hSw); go_simp; try with_reducible rfl)
  (try simp only [List.getElem_toArray, List.getElem_cons_zero, List.getElem_cons_succ, Act.put, List.setIfInBounds_toArray, List.set_cons_zero, List.set_cons_succ])
  refine wpAnyH_ready (rs := [6]) (by kernel_rfl) (by simp) ?_
  refine AllReadyH.cons (o := _) rfl (fun K hK => ?_) AllReadyH.nil
  rw [if_pos (by rfl)]
  go_simp
  (go_at_call 15; refine (sectorK (by assumption) 120 (by omega)).mono ?_; rintro e w9 ⟨b9, rfl, hcv9, hk9⟩)
  dsimp only
  refine hK.out _ _ (by first | exact Keep.all (by assumption) cr | exact Keep.all (Keep.drew (by assumption)) cr) (fun hHeld => ?_)
  clear hK K
  (try simp only [List.getElem_toArray, List.getElem_cons_zero, List.getElem_cons_succ, Act.put, List.setIfInBounds_toArray, List.set_cons_zero, List.set_cons_succ])
  refine wpAnyH_ready (rs := [7]) (by kernel_rfl) (by simp) ?_
  refine AllReadyH.cons (o := _) rfl (fun K hK => ?_) AllReadyH.nil
  rw [if_pos (by rfl)]
  go_simp
  refine hK.out _ _ (by first | exact Keep.all (by assumption) cr | exact Keep.all (Keep.drew (by assumption)) cr) (fun hHeld => ?_)
  clear hK K
  (try simp only [List.getElem_toArray, List.getElem_cons_zero, List.getElem_cons_succ, Act.put, List.setIfInBounds_toArray, List.set_cons_zero, List.set_cons_succ])
  refine wpAnyH_take (i := 8) (oi := _) (v := ?va8) rfl (by kernel_rfl) (by kernel_rfl) (by kernel_rfl) (fun _ _ _ h => h) (Or.inl ⟨by rfl, ?hya8⟩) (by assumption) ?resta8
  case hya8 => (intro wz hSw; (try dsimp only at hSw); go_simp; try with_reducible rfl)
  (try simp only [List.getElem_toArray, List.getElem_cons_zero, List.getElem_cons_succ, Act.put, List.setIfInBounds_toArray, List.set_cons_zero, List.set_cons_succ])
  refine wpAnyH_take (i := 9) (oi := _) (v := ?va9) rfl (by kernel_rfl) (by kernel_rfl) (by kernel_rfl) (fun _ _ _ h => h) (Or.inl ⟨by rfl, ?hya9⟩) (by assumption) ?resta9
  case hya9 => (intro wz hSw; (try dsimp only at hSw); go_simp; try with_reducible rfl)
  (try simp only [List.getElem_toArray, List.getElem_cons_zero, List.getElem_cons_succ, Act.put, List.setIfInBounds_toArray, List.set_cons_zero, List.set_cons_succ])
  refine wpAnyH_take (i := 10) (oi := _) (v := ?va10) rfl (by kernel_rfl) (by kernel_rfl) (by kernel_rfl) (fun _ _ _ h => h) (Or.inl ⟨by rfl, ?hya10⟩) (by assumption) ?resta10
  case hya10 => (intro wz hSw; (try dsimp only at hSw); go_simp; try with_reducible rfl)
  (try simp only [List.getElem_toArray, List.getElem_cons_zero, List.getElem_cons_succ, Act.put, List.setIfInBounds_toArray, List.set_cons_zero])
  refine wpAnyH_done (by kernel_rfl) ?_ _
  go_wp2
  go_ret
  exact ⟨rfl, hk9.2.below⟩
end Go.Proofs.Ytnhaidofblfopaa
