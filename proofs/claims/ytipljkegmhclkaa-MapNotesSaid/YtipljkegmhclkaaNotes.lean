/-
  Proved: 'matryoshkalaw13.MapNotes' returns true for every input: the statement MapNotesSaid as given. Conditions: none beyond the row's own.
-/
import Derived.Test.YtipljkegmhclkaaRows
import Derived.Test.YtipljkegmhclkaaUs
import Derived.Deep.RegionHeld3
import Derived.WalkKit
import Derived.ProofKit
import Derived.OpenShut
import Derived.ShutString
import Derived.ChangeOld
import Derived.Below
namespace Go.Proofs.Ytipljkegmhclkaa.mapNotes
open Go.ChangeShapes Go.WideShapes Go.ChangeAt Go.RowKit
open Go.ChangeMaps (open_string shut_string)
set_option linter.unusedVariables false

theorem own : ownKnob Try.prog.godebug = none := by kernel_rfl
theorem laidOut : laidOutB Try.prog = true := by kernel_rfl

set_option maxRecDepth 100000 in
set_option maxHeartbeats 16000000 in
theorem walk (a0 : Option Addr) (len0 cap0 : Nat) (z0 : Nat → StA) (w : World) (w0 : StepsIn w a0 len0 z0) :
    Calls Try.prog 4 #[.slice a0 len0 cap0] w fun e w' => e = .returned (.bool true) ∧ Below w.heap.size w w' := by
  have HST := Lib.hid w0
  have hbig := w0.big
  have HNU := Lib.hid (fun (z : Int) (hz : I64 z) (w : World) => num13 z hz w)
  have HAW : Hid (∀ W, Below w.heap.size w W → Calls Try.prog 14 #[] W fun e w' => e = .returned (.bool true) ∧ Below w.heap.size w w') := fun W hb => (awake13 W).mono fun e w' h => ⟨h.1, hb.trans (h.2.mono hb.size)⟩
  have HR0 := Lib.hid (Below.refl w.heap.size w)
  by_cases h60 : 60 < len0
  · clear w0
    go_enter Try.func4, Try.ntmps4
    go_wp2_with (first
      | (go_at_call 14; (with_reducible refine (HAW.out _ HR0.out).mono ?_); rintro e w9 ⟨rfl, hb9⟩))
    go_ret
    exact ⟨rfl, hb9⟩
  have HA1 : Hid (∀ W, Calls Try.prog 15 #[.slice none 0 0, .string ⟨#[97]⟩] W fun e w' => ∃ a c, e = .returned (.tuple #[.slice a 1 c, .int .i64 0]) ∧ BmsD w' a 1 c [(txA, true, [])] ∧ Below W.heap.size W w') := awAdd13
  have HA2 : Hid (∀ W a c, BmsD W a 1 c [(txA, true, [])] → Calls Try.prog 15 #[.slice a 1 c, .string ⟨#[98]⟩] W (GivB (BB true [] true []) W)) := fun W a c h => ((mapsAdd W a 1 c _ h txB (by decide)).mono fun e w' h' => GivB.of rfl (bb_second ▸ h'))
  have HZ0 := falses_zero
  clear w0
  go_enter Try.func4, Try.ntmps4
  go_wp2_with (first
    | (go_at_call 15; (with_reducible refine (HA1.out _).mono ?_); rintro e w1 ⟨a1, c1, rfl, hD, hb⟩; have HD1 := Lib.hid hD; have HB1 := Lib.hid hb; clear hD hb HA1)
    | (go_at_call 15; (with_reducible refine (HA2.out _ _ _ HD1.out).mono ?_); rintro e w2 ⟨a2, c2, rfl, hD, hb⟩; have HD2 := Lib.hid hD; have HB2 := Lib.hid (HB1.out.trans (hb.mono HB1.out.size)); obtain ⟨X, hX⟩ := named w2.heap.size; have hXX := hX.out; clear hD hb HA2)
    | (go_at_call 16; (with_reducible refine (HNU.out _ (by unfold I64; omega) _).mono ?_); rintro e w' ⟨rfl, hw⟩; obtain rfl := hw.symm))
  have HN0 : Hid (Nt w X (fun _ => false) true true true [] true [] a2 c2 (((w2.alloc (.cells falses600 49)).alloc (.cells #[.bool true, .bool true] 50)).alloc (.cells #[.string ⟨#[97]⟩, .string ⟨#[98]⟩] 51))) := by
    rw [← hX.out]
    obtain ⟨b, hb⟩ := HD2.out
    have bl := ((((Below.refl w2.heap.size w2).alloc (Nat.le_refl _) (.cells falses600 49)).alloc (by simp) (.cells #[.bool true, .bool true] 50)).alloc (by simp; omega) (.cells #[.string ⟨#[97]⟩, .string ⟨#[98]⟩] 51))
    have bn := Blk.new ((w2.alloc (.cells falses600 49)).alloc (.cells #[.bool true, .bool true] 50)) 51 #[.string ⟨#[97]⟩, .string ⟨#[98]⟩]
    rw [World.size_alloc, World.size_alloc] at bn
    exact ⟨(HasM.first w2).later (((Below.refl _ _).alloc (Nat.le_refl _) _).alloc (by simp) _), (show Blk _ _ _ _ from blk_next9 w2 49 50 falses600 #[.bool true, .bool true]).alloc _, bn, ⟨b, hb.later bl⟩, HB2.out.trans (bl.mono HB2.out.size), HB2.out.size⟩
  clear HB1 HD1 HB2 HD2 hX
  go_loopw [3, 9] (fun l i wr => ∃ (j : Nat) (a : Option Addr) (c : Nat) (h : Nat → Bool) (o0 o1 : Bool) (l0 l1 : List Sp), j ≤ len0 ∧ l = .slice a 2 c ∧ i = .int .i64 j ∧ Hid (Nt w X h o0 o1 o0 l0 o1 l1 a c wr) ∧ Hid (Noted l0 l1 h)) (fun _ i _ => len0 - (intOf i).toNat)
  case atStart => exact ⟨0, a2, c2, _, true, true, [], [], Nat.zero_le _, rfl, rfl, HN0.out, Noted.first⟩
  case round =>
    clear HN0 HZ0 hXX
    obtain ⟨j, a, c, h, o0, o1, l0, l1, hj, rfl, rfl, HN, HO⟩ := hrel
    by_cases hlt : j < len0
    · obtain ⟨b, off, d, wh, f, t, e0, hg, hd, hf, ht, y0, y1, y2, y3⟩ := HST.out.at HN.out.dat j hlt
      subst e0
      clear hg hd
      cases wh with
      | false =>
        rcases (by omega : d = 0 ∨ d = 1 ∨ d = 2 ∨ d = 3 ∨ (d ≠ 0 ∧ d ≠ 1 ∧ d ≠ 2 ∧ d ≠ 3)) with rfl | rfl | rfl | rfl | hd4
        · as_aux_lemma =>
            have HVB : Hid (Below wr.heap.size wr (wr.alloc (.cells #[.int .i64 0, .bool false, .int .u8 f, .int .u8 t] 53))) := (Below.refl _ wr).alloc (Nat.le_refl _) _
            have HVS : Hid (Blk (wr.alloc (.cells #[.int .i64 0, .bool false, .int .u8 f, .int .u8 t] 53)) wr.heap.size 53 #[.int .i64 0, .bool false, .int .u8 f, .int .u8 t]) := Blk.new _ _ _
            have HN1 := Lib.hid (HN.out.later HVB.out)
            obtain ⟨⟨p0, p1⟩, ⟨f0, f1⟩, n0, n1⟩ := HN1.out.cells
            have hlx := HN1.out.on.lt
            clear HVB HN
            have HN2 := Lib.hid (HN1.out.setOn0 true)
            have HC := Lib.hid (HN2.out.turn0 true)
            clear HN1
            obtain ⟨⟨p0', p1'⟩, _, n0', n1'⟩ := HN2.out.cells
            go_wp2_with (first
              | (go_at_call 17; (with_reducible refine HC.out.mono ?_); rintro e w5 ⟨a5, c5, rfl, hN⟩; have HN5 := Lib.hid hN; clear hN HC)
              | (go_at_call 16; (with_reducible refine (HNU.out _ (by unfold I64; decide) _).mono ?_); rintro e w' ⟨rfl, hw⟩; obtain rfl := hw.symm))
            go_roundw
            case rel => exact ⟨j + 1, _, _, h, true, o1, l0, l1, by omega, rfl, by go_num, HN5.out, HO.out⟩
            case measure => simp [intOf]; omega
        · as_aux_lemma =>
            have HVB : Hid (Below wr.heap.size wr (wr.alloc (.cells #[.int .i64 1, .bool false, .int .u8 f, .int .u8 t] 53))) := (Below.refl _ wr).alloc (Nat.le_refl _) _
            have HVS : Hid (Blk (wr.alloc (.cells #[.int .i64 1, .bool false, .int .u8 f, .int .u8 t] 53)) wr.heap.size 53 #[.int .i64 1, .bool false, .int .u8 f, .int .u8 t]) := Blk.new _ _ _
            have HN1 := Lib.hid (HN.out.later HVB.out)
            obtain ⟨⟨p0, p1⟩, ⟨f0, f1⟩, n0, n1⟩ := HN1.out.cells
            have hlx := HN1.out.on.lt
            clear HVB HN
            have HN2 := Lib.hid (HN1.out.setOn0 false)
            have HC := Lib.hid (HN2.out.turn0 false)
            clear HN1
            obtain ⟨⟨p0', p1'⟩, _, n0', n1'⟩ := HN2.out.cells
            go_wp2_with (first
              | (go_at_call 17; (with_reducible refine HC.out.mono ?_); rintro e w5 ⟨a5, c5, rfl, hN⟩; have HN5 := Lib.hid hN; clear hN HC)
              | (go_at_call 16; (with_reducible refine (HNU.out _ (by unfold I64; decide) _).mono ?_); rintro e w' ⟨rfl, hw⟩; obtain rfl := hw.symm))
            go_roundw
            case rel => exact ⟨j + 1, _, _, h, false, o1, l0, l1, by omega, rfl, by go_num, HN5.out, HO.out⟩
            case measure => simp [intOf]; omega
        · as_aux_lemma =>
            have HVB : Hid (Below wr.heap.size wr (wr.alloc (.cells #[.int .i64 2, .bool false, .int .u8 f, .int .u8 t] 53))) := (Below.refl _ wr).alloc (Nat.le_refl _) _
            have HVS : Hid (Blk (wr.alloc (.cells #[.int .i64 2, .bool false, .int .u8 f, .int .u8 t] 53)) wr.heap.size 53 #[.int .i64 2, .bool false, .int .u8 f, .int .u8 t]) := Blk.new _ _ _
            have HN1 := Lib.hid (HN.out.later HVB.out)
            obtain ⟨⟨p0, p1⟩, ⟨f0, f1⟩, n0, n1⟩ := HN1.out.cells
            have hlx := HN1.out.on.lt
            clear HVB HN
            obtain ⟨W2, hst, hH2, hg2⟩ := run_half HN1.out.has 0 (by omega)
            have HN2 := Lib.hid (HN1.out.half hH2 hg2)
            have HC := Lib.hid (HN2.out.clear0)
            have HNO := Lib.hid HO.out.clear0
            have hz3 := falses_zero3
            have hst' : (storeCells ⟨X, 0, none⟩ falses300.toList).run Try.prog (wr.alloc (.cells #[.int .i64 2, .bool false, .int .u8 f, .int .u8 t] 53)) = .ok () W2 := hst
            clear hst
            clear HN1 hH2 hg2
            obtain ⟨_, _, n0', n1'⟩ := HN2.out.cells
            go_wp2_with (first
              | (go_at_call 18; (with_reducible refine HC.out.mono ?_); rintro e w5 ⟨a5, c5, rfl, hN⟩; have HN5 := Lib.hid hN; clear hN HC)
              | (go_at_call 16; (with_reducible refine (HNU.out _ (by unfold I64; decide) _).mono ?_); rintro e w' ⟨rfl, hw⟩; obtain rfl := hw.symm))
            go_roundw
            case rel => exact ⟨j + 1, _, _, (clrH 0 h), o0, o1, [], l1, by omega, rfl, by go_num, HN5.out, HNO.out⟩
            case measure => simp [intOf]; omega
        · as_aux_lemma =>
            have HVB : Hid (Below wr.heap.size wr (wr.alloc (.cells #[.int .i64 3, .bool false, .int .u8 f, .int .u8 t] 53))) := (Below.refl _ wr).alloc (Nat.le_refl _) _
            have HVS : Hid (Blk (wr.alloc (.cells #[.int .i64 3, .bool false, .int .u8 f, .int .u8 t] 53)) wr.heap.size 53 #[.int .i64 3, .bool false, .int .u8 f, .int .u8 t]) := Blk.new _ _ _
            have HN1 := Lib.hid (HN.out.later HVB.out)
            obtain ⟨⟨p0, p1⟩, ⟨f0, f1⟩, n0, n1⟩ := HN1.out.cells
            have hlx := HN1.out.on.lt
            clear HVB HN
            go_wp2
            go_loopw [13] (fun i V => ∃ q : Nat, q ≤ 300 ∧ i = .int .i64 q ∧ Hid (Nt w X (mrgH 0 q h) o0 o1 o0 l0 o1 l1 a c V)) (fun i _ => 300 - (intOf i).toNat)
            case atStart => exact ⟨0, Nat.zero_le _, rfl, by rw [mrgH_zero]; exact HN1.out⟩
            case round =>
              obtain ⟨q, hq, rfl, HQ⟩ := hrel
              clear HN1 HVS p0 p1 f0 f1 n0 n1 hlx
              by_cases hq3 : q < 300
              · obtain ⟨k1, z1⟩ := HQ.out.has.cell (q) (by omega)
                obtain ⟨k2, _⟩ := HQ.out.has.cell (300 + q) (by omega)
                have hst := mrgH_step 0 (by omega) q hq3 h
                have hsh := fun v => HQ.out.setH (q) (by omega) v
                rw [show 0 * 300 + q = q by omega, show (1 - 0) * 300 + q = 300 + q by omega] at hst
                obtain ⟨v1, hv1⟩ := named (mrgH 0 q h (q))
                obtain ⟨v2, hv2⟩ := named (mrgH 0 q h (300 + q))
                rw [hv1.out] at k1 hst
                rw [hv2.out] at k2 hst
                have hqi : (q : Int) < 300 := by omega
                have hq0 : (0 : Int) ≤ q := by omega
                have hw1 : IntKind.i64.wrap 1 = 1 := by rw [IntKind.wrap_i64]; omega
                have hw0 : IntKind.i64.wrap 0 = 0 := by rw [IntKind.wrap_i64]; omega
                have HS2 : Hid (∀ v, v = (v1 || v2) → Nt w X (mrgH 0 (q + 1) h) o0 o1 o0 l0 o1 l1 a c (wr.setCell ⟨X, q, none⟩ (.bool v))) := fun v e => by
                  have := hsh (v1 || v2)
                  rw [hst] at this
                  rw [e]
                  exact this
                clear hst hsh hv1 hv2
                cases v1 with
                | true =>
                  have HQ2 := Lib.hid (HS2.out true rfl)
                  go_wp2
                  refine wp_region_held_drew (S := fun _ => True) (by kernel_rfl) (trivial) (fun hHeld => ?_)
                  refine wpAnyH_take (i := 0) (oi := _) (v := ?vm0a0) rfl (by kernel_rfl) (by kernel_rfl) (by kernel_rfl) (fun _ _ _ h => h) (Or.inl ⟨by rfl, ?hym0a0⟩) (by assumption) ?restm0a0
                  case hym0a0 => (intro wz hSw; (try dsimp only at hSw); go_simp; try with_reducible rfl)
                  (try simp only [List.getElem_toArray, List.getElem_cons_zero, Act.put, List.setIfInBounds_toArray, List.set_cons_zero, List.set_cons_succ])
                  refine wpAnyH_take (i := 1) (oi := _) (v := ?vm0a1) rfl (by kernel_rfl) (by kernel_rfl) (by kernel_rfl) (fun _ _ _ h => h) (Or.inl ⟨by rfl, ?hym0a1⟩) (by assumption) ?restm0a1
                  case hym0a1 => (intro wz hSw; (try dsimp only at hSw); go_simp; try with_reducible rfl)
                  (try simp only [List.getElem_toArray, List.getElem_cons_zero, List.getElem_cons_succ, Act.put, List.setIfInBounds_toArray, List.set_cons_zero, List.set_cons_succ])
                  refine wpAnyH_take (i := 2) (oi := _) (v := ?vm0a2) rfl (by kernel_rfl) (by kernel_rfl) (by kernel_rfl) (fun _ _ _ h => h) (Or.inl ⟨by rfl, ?hym0a2⟩) (by assumption) ?restm0a2
                  case hym0a2 => (intro wz hSw; (try dsimp only at hSw); go_simp; try with_reducible rfl)
                  (try simp only [List.getElem_toArray, List.getElem_cons_zero, List.getElem_cons_succ, Act.put, List.setIfInBounds_toArray, List.set_cons_zero, List.set_cons_succ])
                  refine wpAnyH_take (i := 3) (oi := _) (v := ?vm0a3) rfl (by kernel_rfl) (by kernel_rfl) (by kernel_rfl) (fun _ _ _ h => h) (Or.inl ⟨by rfl, ?hym0a3⟩) (by assumption) ?restm0a3
                  case hym0a3 => (intro wz hSw; (try dsimp only at hSw); go_simp; try with_reducible rfl)
                  (try simp only [List.getElem_toArray, List.getElem_cons_zero, List.getElem_cons_succ, Act.put, List.setIfInBounds_toArray, List.set_cons_zero, List.set_cons_succ])
                  refine wpAnyH_take (i := 4) (oi := _) (v := ?vm0a4) rfl (by kernel_rfl) (by kernel_rfl) (by kernel_rfl) (fun _ _ _ h => h) (Or.inl ⟨by rfl, ?hym0a4⟩) (by assumption) ?restm0a4
                  case hym0a4 => (intro wz hSw; (try dsimp only at hSw); go_simp; try with_reducible rfl)
                  (try simp only [List.getElem_toArray, List.getElem_cons_zero, List.getElem_cons_succ, Act.put, List.setIfInBounds_toArray, List.set_cons_zero, List.set_cons_succ])
                  refine wpAnyH_take (i := 5) (oi := _) (v := ?vm0a5) rfl (by kernel_rfl) (by kernel_rfl) (by kernel_rfl) (fun _ _ _ h => h) (Or.inl ⟨by rfl, ?hym0a5⟩) (by assumption) ?restm0a5
                  case hym0a5 => (intro wz hSw; (try dsimp only at hSw); go_simp; try with_reducible rfl)
                  (try simp only [List.getElem_toArray, List.getElem_cons_zero, List.getElem_cons_succ, Act.put, List.setIfInBounds_toArray, List.set_cons_zero, List.set_cons_succ])
                  refine wpAnyH_take (i := 15) (oi := _) (v := ?vm0a15) rfl (by kernel_rfl) (by kernel_rfl) (by kernel_rfl) (fun _ _ _ h => h) (Or.inl ⟨by rfl, ?hym0a15⟩) (by assumption) ?restm0a15
                  case hym0a15 => (intro wz hSw; (try dsimp only at hSw); go_simp; try with_reducible rfl)
                  (try simp only [List.getElem_toArray, List.getElem_cons_zero, List.getElem_cons_succ, Act.put, List.setIfInBounds_toArray, List.set_cons_zero, List.set_cons_succ])
                  refine wpAnyH_ready (rs := [6]) (by kernel_rfl) (by simp) ?_
                  refine AllReadyH.cons (o := _) rfl (fun K hK => ?_) AllReadyH.nil
                  rw [if_pos (by rfl)]
                  go_simp
                  refine hK.out _ _ (trivial) (fun hHeld => ?_)
                  clear hK K
                  (try simp only [List.getElem_toArray, List.getElem_cons_zero, List.getElem_cons_succ, Act.put, List.setIfInBounds_toArray, List.set_cons_zero, List.set_cons_succ])
                  refine wpAnyH_take (i := 7) (oi := _) (v := ?vm0a7) rfl (by kernel_rfl) (by kernel_rfl) (by kernel_rfl) (fun _ _ _ h => h) (Or.inl ⟨by rfl, ?hym0a7⟩) (by assumption) ?restm0a7
                  case hym0a7 => (intro wz hSw; (try dsimp only at hSw); go_simp; try with_reducible rfl)
                  (try simp only [List.getElem_toArray, List.getElem_cons_zero, List.getElem_cons_succ, Act.put, List.setIfInBounds_toArray, List.set_cons_zero, List.set_cons_succ])
                  refine wpAnyH_take (i := 8) (oi := _) (v := undef) rfl (by kernel_rfl) (by kernel_rfl) (by kernel_rfl) (fun _ _ _ h => h) (Or.inr ⟨by rfl, rfl⟩) (by assumption) ?_
                  (try simp only [List.getElem_toArray, List.getElem_cons_zero, List.getElem_cons_succ, Act.put, List.setIfInBounds_toArray, List.set_cons_zero, List.set_cons_succ])
                  refine wpAnyH_take (i := 9) (oi := _) (v := undef) rfl (by kernel_rfl) (by kernel_rfl) (by kernel_rfl) (fun _ _ _ h => h) (Or.inr ⟨by rfl, rfl⟩) (by assumption) ?_
                  (try simp only [List.getElem_toArray, List.getElem_cons_zero, List.getElem_cons_succ, Act.put, List.setIfInBounds_toArray, List.set_cons_zero, List.set_cons_succ])
                  refine wpAnyH_take (i := 10) (oi := _) (v := undef) rfl (by kernel_rfl) (by kernel_rfl) (by kernel_rfl) (fun _ _ _ h => h) (Or.inr ⟨by rfl, rfl⟩) (by assumption) ?_
                  (try simp only [List.getElem_toArray, List.getElem_cons_zero, List.getElem_cons_succ, Act.put, List.setIfInBounds_toArray, List.set_cons_zero, List.set_cons_succ])
                  refine wpAnyH_take (i := 11) (oi := _) (v := undef) rfl (by kernel_rfl) (by kernel_rfl) (by kernel_rfl) (fun _ _ _ h => h) (Or.inr ⟨by rfl, rfl⟩) (by assumption) ?_
                  (try simp only [List.getElem_toArray, List.getElem_cons_zero, List.getElem_cons_succ, Act.put, List.setIfInBounds_toArray, List.set_cons_zero, List.set_cons_succ])
                  refine wpAnyH_take (i := 12) (oi := _) (v := undef) rfl (by kernel_rfl) (by kernel_rfl) (by kernel_rfl) (fun _ _ _ h => h) (Or.inr ⟨by rfl, rfl⟩) (by assumption) ?_
                  (try simp only [List.getElem_toArray, List.getElem_cons_zero, List.getElem_cons_succ, Act.put, List.setIfInBounds_toArray, List.set_cons_zero, List.set_cons_succ])
                  refine wpAnyH_take (i := 13) (oi := _) (v := undef) rfl (by kernel_rfl) (by kernel_rfl) (by kernel_rfl) (fun _ _ _ h => h) (Or.inr ⟨by rfl, rfl⟩) (by assumption) ?_
                  (try simp only [List.getElem_toArray, List.getElem_cons_zero, List.getElem_cons_succ, Act.put, List.setIfInBounds_toArray, List.set_cons_zero, List.set_cons_succ])
                  refine wpAnyH_take (i := 14) (oi := _) (v := ?vm0a14) rfl (by kernel_rfl) (by kernel_rfl) (by kernel_rfl) (fun _ _ _ h => h) (Or.inl ⟨by rfl, ?hym0a14⟩) (by assumption) ?restm0a14
                  case hym0a14 => (intro wz hSw; (try dsimp only at hSw); go_simp; try with_reducible rfl)
                  (try simp only [List.getElem_toArray, List.getElem_cons_zero, List.getElem_cons_succ, Act.put, List.setIfInBounds_toArray, List.set_cons_zero, List.set_cons_succ])
                  refine wpAnyH_take (i := 16) (oi := _) (v := ?vm0a16) rfl (by kernel_rfl) (by kernel_rfl) (by kernel_rfl) (fun _ _ _ h => h) (Or.inl ⟨by rfl, ?hym0a16⟩) (by assumption) ?restm0a16
                  case hym0a16 => (intro wz hSw; (try dsimp only at hSw); go_simp; try with_reducible rfl)
                  (try simp only [List.getElem_toArray, List.getElem_cons_zero, List.getElem_cons_succ, Act.put, List.setIfInBounds_toArray, List.set_cons_zero, List.set_cons_succ])
                  refine wpAnyH_ready (rs := [17]) (by kernel_rfl) (by simp) ?_
                  refine AllReadyH.cons (o := _) rfl (fun K hK => ?_) AllReadyH.nil
                  rw [if_pos (by rfl)]
                  go_simp
                  refine hK.out _ _ (trivial) (fun hHeld => ?_)
                  clear hK K
                  (try simp only [List.getElem_toArray, List.getElem_cons_zero, List.getElem_cons_succ, Act.put, List.setIfInBounds_toArray, List.set_cons_zero, List.set_cons_succ])
                  refine wpAnyH_done (by kernel_rfl) ?_ _
                  go_wp2
                  go_roundw
                  case rel => exact ⟨q + 1, by omega, by go_num, HQ2.out.later (Below.refl _ _).drew⟩
                  case measure => simp [intOf]; omega
                | false =>
                  have HQ2 := Lib.hid (HS2.out v2 (Bool.false_or _).symm)
                  go_wp2
                  refine wp_region_held_drew (S := fun _ => True) (by kernel_rfl) (trivial) (fun hHeld => ?_)
                  refine wpAnyH_take (i := 0) (oi := _) (v := ?vm0b0) rfl (by kernel_rfl) (by kernel_rfl) (by kernel_rfl) (fun _ _ _ h => h) (Or.inl ⟨by rfl, ?hym0b0⟩) (by assumption) ?restm0b0
                  case hym0b0 => (intro wz hSw; (try dsimp only at hSw); go_simp; try with_reducible rfl)
                  (try simp only [List.getElem_toArray, List.getElem_cons_zero, Act.put, List.setIfInBounds_toArray, List.set_cons_zero, List.set_cons_succ])
                  refine wpAnyH_take (i := 1) (oi := _) (v := ?vm0b1) rfl (by kernel_rfl) (by kernel_rfl) (by kernel_rfl) (fun _ _ _ h => h) (Or.inl ⟨by rfl, ?hym0b1⟩) (by assumption) ?restm0b1
                  case hym0b1 => (intro wz hSw; (try dsimp only at hSw); go_simp; try with_reducible rfl)
                  (try simp only [List.getElem_toArray, List.getElem_cons_zero, List.getElem_cons_succ, Act.put, List.setIfInBounds_toArray, List.set_cons_zero, List.set_cons_succ])
                  refine wpAnyH_take (i := 2) (oi := _) (v := ?vm0b2) rfl (by kernel_rfl) (by kernel_rfl) (by kernel_rfl) (fun _ _ _ h => h) (Or.inl ⟨by rfl, ?hym0b2⟩) (by assumption) ?restm0b2
                  case hym0b2 => (intro wz hSw; (try dsimp only at hSw); go_simp; try with_reducible rfl)
                  (try simp only [List.getElem_toArray, List.getElem_cons_zero, List.getElem_cons_succ, Act.put, List.setIfInBounds_toArray, List.set_cons_zero, List.set_cons_succ])
                  refine wpAnyH_take (i := 3) (oi := _) (v := ?vm0b3) rfl (by kernel_rfl) (by kernel_rfl) (by kernel_rfl) (fun _ _ _ h => h) (Or.inl ⟨by rfl, ?hym0b3⟩) (by assumption) ?restm0b3
                  case hym0b3 => (intro wz hSw; (try dsimp only at hSw); go_simp; try with_reducible rfl)
                  (try simp only [List.getElem_toArray, List.getElem_cons_zero, List.getElem_cons_succ, Act.put, List.setIfInBounds_toArray, List.set_cons_zero, List.set_cons_succ])
                  refine wpAnyH_take (i := 4) (oi := _) (v := ?vm0b4) rfl (by kernel_rfl) (by kernel_rfl) (by kernel_rfl) (fun _ _ _ h => h) (Or.inl ⟨by rfl, ?hym0b4⟩) (by assumption) ?restm0b4
                  case hym0b4 => (intro wz hSw; (try dsimp only at hSw); go_simp; try with_reducible rfl)
                  (try simp only [List.getElem_toArray, List.getElem_cons_zero, List.getElem_cons_succ, Act.put, List.setIfInBounds_toArray, List.set_cons_zero, List.set_cons_succ])
                  refine wpAnyH_take (i := 5) (oi := _) (v := ?vm0b5) rfl (by kernel_rfl) (by kernel_rfl) (by kernel_rfl) (fun _ _ _ h => h) (Or.inl ⟨by rfl, ?hym0b5⟩) (by assumption) ?restm0b5
                  case hym0b5 => (intro wz hSw; (try dsimp only at hSw); go_simp; try with_reducible rfl)
                  (try simp only [List.getElem_toArray, List.getElem_cons_zero, List.getElem_cons_succ, Act.put, List.setIfInBounds_toArray, List.set_cons_zero, List.set_cons_succ])
                  refine wpAnyH_take (i := 15) (oi := _) (v := ?vm0b15) rfl (by kernel_rfl) (by kernel_rfl) (by kernel_rfl) (fun _ _ _ h => h) (Or.inl ⟨by rfl, ?hym0b15⟩) (by assumption) ?restm0b15
                  case hym0b15 => (intro wz hSw; (try dsimp only at hSw); go_simp; try with_reducible rfl)
                  (try simp only [List.getElem_toArray, List.getElem_cons_zero, List.getElem_cons_succ, Act.put, List.setIfInBounds_toArray, List.set_cons_zero, List.set_cons_succ])
                  refine wpAnyH_ready (rs := [6]) (by kernel_rfl) (by simp) ?_
                  refine AllReadyH.cons (o := _) rfl (fun K hK => ?_) AllReadyH.nil
                  rw [if_pos (by rfl)]
                  go_simp
                  refine hK.out _ _ (trivial) (fun hHeld => ?_)
                  clear hK K
                  (try simp only [List.getElem_toArray, List.getElem_cons_zero, List.getElem_cons_succ, Act.put, List.setIfInBounds_toArray, List.set_cons_zero, List.set_cons_succ])
                  refine wpAnyH_take (i := 7) (oi := _) (v := ?vm0b7) rfl (by kernel_rfl) (by kernel_rfl) (by kernel_rfl) (fun _ _ _ h => h) (Or.inl ⟨by rfl, ?hym0b7⟩) (by assumption) ?restm0b7
                  case hym0b7 => (intro wz hSw; (try dsimp only at hSw); go_simp; try with_reducible rfl)
                  (try simp only [List.getElem_toArray, List.getElem_cons_zero, List.getElem_cons_succ, Act.put, List.setIfInBounds_toArray, List.set_cons_zero, List.set_cons_succ])
                  refine wpAnyH_take (i := 8) (oi := _) (v := ?vm0b8) rfl (by kernel_rfl) (by kernel_rfl) (by kernel_rfl) (fun _ _ _ h => h) (Or.inl ⟨by rfl, ?hym0b8⟩) (by assumption) ?restm0b8
                  case hym0b8 => (intro wz hSw; (try dsimp only at hSw); go_simp; try with_reducible rfl)
                  (try simp only [List.getElem_toArray, List.getElem_cons_zero, List.getElem_cons_succ, Act.put, List.setIfInBounds_toArray, List.set_cons_zero, List.set_cons_succ])
                  refine wpAnyH_take (i := 9) (oi := _) (v := ?vm0b9) rfl (by kernel_rfl) (by kernel_rfl) (by kernel_rfl) (fun _ _ _ h => h) (Or.inl ⟨by rfl, ?hym0b9⟩) (by assumption) ?restm0b9
                  case hym0b9 => (intro wz hSw; (try dsimp only at hSw); go_simp; try with_reducible rfl)
                  (try simp only [List.getElem_toArray, List.getElem_cons_zero, List.getElem_cons_succ, Act.put, List.setIfInBounds_toArray, List.set_cons_zero, List.set_cons_succ])
                  refine wpAnyH_take (i := 10) (oi := _) (v := ?vm0b10) rfl (by kernel_rfl) (by kernel_rfl) (by kernel_rfl) (fun _ _ _ h => h) (Or.inl ⟨by rfl, ?hym0b10⟩) (by assumption) ?restm0b10
                  case hym0b10 => (intro wz hSw; (try dsimp only at hSw); go_simp; try with_reducible rfl)
                  (try simp only [List.getElem_toArray, List.getElem_cons_zero, List.getElem_cons_succ, Act.put, List.setIfInBounds_toArray, List.set_cons_zero, List.set_cons_succ])
                  refine wpAnyH_take (i := 11) (oi := _) (v := ?vm0b11) rfl (by kernel_rfl) (by kernel_rfl) (by kernel_rfl) (fun _ _ _ h => h) (Or.inl ⟨by rfl, ?hym0b11⟩) (by assumption) ?restm0b11
                  case hym0b11 => (intro wz hSw; (try dsimp only at hSw); go_simp; try with_reducible rfl)
                  (try simp only [List.getElem_toArray, List.getElem_cons_zero, List.getElem_cons_succ, Act.put, List.setIfInBounds_toArray, List.set_cons_zero, List.set_cons_succ])
                  refine wpAnyH_take (i := 12) (oi := _) (v := ?vm0b12) rfl (by kernel_rfl) (by kernel_rfl) (by kernel_rfl) (fun _ _ _ h => h) (Or.inl ⟨by rfl, ?hym0b12⟩) (by assumption) ?restm0b12
                  case hym0b12 => (intro wz hSw; (try dsimp only at hSw); go_simp; try with_reducible rfl)
                  (try simp only [List.getElem_toArray, List.getElem_cons_zero, List.getElem_cons_succ, Act.put, List.setIfInBounds_toArray, List.set_cons_zero, List.set_cons_succ])
                  refine wpAnyH_ready (rs := [13]) (by kernel_rfl) (by simp) ?_
                  refine AllReadyH.cons (o := _) rfl (fun K hK => ?_) AllReadyH.nil
                  rw [if_pos (by rfl)]
                  go_simp
                  refine hK.out _ _ (trivial) (fun hHeld => ?_)
                  clear hK K
                  (try simp only [List.getElem_toArray, List.getElem_cons_zero, List.getElem_cons_succ, Act.put, List.setIfInBounds_toArray, List.set_cons_zero, List.set_cons_succ])
                  refine wpAnyH_take (i := 14) (oi := _) (v := ?vm0b14) rfl (by kernel_rfl) (by kernel_rfl) (by kernel_rfl) (fun _ _ _ h => h) (Or.inl ⟨by rfl, ?hym0b14⟩) (by assumption) ?restm0b14
                  case hym0b14 => (intro wz hSw; (try dsimp only at hSw); go_simp; try with_reducible rfl)
                  (try simp only [List.getElem_toArray, List.getElem_cons_zero, List.getElem_cons_succ, Act.put, List.setIfInBounds_toArray, List.set_cons_zero, List.set_cons_succ])
                  refine wpAnyH_take (i := 16) (oi := _) (v := ?vm0b16) rfl (by kernel_rfl) (by kernel_rfl) (by kernel_rfl) (fun _ _ _ h => h) (Or.inl ⟨by rfl, ?hym0b16⟩) (by assumption) ?restm0b16
                  case hym0b16 => (intro wz hSw; (try dsimp only at hSw); go_simp; try with_reducible rfl)
                  (try simp only [List.getElem_toArray, List.getElem_cons_zero, List.getElem_cons_succ, Act.put, List.setIfInBounds_toArray, List.set_cons_zero, List.set_cons_succ])
                  refine wpAnyH_ready (rs := [17]) (by kernel_rfl) (by simp) ?_
                  refine AllReadyH.cons (o := _) rfl (fun K hK => ?_) AllReadyH.nil
                  rw [if_pos (by rfl)]
                  go_simp
                  refine hK.out _ _ (trivial) (fun hHeld => ?_)
                  clear hK K
                  (try simp only [List.getElem_toArray, List.getElem_cons_zero, List.getElem_cons_succ, Act.put, List.setIfInBounds_toArray, List.set_cons_zero, List.set_cons_succ])
                  refine wpAnyH_done (by kernel_rfl) ?_ _
                  go_wp2
                  go_roundw
                  case rel => exact ⟨q + 1, by omega, by go_num, HQ2.out.later (Below.refl _ _).drew⟩
                  case measure => simp [intOf]; omega
              · obtain rfl : q = 300 := by omega
                have HNO := Lib.hid HO.out.merge0
                have HQd := Lib.hid (HQ.out.later (Below.refl _ wr).drew)
                have HC := Lib.hid (HQd.out.merge0 HO.out.len HO.out.r1)
                have HKN : Hid (∀ (h' : Nat → Bool) (p0' p1' o0' o1' : Bool) (l0' l1' : List Sp) (a' : Option Addr) (c' : Nat) V, Nt w X h' p0' p1' o0' l0' o1' l1' a' c' V → V.cell? ⟨X + 1 + 1, 0, none⟩ = some (.string ⟨#[97]⟩) ∧ V.cell? ⟨X + 1 + 1, 1, none⟩ = some (.string ⟨#[98]⟩)) := fun _ _ _ _ _ _ _ _ _ V H => ⟨H.cells.2.2.1, H.cells.2.2.2⟩
                have hw1 : IntKind.i64.wrap 1 = 1 := by rw [IntKind.wrap_i64]; omega
                have hw0 : IntKind.i64.wrap 0 = 0 := by rw [IntKind.wrap_i64]; omega
                go_wp2
                go_region_held3 (fun V => V.cell? ⟨X + 1 + 1, 0, none⟩ = some (.string ⟨#[97]⟩) ∧ V.cell? ⟨X + 1 + 1, 1, none⟩ = some (.string ⟨#[98]⟩)) (first | exact HKN.out _ _ _ _ _ _ _ _ _ _ HQ.out | exact HKN.out _ _ _ _ _ _ _ _ _ _ HQd.out | exact HKN.out _ _ _ _ _ _ _ _ _ _ HN5.out) (first
                  | (go_at_call 19; (with_reducible refine HC.out.mono ?_); rintro e w5 ⟨a5, c5, rfl, hN⟩; have HN5 := Lib.hid hN; clear hN HC))
                go_wp2_with (first
                  | (go_at_call 16; (with_reducible refine (HNU.out _ (by unfold I64; decide) _).mono ?_); rintro e w' ⟨rfl, hw⟩; obtain rfl := hw.symm))
                go_roundw
                case rel => exact ⟨j + 1, _, _, (mrgH 0 300 h), o0, o1, (l1.foldl addL l0), l1, by omega, rfl, by go_num, HN5.out, HNO.out⟩
                case measure => simp [intOf]; omega
        · as_aux_lemma =>
            have HVB : Hid (Below wr.heap.size wr (wr.alloc (.cells #[.int .i64 d, .bool false, .int .u8 f, .int .u8 t] 53))) := (Below.refl _ wr).alloc (Nat.le_refl _) _
            have HVS : Hid (Blk (wr.alloc (.cells #[.int .i64 d, .bool false, .int .u8 f, .int .u8 t] 53)) wr.heap.size 53 #[.int .i64 d, .bool false, .int .u8 f, .int .u8 t]) := Blk.new _ _ _
            have HN1 := Lib.hid (HN.out.later HVB.out)
            obtain ⟨⟨p0, p1⟩, ⟨f0, f1⟩, n0, n1⟩ := HN1.out.cells
            have hlx := HN1.out.on.lt
            clear HVB HN
            have q0 : (d == 0) = false := by simp [hd4.1]
            have q1 : (d == 1) = false := by simp [hd4.2.1]
            have q2 : (d == 2) = false := by simp [hd4.2.2.1]
            have q3 : (d == 3) = false := by simp [hd4.2.2.2]
            clear hd4
            obtain ⟨F, rfl⟩ : ∃ F : Nat, f = F := ⟨f.toNat, by omega⟩
            obtain ⟨R, hR⟩ : ∃ R : Nat, t % 40 = R := ⟨(t % 40).toNat, by omega⟩
            have hR40 : R < 40 := by omega
            have hR2 : t.tmod 40 = R := by rw [Int.tmod_eq_emod_of_nonneg (by omega)]; exact hR
            have hF : F < 256 := by omega
            obtain ⟨T, hT, hTT⟩ : ∃ T : Nat, (F : Int) + 1 + R = T ∧ F < T ∧ T ≤ 300 := ⟨F + 1 + R, by omega, by omega, by omega⟩
            have hTT := Lib.hid hTT
            obtain ⟨XB, hXB⟩ := named (wr.heap.size + 1)
            have hxb := hXB.out
            have HV2 : Hid (Below wr.heap.size wr ((wr.alloc (.cells #[.int .i64 d, .bool false, .int .u8 F, .int .u8 t] 53)).alloc (.cells #[.int .i64 F, .int .i64 T] 40))) := ((Below.refl _ wr).alloc (Nat.le_refl _) _).alloc (by simp) _
            have HVX : Hid (Blk ((wr.alloc (.cells #[.int .i64 d, .bool false, .int .u8 F, .int .u8 t] 53)).alloc (.cells #[.int .i64 F, .int .i64 T] 40)) XB 40 #[.int .i64 F, .int .i64 T]) := by rw [← hXB.out]; exact blk_next9 _ _ _ _ _
            have HN2 := Lib.hid (HN1.out.later ((Below.refl _ _).alloc (Nat.le_refl _) (.cells #[.int .i64 F, .int .i64 T] 40)))
            have hxl : X < XB := by have h9 := hlx; rw [World.size_alloc] at h9; omega
            go_wp2
            clear hxb
            go_loopw [15] (fun i V => ∃ q : Nat, F ≤ q ∧ q ≤ T ∧ i = .int .i64 q ∧ Hid (Nt w X (tchH o0 o1 F q h) o0 o1 o0 l0 o1 l1 a c V) ∧ Hid (Blk V XB 40 #[.int .i64 F, .int .i64 T])) (fun i _ => T - (intOf i).toNat)
            case atStart => exact ⟨F, Nat.le_refl _, by have := hTT.out; omega, rfl, by rw [tchH_zero]; exact HN2.out, HVX.out⟩
            case round =>
              obtain ⟨q, hFq, hqT, rfl, HQ, HX⟩ := hrel
              clear HN1 HN2 HVS HVX p0 p1 f0 f1 n0 n1 hlx
              have x0 : wr.cell? ⟨XB, 0, none⟩ = some (.int .i64 F) := HX.out.cell 0
              have x1 : wr.cell? ⟨XB, 1, none⟩ = some (.int .i64 T) := HX.out.cell 1
              have hTv := hTT.out
              by_cases hqt : q < T
              · obtain ⟨k1, z1⟩ := HQ.out.has.cell q (by omega)
                obtain ⟨k2, z2⟩ := HQ.out.has.cell (300 + q) (by omega)
                obtain ⟨⟨g0, g1⟩, _, _, _⟩ := HQ.out.cells
                have hst := tchH_step o0 o1 F q hFq (by omega) h
                have hup : ∀ b, updB (tchH o0 o1 F q h) q b (300 + q) = tchH o0 o1 F q h (300 + q) := fun b => by unfold updB; rw [if_neg (by omega)]
                rw [hup] at hst
                have hsh := fun v => HQ.out.setH q (by omega) v
                obtain ⟨v1, hv1⟩ := named (tchH o0 o1 F q h q)
                obtain ⟨v2, hv2⟩ := named (tchH o0 o1 F q h (300 + q))
                rw [hv1.out] at k1 hst
                rw [hv2.out] at k2 hst
                have HW1 : Hid (∀ b1, (wr.setCell ⟨X, q, none⟩ (.bool b1)).cell? ⟨X, 300 + q, none⟩ = some (.bool v2) ∧ (wr.setCell ⟨X, q, none⟩ (.bool b1)).frozen? ⟨X, 300 + q, none⟩ = false ∧ (wr.setCell ⟨X, q, none⟩ (.bool b1)).cell? ⟨X + 1, 1, none⟩ = some (.bool o1)) := fun b1 => by
                  have h1 := (hsh b1).has.cell (300 + q) (by omega)
                  rw [hup, hv2.out] at h1
                  exact ⟨h1.1, h1.2, (hsh b1).cells.1.2⟩
                have HS2 : Hid (∀ b1 b2, b1 = (v1 || o0) → b2 = (v2 || o1) → Nt w X (tchH o0 o1 F (q + 1) h) o0 o1 o0 l0 o1 l1 a c ((wr.setCell ⟨X, q, none⟩ (.bool b1)).setCell ⟨X, 300 + q, none⟩ (.bool b2)) ∧ Blk ((wr.setCell ⟨X, q, none⟩ (.bool b1)).setCell ⟨X, 300 + q, none⟩ (.bool b2)) XB 40 #[.int .i64 F, .int .i64 T]) := fun b1 b2 e1 e2 => by
                  have h2 := (hsh (v1 || o0)).setH (300 + q) (by omega) (v2 || o1)
                  rw [hst] at h2
                  subst e1 e2
                  exact ⟨h2, (HX.out.other (by omega) _).other (by omega) _⟩
                clear hst hsh hv1 hv2 hup hTv
                have hqi : (q : Int) < 300 := by have := hTT.out; omega
                have hq0 : (0 : Int) ≤ q := by omega
                cases v1 with
                | true =>
                  obtain ⟨c2, c3, c4⟩ := HW1.out true
                  cases v2 with
                  | true =>
                    obtain ⟨HQ2, HX2⟩ := HS2.out true true rfl rfl
                    have HQ2 := Lib.hid HQ2
                    have HX2 := Lib.hid HX2
                    go_wp2
                    go_roundw
                    case rel => exact ⟨q + 1, by omega, by omega, by go_num, HQ2.out, HX2.out⟩
                    case measure => simp [intOf]; omega
                  | false =>
                    obtain ⟨HQ2, HX2⟩ := HS2.out true o1 rfl (Bool.false_or _).symm
                    have HQ2 := Lib.hid HQ2
                    have HX2 := Lib.hid HX2
                    go_wp2
                    go_roundw
                    case rel => exact ⟨q + 1, by omega, by omega, by go_num, HQ2.out, HX2.out⟩
                    case measure => simp [intOf]; omega
                | false =>
                  obtain ⟨c2, c3, c4⟩ := HW1.out o0
                  cases v2 with
                  | true =>
                    obtain ⟨HQ2, HX2⟩ := HS2.out o0 true (Bool.false_or _).symm rfl
                    have HQ2 := Lib.hid HQ2
                    have HX2 := Lib.hid HX2
                    go_wp2
                    go_roundw
                    case rel => exact ⟨q + 1, by omega, by omega, by go_num, HQ2.out, HX2.out⟩
                    case measure => simp [intOf]; omega
                  | false =>
                    obtain ⟨HQ2, HX2⟩ := HS2.out o0 o1 (Bool.false_or _).symm (Bool.false_or _).symm
                    have HQ2 := Lib.hid HQ2
                    have HX2 := Lib.hid HX2
                    go_wp2
                    go_roundw
                    case rel => exact ⟨q + 1, by omega, by omega, by go_num, HQ2.out, HX2.out⟩
                    case measure => simp [intOf]; omega
              · obtain rfl : q = T := by omega
                have HNO := Lib.hid (HO.out.touch o0 o1 hTv.1 hTv.2)
                have HC := Lib.hid (HQ.out.touch HO.out.len F q (by unfold I64; omega) (by unfold I64; omega))
                go_wp2_with (first
                  | (go_at_call 20; (with_reducible refine HC.out.mono ?_); rintro e w5 ⟨a5, c5, rfl, hN⟩; have HN5 := Lib.hid hN; clear hN HC)
                  | (go_at_call 16; (with_reducible refine (HNU.out _ (by unfold I64; decide) _).mono ?_); rintro e w' ⟨rfl, hw⟩; obtain rfl := hw.symm))
                go_roundw
                case rel => exact ⟨j + 1, _, _, _, o0, o1, _, _, by omega, rfl, by go_num, HN5.out, HNO.out⟩
                case measure => simp [intOf]; omega
      | true =>
        rcases (by omega : d = 0 ∨ d = 1 ∨ d = 2 ∨ d = 3 ∨ (d ≠ 0 ∧ d ≠ 1 ∧ d ≠ 2 ∧ d ≠ 3)) with rfl | rfl | rfl | rfl | hd4
        · as_aux_lemma =>
            have HVB : Hid (Below wr.heap.size wr (wr.alloc (.cells #[.int .i64 0, .bool true, .int .u8 f, .int .u8 t] 53))) := (Below.refl _ wr).alloc (Nat.le_refl _) _
            have HVS : Hid (Blk (wr.alloc (.cells #[.int .i64 0, .bool true, .int .u8 f, .int .u8 t] 53)) wr.heap.size 53 #[.int .i64 0, .bool true, .int .u8 f, .int .u8 t]) := Blk.new _ _ _
            have HN1 := Lib.hid (HN.out.later HVB.out)
            obtain ⟨⟨p0, p1⟩, ⟨f0, f1⟩, n0, n1⟩ := HN1.out.cells
            have hlx := HN1.out.on.lt
            clear HVB HN
            have HN2 := Lib.hid (HN1.out.setOn1 true)
            have HC := Lib.hid (HN2.out.turn1 true)
            clear HN1
            obtain ⟨⟨p0', p1'⟩, _, n0', n1'⟩ := HN2.out.cells
            go_wp2_with (first
              | (go_at_call 17; (with_reducible refine HC.out.mono ?_); rintro e w5 ⟨a5, c5, rfl, hN⟩; have HN5 := Lib.hid hN; clear hN HC)
              | (go_at_call 16; (with_reducible refine (HNU.out _ (by unfold I64; decide) _).mono ?_); rintro e w' ⟨rfl, hw⟩; obtain rfl := hw.symm))
            go_roundw
            case rel => exact ⟨j + 1, _, _, h, o0, true, l0, l1, by omega, rfl, by go_num, HN5.out, HO.out⟩
            case measure => simp [intOf]; omega
        · as_aux_lemma =>
            have HVB : Hid (Below wr.heap.size wr (wr.alloc (.cells #[.int .i64 1, .bool true, .int .u8 f, .int .u8 t] 53))) := (Below.refl _ wr).alloc (Nat.le_refl _) _
            have HVS : Hid (Blk (wr.alloc (.cells #[.int .i64 1, .bool true, .int .u8 f, .int .u8 t] 53)) wr.heap.size 53 #[.int .i64 1, .bool true, .int .u8 f, .int .u8 t]) := Blk.new _ _ _
            have HN1 := Lib.hid (HN.out.later HVB.out)
            obtain ⟨⟨p0, p1⟩, ⟨f0, f1⟩, n0, n1⟩ := HN1.out.cells
            have hlx := HN1.out.on.lt
            clear HVB HN
            have HN2 := Lib.hid (HN1.out.setOn1 false)
            have HC := Lib.hid (HN2.out.turn1 false)
            clear HN1
            obtain ⟨⟨p0', p1'⟩, _, n0', n1'⟩ := HN2.out.cells
            go_wp2_with (first
              | (go_at_call 17; (with_reducible refine HC.out.mono ?_); rintro e w5 ⟨a5, c5, rfl, hN⟩; have HN5 := Lib.hid hN; clear hN HC)
              | (go_at_call 16; (with_reducible refine (HNU.out _ (by unfold I64; decide) _).mono ?_); rintro e w' ⟨rfl, hw⟩; obtain rfl := hw.symm))
            go_roundw
            case rel => exact ⟨j + 1, _, _, h, o0, false, l0, l1, by omega, rfl, by go_num, HN5.out, HO.out⟩
            case measure => simp [intOf]; omega
        · as_aux_lemma =>
            have HVB : Hid (Below wr.heap.size wr (wr.alloc (.cells #[.int .i64 2, .bool true, .int .u8 f, .int .u8 t] 53))) := (Below.refl _ wr).alloc (Nat.le_refl _) _
            have HVS : Hid (Blk (wr.alloc (.cells #[.int .i64 2, .bool true, .int .u8 f, .int .u8 t] 53)) wr.heap.size 53 #[.int .i64 2, .bool true, .int .u8 f, .int .u8 t]) := Blk.new _ _ _
            have HN1 := Lib.hid (HN.out.later HVB.out)
            obtain ⟨⟨p0, p1⟩, ⟨f0, f1⟩, n0, n1⟩ := HN1.out.cells
            have hlx := HN1.out.on.lt
            clear HVB HN
            obtain ⟨W2, hst, hH2, hg2⟩ := run_half HN1.out.has 1 (by omega)
            have HN2 := Lib.hid (HN1.out.half hH2 hg2)
            have HC := Lib.hid (HN2.out.clear1)
            have HNO := Lib.hid HO.out.clear1
            have hz3 := falses_zero3
            have hst' : (storeCells ⟨X, 300, none⟩ falses300.toList).run Try.prog (wr.alloc (.cells #[.int .i64 2, .bool true, .int .u8 f, .int .u8 t] 53)) = .ok () W2 := hst
            clear hst
            clear HN1 hH2 hg2
            obtain ⟨_, _, n0', n1'⟩ := HN2.out.cells
            go_wp2_with (first
              | (go_at_call 18; (with_reducible refine HC.out.mono ?_); rintro e w5 ⟨a5, c5, rfl, hN⟩; have HN5 := Lib.hid hN; clear hN HC)
              | (go_at_call 16; (with_reducible refine (HNU.out _ (by unfold I64; decide) _).mono ?_); rintro e w' ⟨rfl, hw⟩; obtain rfl := hw.symm))
            go_roundw
            case rel => exact ⟨j + 1, _, _, (clrH 1 h), o0, o1, l0, [], by omega, rfl, by go_num, HN5.out, HNO.out⟩
            case measure => simp [intOf]; omega
        · as_aux_lemma =>
            have HVB : Hid (Below wr.heap.size wr (wr.alloc (.cells #[.int .i64 3, .bool true, .int .u8 f, .int .u8 t] 53))) := (Below.refl _ wr).alloc (Nat.le_refl _) _
            have HVS : Hid (Blk (wr.alloc (.cells #[.int .i64 3, .bool true, .int .u8 f, .int .u8 t] 53)) wr.heap.size 53 #[.int .i64 3, .bool true, .int .u8 f, .int .u8 t]) := Blk.new _ _ _
            have HN1 := Lib.hid (HN.out.later HVB.out)
            obtain ⟨⟨p0, p1⟩, ⟨f0, f1⟩, n0, n1⟩ := HN1.out.cells
            have hlx := HN1.out.on.lt
            clear HVB HN
            go_wp2
            go_loopw [13] (fun i V => ∃ q : Nat, q ≤ 300 ∧ i = .int .i64 q ∧ Hid (Nt w X (mrgH 1 q h) o0 o1 o0 l0 o1 l1 a c V)) (fun i _ => 300 - (intOf i).toNat)
            case atStart => exact ⟨0, Nat.zero_le _, rfl, by rw [mrgH_zero]; exact HN1.out⟩
            case round =>
              obtain ⟨q, hq, rfl, HQ⟩ := hrel
              clear HN1 HVS p0 p1 f0 f1 n0 n1 hlx
              by_cases hq3 : q < 300
              · obtain ⟨k1, z1⟩ := HQ.out.has.cell (300 + q) (by omega)
                obtain ⟨k2, _⟩ := HQ.out.has.cell (q) (by omega)
                have hst := mrgH_step 1 (by omega) q hq3 h
                have hsh := fun v => HQ.out.setH (300 + q) (by omega) v
                rw [show 1 * 300 + q = 300 + q by omega, show (1 - 1) * 300 + q = q by omega] at hst
                obtain ⟨v1, hv1⟩ := named (mrgH 1 q h (300 + q))
                obtain ⟨v2, hv2⟩ := named (mrgH 1 q h (q))
                rw [hv1.out] at k1 hst
                rw [hv2.out] at k2 hst
                have hqi : (q : Int) < 300 := by omega
                have hq0 : (0 : Int) ≤ q := by omega
                have hw1 : IntKind.i64.wrap 1 = 1 := by rw [IntKind.wrap_i64]; omega
                have hw0 : IntKind.i64.wrap 0 = 0 := by rw [IntKind.wrap_i64]; omega
                have HS2 : Hid (∀ v, v = (v1 || v2) → Nt w X (mrgH 1 (q + 1) h) o0 o1 o0 l0 o1 l1 a c (wr.setCell ⟨X, 300 + q, none⟩ (.bool v))) := fun v e => by
                  have := hsh (v1 || v2)
                  rw [hst] at this
                  rw [e]
                  exact this
                clear hst hsh hv1 hv2
                cases v1 with
                | true =>
                  have HQ2 := Lib.hid (HS2.out true rfl)
                  go_wp2
                  refine wp_region_held_drew (S := fun _ => True) (by kernel_rfl) (trivial) (fun hHeld => ?_)
                  refine wpAnyH_take (i := 0) (oi := _) (v := ?vm1a0) rfl (by kernel_rfl) (by kernel_rfl) (by kernel_rfl) (fun _ _ _ h => h) (Or.inl ⟨by rfl, ?hym1a0⟩) (by assumption) ?restm1a0
                  case hym1a0 => (intro wz hSw; (try dsimp only at hSw); go_simp; try with_reducible rfl)
                  (try simp only [List.getElem_toArray, List.getElem_cons_zero, Act.put, List.setIfInBounds_toArray, List.set_cons_zero, List.set_cons_succ])
                  refine wpAnyH_take (i := 1) (oi := _) (v := ?vm1a1) rfl (by kernel_rfl) (by kernel_rfl) (by kernel_rfl) (fun _ _ _ h => h) (Or.inl ⟨by rfl, ?hym1a1⟩) (by assumption) ?restm1a1
                  case hym1a1 => (intro wz hSw; (try dsimp only at hSw); go_simp; try with_reducible rfl)
                  (try simp only [List.getElem_toArray, List.getElem_cons_zero, List.getElem_cons_succ, Act.put, List.setIfInBounds_toArray, List.set_cons_zero, List.set_cons_succ])
                  refine wpAnyH_take (i := 2) (oi := _) (v := ?vm1a2) rfl (by kernel_rfl) (by kernel_rfl) (by kernel_rfl) (fun _ _ _ h => h) (Or.inl ⟨by rfl, ?hym1a2⟩) (by assumption) ?restm1a2
                  case hym1a2 => (intro wz hSw; (try dsimp only at hSw); go_simp; try with_reducible rfl)
                  (try simp only [List.getElem_toArray, List.getElem_cons_zero, List.getElem_cons_succ, Act.put, List.setIfInBounds_toArray, List.set_cons_zero, List.set_cons_succ])
                  refine wpAnyH_take (i := 3) (oi := _) (v := ?vm1a3) rfl (by kernel_rfl) (by kernel_rfl) (by kernel_rfl) (fun _ _ _ h => h) (Or.inl ⟨by rfl, ?hym1a3⟩) (by assumption) ?restm1a3
                  case hym1a3 => (intro wz hSw; (try dsimp only at hSw); go_simp; try with_reducible rfl)
                  (try simp only [List.getElem_toArray, List.getElem_cons_zero, List.getElem_cons_succ, Act.put, List.setIfInBounds_toArray, List.set_cons_zero, List.set_cons_succ])
                  refine wpAnyH_take (i := 4) (oi := _) (v := ?vm1a4) rfl (by kernel_rfl) (by kernel_rfl) (by kernel_rfl) (fun _ _ _ h => h) (Or.inl ⟨by rfl, ?hym1a4⟩) (by assumption) ?restm1a4
                  case hym1a4 => (intro wz hSw; (try dsimp only at hSw); go_simp; try with_reducible rfl)
                  (try simp only [List.getElem_toArray, List.getElem_cons_zero, List.getElem_cons_succ, Act.put, List.setIfInBounds_toArray, List.set_cons_zero, List.set_cons_succ])
                  refine wpAnyH_take (i := 5) (oi := _) (v := ?vm1a5) rfl (by kernel_rfl) (by kernel_rfl) (by kernel_rfl) (fun _ _ _ h => h) (Or.inl ⟨by rfl, ?hym1a5⟩) (by assumption) ?restm1a5
                  case hym1a5 => (intro wz hSw; (try dsimp only at hSw); go_simp; try with_reducible rfl)
                  (try simp only [List.getElem_toArray, List.getElem_cons_zero, List.getElem_cons_succ, Act.put, List.setIfInBounds_toArray, List.set_cons_zero, List.set_cons_succ])
                  refine wpAnyH_take (i := 15) (oi := _) (v := ?vm1a15) rfl (by kernel_rfl) (by kernel_rfl) (by kernel_rfl) (fun _ _ _ h => h) (Or.inl ⟨by rfl, ?hym1a15⟩) (by assumption) ?restm1a15
                  case hym1a15 => (intro wz hSw; (try dsimp only at hSw); go_simp; try with_reducible rfl)
                  (try simp only [List.getElem_toArray, List.getElem_cons_zero, List.getElem_cons_succ, Act.put, List.setIfInBounds_toArray, List.set_cons_zero, List.set_cons_succ])
                  refine wpAnyH_ready (rs := [6]) (by kernel_rfl) (by simp) ?_
                  refine AllReadyH.cons (o := _) rfl (fun K hK => ?_) AllReadyH.nil
                  rw [if_pos (by rfl)]
                  go_simp
                  refine hK.out _ _ (trivial) (fun hHeld => ?_)
                  clear hK K
                  (try simp only [List.getElem_toArray, List.getElem_cons_zero, List.getElem_cons_succ, Act.put, List.setIfInBounds_toArray, List.set_cons_zero, List.set_cons_succ])
                  refine wpAnyH_take (i := 7) (oi := _) (v := ?vm1a7) rfl (by kernel_rfl) (by kernel_rfl) (by kernel_rfl) (fun _ _ _ h => h) (Or.inl ⟨by rfl, ?hym1a7⟩) (by assumption) ?restm1a7
                  case hym1a7 => (intro wz hSw; (try dsimp only at hSw); go_simp; try with_reducible rfl)
                  (try simp only [List.getElem_toArray, List.getElem_cons_zero, List.getElem_cons_succ, Act.put, List.setIfInBounds_toArray, List.set_cons_zero, List.set_cons_succ])
                  refine wpAnyH_take (i := 8) (oi := _) (v := undef) rfl (by kernel_rfl) (by kernel_rfl) (by kernel_rfl) (fun _ _ _ h => h) (Or.inr ⟨by rfl, rfl⟩) (by assumption) ?_
                  (try simp only [List.getElem_toArray, List.getElem_cons_zero, List.getElem_cons_succ, Act.put, List.setIfInBounds_toArray, List.set_cons_zero, List.set_cons_succ])
                  refine wpAnyH_take (i := 9) (oi := _) (v := undef) rfl (by kernel_rfl) (by kernel_rfl) (by kernel_rfl) (fun _ _ _ h => h) (Or.inr ⟨by rfl, rfl⟩) (by assumption) ?_
                  (try simp only [List.getElem_toArray, List.getElem_cons_zero, List.getElem_cons_succ, Act.put, List.setIfInBounds_toArray, List.set_cons_zero, List.set_cons_succ])
                  refine wpAnyH_take (i := 10) (oi := _) (v := undef) rfl (by kernel_rfl) (by kernel_rfl) (by kernel_rfl) (fun _ _ _ h => h) (Or.inr ⟨by rfl, rfl⟩) (by assumption) ?_
                  (try simp only [List.getElem_toArray, List.getElem_cons_zero, List.getElem_cons_succ, Act.put, List.setIfInBounds_toArray, List.set_cons_zero, List.set_cons_succ])
                  refine wpAnyH_take (i := 11) (oi := _) (v := undef) rfl (by kernel_rfl) (by kernel_rfl) (by kernel_rfl) (fun _ _ _ h => h) (Or.inr ⟨by rfl, rfl⟩) (by assumption) ?_
                  (try simp only [List.getElem_toArray, List.getElem_cons_zero, List.getElem_cons_succ, Act.put, List.setIfInBounds_toArray, List.set_cons_zero, List.set_cons_succ])
                  refine wpAnyH_take (i := 12) (oi := _) (v := undef) rfl (by kernel_rfl) (by kernel_rfl) (by kernel_rfl) (fun _ _ _ h => h) (Or.inr ⟨by rfl, rfl⟩) (by assumption) ?_
                  (try simp only [List.getElem_toArray, List.getElem_cons_zero, List.getElem_cons_succ, Act.put, List.setIfInBounds_toArray, List.set_cons_zero, List.set_cons_succ])
                  refine wpAnyH_take (i := 13) (oi := _) (v := undef) rfl (by kernel_rfl) (by kernel_rfl) (by kernel_rfl) (fun _ _ _ h => h) (Or.inr ⟨by rfl, rfl⟩) (by assumption) ?_
                  (try simp only [List.getElem_toArray, List.getElem_cons_zero, List.getElem_cons_succ, Act.put, List.setIfInBounds_toArray, List.set_cons_zero, List.set_cons_succ])
                  refine wpAnyH_take (i := 14) (oi := _) (v := ?vm1a14) rfl (by kernel_rfl) (by kernel_rfl) (by kernel_rfl) (fun _ _ _ h => h) (Or.inl ⟨by rfl, ?hym1a14⟩) (by assumption) ?restm1a14
                  case hym1a14 => (intro wz hSw; (try dsimp only at hSw); go_simp; try with_reducible rfl)
                  (try simp only [List.getElem_toArray, List.getElem_cons_zero, List.getElem_cons_succ, Act.put, List.setIfInBounds_toArray, List.set_cons_zero, List.set_cons_succ])
                  refine wpAnyH_take (i := 16) (oi := _) (v := ?vm1a16) rfl (by kernel_rfl) (by kernel_rfl) (by kernel_rfl) (fun _ _ _ h => h) (Or.inl ⟨by rfl, ?hym1a16⟩) (by assumption) ?restm1a16
                  case hym1a16 => (intro wz hSw; (try dsimp only at hSw); go_simp; try with_reducible rfl)
                  (try simp only [List.getElem_toArray, List.getElem_cons_zero, List.getElem_cons_succ, Act.put, List.setIfInBounds_toArray, List.set_cons_zero, List.set_cons_succ])
                  refine wpAnyH_ready (rs := [17]) (by kernel_rfl) (by simp) ?_
                  refine AllReadyH.cons (o := _) rfl (fun K hK => ?_) AllReadyH.nil
                  rw [if_pos (by rfl)]
                  go_simp
                  refine hK.out _ _ (trivial) (fun hHeld => ?_)
                  clear hK K
                  (try simp only [List.getElem_toArray, List.getElem_cons_zero, List.getElem_cons_succ, Act.put, List.setIfInBounds_toArray, List.set_cons_zero, List.set_cons_succ])
                  refine wpAnyH_done (by kernel_rfl) ?_ _
                  go_wp2
                  go_roundw
                  case rel => exact ⟨q + 1, by omega, by go_num, HQ2.out.later (Below.refl _ _).drew⟩
                  case measure => simp [intOf]; omega
                | false =>
                  have HQ2 := Lib.hid (HS2.out v2 (Bool.false_or _).symm)
                  go_wp2
                  refine wp_region_held_drew (S := fun _ => True) (by kernel_rfl) (trivial) (fun hHeld => ?_)
                  refine wpAnyH_take (i := 0) (oi := _) (v := ?vm1b0) rfl (by kernel_rfl) (by kernel_rfl) (by kernel_rfl) (fun _ _ _ h => h) (Or.inl ⟨by rfl, ?hym1b0⟩) (by assumption) ?restm1b0
                  case hym1b0 => (intro wz hSw; (try dsimp only at hSw); go_simp; try with_reducible rfl)
                  (try simp only [List.getElem_toArray, List.getElem_cons_zero, Act.put, List.setIfInBounds_toArray, List.set_cons_zero, List.set_cons_succ])
                  refine wpAnyH_take (i := 1) (oi := _) (v := ?vm1b1) rfl (by kernel_rfl) (by kernel_rfl) (by kernel_rfl) (fun _ _ _ h => h) (Or.inl ⟨by rfl, ?hym1b1⟩) (by assumption) ?restm1b1
                  case hym1b1 => (intro wz hSw; (try dsimp only at hSw); go_simp; try with_reducible rfl)
                  (try simp only [List.getElem_toArray, List.getElem_cons_zero, List.getElem_cons_succ, Act.put, List.setIfInBounds_toArray, List.set_cons_zero, List.set_cons_succ])
                  refine wpAnyH_take (i := 2) (oi := _) (v := ?vm1b2) rfl (by kernel_rfl) (by kernel_rfl) (by kernel_rfl) (fun _ _ _ h => h) (Or.inl ⟨by rfl, ?hym1b2⟩) (by assumption) ?restm1b2
                  case hym1b2 => (intro wz hSw; (try dsimp only at hSw); go_simp; try with_reducible rfl)
                  (try simp only [List.getElem_toArray, List.getElem_cons_zero, List.getElem_cons_succ, Act.put, List.setIfInBounds_toArray, List.set_cons_zero, List.set_cons_succ])
                  refine wpAnyH_take (i := 3) (oi := _) (v := ?vm1b3) rfl (by kernel_rfl) (by kernel_rfl) (by kernel_rfl) (fun _ _ _ h => h) (Or.inl ⟨by rfl, ?hym1b3⟩) (by assumption) ?restm1b3
                  case hym1b3 => (intro wz hSw; (try dsimp only at hSw); go_simp; try with_reducible rfl)
                  (try simp only [List.getElem_toArray, List.getElem_cons_zero, List.getElem_cons_succ, Act.put, List.setIfInBounds_toArray, List.set_cons_zero, List.set_cons_succ])
                  refine wpAnyH_take (i := 4) (oi := _) (v := ?vm1b4) rfl (by kernel_rfl) (by kernel_rfl) (by kernel_rfl) (fun _ _ _ h => h) (Or.inl ⟨by rfl, ?hym1b4⟩) (by assumption) ?restm1b4
                  case hym1b4 => (intro wz hSw; (try dsimp only at hSw); go_simp; try with_reducible rfl)
                  (try simp only [List.getElem_toArray, List.getElem_cons_zero, List.getElem_cons_succ, Act.put, List.setIfInBounds_toArray, List.set_cons_zero, List.set_cons_succ])
                  refine wpAnyH_take (i := 5) (oi := _) (v := ?vm1b5) rfl (by kernel_rfl) (by kernel_rfl) (by kernel_rfl) (fun _ _ _ h => h) (Or.inl ⟨by rfl, ?hym1b5⟩) (by assumption) ?restm1b5
                  case hym1b5 => (intro wz hSw; (try dsimp only at hSw); go_simp; try with_reducible rfl)
                  (try simp only [List.getElem_toArray, List.getElem_cons_zero, List.getElem_cons_succ, Act.put, List.setIfInBounds_toArray, List.set_cons_zero, List.set_cons_succ])
                  refine wpAnyH_take (i := 15) (oi := _) (v := ?vm1b15) rfl (by kernel_rfl) (by kernel_rfl) (by kernel_rfl) (fun _ _ _ h => h) (Or.inl ⟨by rfl, ?hym1b15⟩) (by assumption) ?restm1b15
                  case hym1b15 => (intro wz hSw; (try dsimp only at hSw); go_simp; try with_reducible rfl)
                  (try simp only [List.getElem_toArray, List.getElem_cons_zero, List.getElem_cons_succ, Act.put, List.setIfInBounds_toArray, List.set_cons_zero, List.set_cons_succ])
                  refine wpAnyH_ready (rs := [6]) (by kernel_rfl) (by simp) ?_
                  refine AllReadyH.cons (o := _) rfl (fun K hK => ?_) AllReadyH.nil
                  rw [if_pos (by rfl)]
                  go_simp
                  refine hK.out _ _ (trivial) (fun hHeld => ?_)
                  clear hK K
                  (try simp only [List.getElem_toArray, List.getElem_cons_zero, List.getElem_cons_succ, Act.put, List.setIfInBounds_toArray, List.set_cons_zero, List.set_cons_succ])
                  refine wpAnyH_take (i := 7) (oi := _) (v := ?vm1b7) rfl (by kernel_rfl) (by kernel_rfl) (by kernel_rfl) (fun _ _ _ h => h) (Or.inl ⟨by rfl, ?hym1b7⟩) (by assumption) ?restm1b7
                  case hym1b7 => (intro wz hSw; (try dsimp only at hSw); go_simp; try with_reducible rfl)
                  (try simp only [List.getElem_toArray, List.getElem_cons_zero, List.getElem_cons_succ, Act.put, List.setIfInBounds_toArray, List.set_cons_zero, List.set_cons_succ])
                  refine wpAnyH_take (i := 8) (oi := _) (v := ?vm1b8) rfl (by kernel_rfl) (by kernel_rfl) (by kernel_rfl) (fun _ _ _ h => h) (Or.inl ⟨by rfl, ?hym1b8⟩) (by assumption) ?restm1b8
                  case hym1b8 => (intro wz hSw; (try dsimp only at hSw); go_simp; try with_reducible rfl)
                  (try simp only [List.getElem_toArray, List.getElem_cons_zero, List.getElem_cons_succ, Act.put, List.setIfInBounds_toArray, List.set_cons_zero, List.set_cons_succ])
                  refine wpAnyH_take (i := 9) (oi := _) (v := ?vm1b9) rfl (by kernel_rfl) (by kernel_rfl) (by kernel_rfl) (fun _ _ _ h => h) (Or.inl ⟨by rfl, ?hym1b9⟩) (by assumption) ?restm1b9
                  case hym1b9 => (intro wz hSw; (try dsimp only at hSw); go_simp; try with_reducible rfl)
                  (try simp only [List.getElem_toArray, List.getElem_cons_zero, List.getElem_cons_succ, Act.put, List.setIfInBounds_toArray, List.set_cons_zero, List.set_cons_succ])
                  refine wpAnyH_take (i := 10) (oi := _) (v := ?vm1b10) rfl (by kernel_rfl) (by kernel_rfl) (by kernel_rfl) (fun _ _ _ h => h) (Or.inl ⟨by rfl, ?hym1b10⟩) (by assumption) ?restm1b10
                  case hym1b10 => (intro wz hSw; (try dsimp only at hSw); go_simp; try with_reducible rfl)
                  (try simp only [List.getElem_toArray, List.getElem_cons_zero, List.getElem_cons_succ, Act.put, List.setIfInBounds_toArray, List.set_cons_zero, List.set_cons_succ])
                  refine wpAnyH_take (i := 11) (oi := _) (v := ?vm1b11) rfl (by kernel_rfl) (by kernel_rfl) (by kernel_rfl) (fun _ _ _ h => h) (Or.inl ⟨by rfl, ?hym1b11⟩) (by assumption) ?restm1b11
                  case hym1b11 => (intro wz hSw; (try dsimp only at hSw); go_simp; try with_reducible rfl)
                  (try simp only [List.getElem_toArray, List.getElem_cons_zero, List.getElem_cons_succ, Act.put, List.setIfInBounds_toArray, List.set_cons_zero, List.set_cons_succ])
                  refine wpAnyH_take (i := 12) (oi := _) (v := ?vm1b12) rfl (by kernel_rfl) (by kernel_rfl) (by kernel_rfl) (fun _ _ _ h => h) (Or.inl ⟨by rfl, ?hym1b12⟩) (by assumption) ?restm1b12
                  case hym1b12 => (intro wz hSw; (try dsimp only at hSw); go_simp; try with_reducible rfl)
                  (try simp only [List.getElem_toArray, List.getElem_cons_zero, List.getElem_cons_succ, Act.put, List.setIfInBounds_toArray, List.set_cons_zero, List.set_cons_succ])
                  refine wpAnyH_ready (rs := [13]) (by kernel_rfl) (by simp) ?_
                  refine AllReadyH.cons (o := _) rfl (fun K hK => ?_) AllReadyH.nil
                  rw [if_pos (by rfl)]
                  go_simp
                  refine hK.out _ _ (trivial) (fun hHeld => ?_)
                  clear hK K
                  (try simp only [List.getElem_toArray, List.getElem_cons_zero, List.getElem_cons_succ, Act.put, List.setIfInBounds_toArray, List.set_cons_zero, List.set_cons_succ])
                  refine wpAnyH_take (i := 14) (oi := _) (v := ?vm1b14) rfl (by kernel_rfl) (by kernel_rfl) (by kernel_rfl) (fun _ _ _ h => h) (Or.inl ⟨by rfl, ?hym1b14⟩) (by assumption) ?restm1b14
                  case hym1b14 => (intro wz hSw; (try dsimp only at hSw); go_simp; try with_reducible rfl)
                  (try simp only [List.getElem_toArray, List.getElem_cons_zero, List.getElem_cons_succ, Act.put, List.setIfInBounds_toArray, List.set_cons_zero, List.set_cons_succ])
                  refine wpAnyH_take (i := 16) (oi := _) (v := ?vm1b16) rfl (by kernel_rfl) (by kernel_rfl) (by kernel_rfl) (fun _ _ _ h => h) (Or.inl ⟨by rfl, ?hym1b16⟩) (by assumption) ?restm1b16
                  case hym1b16 => (intro wz hSw; (try dsimp only at hSw); go_simp; try with_reducible rfl)
                  (try simp only [List.getElem_toArray, List.getElem_cons_zero, List.getElem_cons_succ, Act.put, List.setIfInBounds_toArray, List.set_cons_zero, List.set_cons_succ])
                  refine wpAnyH_ready (rs := [17]) (by kernel_rfl) (by simp) ?_
                  refine AllReadyH.cons (o := _) rfl (fun K hK => ?_) AllReadyH.nil
                  rw [if_pos (by rfl)]
                  go_simp
                  refine hK.out _ _ (trivial) (fun hHeld => ?_)
                  clear hK K
                  (try simp only [List.getElem_toArray, List.getElem_cons_zero, List.getElem_cons_succ, Act.put, List.setIfInBounds_toArray, List.set_cons_zero, List.set_cons_succ])
                  refine wpAnyH_done (by kernel_rfl) ?_ _
                  go_wp2
                  go_roundw
                  case rel => exact ⟨q + 1, by omega, by go_num, HQ2.out.later (Below.refl _ _).drew⟩
                  case measure => simp [intOf]; omega
              · obtain rfl : q = 300 := by omega
                have HNO := Lib.hid HO.out.merge1
                have HQd := Lib.hid (HQ.out.later (Below.refl _ wr).drew)
                have HC := Lib.hid (HQd.out.merge1 HO.out.len HO.out.r0)
                have HKN : Hid (∀ (h' : Nat → Bool) (p0' p1' o0' o1' : Bool) (l0' l1' : List Sp) (a' : Option Addr) (c' : Nat) V, Nt w X h' p0' p1' o0' l0' o1' l1' a' c' V → V.cell? ⟨X + 1 + 1, 0, none⟩ = some (.string ⟨#[97]⟩) ∧ V.cell? ⟨X + 1 + 1, 1, none⟩ = some (.string ⟨#[98]⟩)) := fun _ _ _ _ _ _ _ _ _ V H => ⟨H.cells.2.2.1, H.cells.2.2.2⟩
                have hw1 : IntKind.i64.wrap 1 = 1 := by rw [IntKind.wrap_i64]; omega
                have hw0 : IntKind.i64.wrap 0 = 0 := by rw [IntKind.wrap_i64]; omega
                go_wp2
                go_region_held3 (fun V => V.cell? ⟨X + 1 + 1, 0, none⟩ = some (.string ⟨#[97]⟩) ∧ V.cell? ⟨X + 1 + 1, 1, none⟩ = some (.string ⟨#[98]⟩)) (first | exact HKN.out _ _ _ _ _ _ _ _ _ _ HQ.out | exact HKN.out _ _ _ _ _ _ _ _ _ _ HQd.out | exact HKN.out _ _ _ _ _ _ _ _ _ _ HN5.out) (first
                  | (go_at_call 19; (with_reducible refine HC.out.mono ?_); rintro e w5 ⟨a5, c5, rfl, hN⟩; have HN5 := Lib.hid hN; clear hN HC))
                go_wp2_with (first
                  | (go_at_call 16; (with_reducible refine (HNU.out _ (by unfold I64; decide) _).mono ?_); rintro e w' ⟨rfl, hw⟩; obtain rfl := hw.symm))
                go_roundw
                case rel => exact ⟨j + 1, _, _, (mrgH 1 300 h), o0, o1, l0, (l0.foldl addL l1), by omega, rfl, by go_num, HN5.out, HNO.out⟩
                case measure => simp [intOf]; omega
        · as_aux_lemma =>
            have HVB : Hid (Below wr.heap.size wr (wr.alloc (.cells #[.int .i64 d, .bool true, .int .u8 f, .int .u8 t] 53))) := (Below.refl _ wr).alloc (Nat.le_refl _) _
            have HVS : Hid (Blk (wr.alloc (.cells #[.int .i64 d, .bool true, .int .u8 f, .int .u8 t] 53)) wr.heap.size 53 #[.int .i64 d, .bool true, .int .u8 f, .int .u8 t]) := Blk.new _ _ _
            have HN1 := Lib.hid (HN.out.later HVB.out)
            obtain ⟨⟨p0, p1⟩, ⟨f0, f1⟩, n0, n1⟩ := HN1.out.cells
            have hlx := HN1.out.on.lt
            clear HVB HN
            have q0 : (d == 0) = false := by simp [hd4.1]
            have q1 : (d == 1) = false := by simp [hd4.2.1]
            have q2 : (d == 2) = false := by simp [hd4.2.2.1]
            have q3 : (d == 3) = false := by simp [hd4.2.2.2]
            clear hd4
            obtain ⟨F, rfl⟩ : ∃ F : Nat, f = F := ⟨f.toNat, by omega⟩
            obtain ⟨R, hR⟩ : ∃ R : Nat, t % 40 = R := ⟨(t % 40).toNat, by omega⟩
            have hR40 : R < 40 := by omega
            have hR2 : t.tmod 40 = R := by rw [Int.tmod_eq_emod_of_nonneg (by omega)]; exact hR
            have hF : F < 256 := by omega
            obtain ⟨T, hT, hTT⟩ : ∃ T : Nat, (F : Int) + 1 + R = T ∧ F < T ∧ T ≤ 300 := ⟨F + 1 + R, by omega, by omega, by omega⟩
            have hTT := Lib.hid hTT
            obtain ⟨XB, hXB⟩ := named (wr.heap.size + 1)
            have hxb := hXB.out
            have HV2 : Hid (Below wr.heap.size wr ((wr.alloc (.cells #[.int .i64 d, .bool true, .int .u8 F, .int .u8 t] 53)).alloc (.cells #[.int .i64 F, .int .i64 T] 40))) := ((Below.refl _ wr).alloc (Nat.le_refl _) _).alloc (by simp) _
            have HVX : Hid (Blk ((wr.alloc (.cells #[.int .i64 d, .bool true, .int .u8 F, .int .u8 t] 53)).alloc (.cells #[.int .i64 F, .int .i64 T] 40)) XB 40 #[.int .i64 F, .int .i64 T]) := by rw [← hXB.out]; exact blk_next9 _ _ _ _ _
            have HN2 := Lib.hid (HN1.out.later ((Below.refl _ _).alloc (Nat.le_refl _) (.cells #[.int .i64 F, .int .i64 T] 40)))
            have hxl : X < XB := by have h9 := hlx; rw [World.size_alloc] at h9; omega
            go_wp2
            clear hxb
            go_loopw [15] (fun i V => ∃ q : Nat, F ≤ q ∧ q ≤ T ∧ i = .int .i64 q ∧ Hid (Nt w X (tchH o0 o1 F q h) o0 o1 o0 l0 o1 l1 a c V) ∧ Hid (Blk V XB 40 #[.int .i64 F, .int .i64 T])) (fun i _ => T - (intOf i).toNat)
            case atStart => exact ⟨F, Nat.le_refl _, by have := hTT.out; omega, rfl, by rw [tchH_zero]; exact HN2.out, HVX.out⟩
            case round =>
              obtain ⟨q, hFq, hqT, rfl, HQ, HX⟩ := hrel
              clear HN1 HN2 HVS HVX p0 p1 f0 f1 n0 n1 hlx
              have x0 : wr.cell? ⟨XB, 0, none⟩ = some (.int .i64 F) := HX.out.cell 0
              have x1 : wr.cell? ⟨XB, 1, none⟩ = some (.int .i64 T) := HX.out.cell 1
              have hTv := hTT.out
              by_cases hqt : q < T
              · obtain ⟨k1, z1⟩ := HQ.out.has.cell q (by omega)
                obtain ⟨k2, z2⟩ := HQ.out.has.cell (300 + q) (by omega)
                obtain ⟨⟨g0, g1⟩, _, _, _⟩ := HQ.out.cells
                have hst := tchH_step o0 o1 F q hFq (by omega) h
                have hup : ∀ b, updB (tchH o0 o1 F q h) q b (300 + q) = tchH o0 o1 F q h (300 + q) := fun b => by unfold updB; rw [if_neg (by omega)]
                rw [hup] at hst
                have hsh := fun v => HQ.out.setH q (by omega) v
                obtain ⟨v1, hv1⟩ := named (tchH o0 o1 F q h q)
                obtain ⟨v2, hv2⟩ := named (tchH o0 o1 F q h (300 + q))
                rw [hv1.out] at k1 hst
                rw [hv2.out] at k2 hst
                have HW1 : Hid (∀ b1, (wr.setCell ⟨X, q, none⟩ (.bool b1)).cell? ⟨X, 300 + q, none⟩ = some (.bool v2) ∧ (wr.setCell ⟨X, q, none⟩ (.bool b1)).frozen? ⟨X, 300 + q, none⟩ = false ∧ (wr.setCell ⟨X, q, none⟩ (.bool b1)).cell? ⟨X + 1, 1, none⟩ = some (.bool o1)) := fun b1 => by
                  have h1 := (hsh b1).has.cell (300 + q) (by omega)
                  rw [hup, hv2.out] at h1
                  exact ⟨h1.1, h1.2, (hsh b1).cells.1.2⟩
                have HS2 : Hid (∀ b1 b2, b1 = (v1 || o0) → b2 = (v2 || o1) → Nt w X (tchH o0 o1 F (q + 1) h) o0 o1 o0 l0 o1 l1 a c ((wr.setCell ⟨X, q, none⟩ (.bool b1)).setCell ⟨X, 300 + q, none⟩ (.bool b2)) ∧ Blk ((wr.setCell ⟨X, q, none⟩ (.bool b1)).setCell ⟨X, 300 + q, none⟩ (.bool b2)) XB 40 #[.int .i64 F, .int .i64 T]) := fun b1 b2 e1 e2 => by
                  have h2 := (hsh (v1 || o0)).setH (300 + q) (by omega) (v2 || o1)
                  rw [hst] at h2
                  subst e1 e2
                  exact ⟨h2, (HX.out.other (by omega) _).other (by omega) _⟩
                clear hst hsh hv1 hv2 hup hTv
                have hqi : (q : Int) < 300 := by have := hTT.out; omega
                have hq0 : (0 : Int) ≤ q := by omega
                cases v1 with
                | true =>
                  obtain ⟨c2, c3, c4⟩ := HW1.out true
                  cases v2 with
                  | true =>
                    obtain ⟨HQ2, HX2⟩ := HS2.out true true rfl rfl
                    have HQ2 := Lib.hid HQ2
                    have HX2 := Lib.hid HX2
                    go_wp2
                    go_roundw
                    case rel => exact ⟨q + 1, by omega, by omega, by go_num, HQ2.out, HX2.out⟩
                    case measure => simp [intOf]; omega
                  | false =>
                    obtain ⟨HQ2, HX2⟩ := HS2.out true o1 rfl (Bool.false_or _).symm
                    have HQ2 := Lib.hid HQ2
                    have HX2 := Lib.hid HX2
                    go_wp2
                    go_roundw
                    case rel => exact ⟨q + 1, by omega, by omega, by go_num, HQ2.out, HX2.out⟩
                    case measure => simp [intOf]; omega
                | false =>
                  obtain ⟨c2, c3, c4⟩ := HW1.out o0
                  cases v2 with
                  | true =>
                    obtain ⟨HQ2, HX2⟩ := HS2.out o0 true (Bool.false_or _).symm rfl
                    have HQ2 := Lib.hid HQ2
                    have HX2 := Lib.hid HX2
                    go_wp2
                    go_roundw
                    case rel => exact ⟨q + 1, by omega, by omega, by go_num, HQ2.out, HX2.out⟩
                    case measure => simp [intOf]; omega
                  | false =>
                    obtain ⟨HQ2, HX2⟩ := HS2.out o0 o1 (Bool.false_or _).symm (Bool.false_or _).symm
                    have HQ2 := Lib.hid HQ2
                    have HX2 := Lib.hid HX2
                    go_wp2
                    go_roundw
                    case rel => exact ⟨q + 1, by omega, by omega, by go_num, HQ2.out, HX2.out⟩
                    case measure => simp [intOf]; omega
              · obtain rfl : q = T := by omega
                have HNO := Lib.hid (HO.out.touch o0 o1 hTv.1 hTv.2)
                have HC := Lib.hid (HQ.out.touch HO.out.len F q (by unfold I64; omega) (by unfold I64; omega))
                go_wp2_with (first
                  | (go_at_call 20; (with_reducible refine HC.out.mono ?_); rintro e w5 ⟨a5, c5, rfl, hN⟩; have HN5 := Lib.hid hN; clear hN HC)
                  | (go_at_call 16; (with_reducible refine (HNU.out _ (by unfold I64; decide) _).mono ?_); rintro e w' ⟨rfl, hw⟩; obtain rfl := hw.symm))
                go_roundw
                case rel => exact ⟨j + 1, _, _, _, o0, o1, _, _, by omega, rfl, by go_num, HN5.out, HNO.out⟩
                case measure => simp [intOf]; omega
    · as_aux_lemma =>
        obtain rfl : j = len0 := by omega
        have hln := HO.out.len
        obtain ⟨b, off, b0, n0, c0, b1, n1, c1', rfl, hbl, w0, w1, w2', w3, hs0, hs1⟩ := bb_at HN.out.d
        have HS0 := Lib.hid hs0
        have HS1 := Lib.hid hs1
        clear hs0 hs1
        have hd0 : decide ((j : Int) < j) = false := decide_eq_false (by omega)
        obtain ⟨U, hU⟩ : ∃ U, U = wr := ⟨wr, rfl⟩
        subst hU
        go_wp2
        go_loopw [16] (fun i V => ∃ p : Nat, p ≤ 2 ∧ i = .int .i64 p ∧ Hid (Below U.heap.size U V)) (fun i _ => 2 - (intOf i).toNat)
        case atStart => exact ⟨0, Nat.zero_le _, rfl, Below.refl _ _⟩
        case round =>
          obtain ⟨p, hp, rfl, HB⟩ := hrel
          rcases (by omega : p = 0 ∨ p = 1 ∨ p = 2) with hp0 | hp0 | rfl
          · have hrw := HO.out.r0
            have hpz := Lib.hid hp0
            have hp2 : p < 2 := by omega
            have hp2i : (p : Int) < 2 := by omega
            have hp0i : (0 : Int) ≤ p := by omega
            clear hp0
            have hwr := HB.out
            go_wp2
            go_loopw [17] (fun i V => ∃ q : Nat, q ≤ 300 ∧ i = .int .i64 q ∧ Hid (Below U.heap.size U V)) (fun i _ => 300 - (intOf i).toNat)
            case atStart => exact ⟨0, Nat.zero_le _, rfl, HB.out⟩
            case round =>
              clear hwr HB
              obtain ⟨q, hq, rfl, HB⟩ := hrel
              by_cases hq3 : q < 300
              · obtain ⟨v, hv⟩ := named (h (q))
                have he := HO.out.e0 q hq3
                have hcell : Hid (∀ V, Below U.heap.size U V → V.cell? ⟨b, off + p * 3 + 2, none⟩ = some (.slice b0 n0 c0) ∧ V.cell? ⟨X, p * 300 + q, none⟩ = some (.bool v)) := fun V hb => ⟨by rw [hpz.out]; exact (hb.cell (p := ⟨b, off + 2, none⟩) hbl).trans w1, by
                  rw [hpz.out, show 0 * 300 + q = q by omega]
                  have := ((HN.out.later hb).has.cell (q) (by omega)).1
                  rw [hv.out] at this
                  exact this⟩
                have HH : Hid (∀ V, Below U.heap.size U V → Calls Try.prog 21 #[.slice b0 n0 c0, .int .i64 q] V fun e w' => e = .returned (.bool v) ∧ Below U.heap.size U w') := fun V hb => by
                  have h9 := refHas_any b0 n0 c0 l0 q V ((HS0.out.later hb).1) (HS0.out.2.1.1) (by have := HS0.out.2.2.1; omega)
                  rw [norm_of hrw, he, hv.out] at h9
                  exact h9.mono fun e w' ⟨e1, e2⟩ => ⟨e1, hb.trans (e2.mono hb.size)⟩
                have hqi : (q : Int) < 300 := by omega
                have hq0 : (0 : Int) ≤ q := by omega
                have hvv : (v != v) = false := by simp
                have HD2 := Lib.hid HB.out.drew
                clear he hv hrw
                go_wp2
                go_region_held3 (fun V => V.cell? ⟨b, off + p * 3 + 2, none⟩ = some (.slice b0 n0 c0) ∧ V.cell? ⟨X, p * 300 + q, none⟩ = some (.bool v)) (first | exact hcell.out _ HB.out | exact hcell.out _ HD2.out | exact hcell.out _ HB5.out) (first
                  | (go_at_call 21; (with_reducible refine (HH.out _ HD2.out).mono ?_); rintro e w5 ⟨rfl, hb5⟩; have HB5 := Lib.hid hb5; clear hb5))
                go_wp2
                go_roundw
                case rel => exact ⟨q + 1, by omega, by go_num, HB5.out⟩
                case measure => simp [intOf]; omega
              · obtain rfl : q = 300 := by omega
                have hcell : Hid (∀ V, Below U.heap.size U V → V.cell? ⟨b, off + p * 3 + 1, none⟩ = some (.bool o0) ∧ V.cell? ⟨X + 1, p, none⟩ = some (.bool o0) ∧ V.cell? ⟨b, off + p * 3 + 2, none⟩ = some (.slice b0 n0 c0)) := fun V hb => ⟨by rw [hpz.out]; exact (hb.cell (p := ⟨b, off + 1, none⟩) hbl).trans w0, by rw [hpz.out]; exact (HN.out.later hb).cells.1.1, by rw [hpz.out]; exact (hb.cell (p := ⟨b, off + 2, none⟩) hbl).trans w1⟩
                have HH : Hid (∀ V, Below U.heap.size U V → Calls Try.prog 22 #[.slice b0 n0 c0] V fun e w' => e = .returned (.bool true) ∧ Below U.heap.size U w') := fun V hb => (refRight_any b0 n0 c0 l0 V ((HS0.out.later hb).1) (by have := HS0.out.2.2.1; omega) true (decide_eq_true hrw)).mono fun e w' ⟨e1, e2⟩ => ⟨e1, hb.trans (e2.mono hb.size)⟩
                have hoo : (o0 != o0) = false := by simp
                have HD2 := Lib.hid HB.out.drew
                go_wp2
                go_region_held3 (fun V => V.cell? ⟨b, off + p * 3 + 1, none⟩ = some (.bool o0) ∧ V.cell? ⟨X + 1, p, none⟩ = some (.bool o0) ∧ V.cell? ⟨b, off + p * 3 + 2, none⟩ = some (.slice b0 n0 c0)) (first | exact hcell.out _ HB.out | exact hcell.out _ HD2.out | exact hcell.out _ HB5.out) (first
                  | (go_at_call 22; (with_reducible refine (HH.out _ HD2.out).mono ?_); rintro e w5 ⟨rfl, hb5⟩; have HB5 := Lib.hid hb5; clear hb5))
                go_wp2
                go_roundw
                case rel => exact ⟨p + 1, by omega, by go_num, HB5.out⟩
                case measure => simp [intOf]; omega
          · have hrw := HO.out.r1
            have hpz := Lib.hid hp0
            have hp2 : p < 2 := by omega
            have hp2i : (p : Int) < 2 := by omega
            have hp0i : (0 : Int) ≤ p := by omega
            clear hp0
            have hwr := HB.out
            go_wp2
            go_loopw [17] (fun i V => ∃ q : Nat, q ≤ 300 ∧ i = .int .i64 q ∧ Hid (Below U.heap.size U V)) (fun i _ => 300 - (intOf i).toNat)
            case atStart => exact ⟨0, Nat.zero_le _, rfl, HB.out⟩
            case round =>
              clear hwr HB
              obtain ⟨q, hq, rfl, HB⟩ := hrel
              by_cases hq3 : q < 300
              · obtain ⟨v, hv⟩ := named (h (300 + q))
                have he := HO.out.e1 q hq3
                have hcell : Hid (∀ V, Below U.heap.size U V → V.cell? ⟨b, off + p * 3 + 2, none⟩ = some (.slice b1 n1 c1') ∧ V.cell? ⟨X, p * 300 + q, none⟩ = some (.bool v)) := fun V hb => ⟨by rw [hpz.out]; exact (hb.cell (p := ⟨b, off + 3 + 2, none⟩) hbl).trans w3, by
                  rw [hpz.out, show 1 * 300 + q = 300 + q by omega]
                  have := ((HN.out.later hb).has.cell (300 + q) (by omega)).1
                  rw [hv.out] at this
                  exact this⟩
                have HH : Hid (∀ V, Below U.heap.size U V → Calls Try.prog 21 #[.slice b1 n1 c1', .int .i64 q] V fun e w' => e = .returned (.bool v) ∧ Below U.heap.size U w') := fun V hb => by
                  have h9 := refHas_any b1 n1 c1' l1 q V ((HS1.out.later hb).1) (HS1.out.2.1.1) (by have := HS1.out.2.2.1; omega)
                  rw [norm_of hrw, he, hv.out] at h9
                  exact h9.mono fun e w' ⟨e1, e2⟩ => ⟨e1, hb.trans (e2.mono hb.size)⟩
                have hqi : (q : Int) < 300 := by omega
                have hq0 : (0 : Int) ≤ q := by omega
                have hvv : (v != v) = false := by simp
                have HD2 := Lib.hid HB.out.drew
                clear he hv hrw
                go_wp2
                go_region_held3 (fun V => V.cell? ⟨b, off + p * 3 + 2, none⟩ = some (.slice b1 n1 c1') ∧ V.cell? ⟨X, p * 300 + q, none⟩ = some (.bool v)) (first | exact hcell.out _ HB.out | exact hcell.out _ HD2.out | exact hcell.out _ HB5.out) (first
                  | (go_at_call 21; (with_reducible refine (HH.out _ HD2.out).mono ?_); rintro e w5 ⟨rfl, hb5⟩; have HB5 := Lib.hid hb5; clear hb5))
                go_wp2
                go_roundw
                case rel => exact ⟨q + 1, by omega, by go_num, HB5.out⟩
                case measure => simp [intOf]; omega
              · obtain rfl : q = 300 := by omega
                have hcell : Hid (∀ V, Below U.heap.size U V → V.cell? ⟨b, off + p * 3 + 1, none⟩ = some (.bool o1) ∧ V.cell? ⟨X + 1, p, none⟩ = some (.bool o1) ∧ V.cell? ⟨b, off + p * 3 + 2, none⟩ = some (.slice b1 n1 c1')) := fun V hb => ⟨by rw [hpz.out]; exact (hb.cell (p := ⟨b, off + 3 + 1, none⟩) hbl).trans w2', by rw [hpz.out]; exact (HN.out.later hb).cells.1.2, by rw [hpz.out]; exact (hb.cell (p := ⟨b, off + 3 + 2, none⟩) hbl).trans w3⟩
                have HH : Hid (∀ V, Below U.heap.size U V → Calls Try.prog 22 #[.slice b1 n1 c1'] V fun e w' => e = .returned (.bool true) ∧ Below U.heap.size U w') := fun V hb => (refRight_any b1 n1 c1' l1 V ((HS1.out.later hb).1) (by have := HS1.out.2.2.1; omega) true (decide_eq_true hrw)).mono fun e w' ⟨e1, e2⟩ => ⟨e1, hb.trans (e2.mono hb.size)⟩
                have hoo : (o1 != o1) = false := by simp
                have HD2 := Lib.hid HB.out.drew
                go_wp2
                go_region_held3 (fun V => V.cell? ⟨b, off + p * 3 + 1, none⟩ = some (.bool o1) ∧ V.cell? ⟨X + 1, p, none⟩ = some (.bool o1) ∧ V.cell? ⟨b, off + p * 3 + 2, none⟩ = some (.slice b1 n1 c1')) (first | exact hcell.out _ HB.out | exact hcell.out _ HD2.out | exact hcell.out _ HB5.out) (first
                  | (go_at_call 22; (with_reducible refine (HH.out _ HD2.out).mono ?_); rintro e w5 ⟨rfl, hb5⟩; have HB5 := Lib.hid hb5; clear hb5))
                go_wp2
                go_roundw
                case rel => exact ⟨p + 1, by omega, by go_num, HB5.out⟩
                case measure => simp [intOf]; omega
          · have HBW := Lib.hid (HN.out.dat.trans (HB.out.mono HN.out.dat.size))
            go_wp2_with (first
              | (go_at_call 14; (with_reducible refine (HAW.out _ HBW.out).mono ?_); rintro e w9 ⟨rfl, hb9⟩))
            go_ret
            exact ⟨rfl, hb9⟩

set_option maxRecDepth 100000 in
theorem lifted (os : Os) (started : os.Started) (H : Type) (enc : TypeId × Value → H) :
    ReturnsInHanded {} Try.checked os 4 .any (Rows.mapNotesSpec.pre6 enc Try.prog Try.f4 Rows.mapNotesRow.domain false) (Rows.mapNotesSpec.post enc Try.prog Try.f4 false true false false) := by
  refine returnsInHanded_of_change (C := Try.checked) own started (by kernel_rfl) Try.func4
    (ChangeSpec.witness6 (enc := enc) (C := Try.checked) false ⟨#[], #[.slice none 0 0], []⟩ 8 (by kernel_rfl) (by kernel_rfl) (by kernel_rfl) (by kernel_rfl)) ?_
  intro W base args ds gs before hval0 hW hcnd _
  have hval : ∀ (j : Nat) t v, Try.f4.params[j]? = some t → args[j]? = some v → Value.okWide Try.prog W .any base t v := hval0
  have hW' := hW
  obtain ⟨p, q, hA0, hV, rfl, hfz, hnd⟩ := hW
  have hA : DataW.TrodAll enc Try.prog W 0 (fun _ => true) true Try.f4.params.toList args.toList ds p := hA0
  rw [Try.params4] at hA hval
  obtain ⟨v0, vs0, d0, ds0, p0, q0, hargs, rfl, rfl, h0, r0⟩ := trodAll_cons hA
  obtain ⟨rfl, rfl, rfl⟩ := trodAll_nil r0
  obtain rfl : args = #[v0] := by cases args; simp_all
  obtain ⟨rfl, rfl⟩ := trodVars_none hV
  have k0 := h0
  have lt0 : ∀ x ∈ p0, x.block < W.heap.size := by obtain ⟨m, hm⟩ := k0; exact DataW.trod_lt m _ _ _ hm
  obtain ⟨a0, len0, cap0, rfl⟩ := okWide_slice Try.underlying45 (hval 0 45 v0 rfl rfl)
  obtain ⟨z0, w0⟩ := steps_open h0
  clear hA0 hval0
  refine (walk a0 len0 cap0 z0 W w0).mono fun e W' ⟨he, bel⟩ => ?_
  subst he
  exact ⟨_, rfl, _, _, _, [], _, [], hW', trodAll_mk1 (shut_bool Try.underlying4 _), (trodAll_cons_mk (Below.trod laidOut (by kernel_rfl) (of_decide_eq_true (by kernel_rfl)) k0 bel lt0) trodAll_mk0), rfl, bel.frame _, fun h => by cases h⟩

theorem over : Rows.mapNotesRow.holds Try.pinned (OpenSpec.ofChange Rows.mapNotesSpec) :=
  OpenClaim.holds_of_wide 4 Try.f4 rfl rfl rfl rfl rfl rfl rfl ⟨rfl, rfl, rfl, rfl, rfl⟩ rfl rfl rfl rfl rfl (by kernel_rfl) Try.func4 (by kernel_rfl)
    (of_decide_eq_true (by kernel_rfl)) (by unfold Func.isWrapper; first | (rw [if_pos (by decide +kernel)]; kernel_rfl) | (rw [if_neg (by decide +kernel)]; exact ⟨rfl, rfl⟩))
    (fun os started H enc _ => lifted os started H enc)

/-- The statement. -/
theorem proved : Rows.MapNotesSaid := over
#print axioms proved
end Go.Proofs.Ytipljkegmhclkaa.mapNotes
