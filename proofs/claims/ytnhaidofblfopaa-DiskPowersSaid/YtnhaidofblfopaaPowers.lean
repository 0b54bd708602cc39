/-
  Proved: 'matryoshkalaw5.DiskPowers' returns true for every input, and each argument reads afterwards as before: the statement DiskPowersSaid as given. Conditions: none beyond the row's own.
-/
import Derived.Test.YtnhaidofblfopaaRows
import Derived.Test.YtnhaidofblfopaaG5
import Derived.Test.YtnhaidofblfopaaI6
import Derived.Deep.RegionHeld3
import Derived.WalkKit
import Derived.ProofKit
import Derived.OpenShut
import Derived.ShutString
import Derived.ChangeOld
import Derived.Below
namespace Go.Proofs.Ytnhaidofblfopaa.diskPowers
open Go.ChangeShapes Go.WideShapes Go.ChangeAt Go.RowKit
open Go.ChangeMaps (open_string shut_string)
set_option linter.unusedVariables false

theorem own : ownKnob Try.prog.godebug = none := by kernel_rfl
theorem laidOut : laidOutB Try.prog = true := by kernel_rfl

def secs20 : List Sec := (List.range 20).map fun i : Nat => secC (97 + (i : Int))
theorem secs20_16 : ∀ x ∈ secs20, x.length = 16 := fun x hx => by
  obtain ⟨i, _, rfl⟩ := List.mem_map.1 hx
  exact secC_len _
theorem secs20_len : secs20.length = 20 := by simp [secs20]
theorem secs20_at (i : Nat) (h : i < 20) : secs20.getD i [] = secC (97 + (i : Int)) := by
  rw [List.getD_eq_getElem?_getD, secs20, List.getElem?_map, List.getElem?_range h]
  rfl
theorem secs20_snoc (i : Nat) (h : i < 20) : (secs20.take (i + 1)).flatten = (secs20.take i).flatten ++ secC (97 + (i : Int)) := by
  rw [take_sec _ _ (by rw [secs20_len]; exact h), List.flatten_append, secs20_at i h]
  simp
theorem pow_write (k : Nat) (h1 : 1 ≤ k) (h2 : k ≤ 20) : (one 100 nF [] [] [] k false 0).write nF 0 secs20.flatten = (8, one 100 nF (secs20.take (k - 1)) [] (pnd secs20 (k - 1)) 0 true (k - 1)) := by
  have hw := write_go (one 100 nF [] [] [] k false 0) nF ⟨[], []⟩ 0 secs20 secs20_16 rfl (one_get nF _) (by rw [secs20_len]; omega) (by rw [secs20_len]; simp [one, usedF])
  rw [show (((0 : Nat) : Int)) = 0 from rfl] at hw
  rw [hw]
  have := go_dies 100 nF secs20 k (by rw [secs20_len]; exact h2) (k - 1) 0 (by omega)
  rw [List.drop_zero, List.take_zero, Nat.sub_zero] at this
  exact this
theorem pow_again (T : List Sec) (c : Nat) (hT : T.length ≤ 20) : ∃ D', (one 100 nF T T [] 0 false c).write nF 0 secs20.flatten = (0, D') := by
  have hw := write_go (one 100 nF T T [] 0 false c) nF ⟨T, T⟩ 0 secs20 secs20_16 rfl (one_get nF _) (by rw [secs20_len]; omega) (by rw [secs20_len]; simp [one, usedF]; omega)
  rw [show (((0 : Nat) : Int)) = 0 from rfl] at hw
  obtain ⟨now', P, h1, _⟩ := go_zero nF secs20 0 (one 100 nF T T [] 0 false c) ⟨T, T⟩ rfl (one_get nF _) (by intro e; have := secs20_len; rw [e] at this; cases this)
  exact ⟨_, by rw [hw, h1]⟩
theorem pow_crash (k : Nat) (h1 : 1 ≤ k) (h2 : k ≤ 20) : (one 100 nF (secs20.take (k - 1)) [] (pnd secs20 (k - 1)) 0 true (k - 1)).crash (List.replicate (k - 1) true) = one 100 nF (secs20.take (k - 1)) (secs20.take (k - 1)) [] 0 false (k - 1) := by
  rw [one_crash]
  have := survA_all (pnd secs20 (k - 1))
  rw [pnd_len] at this
  rw [this, kept_pnd _ _ (by rw [secs20_len]; omega)]
theorem pow_small : Small secs20.flatten := by
  refine ⟨by rw [flat_len16 secs20_16, secs20_len]; omega, fun c hc => ?_⟩
  obtain ⟨y, hy, hcy⟩ := List.mem_flatten.1 hc
  obtain ⟨i, hi, rfl⟩ := List.mem_map.1 hy
  rw [List.eq_of_mem_replicate hcy]
  have := List.mem_range.1 hi
  omega

set_option maxRecDepth 100000 in
set_option maxHeartbeats 4000000 in
theorem walk (a0 : Int) (a1 : Option Addr) (len1 cap1 : Nat) (z1 : Nat → Bool) (w : World) (w0 : (Lit.int .u8 a0).wf = true) (w1 : IsBools w a1 len1 cap1 z1) :
    Calls Try.prog 4 #[.int .u8 a0, .slice a1 len1 cap1] w fun e w' => e = .returned (.bool true) ∧ Below w.heap.size w w' := by
  by_cases hbig1 : 100 < len1
  · clear w0 w1
    go_enter Try.func4, Try.ntmps4
    go_wp2_with (first
      | (go_at_call 12; refine (num5_any _ _).mono ?_; rintro e wn ⟨rfl, rfl⟩)
      | (go_at_call 11; refine (diskNew_ok w w 100 (by omega) (by omega) (Below.refl _ _)).mono ?_; rintro e w1 ⟨p, S1, rfl, hh, _⟩; have HD := Lib.hid hh; clear hh)
      | (go_at_call 10; refine (awake5_any _).mono ?_; rintro e w13 ⟨rfl, hb⟩; have HZ := Lib.hid (HD.out.below.trans (hb.mono HD.out.below.size)); clear hb))
    go_ret
    exact ⟨rfl, HZ.out⟩
  have hN := byte_of_wf w0
  obtain ⟨n, rfl⟩ : ∃ n : Nat, a0 = (n : Int) := ⟨a0.toNat, by omega⟩
  have hn256 : n < 256 := by omega
  obtain ⟨K, hK, hK2⟩ : ∃ K : Nat, (n : Int) % 20 = (K : Int) ∧ K < 20 := ⟨n % 20, by omega, by omega⟩
  obtain ⟨k, hk, hkK, hk1⟩ : ∃ k : Nat, (1 : Int) + (n : Int) % 20 = (k : Int) ∧ (k : Int) - 1 = (K : Int) ∧ k = 1 + K := ⟨1 + K, by omega, by omega, rfl⟩
  have hk20 : k ≤ 20 := by omega
  have E1 := Lib.hid (new_create 100 nF (by decide) (by decide))
  have EW := Lib.hid (pow_write (1 + K) (by omega) (by omega))
  have EX := Lib.hid (pow_crash (1 + K) (by omega) (by omega))
  rw [show 1 + K - 1 = K by omega] at EW EX
  rw [← hk1] at EW
  obtain ⟨T, HT⟩ := named (secs20.take K)
  have hTl : T.length = K := by rw [← HT.out, List.length_take, secs20_len]; omega
  have HTF : Hid ((secs20.flatten).take (16 * K) = T.flatten) := by rw [← HT.out]; exact flat_take secs20_16 K
  have HTL : Hid (T.flatten.length = 16 * K) := by rw [← HTF.out, List.length_take, flat_len16 secs20_16, secs20_len]; exact Nat.min_eq_left (by omega)
  rw [HT.out] at EW EX
  obtain ⟨D2, hD2⟩ := pow_again T K (by omega)
  have EW2 := Lib.hid hD2
  have ER : Hid ((one 100 nF T T [] 0 false K).read nF 0 (K : Int) = (T.flatten, 0)) := by
    have := one_read 100 nF T T [] 0 K 0 K (by omega)
    rw [List.drop_zero, ← hTl, List.take_length, hTl] at this
    exact this
  obtain ⟨Q, HQ⟩ := named (one 100 nF T [] (pnd secs20 K) 0 true K)
  have hQd : Q.dead = true := by rw [← HQ.out]; rfl
  rw [HQ.out] at EW EX
  have EZ : Hid (Q.size nF = (K, 0)) := by rw [← HQ.out]; have := one_size 100 nF T [] (pnd secs20 K) 0 true K; rw [hTl] at this; exact this
  have X1 := Lib.hid (dead_read Q nF 0 0 hQd)
  have X2 := Lib.hid (dead_create Q ⟨#[103]⟩ hQd)
  have X3 := Lib.hid (dead_remove Q nF hQd)
  have X4 := Lib.hid (dead_flush Q nF hQd)
  have X5 := Lib.hid (dead_cut Q nF 0 hQd)
  have X6 := Lib.hid (dead_write Q nF 0 [] hQd)
  obtain ⟨B, HBB⟩ := named secs20.flatten
  have HBL : Hid (B.length = 320) := by rw [← HBB.out, flat_len16 secs20_16, secs20_len]; rfl
  rw [HBB.out] at EW EW2 HTF
  have HQD := Lib.hid hQd
  clear w0 w1 hD2 hTl hQd hN hK hk1
  go_enter Try.func4, Try.ntmps4
  go_wp2_with (first
    | (go_at_call 12; refine (num5_any _ _).mono ?_; rintro e wn ⟨rfl, rfl⟩)
    | (go_at_call 11; refine (diskNew_ok w w 100 (by omega) (by omega) (Below.refl _ _)).mono ?_; rintro e w1 ⟨p, S1, rfl, hh, _⟩; have HD := Lib.hid hh; clear hh)
    | (go_at_call 13; refine (diskCreate_any HD.out nF 0 E1.out).mono ?_; clear E1; rintro e w2 ⟨S2, rfl, hh, _⟩; replace HD := Lib.hid hh; clear hh)
    | (go_at_call 17; refine (diskPower_any HD.out k (by omega)).mono ?_; rintro e w3 ⟨S3, rfl, hh, _⟩; rw [one_power] at hh; replace HD := Lib.hid hh; clear hh))
  have HD3 := HD
  have hs3 : w.heap.size ≤ w3.heap.size := HD.out.below.size
  go_loopw [8, 9] (fun b i wr => ∃ (j m : Nat) (a : Option Addr) (c : Nat), j ≤ 20 ∧ m = 16 * j ∧ i = .int .i64 j ∧ b = .slice a m c ∧ Hid (Own wr w3.heap.size (.slice a m c) m (secs20.take j).flatten) ∧ Hid (Below w3.heap.size w3 wr)) (fun _ i _ => 20 - (intOf i).toNat)
  case atStart => exact ⟨0, 0, none, 0, by omega, rfl, rfl, rfl, ⟨⟨by simp, Or.inl ⟨rfl, rfl⟩⟩, by simp [Small]⟩, Below.refl _ _⟩
  case round =>
    obtain ⟨j, m, ab, cb, hj, hm, rfl, rfl, HOj, HGj⟩ := hrel
    by_cases hlt : j < 20
    · have HSN := Lib.hid (secs20_snoc j hlt)
      have hmb : m ≤ 320 := by omega
      obtain ⟨F, HF⟩ := named (secs20.take j).flatten
      rw [HF.out] at HOj HSN
      have HM := Lib.hid hm
      clear hm
      go_wp2_with (first
        | (go_at_call 15; refine (sector_any _ (by omega) _).mono ?_; rintro e w4 ⟨b4, rfl, _, hB, hb⟩; have HOk := Lib.hid (HOj.out.belowL hb); have HBk := Lib.hid hB; have HGk := Lib.hid (HGj.out.trans (hb.mono HGj.out.size)); clear hB hb)
        | (at_builtin; refine append_bytes rfl (.tmp 50) (.tmp 54) rfl w3.heap.size _ m F rfl HOk.out (some ⟨b4, 0, none⟩) 16 16 (secC (97 + (j : Int))) rfl (fun e => by cases e) HBk.out (by omega) HGk.out.size ?_; intro a5 c5 w5 hO5 hg5; have HO5 := Lib.hid hO5; have HG5 := Lib.hid (HOk.out.below HGk.out hg5 HGk.out.size (Nat.le_refl _)); clear hO5 hg5))
      go_roundw
      case rel => exact ⟨j + 1, m + 16, a5, c5, by omega, by have := HM.out; omega, by go_num, rfl, by rw [HSN.out]; exact HO5.out, HG5.out⟩
      case measure => simp [intOf]; omega
    · obtain rfl : j = 20 := by omega
      obtain rfl : m = 320 := hm
      have e20 : secs20.take 20 = secs20 := by rw [← secs20_len, List.take_length]
      rw [e20, HBB.out] at HOj
      obtain ⟨g, rfl, hg1, hg2⟩ := HOj.out.lies (by omega)
      have HCAP := Lib.hid HOj.out.capOk
      clear e20
      replace HD := Lib.hid (HD.out.later HGj.out)
      have HBO := Lib.hid (HD.out.out HOj.out.bytes.1 (fun _ x e => by cases e; exact Or.inr (HD3.out.fresh (Or.inl hg1))))
      clear hg1 hg2 hlt hs3
      go_wp2_with (first
        | (go_at_call 12; refine (num5_any _ _).mono ?_; rintro e wn ⟨rfl, rfl⟩)
        | (go_at_call 14; refine (diskWrite_any HD.out nF 0 (by omega) _ 320 _ B HBO.out HCAP.out (fun e => by cases e) (by omega) 8 EW.out (Nat.zero_le _)).mono ?_; clear EW; rintro e w6 ⟨S6, rfl, hh, ha⟩; replace HD := Lib.hid hh; replace HBO := Lib.hid (HBO.out.away ha); clear hh ha)
        | (go_at_call 20; refine (diskSize_any HD.out nF _ 0 EZ.out).mono ?_; clear EZ; rintro e w6 ⟨S6, rfl, hh, ha⟩; replace HD := Lib.hid hh; replace HBO := Lib.hid (HBO.out.away ha); clear hh ha)
        | (go_at_call 19; refine (diskRead_any HD.out nF 0 0 (by omega) (by omega) _ 8 X1.out).mono ?_; clear X1; rintro e w6 ⟨ar, cr, S6, rfl, _, hh, ha⟩; replace HD := Lib.hid hh; replace HBO := Lib.hid (HBO.out.away ha); clear hh ha)
        | (go_at_call 13; refine (diskCreate_any HD.out _ 8 X2.out).mono ?_; clear X2; rintro e w6 ⟨S6, rfl, hh, ha⟩; replace HD := Lib.hid hh; replace HBO := Lib.hid (HBO.out.away ha); clear hh ha)
        | (go_at_call 21; refine (diskRemove_dead HD.out _ 8 X3.out HQD.out).mono ?_; clear X3; rintro e w6 ⟨S6, rfl, hh, ha⟩; replace HD := Lib.hid hh; replace HBO := Lib.hid (HBO.out.away ha); clear hh ha)
        | (go_at_call 16; refine (diskFlush_any HD.out _ 8 X4.out).mono ?_; clear X4; rintro e w6 ⟨S6, rfl, hh, ha⟩; replace HD := Lib.hid hh; replace HBO := Lib.hid (HBO.out.away ha); clear hh ha)
        | (go_at_call 22; refine (diskCut_dead HD.out _ 0 8 X5.out HQD.out).mono ?_; clear X5; rintro e w6 ⟨S6, rfl, hh, ha⟩; replace HD := Lib.hid hh; replace HBO := Lib.hid (HBO.out.away ha); clear hh ha)
        | (go_at_call 14; refine (diskWrite_any HD.out nF 0 (by omega) none 0 0 [] ⟨none_bytes _, fun h => by omega⟩ (Nat.le_refl _) (fun _ => rfl) (by omega) 8 X6.out (by rw [← HQ.out]; show K ≤ 1000000; omega)).mono ?_; clear X6; rintro e w6 ⟨S6, rfl, hh, ha⟩; replace HD := Lib.hid hh; replace HBO := Lib.hid (HBO.out.away ha); clear hh ha))
      go_loopw [15, 16] (fun b i wr => ∃ (j : Nat) (a : Option Addr) (c : Nat), j ≤ K ∧ i = .int .i64 j ∧ b = .slice a j c ∧ Hid (OwnG boolCells 4 1 wr w6.heap.size (.slice a j c) j (List.replicate j true)) ∧ Hid (Below w6.heap.size w6 wr)) (fun _ i _ => K - (intOf i).toNat)
      case atStart => exact ⟨0, none, 0, by omega, rfl, rfl, OwnG.none _ _ _ _ _, Below.refl _ _⟩
      case round =>
        obtain ⟨j, aq, cq, hj, rfl, rfl, HOq, HGq⟩ := hrel
        by_cases hlt : j < K
        · have hj19 : j < 20 := by omega
          go_wp2_with (at_builtin; refine append_gg bool_rowed rfl (.tmp 119) (.tmp 120) rfl w6.heap.size _ j (List.replicate j true) rfl (HOq.out.alloc _) (some ⟨_, 0, none⟩) 1 1 [true] rfl (fun e => by cases e) (one_reads _ true _ _ rfl) (by omega) (Nat.le_trans HGq.out.size (by simp)) ?_; intro a7 c7 w7 g1 g2 g3; have HO7 := Lib.hid g1; have HG7 := Lib.hid ((HGq.out.alloc HGq.out.size _).trans g2); clear g1 g2 g3)
          go_roundw
          case rel => exact ⟨j + 1, a7, c7, by omega, by go_num, rfl, by rw [List.replicate_succ']; exact HO7.out, HG7.out⟩
          case measure => simp [intOf]; omega
        · obtain rfl : j = K := by omega
          obtain ⟨hq1, hq2, hq3⟩ := HOq.out.reads bool_rowed
          have HPK := Lib.hid (reads_picks hq1 (by omega))
          have HQ2 := Lib.hid hq2
          have HQ3 := Lib.hid hq3
          have HQS := Lib.hid (fun (h : 0 < j) (x : Addr) (e : aq = some x) => (show ¬ S6 x.block from HD.out.fresh (Or.inl (HOq.out.1.lt x.block (by rw [e]; rfl)).1)))
          clear hq1 hq2 hq3
          replace HD := Lib.hid (HD.out.later HGq.out)
          replace HBO := Lib.hid (HBO.out.later HGq.out)
          go_wp2_with (first
            | (go_at_call 18; refine (diskCrash_any HD.out _ j _ _ HPK.out HQS.out HQ3.out HQ2.out).mono ?_; rw [EX.out]; rintro e w8 ⟨S8, rfl, hh, ha⟩; replace HD := Lib.hid hh; replace HBO := Lib.hid (HBO.out.away ha); clear hh ha)
            | (go_at_call 19; refine (diskRead_any HD.out nF 0 _ (by omega) (by omega) _ 0 ER.out).mono ?_; rintro e w9 hp; obtain ⟨ar2, cr2, S9, rfl, hO, hh, ha⟩ := hp.named HTL.out; replace HD := Lib.hid hh; replace HBO := Lib.hid (HBO.out.away ha); have HRO := Lib.hid hO; clear hh ha hO hp))
          obtain ⟨a9, hsl0, hO9⟩ := HBO.out.front HCAP.out (fun e => by cases e) (16 * j) (by omega)
          have hsl : ∀ w' : World, (Instr.slice 22 (.slice (some ⟨g, 0, none⟩) 320 cb) none (some (.int .i64 (16 * (j : Int)))) none).run Try.prog w' = .ok (.slice a9 (16 * j) cb) w' := fun w' => by
            have := hsl0 w'
            rw [show ((16 * j : Nat) : Int) = 16 * (j : Int) by omega] at this
            exact this
          obtain ⟨ST, HST⟩ := named (strOfNums T.flatten)
          have HST3 : Hid (strOfNums (B.take (16 * j)) = ST) := by rw [HTF.out]; exact HST.out
          have HK9 : Hid (Keep3 w p (one 100 nF T T [] 0 false j) S9 ar2 (some ⟨g, 0, none⟩) a9 (16 * j) 320 (16 * j) T.flatten B (B.take (16 * j)) w9) := ⟨HRO.out, HBO.out, hO9, HD.out⟩
          have hk9 : Some3 w p ar2 (some ⟨g, 0, none⟩) a9 (16 * j) 320 (16 * j) T.flatten B (B.take (16 * j)) w9 := ⟨_, _, HK9.out⟩
          have hwj : IntKind.i64.wrap (j : Int) = (j : Int) := by rw [IntKind.wrap_i64]; omega
          have hw1 : IntKind.i64.wrap (16 * (j : Int)) = 16 * (j : Int) := by rw [IntKind.wrap_i64]; omega
          clear hsl0 hO9
          refine wp_region_held_drew (S := fun w' => (convert 22 9 (.slice ar2 (16 * j) cr2)).run Try.prog w' = .ok (.string ST) w' ∧ (convert 22 9 (.slice a9 (16 * j) cb)).run Try.prog w' = .ok (.string ST) w' ∧ Some3 w p ar2 (some ⟨g, 0, none⟩) a9 (16 * j) 320 (16 * j) T.flatten B (B.take (16 * j)) w') (by kernel_rfl) (by first | exact Some3.all (by assumption) HST.out HST3.out cr2 cb | exact Some3.all (Some3.drew (by assumption)) HST.out HST3.out cr2 cb) (fun hHeld => ?_)
          refine wpAnyH_take (i := 0) (oi := _) (v := ?vq0) rfl (by kernel_rfl) (by kernel_rfl) (by kernel_rfl) (fun _ _ _ h => h) (Or.inl ⟨by rfl, ?hyq0⟩) (by assumption) ?restq0
          case hyq0 => (intro wz hSw; (try dsimp only at hSw); go_simp; try with_reducible rfl)
          (try simp only [List.getElem_toArray, List.getElem_cons_zero, Act.put, List.setIfInBounds_toArray, List.set_cons_zero, List.set_cons_succ])
          refine wpAnyH_ready (rs := [1]) (by kernel_rfl) (by simp) ?_
          refine AllReadyH.cons (o := _) rfl (fun K hK => ?_) AllReadyH.nil
          rw [if_pos (by rfl)]
          go_simp
          (go_at_call 12; refine (num5_any _ _).mono ?_; rintro e wn ⟨rfl, rfl⟩)
          dsimp only
          refine hK.out _ _ (by first | exact Some3.all (by assumption) HST.out HST3.out cr2 cb | exact Some3.all (Some3.drew (by assumption)) HST.out HST3.out cr2 cb) (fun hHeld => ?_)
          clear hK K
          (try simp only [List.getElem_toArray, List.getElem_cons_zero, List.getElem_cons_succ, Act.put, List.setIfInBounds_toArray, List.set_cons_zero, List.set_cons_succ])
          refine wpAnyH_take (i := 2) (oi := _) (v := ?vq2) rfl (by kernel_rfl) (by kernel_rfl) (by kernel_rfl) (fun _ _ _ h => h) (Or.inl ⟨by rfl, ?hyq2⟩) (by assumption) ?restq2
          case hyq2 => (intro wz hSw; (try dsimp only at hSw); go_simp; try with_reducible rfl)
          (try simp only [List.getElem_toArray, List.getElem_cons_zero, List.getElem_cons_succ, Act.put, List.setIfInBounds_toArray, List.set_cons_zero, List.set_cons_succ])
          refine wpAnyH_take (i := 3) (oi := _) (v := ?vq3) rfl (by kernel_rfl) (by kernel_rfl) (by kernel_rfl) (fun _ _ _ h => h) (Or.inl ⟨by rfl, ?hyq3⟩) (by assumption) ?restq3
          case hyq3 => (intro wz hSw; (try dsimp only at hSw); go_simp; try with_reducible rfl)
          (try simp only [List.getElem_toArray, List.getElem_cons_zero, List.getElem_cons_succ, Act.put, List.setIfInBounds_toArray, List.set_cons_zero, List.set_cons_succ])
          refine wpAnyH_take (i := 4) (oi := _) (v := ?vq4) rfl (by kernel_rfl) (by kernel_rfl) (by kernel_rfl) (fun _ _ _ h => h) (Or.inl ⟨by rfl, ?hyq4⟩) (by assumption) ?restq4
          case hyq4 => (intro wz hSw; (try dsimp only at hSw); go_simp; try with_reducible rfl)
          (try simp only [List.getElem_toArray, List.getElem_cons_zero, List.getElem_cons_succ, Act.put, List.setIfInBounds_toArray, List.set_cons_zero, List.set_cons_succ])
          refine wpAnyH_take (i := 5) (oi := _) (v := ?vq5) rfl (by kernel_rfl) (by kernel_rfl) (by kernel_rfl) (fun _ _ _ h => h) (Or.inl ⟨by rfl, ?hyq5⟩) (by assumption) ?restq5
          case hyq5 => (intro wz hSw; (try dsimp only at hSw); go_simp; try with_reducible rfl)
          (try simp only [List.getElem_toArray, List.getElem_cons_zero, List.getElem_cons_succ, Act.put, List.setIfInBounds_toArray, List.set_cons_zero, List.set_cons_succ])
          refine wpAnyH_take (i := 6) (oi := _) (v := ?vq6) rfl (by kernel_rfl) (by kernel_rfl) (by kernel_rfl) (fun _ _ _ h => h) (Or.inl ⟨by rfl, ?hyq6⟩) (by assumption) ?restq6
          case hyq6 => (intro wz hSw; (try dsimp only at hSw); go_simp; try with_reducible rfl)
          (try simp only [List.getElem_toArray, List.getElem_cons_zero, List.getElem_cons_succ, Act.put, List.setIfInBounds_toArray, List.set_cons_zero, List.set_cons_succ])
          refine wpAnyH_take (i := 7) (oi := _) (v := ?vq7) rfl (by kernel_rfl) (by kernel_rfl) (by kernel_rfl) (fun _ _ _ h => h) (Or.inl ⟨by rfl, ?hyq7⟩) (by assumption) ?restq7
          case hyq7 => (intro wz hSw; (try dsimp only at hSw); go_simp; try with_reducible rfl)
          (try simp only [List.getElem_toArray, List.getElem_cons_zero, List.getElem_cons_succ, Act.put, List.setIfInBounds_toArray, List.set_cons_zero, List.set_cons_succ])
          refine wpAnyH_take (i := 8) (oi := _) (v := ?vq8) rfl (by kernel_rfl) (by kernel_rfl) (by kernel_rfl) (fun _ _ _ h => h) (Or.inl ⟨by rfl, ?hyq8⟩) (by assumption) ?restq8
          case hyq8 => (intro wz hSw; (try dsimp only at hSw); go_simp; try with_reducible rfl)
          (try simp only [List.getElem_toArray, List.getElem_cons_zero, List.getElem_cons_succ, Act.put, List.setIfInBounds_toArray, List.set_cons_zero, List.set_cons_succ])
          refine wpAnyH_take (i := 9) (oi := _) (v := ?vq9) rfl (by kernel_rfl) (by kernel_rfl) (by kernel_rfl) (fun _ _ _ h => h) (Or.inl ⟨by rfl, ?hyq9⟩) (by assumption) ?restq9
          case hyq9 => (intro wz hSw; (try dsimp only at hSw); go_simp; try with_reducible rfl)
          (try simp only [List.getElem_toArray, List.getElem_cons_zero, List.getElem_cons_succ, Act.put, List.setIfInBounds_toArray, List.set_cons_zero, List.set_cons_succ])
          refine wpAnyH_take (i := 10) (oi := _) (v := ?vq10) rfl (by kernel_rfl) (by kernel_rfl) (by kernel_rfl) (fun _ _ _ h => h) (Or.inl ⟨by rfl, ?hyq10⟩) (by assumption) ?restq10
          case hyq10 => (intro wz hSw; (try dsimp only at hSw); go_simp; try with_reducible rfl)
          (try simp only [List.getElem_toArray, List.getElem_cons_zero, List.getElem_cons_succ, Act.put, List.setIfInBounds_toArray, List.set_cons_zero, List.set_cons_succ])
          refine wpAnyH_take (i := 11) (oi := _) (v := ?vq11) rfl (by kernel_rfl) (by kernel_rfl) (by kernel_rfl) (fun _ _ _ h => h) (Or.inl ⟨by rfl, ?hyq11⟩) (by assumption) ?restq11
          case hyq11 => (intro wz hSw; (try dsimp only at hSw); go_simp; try with_reducible rfl)
          (try simp only [List.getElem_toArray, List.getElem_cons_zero, List.getElem_cons_succ, Act.put, List.setIfInBounds_toArray, List.set_cons_zero, List.set_cons_succ])
          refine wpAnyH_take (i := 12) (oi := _) (v := ?vq12) rfl (by kernel_rfl) (by kernel_rfl) (by kernel_rfl) (fun _ _ _ h => h) (Or.inl ⟨by rfl, ?hyq12⟩) (by assumption) ?restq12
          case hyq12 => (intro wz hSw; (try dsimp only at hSw); go_simp; try with_reducible rfl)
          (try simp only [List.getElem_toArray, List.getElem_cons_zero, List.getElem_cons_succ, Act.put, List.setIfInBounds_toArray, List.set_cons_zero, List.set_cons_succ])
          refine wpAnyH_take (i := 13) (oi := _) (v := ?vq13) rfl (by kernel_rfl) (by kernel_rfl) (by kernel_rfl) (fun _ _ _ h => h) (Or.inl ⟨by rfl, ?hyq13⟩) (by assumption) ?restq13
          case hyq13 => (intro wz hSw; (try dsimp only at hSw); go_simp; try with_reducible rfl)
          (try simp only [List.getElem_toArray, List.getElem_cons_zero, List.getElem_cons_succ, Act.put, List.setIfInBounds_toArray, List.set_cons_zero, List.set_cons_succ])
          refine wpAnyH_take (i := 14) (oi := _) (v := ?vq14) rfl (by kernel_rfl) (by kernel_rfl) (by kernel_rfl) (fun _ _ _ h => h) (Or.inl ⟨by rfl, ?hyq14⟩) (by assumption) ?restq14
          case hyq14 => (intro wz hSw; (try dsimp only at hSw); go_simp; try with_reducible rfl)
          (try simp only [List.getElem_toArray, List.getElem_cons_zero, List.getElem_cons_succ, Act.put, List.setIfInBounds_toArray, List.set_cons_zero, List.set_cons_succ])
          refine wpAnyH_take (i := 15) (oi := _) (v := ?vq15) rfl (by kernel_rfl) (by kernel_rfl) (by kernel_rfl) (fun _ _ _ h => h) (Or.inl ⟨by rfl, ?hyq15⟩) (by assumption) ?restq15
          case hyq15 => (intro wz hSw; (try dsimp only at hSw); go_simp; try with_reducible rfl)
          (try simp only [List.getElem_toArray, List.getElem_cons_zero, List.getElem_cons_succ, Act.put, List.setIfInBounds_toArray, List.set_cons_zero, List.set_cons_succ])
          refine wpAnyH_take (i := 16) (oi := _) (v := ?vq16) rfl (by kernel_rfl) (by kernel_rfl) (by kernel_rfl) (fun _ _ _ h => h) (Or.inl ⟨by rfl, ?hyq16⟩) (by assumption) ?restq16
          case hyq16 => (intro wz hSw; (try dsimp only at hSw); go_simp; try with_reducible rfl)
          (try simp only [List.getElem_toArray, List.getElem_cons_zero, List.getElem_cons_succ, Act.put, List.setIfInBounds_toArray, List.set_cons_zero, List.set_cons_succ])
          refine wpAnyH_ready (rs := [17]) (by kernel_rfl) (by simp) ?_
          refine AllReadyH.cons (o := _) rfl (fun K hK => ?_) AllReadyH.nil
          rw [if_pos (by rfl)]
          go_simp
          (go_at_call 14; refine (diskWrite_any HD.out.drew nF 0 (by omega) _ 320 _ B (HBO.out.later (Below.refl _ _).drew) HCAP.out (fun e => by cases e) (by omega) 0 EW2.out (by show j ≤ 1000000; omega)).mono ?_; rintro e w10 ⟨S10, rfl, hh, ha⟩; have hk10 : Some3 w p ar2 (some ⟨g, 0, none⟩) a9 (16 * j) 320 (16 * j) T.flatten B (B.take (16 * j)) w10 := ⟨_, _, HK9.out.drew.away ha hh⟩; clear hh ha)
          dsimp only
          refine hK.out _ _ (by first | exact Some3.all (by assumption) HST.out HST3.out cr2 cb | exact Some3.all (Some3.drew (by assumption)) HST.out HST3.out cr2 cb) (fun hHeld => ?_)
          clear hK K
          (try simp only [List.getElem_toArray, List.getElem_cons_zero, List.getElem_cons_succ, Act.put, List.setIfInBounds_toArray, List.set_cons_zero, List.set_cons_succ])
          refine wpAnyH_ready (rs := [18]) (by kernel_rfl) (by simp) ?_
          refine AllReadyH.cons (o := _) rfl (fun K hK => ?_) AllReadyH.nil
          rw [if_pos (by rfl)]
          go_simp
          (go_at_call 12; refine (num5_any _ _).mono ?_; rintro e wn ⟨rfl, rfl⟩)
          dsimp only
          refine hK.out _ _ (by first | exact Some3.all (by assumption) HST.out HST3.out cr2 cb | exact Some3.all (Some3.drew (by assumption)) HST.out HST3.out cr2 cb) (fun hHeld => ?_)
          clear hK K
          (try simp only [List.getElem_toArray, List.getElem_cons_zero, List.getElem_cons_succ, Act.put, List.setIfInBounds_toArray, List.set_cons_zero, List.set_cons_succ])
          refine wpAnyH_take (i := 19) (oi := _) (v := ?vq19) rfl (by kernel_rfl) (by kernel_rfl) (by kernel_rfl) (fun _ _ _ h => h) (Or.inl ⟨by rfl, ?hyq19⟩) (by assumption) ?restq19
          case hyq19 => (intro wz hSw; (try dsimp only at hSw); go_simp; try with_reducible rfl)
          (try simp only [List.getElem_toArray, List.getElem_cons_zero, List.getElem_cons_succ, Act.put, List.setIfInBounds_toArray, List.set_cons_zero, List.set_cons_succ])
          refine wpAnyH_take (i := 20) (oi := _) (v := ?vq20) rfl (by kernel_rfl) (by kernel_rfl) (by kernel_rfl) (fun _ _ _ h => h) (Or.inl ⟨by rfl, ?hyq20⟩) (by assumption) ?restq20
          case hyq20 => (intro wz hSw; (try dsimp only at hSw); go_simp; try with_reducible rfl)
          (try simp only [List.getElem_toArray, List.getElem_cons_zero, List.getElem_cons_succ, Act.put, List.setIfInBounds_toArray, List.set_cons_zero, List.set_cons_succ])
          refine wpAnyH_take (i := 21) (oi := _) (v := ?vq21) rfl (by kernel_rfl) (by kernel_rfl) (by kernel_rfl) (fun _ _ _ h => h) (Or.inl ⟨by rfl, ?hyq21⟩) (by assumption) ?restq21
          case hyq21 => (intro wz hSw; (try dsimp only at hSw); go_simp; try with_reducible rfl)
          (try simp only [List.getElem_toArray, List.getElem_cons_zero, List.getElem_cons_succ, Act.put, List.setIfInBounds_toArray, List.set_cons_zero, List.set_cons_succ])
          refine wpAnyH_ready (rs := [22]) (by kernel_rfl) (by simp) ?_
          refine AllReadyH.cons (o := _) rfl (fun K hK => ?_) AllReadyH.nil
          rw [if_pos (by rfl)]
          go_simp
          (go_at_call 10; refine (awake5_any _).mono ?_; rintro e w11 ⟨rfl, hb⟩; have hk11 : Some3 w p ar2 (some ⟨g, 0, none⟩) a9 (16 * j) 320 (16 * j) T.flatten B (B.take (16 * j)) w11 := by obtain ⟨D0, S0, k0⟩ := hk10; exact ⟨D0, S0, k0.later hb⟩)
          dsimp only
          refine hK.out _ _ (by first | exact Some3.all (by assumption) HST.out HST3.out cr2 cb | exact Some3.all (Some3.drew (by assumption)) HST.out HST3.out cr2 cb) (fun hHeld => ?_)
          clear hK K
          (try simp only [List.getElem_toArray, List.getElem_cons_zero, List.getElem_cons_succ, Act.put, List.setIfInBounds_toArray, List.set_cons_zero, List.set_cons_succ])
          refine wpAnyH_take (i := 23) (oi := _) (v := ?vq23) rfl (by kernel_rfl) (by kernel_rfl) (by kernel_rfl) (fun _ _ _ h => h) (Or.inl ⟨by rfl, ?hyq23⟩) (by assumption) ?restq23
          case hyq23 => (intro wz hSw; (try dsimp only at hSw); go_simp; try with_reducible rfl)
          (try simp only [List.getElem_toArray, List.getElem_cons_zero, List.getElem_cons_succ, Act.put, List.setIfInBounds_toArray, List.set_cons_zero, List.set_cons_succ])
          refine wpAnyH_take (i := 24) (oi := _) (v := ?vq24) rfl (by kernel_rfl) (by kernel_rfl) (by kernel_rfl) (fun _ _ _ h => h) (Or.inl ⟨by rfl, ?hyq24⟩) (by assumption) ?restq24
          case hyq24 => (intro wz hSw; (try dsimp only at hSw); go_simp; try with_reducible rfl)
          (try simp only [List.getElem_toArray, List.getElem_cons_zero, List.getElem_cons_succ, Act.put, List.setIfInBounds_toArray, List.set_cons_zero, List.set_cons_succ])
          refine wpAnyH_done (by kernel_rfl) ?_ _
          go_wp2
          go_ret
          exact ⟨rfl, hk11.below⟩

set_option maxRecDepth 100000 in
theorem lifted (os : Os) (started : os.Started) (H : Type) (enc : TypeId × Value → H) :
    ReturnsInHanded {} Try.checked os 4 .any (Rows.diskPowersSpec.pre6 enc Try.prog Try.f4 Rows.diskPowersRow.domain false) (Rows.diskPowersSpec.post enc Try.prog Try.f4 false true false false) := by
  refine returnsInHanded_of_change (C := Try.checked) own started (by kernel_rfl) Try.func4
    (ChangeSpec.witness6 (enc := enc) (C := Try.checked) false ⟨#[], #[.int .u8 0, .slice none 0 0], []⟩ 8 (by kernel_rfl) (by kernel_rfl) (by kernel_rfl) (by kernel_rfl)) ?_
  intro W base args ds gs before hval0 hW hcnd _
  have hval : ∀ (j : Nat) t v, Try.f4.params[j]? = some t → args[j]? = some v → Value.okWide Try.prog W .any base t v := hval0
  have hW' := hW
  obtain ⟨p, q, hA0, hV, rfl, hfz, hnd⟩ := hW
  have hA : DataW.TrodAll enc Try.prog W 0 (fun _ => true) true Try.f4.params.toList args.toList ds p := hA0
  rw [Try.params4] at hA hval
  obtain ⟨v0, vs0, d0, ds0, p0, q0, hargs, rfl, rfl, h0, r0⟩ := trodAll_cons hA
  obtain ⟨v1, vs1, d1, ds1, p1, q1, rfl, rfl, rfl, h1, r1⟩ := trodAll_cons r0
  obtain ⟨rfl, rfl, rfl⟩ := trodAll_nil r1
  obtain rfl : args = #[v0, v1] := by cases args; simp_all
  obtain ⟨rfl, rfl⟩ := trodVars_none hV
  have k0 := h0
  have lt0 : ∀ x ∈ p0, x.block < W.heap.size := by obtain ⟨m, hm⟩ := k0; exact DataW.trod_lt m _ _ _ hm
  obtain ⟨a0, rfl, _, _, w0⟩ := open_int Try.underlying5 (hval 0 5 v0 rfl rfl) h0
  have k1 := h1
  have lt1 : ∀ x ∈ p1, x.block < W.heap.size := by obtain ⟨m, hm⟩ := k1; exact DataW.trod_lt m _ _ _ hm
  obtain ⟨a1, len1, cap1, rfl⟩ := okWide_slice Try.underlying23 (hval 1 23 v1 rfl rfl)
  obtain ⟨z1, w1⟩ := bools_open h1
  clear hA0 hval0
  refine (walk a0 a1 len1 cap1 z1 W w0 w1).mono fun e W' ⟨he, bel⟩ => ?_
  subst he
  exact ⟨_, rfl, _, _, _, [], _, [], hW', trodAll_mk1 (shut_bool Try.underlying4 _), (trodAll_cons_mk (Below.trod laidOut (by kernel_rfl) (of_decide_eq_true (by kernel_rfl)) k0 bel lt0) (trodAll_cons_mk (Below.trod laidOut (by kernel_rfl) (of_decide_eq_true (by kernel_rfl)) k1 bel lt1) trodAll_mk0)), rfl, bel.frame _, fun h => by cases h⟩

theorem over : Rows.diskPowersRow.holds Try.pinned (OpenSpec.ofChange Rows.diskPowersSpec) :=
  OpenClaim.holds_of_wide 4 Try.f4 rfl rfl rfl rfl rfl rfl rfl ⟨rfl, rfl, rfl, rfl, rfl⟩ rfl rfl rfl rfl rfl (by kernel_rfl) Try.func4 (by kernel_rfl)
    (of_decide_eq_true (by kernel_rfl)) (by unfold Func.isWrapper; first | (rw [if_pos (by decide +kernel)]; kernel_rfl) | (rw [if_neg (by decide +kernel)]; exact ⟨rfl, rfl⟩))
    (fun os started H enc _ => lifted os started H enc)

/-- The statement. -/
theorem proved : Rows.DiskPowersSaid := over
#print axioms proved
end Go.Proofs.Ytnhaidofblfopaa.diskPowers
