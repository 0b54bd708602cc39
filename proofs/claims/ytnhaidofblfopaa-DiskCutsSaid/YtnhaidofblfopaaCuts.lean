/-
  Proved: 'matryoshkalaw5.DiskCuts' returns true for every input, and each argument reads afterwards as before: the statement DiskCutsSaid as given. Conditions: none beyond the row's own.
-/
import Derived.Test.YtnhaidofblfopaaRows
import Derived.Test.YtnhaidofblfopaaP5
import Derived.Test.YtnhaidofblfopaaO6
import Derived.Deep.RegionHeld3
import Derived.WalkKit
import Derived.ProofKit
import Derived.OpenShut
import Derived.ShutString
import Derived.ChangeOld
import Derived.Below
namespace Go.Proofs.Ytnhaidofblfopaa.diskCuts
open Go.ChangeShapes Go.WideShapes Go.ChangeAt Go.RowKit
open Go.ChangeMaps (open_string shut_string)
set_option linter.unusedVariables false

theorem own : ownKnob Try.prog.godebug = none := by kernel_rfl
theorem laidOut : laidOutB Try.prog = true := by kernel_rfl

/-- A slice of integers that came in: nil, or a row of cells. -/
def IsRow (k : IntKind) (w : World) (a : Option Addr) (len cap : Nat) (zs : List Int) : Prop :=
  (a = none ∧ len = 0 ∧ cap = 0 ∧ zs = []) ∨
  ∃ x, a = some x ∧ len ≤ cap ∧ cap ≤ maxLen ∧ zs.length = cap ∧ (∀ i, i < zs.length → w.cell? (x.add i) = some (.int k (zs.getD i 0))) ∧ ∀ n ∈ zs, (Lit.int k n).wf = true

/-- The disk when so many sectors are written. -/
def cutsAt (l : List Int) (j : Nat) : Dsk := one 1000 nF ((l.take j).map secC) [] ((List.range j).map fun i => (i, secC (l.getD i 0))) 0 false j
theorem cuts_step (l : List Int) (j : Nat) (h : j < l.length) (hl : l.length ≤ 100) : (cutsAt l j).write nF j (secC (l.getD j 0)) = (0, cutsAt l (j + 1)) := by
  have hlen : ((l.take j).map secC).length = j := by rw [List.length_map, List.length_take]; omega
  have := one_write1 1000 nF ((l.take j).map secC) [] ((List.range j).map fun i => (i, secC (l.getD i 0))) 0 j j (secC (l.getD j 0)) (secC_len _) (by omega) (by rw [hlen]; omega) (by omega)
  unfold cutsAt
  rw [this]
  congr 2
  · unfold putS
    rw [if_neg (by rw [hlen]; omega), hlen, Nat.sub_self, take_snoc l j h]
    simp
  · rw [List.range_succ]
    simp
theorem cuts_all (l : List Int) : cutsAt l l.length = one 1000 nF (l.map secC) [] ((List.range l.length).map fun i => (i, secC (l.getD i 0))) 0 false l.length := by
  unfold cutsAt
  rw [List.take_length]
theorem cuts_again (l : List Int) (c : Nat) (h : 0 < l.length) (hl : l.length ≤ 100) : (one 1000 nF (l.map secC) (l.map secC) [] 0 false c).write nF ((l.length - 1 : Nat) : Int) (secC 63) = (0, one 1000 nF ((l.map secC).set (l.length - 1) (secC 63)) (l.map secC) [(l.length - 1, secC 63)] 0 false (c + 1)) := by
  have := one_write1 1000 nF (l.map secC) (l.map secC) [] 0 c (l.length - 1) (secC 63) (secC_len _) (by omega) (by rw [List.length_map]; omega) (by omega)
  rw [this]
  unfold putS
  rw [if_pos (by rw [List.length_map]; omega)]
  rfl
theorem cuts_cut (l : List Int) (c k : Nat) (h : k < l.length) : (one 1000 nF (l.map secC) (l.map secC) [] 0 false c).cut nF k = (0, one 1000 nF ((l.map secC).take k) ((l.map secC).take k) [] 0 false c) := by
  have := one_cut 1000 nF (l.map secC) (l.map secC) [] 0 c k (by rw [List.length_map]; omega)
  rw [this]
  rfl
theorem cuts_cut2 (l : List Int) (c k : Nat) (h : k < l.length) : (one 1000 nF ((l.map secC).set (l.length - 1) (secC 63)) (l.map secC) [(l.length - 1, secC 63)] 0 false c).cut nF k = (0, one 1000 nF ((l.map secC).take k) ((l.map secC).take k) [] 0 false c) := by
  have := one_cut 1000 nF ((l.map secC).set (l.length - 1) (secC 63)) (l.map secC) [(l.length - 1, secC 63)] 0 c k (by rw [List.length_set, List.length_map]; omega)
  rw [this, List.take_set_of_le (by omega)]
  have e : [(l.length - 1, secC 63)].filter (fun x => !decide (k ≤ x.1)) = [] := by simp; omega
  rw [e]
theorem cuts_read (l : List Int) (c k j : Nat) (h : j < k) (hk : k ≤ l.length) : (one 1000 nF ((l.map secC).take k) ((l.map secC).take k) [] 0 false c).read nF j 1 = (secC (l.getD j 0), 0) := by
  have := one_read 1000 nF ((l.map secC).take k) ((l.map secC).take k) [] 0 c j 1 (by rw [List.length_take, List.length_map]; omega)
  rw [show ((1 : Nat) : Int) = 1 from rfl] at this
  rw [this]
  have hj : j < ((l.map secC).take k).length := by rw [List.length_take, List.length_map]; omega
  rw [List.drop_eq_getElem_cons hj, List.take_succ_cons, List.take_zero]
  have e : ((l.map secC).take k)[j] = secC (l.getD j 0) := by
    rw [List.getElem_take, List.getElem_map, List.getD_eq_getElem?_getD, List.getElem?_eq_getElem (by omega)]
    rfl
  rw [e]
  simp

set_option maxRecDepth 100000 in
set_option maxHeartbeats 4000000 in
theorem walk (a0 : Option Addr) (len0 cap0 : Nat) (z0 : List Int) (a1 : Int) (a2 : Option Addr) (len2 cap2 : Nat) (z2 : Nat → Bool) (a3 : Bool) (w : World) (w0 : IsRow .u8 w a0 len0 cap0 z0) (w1 : (Lit.int .u8 a1).wf = true) (w2 : IsBools w a2 len2 cap2 z2) :
    Calls Try.prog 8 #[.slice a0 len0 cap0, .int .u8 a1, .slice a2 len2 cap2, .bool a3] w fun e w' => e = .returned (.bool true) ∧ Below w.heap.size w w' := by
  by_cases hz0 : len0 = 0
  · clear w0 w1 w2
    go_enter Try.func8, Try.ntmps8
    go_wp2_with (go_at_call 10; refine (awake5_any _).mono ?_; rintro e w1 ⟨rfl, hb⟩; have HB := Lib.hid hb; clear hb)
    go_ret
    exact ⟨rfl, HB.out⟩
  by_cases hbig0 : 60 < len0
  · clear w0 w1 w2
    go_enter Try.func8, Try.ntmps8
    go_wp2_with (go_at_call 10; refine (awake5_any _).mono ?_; rintro e w1 ⟨rfl, hb⟩; have HB := Lib.hid hb; clear hb)
    go_ret
    exact ⟨rfl, HB.out⟩
  by_cases hbig2 : 300 < len2
  · clear w0 w1 w2
    go_enter Try.func8, Try.ntmps8
    go_wp2_with (go_at_call 10; refine (awake5_any _).mono ?_; rintro e w1 ⟨rfl, hb⟩; have HB := Lib.hid hb; clear hb)
    go_ret
    exact ⟨rfl, HB.out⟩
  have hN := byte_of_wf w1
  obtain ⟨n, rfl⟩ : ∃ n : Nat, a1 = (n : Int) := ⟨a1.toNat, by omega⟩
  obtain ⟨l, hB, hc0, hn0, hx0⟩ := bytes_arg w0 (by omega)
  obtain ⟨pk, hP, hc2, hn2, hx2⟩ := bools_arg w2 (by omega)
  have hll : l.length = len0 := hB.1
  have HLB := Lib.hid (fun (j : Nat) (h : j < len0) => hB.small.at (k := j) (by rw [hll]; exact h))
  obtain ⟨K, hK, hK2⟩ : ∃ K : Nat, (n : Int) % (len0 : Int) = (K : Int) ∧ K = n % len0 := ⟨n % len0, by rw [← Int.natCast_emod], rfl⟩
  have hKl : K < len0 := by rw [hK2]; exact Nat.mod_lt _ (by omega)
  have E1 := Lib.hid (new_create 1000 nF (by decide) (by decide))
  have ES := Lib.hid (fun j (h : j < len0) => cuts_step l j (by omega) (by omega))
  have EA := Lib.hid (cuts_all l)
  have EF := Lib.hid (one_flush 1000 nF (l.map secC) [] ((List.range l.length).map fun i => (i, secC (l.getD i 0))) 0 l.length)
  have EW := Lib.hid (cuts_again l l.length (by omega) (by omega))
  have EC1 := Lib.hid (cuts_cut l l.length K (by omega))
  have EC2 := Lib.hid (cuts_cut2 l (l.length + 1) K (by omega))
  have ER := Lib.hid (fun c j (h : j < K) => cuts_read l c K j h (by omega))
  obtain ⟨N, HN⟩ := named (l.map secC)
  have hNl : N.length = len0 := by rw [← HN.out, List.length_map]; exact hll
  rw [HN.out] at EA EF EW EC1 EC2 ER
  obtain ⟨T, HT⟩ := named (N.take K)
  have hTl : T.length = K := by rw [← HT.out, List.length_take]; omega
  rw [HT.out] at EC1 EC2 ER
  have EX := Lib.hid (fun c => one_crash 1000 nF T T [] 0 false c pk)
  have EZ : Hid (∀ c, (one 1000 nF T T [] 0 false c).size nF = (K, 0)) := by intro c; have := one_size 1000 nF T T [] 0 false c; rw [hTl] at this; exact this
  have EN1 := Lib.hid (fun c => one_cut_no 1000 nF T T [] 0 c ((K : Int) + 1) (by rw [hTl]; omega))
  have EN2 := Lib.hid (fun c => one_cut_no 1000 nF T T [] 0 c (-1) (by omega))
  have HB := Lib.hid hB
  have HP := Lib.hid hP
  have HX0 := Lib.hid hx0
  have HX2 := Lib.hid hx2
  have HLL := Lib.hid hll
  obtain ⟨b0, off0, rfl⟩ := hB.lies (by omega)
  have hb0lt := hx0 (by omega) _ rfl
  dsimp only at hb0lt
  have hn256 : n < 256 := by omega
  have hz : ((len0 : Int) == 0) = false := by simp; omega
  clear w0 w1 w2 hB hP hx0 hx2 hll hK2 hN hNl hTl
  go_enter Try.func8, Try.ntmps8
  go_wp2_with (first
    | (go_at_call 12; go_in)
    | (go_at_call 11; refine (diskNew_ok w w 1000 (by omega) (by omega) (Below.refl _ _)).mono ?_; rintro e w1 ⟨p, S1, rfl, hh, _⟩; have HD := Lib.hid hh; clear hh)
    | (go_at_call 13; refine (diskCreate_any HD.out nF 0 E1.out).mono ?_; clear E1; rintro e w2 ⟨S2, rfl, hh, _⟩; replace HD := Lib.hid hh; clear hh))
  go_loopw [11] (fun i wr => ∃ (j : Nat) (S : Nat → Prop), j ≤ len0 ∧ i = .int .i64 j ∧ Hid (Has w p (cutsAt l j) wr S)) (fun i _ => len0 - (intOf i).toNat)
  case atStart => exact ⟨0, _, Nat.zero_le _, rfl, HD.out⟩
  case round =>
    obtain ⟨j, S, hj, rfl, HDj⟩ := hrel
    by_cases hlt : j < len0
    · have hcell := (HDj.out.below.cell (p := ⟨b0, off0 + j, none⟩) hb0lt).trans (HB.out.cellAt j hlt)
      obtain ⟨V, HV⟩ := named (l.getD j 0)
      have hVb := HLB.out j hlt
      have ESj := Lib.hid (ES.out j hlt)
      rw [HV.out] at hcell hVb ESj
      clear HD
      go_wp2_with (first
        | (go_at_call 15; refine (sectorD HDj.out _ hVb).mono ?_; rintro e w3 ⟨b3, rfl, hO, hh, hb, _⟩; have HD3 := Lib.hid hh; have HO := Lib.hid hO; clear hh hO hb)
        | (go_at_call 14; refine (diskWrite_any HD3.out nF _ (by omega) _ 16 16 _ HO.out (Nat.le_refl _) (fun e => by cases e) (by omega) 0 ESj.out (by show j ≤ 1000000; omega)).mono ?_; rintro e w4 ⟨S4, rfl, hh, _⟩; have HD4 := Lib.hid hh; clear hh))
      go_roundw
      case rel => exact ⟨j + 1, S4, by omega, by go_num, HD4.out⟩
      case measure => simp [intOf]; omega
    · obtain rfl : j = len0 := by omega
      clear HD
      have HD : Hid (Has w p (one 1000 nF N [] ((List.range l.length).map fun i => (i, secC (l.getD i 0))) 0 false l.length) wr S) := by have := HDj.out; rw [← HLL.out, EA.out] at this; exact this
      have hlm : (j : Int) - 1 = ((l.length - 1 : Nat) : Int) := by rw [HLL.out]; omega
      cases a3 with
      | true =>
        go_wp2_with (first
          | (go_at_call 12; go_in)
          | (go_at_call 16; refine (diskFlush_any HD.out nF 0 EF.out).mono ?_; clear EF; rintro e w6 ⟨S6, rfl, hh, _⟩; replace HD := Lib.hid hh; clear hh)
          | (go_at_call 15; refine (sectorD HD.out _ (by omega)).mono ?_; rintro e w3 ⟨b3, rfl, hO, hh, hb, _⟩; replace HD := Lib.hid hh; have HO := Lib.hid hO; clear hh hO hb)
          | (go_at_call 14; refine (diskWrite_any HD.out nF _ (by omega) _ 16 16 _ HO.out (Nat.le_refl _) (fun e => by cases e) (by omega) 0 EW.out (by show l.length ≤ 1000000; have := HLL.out; omega)).mono ?_; clear EW; rintro e w4 ⟨S4, rfl, hh, _⟩; replace HD := Lib.hid hh; clear hh)
          | (go_at_call 22; refine (diskCut_any HD.out nF _ (by omega) 0 EC2.out).mono ?_; rintro e w4 ⟨S4, rfl, hh, _⟩; replace HD := Lib.hid hh; clear hh)
          | (go_at_call 18; refine (diskCrash_any HD.out _ len2 cap2 pk (HP.out.grownB HX2.out HD.out.below) (fun h x e => HD.out.fresh (Or.inr (HX2.out h x e))) hc2 hn2).mono ?_; rw [EX.out (l.length + 1)]; rintro e w7 ⟨S7, rfl, hh, _⟩; replace HD := Lib.hid hh; clear hh)
          | (go_at_call 20; refine (diskSize_any HD.out nF _ 0 (EZ.out (l.length + 1))).mono ?_; rintro e w8 ⟨S8, rfl, hh, _⟩; replace HD := Lib.hid hh; clear hh))
        go_loopw [16] (fun i wr => ∃ (j : Nat) (S : Nat → Prop), j ≤ K ∧ i = .int .i64 j ∧ Hid (Has w p (one 1000 nF T T [] 0 false (l.length + 1)) wr S)) (fun i _ => K - (intOf i).toNat)
        case atStart => exact ⟨0, _, Nat.zero_le _, rfl, HD.out⟩
        case round =>
          obtain ⟨j2, S2, hj2, rfl, HD2⟩ := hrel
          by_cases hlt2 : j2 < K
          · have hj2l : j2 < j := (by omega)
            obtain ⟨V, HV⟩ := named (l.getD j2 0)
            have HCV := Lib.hid (HB.out.cellAt j2 (by omega))
            obtain ⟨V, HV⟩ := named (l.getD j2 0)
            have hVb := HLB.out j2 (by omega)
            have ERj := Lib.hid (ER.out (l.length + 1) j2 hlt2)
            rw [HV.out] at HCV hVb ERj
            go_wp2_with (go_at_call 19; refine (diskRead_any HD2.out nF _ 1 (by omega) (by omega) _ 0 ERj.out).mono ?_; rintro e w9 hp; obtain ⟨ar, cr, S9, rfl, hO, hh, _⟩ := hp.named (secC_len _); have hk : Keep w p (one 1000 nF T T [] 0 false (l.length + 1)) S9 ar 16 (secC V) w9 := ⟨hO, hh⟩; clear hO hh hp)
            refine wp_region_held_drew (S := fun w' => (convert 22 9 (.slice ar 16 cr)).run Try.prog w' = .ok (.string (strOfNums (secC V))) w' ∧ w'.cell? ⟨b0, off0 + j2, none⟩ = some (.int .u8 V) ∧ Keep w p (one 1000 nF T T [] 0 false (l.length + 1)) S9 ar 16 (secC V) w') (by kernel_rfl) (by first | exact Keep.all2 (by assumption) cr HCV.out hb0lt | exact Keep.all2 (Keep.drew (by assumption)) cr HCV.out hb0lt) (fun hHeld => ?_)
            refine wpAnyH_take (i := 0) (oi := _) (v := ?vk0) rfl (by kernel_rfl) (by kernel_rfl) (by kernel_rfl) (fun _ _ _ h => h) (Or.inl ⟨by rfl, ?hyk0⟩) (by assumption) ?restk0
            case hyk0 => (intro wz hSw; (try dsimp only at hSw); go_simp; try with_reducible rfl)
            (try simp only [List.getElem_toArray, List.getElem_cons_zero, Act.put, List.setIfInBounds_toArray, List.set_cons_zero, List.set_cons_succ])
            refine wpAnyH_ready (rs := [1]) (by kernel_rfl) (by simp) ?_
            refine AllReadyH.cons (o := _) rfl (fun K hK => ?_) AllReadyH.nil
            rw [if_pos (by rfl)]
            go_simp
            (go_at_call 12; refine (num5_any _ _).mono ?_; rintro e w10 ⟨rfl, rfl⟩)
            dsimp only
            refine hK.out _ _ (by first | exact Keep.all2 (by assumption) cr HCV.out hb0lt | exact Keep.all2 (Keep.drew (by assumption)) cr HCV.out hb0lt) (fun hHeld => ?_)
            clear hK K
            (try simp only [List.getElem_toArray, List.getElem_cons_zero, List.getElem_cons_succ, Act.put, List.setIfInBounds_toArray, List.set_cons_zero, List.set_cons_succ])
            refine wpAnyH_take (i := 2) (oi := _) (v := ?vk2) rfl (by kernel_rfl) (by kernel_rfl) (by kernel_rfl) (fun _ _ _ h => h) (Or.inl ⟨by rfl, ?hyk2⟩) (by assumption) ?restk2
            case hyk2 => (intro wz hSw; (try dsimp only at hSw); go_simp; try with_reducible rfl)
            (try simp only [List.getElem_toArray, List.getElem_cons_zero, List.getElem_cons_succ, Act.put, List.setIfInBounds_toArray, List.set_cons_zero, List.set_cons_succ])
            refine wpAnyH_take (i := 3) (oi := _) (v := ?vk3) rfl (by kernel_rfl) (by kernel_rfl) (by kernel_rfl) (fun _ _ _ h => h) (Or.inl ⟨by rfl, ?hyk3⟩) (by assumption) ?restk3
            case hyk3 => (intro wz hSw; (try dsimp only at hSw); go_simp; try with_reducible rfl)
            (try simp only [List.getElem_toArray, List.getElem_cons_zero, List.getElem_cons_succ, Act.put, List.setIfInBounds_toArray, List.set_cons_zero, List.set_cons_succ])
            refine wpAnyH_take (i := 4) (oi := _) (v := ?vk4) rfl (by kernel_rfl) (by kernel_rfl) (by kernel_rfl) (fun _ _ _ h => h) (Or.inl ⟨by rfl, ?hyk4⟩) (by assumption) ?restk4
            case hyk4 => (intro wz hSw; (try dsimp only at hSw); go_simp; try with_reducible rfl)
            (try simp only [List.getElem_toArray, List.getElem_cons_zero, List.getElem_cons_succ, Act.put, List.setIfInBounds_toArray, List.set_cons_zero, List.set_cons_succ])
            refine wpAnyH_take (i := 5) (oi := _) (v := ?vk5) rfl (by kernel_rfl) (by kernel_rfl) (by kernel_rfl) (fun _ _ _ h => h) (Or.inl ⟨by rfl, ?hyk5⟩) (by assumption) ?restk5
            case hyk5 => (intro wz hSw; (try dsimp only at hSw); go_simp; try with_reducible rfl)
            (try simp only [List.getElem_toArray, List.getElem_cons_zero, List.getElem_cons_succ, Act.put, List.setIfInBounds_toArray, List.set_cons_zero, List.set_cons_succ])
            refine wpAnyH_take (i := 6) (oi := _) (v := ?vk6) rfl (by kernel_rfl) (by kernel_rfl) (by kernel_rfl) (fun _ _ _ h => h) (Or.inl ⟨by rfl, ?hyk6⟩) (by assumption) ?restk6
            case hyk6 => (intro wz hSw; (try dsimp only at hSw); go_simp; try with_reducible rfl)
            (try simp only [List.getElem_toArray, List.getElem_cons_zero, List.getElem_cons_succ, Act.put, List.setIfInBounds_toArray, List.set_cons_zero, List.set_cons_succ])
            refine wpAnyH_take (i := 7) (oi := _) (v := ?vk7) rfl (by kernel_rfl) (by kernel_rfl) (by kernel_rfl) (fun _ _ _ h => h) (Or.inl ⟨by rfl, ?hyk7⟩) (by assumption) ?restk7
            case hyk7 => (intro wz hSw; (try dsimp only at hSw); go_simp; try with_reducible rfl)
            (try simp only [List.getElem_toArray, List.getElem_cons_zero, List.getElem_cons_succ, Act.put, List.setIfInBounds_toArray, List.set_cons_zero, List.set_cons_succ])
            refine wpAnyH_take (i := 8) (oi := _) (v := ?vk8) rfl (by kernel_rfl) (by kernel_rfl) (by kernel_rfl) (fun _ _ _ h => h) (Or.inl ⟨by rfl, ?hyk8⟩) (by assumption) ?restk8
            case hyk8 => (intro wz hSw; (try dsimp only at hSw); go_simp; try with_reducible rfl)
            (try simp only [List.getElem_toArray, List.getElem_cons_zero, List.getElem_cons_succ, Act.put, List.setIfInBounds_toArray, List.set_cons_zero, List.set_cons_succ])
            refine wpAnyH_take (i := 9) (oi := _) (v := ?vk9) rfl (by kernel_rfl) (by kernel_rfl) (by kernel_rfl) (fun _ _ _ h => h) (Or.inl ⟨by rfl, ?hyk9⟩) (by assumption) ?restk9
            case hyk9 => (intro wz hSw; (try dsimp only at hSw); go_simp; try with_reducible rfl)
            (try simp only [List.getElem_toArray, List.getElem_cons_zero, List.getElem_cons_succ, Act.put, List.setIfInBounds_toArray, List.set_cons_zero, List.set_cons_succ])
            refine wpAnyH_ready (rs := [10]) (by kernel_rfl) (by simp) ?_
            refine AllReadyH.cons (o := _) rfl (fun K hK => ?_) AllReadyH.nil
            rw [if_pos (by rfl)]
            go_simp
            (go_at_call 15; refine (sectorK3 (by assumption) V hVb).mono ?_; rintro e w11 ⟨b9, rfl, hcv9, hk9⟩)
            dsimp only
            refine hK.out _ _ (by first | exact Keep.all2 (by assumption) cr HCV.out hb0lt | exact Keep.all2 (Keep.drew (by assumption)) cr HCV.out hb0lt) (fun hHeld => ?_)
            clear hK K
            (try simp only [List.getElem_toArray, List.getElem_cons_zero, List.getElem_cons_succ, Act.put, List.setIfInBounds_toArray, List.set_cons_zero, List.set_cons_succ])
            refine wpAnyH_ready (rs := [11]) (by kernel_rfl) (by simp) ?_
            refine AllReadyH.cons (o := _) rfl (fun K hK => ?_) AllReadyH.nil
            rw [if_pos (by rfl)]
            go_simp
            refine hK.out _ _ (by first | exact Keep.all2 (by assumption) cr HCV.out hb0lt | exact Keep.all2 (Keep.drew (by assumption)) cr HCV.out hb0lt) (fun hHeld => ?_)
            clear hK K
            (try simp only [List.getElem_toArray, List.getElem_cons_zero, List.getElem_cons_succ, Act.put, List.setIfInBounds_toArray, List.set_cons_zero, List.set_cons_succ])
            refine wpAnyH_take (i := 12) (oi := _) (v := ?vk12) rfl (by kernel_rfl) (by kernel_rfl) (by kernel_rfl) (fun _ _ _ h => h) (Or.inl ⟨by rfl, ?hyk12⟩) (by assumption) ?restk12
            case hyk12 => (intro wz hSw; (try dsimp only at hSw); go_simp; try with_reducible rfl)
            (try simp only [List.getElem_toArray, List.getElem_cons_zero, List.getElem_cons_succ, Act.put, List.setIfInBounds_toArray, List.set_cons_zero, List.set_cons_succ])
            refine wpAnyH_take (i := 13) (oi := _) (v := ?vk13) rfl (by kernel_rfl) (by kernel_rfl) (by kernel_rfl) (fun _ _ _ h => h) (Or.inl ⟨by rfl, ?hyk13⟩) (by assumption) ?restk13
            case hyk13 => (intro wz hSw; (try dsimp only at hSw); go_simp; try with_reducible rfl)
            (try simp only [List.getElem_toArray, List.getElem_cons_zero, List.getElem_cons_succ, Act.put, List.setIfInBounds_toArray, List.set_cons_zero, List.set_cons_succ])
            refine wpAnyH_done (by kernel_rfl) ?_ _
            go_wp2
            go_roundw
            case rel => exact ⟨j2 + 1, S9, by omega, by go_num, hk9.2⟩
            case measure => simp [intOf]; omega
          · obtain rfl : j2 = K := by omega
            go_wp2_with (first
              | (go_at_call 12; go_in)
              | (go_at_call 22; refine (diskCut_any HD2.out nF _ (by omega) 6 (EN1.out (l.length + 1))).mono ?_; clear EN1; rintro e w12 ⟨S12, rfl, hh, _⟩; replace HD2 := Lib.hid hh; clear hh)
              | (go_at_call 22; refine (diskCut_any HD2.out nF _ (by omega) 6 (EN2.out (l.length + 1))).mono ?_; clear EN2; rintro e w12 ⟨S12, rfl, hh, _⟩; replace HD2 := Lib.hid hh; clear hh)
              | (go_at_call 10; refine (awake5_any _).mono ?_; rintro e w13 ⟨rfl, hb⟩; have HZ := Lib.hid (HD2.out.below.trans (hb.mono HD2.out.below.size)); clear hb))
            go_ret
            exact ⟨rfl, HZ.out⟩
      | false =>
        go_wp2_with (first
          | (go_at_call 12; go_in)
          | (go_at_call 16; refine (diskFlush_any HD.out nF 0 EF.out).mono ?_; clear EF; rintro e w6 ⟨S6, rfl, hh, _⟩; replace HD := Lib.hid hh; clear hh)
          | (go_at_call 22; refine (diskCut_any HD.out nF _ (by omega) 0 EC1.out).mono ?_; rintro e w4 ⟨S4, rfl, hh, _⟩; replace HD := Lib.hid hh; clear hh)
          | (go_at_call 18; refine (diskCrash_any HD.out _ len2 cap2 pk (HP.out.grownB HX2.out HD.out.below) (fun h x e => HD.out.fresh (Or.inr (HX2.out h x e))) hc2 hn2).mono ?_; rw [EX.out (l.length)]; rintro e w7 ⟨S7, rfl, hh, _⟩; replace HD := Lib.hid hh; clear hh)
          | (go_at_call 20; refine (diskSize_any HD.out nF _ 0 (EZ.out (l.length))).mono ?_; rintro e w8 ⟨S8, rfl, hh, _⟩; replace HD := Lib.hid hh; clear hh))
        go_loopw [16] (fun i wr => ∃ (j : Nat) (S : Nat → Prop), j ≤ K ∧ i = .int .i64 j ∧ Hid (Has w p (one 1000 nF T T [] 0 false (l.length)) wr S)) (fun i _ => K - (intOf i).toNat)
        case atStart => exact ⟨0, _, Nat.zero_le _, rfl, HD.out⟩
        case round =>
          obtain ⟨j2, S2, hj2, rfl, HD2⟩ := hrel
          by_cases hlt2 : j2 < K
          · have hj2l : j2 < j := (by omega)
            obtain ⟨V, HV⟩ := named (l.getD j2 0)
            have HCV := Lib.hid (HB.out.cellAt j2 (by omega))
            obtain ⟨V, HV⟩ := named (l.getD j2 0)
            have hVb := HLB.out j2 (by omega)
            have ERj := Lib.hid (ER.out (l.length) j2 hlt2)
            rw [HV.out] at HCV hVb ERj
            go_wp2_with (go_at_call 19; refine (diskRead_any HD2.out nF _ 1 (by omega) (by omega) _ 0 ERj.out).mono ?_; rintro e w9 hp; obtain ⟨ar, cr, S9, rfl, hO, hh, _⟩ := hp.named (secC_len _); have hk : Keep w p (one 1000 nF T T [] 0 false (l.length)) S9 ar 16 (secC V) w9 := ⟨hO, hh⟩; clear hO hh hp)
            refine wp_region_held_drew (S := fun w' => (convert 22 9 (.slice ar 16 cr)).run Try.prog w' = .ok (.string (strOfNums (secC V))) w' ∧ w'.cell? ⟨b0, off0 + j2, none⟩ = some (.int .u8 V) ∧ Keep w p (one 1000 nF T T [] 0 false (l.length)) S9 ar 16 (secC V) w') (by kernel_rfl) (by first | exact Keep.all2 (by assumption) cr HCV.out hb0lt | exact Keep.all2 (Keep.drew (by assumption)) cr HCV.out hb0lt) (fun hHeld => ?_)
            refine wpAnyH_take (i := 0) (oi := _) (v := ?vm0) rfl (by kernel_rfl) (by kernel_rfl) (by kernel_rfl) (fun _ _ _ h => h) (Or.inl ⟨by rfl, ?hym0⟩) (by assumption) ?restm0
            case hym0 => (intro wz hSw; (try dsimp only at hSw); go_simp; try with_reducible rfl)
            (try simp only [List.getElem_toArray, List.getElem_cons_zero, Act.put, List.setIfInBounds_toArray, List.set_cons_zero, List.set_cons_succ])
            refine wpAnyH_ready (rs := [1]) (by kernel_rfl) (by simp) ?_
            refine AllReadyH.cons (o := _) rfl (fun K hK => ?_) AllReadyH.nil
            rw [if_pos (by rfl)]
            go_simp
            (go_at_call 12; refine (num5_any _ _).mono ?_; rintro e w10 ⟨rfl, rfl⟩)
            dsimp only
            refine hK.out _ _ (by first | exact Keep.all2 (by assumption) cr HCV.out hb0lt | exact Keep.all2 (Keep.drew (by assumption)) cr HCV.out hb0lt) (fun hHeld => ?_)
            clear hK K
            (try simp only [List.getElem_toArray, List.getElem_cons_zero, List.getElem_cons_succ, Act.put, List.setIfInBounds_toArray, List.set_cons_zero, List.set_cons_succ])
            refine wpAnyH_take (i := 2) (oi := _) (v := ?vm2) rfl (by kernel_rfl) (by kernel_rfl) (by kernel_rfl) (fun _ _ _ h => h) (Or.inl ⟨by rfl, ?hym2⟩) (by assumption) ?restm2
            case hym2 => (intro wz hSw; (try dsimp only at hSw); go_simp; try with_reducible rfl)
            (try simp only [List.getElem_toArray, List.getElem_cons_zero, List.getElem_cons_succ, Act.put, List.setIfInBounds_toArray, List.set_cons_zero, List.set_cons_succ])
            refine wpAnyH_take (i := 3) (oi := _) (v := ?vm3) rfl (by kernel_rfl) (by kernel_rfl) (by kernel_rfl) (fun _ _ _ h => h) (Or.inl ⟨by rfl, ?hym3⟩) (by assumption) ?restm3
            case hym3 => (intro wz hSw; (try dsimp only at hSw); go_simp; try with_reducible rfl)
            (try simp only [List.getElem_toArray, List.getElem_cons_zero, List.getElem_cons_succ, Act.put, List.setIfInBounds_toArray, List.set_cons_zero, List.set_cons_succ])
            refine wpAnyH_take (i := 4) (oi := _) (v := ?vm4) rfl (by kernel_rfl) (by kernel_rfl) (by kernel_rfl) (fun _ _ _ h => h) (Or.inl ⟨by rfl, ?hym4⟩) (by assumption) ?restm4
            case hym4 => (intro wz hSw; (try dsimp only at hSw); go_simp; try with_reducible rfl)
            (try simp only [List.getElem_toArray, List.getElem_cons_zero, List.getElem_cons_succ, Act.put, List.setIfInBounds_toArray, List.set_cons_zero, List.set_cons_succ])
            refine wpAnyH_take (i := 5) (oi := _) (v := ?vm5) rfl (by kernel_rfl) (by kernel_rfl) (by kernel_rfl) (fun _ _ _ h => h) (Or.inl ⟨by rfl, ?hym5⟩) (by assumption) ?restm5
            case hym5 => (intro wz hSw; (try dsimp only at hSw); go_simp; try with_reducible rfl)
            (try simp only [List.getElem_toArray, List.getElem_cons_zero, List.getElem_cons_succ, Act.put, List.setIfInBounds_toArray, List.set_cons_zero, List.set_cons_succ])
            refine wpAnyH_take (i := 6) (oi := _) (v := ?vm6) rfl (by kernel_rfl) (by kernel_rfl) (by kernel_rfl) (fun _ _ _ h => h) (Or.inl ⟨by rfl, ?hym6⟩) (by assumption) ?restm6
            case hym6 => (intro wz hSw; (try dsimp only at hSw); go_simp; try with_reducible rfl)
            (try simp only [List.getElem_toArray, List.getElem_cons_zero, List.getElem_cons_succ, Act.put, List.setIfInBounds_toArray, List.set_cons_zero, List.set_cons_succ])
            refine wpAnyH_take (i := 7) (oi := _) (v := ?vm7) rfl (by kernel_rfl) (by kernel_rfl) (by kernel_rfl) (fun _ _ _ h => h) (Or.inl ⟨by rfl, ?hym7⟩) (by assumption) ?restm7
            case hym7 => (intro wz hSw; (try dsimp only at hSw); go_simp; try with_reducible rfl)
            (try simp only [List.getElem_toArray, List.getElem_cons_zero, List.getElem_cons_succ, Act.put, List.setIfInBounds_toArray, List.set_cons_zero, List.set_cons_succ])
            refine wpAnyH_take (i := 8) (oi := _) (v := ?vm8) rfl (by kernel_rfl) (by kernel_rfl) (by kernel_rfl) (fun _ _ _ h => h) (Or.inl ⟨by rfl, ?hym8⟩) (by assumption) ?restm8
            case hym8 => (intro wz hSw; (try dsimp only at hSw); go_simp; try with_reducible rfl)
            (try simp only [List.getElem_toArray, List.getElem_cons_zero, List.getElem_cons_succ, Act.put, List.setIfInBounds_toArray, List.set_cons_zero, List.set_cons_succ])
            refine wpAnyH_take (i := 9) (oi := _) (v := ?vm9) rfl (by kernel_rfl) (by kernel_rfl) (by kernel_rfl) (fun _ _ _ h => h) (Or.inl ⟨by rfl, ?hym9⟩) (by assumption) ?restm9
            case hym9 => (intro wz hSw; (try dsimp only at hSw); go_simp; try with_reducible rfl)
            (try simp only [List.getElem_toArray, List.getElem_cons_zero, List.getElem_cons_succ, Act.put, List.setIfInBounds_toArray, List.set_cons_zero, List.set_cons_succ])
            refine wpAnyH_ready (rs := [10]) (by kernel_rfl) (by simp) ?_
            refine AllReadyH.cons (o := _) rfl (fun K hK => ?_) AllReadyH.nil
            rw [if_pos (by rfl)]
            go_simp
            (go_at_call 15; refine (sectorK3 (by assumption) V hVb).mono ?_; rintro e w11 ⟨b9, rfl, hcv9, hk9⟩)
            dsimp only
            refine hK.out _ _ (by first | exact Keep.all2 (by assumption) cr HCV.out hb0lt | exact Keep.all2 (Keep.drew (by assumption)) cr HCV.out hb0lt) (fun hHeld => ?_)
            clear hK K
            (try simp only [List.getElem_toArray, List.getElem_cons_zero, List.getElem_cons_succ, Act.put, List.setIfInBounds_toArray, List.set_cons_zero, List.set_cons_succ])
            refine wpAnyH_ready (rs := [11]) (by kernel_rfl) (by simp) ?_
            refine AllReadyH.cons (o := _) rfl (fun K hK => ?_) AllReadyH.nil
            rw [if_pos (by rfl)]
            go_simp
            refine hK.out _ _ (by first | exact Keep.all2 (by assumption) cr HCV.out hb0lt | exact Keep.all2 (Keep.drew (by assumption)) cr HCV.out hb0lt) (fun hHeld => ?_)
            clear hK K
            (try simp only [List.getElem_toArray, List.getElem_cons_zero, List.getElem_cons_succ, Act.put, List.setIfInBounds_toArray, List.set_cons_zero, List.set_cons_succ])
            refine wpAnyH_take (i := 12) (oi := _) (v := ?vm12) rfl (by kernel_rfl) (by kernel_rfl) (by kernel_rfl) (fun _ _ _ h => h) (Or.inl ⟨by rfl, ?hym12⟩) (by assumption) ?restm12
            case hym12 => (intro wz hSw; (try dsimp only at hSw); go_simp; try with_reducible rfl)
            (try simp only [List.getElem_toArray, List.getElem_cons_zero, List.getElem_cons_succ, Act.put, List.setIfInBounds_toArray, List.set_cons_zero, List.set_cons_succ])
            refine wpAnyH_take (i := 13) (oi := _) (v := ?vm13) rfl (by kernel_rfl) (by kernel_rfl) (by kernel_rfl) (fun _ _ _ h => h) (Or.inl ⟨by rfl, ?hym13⟩) (by assumption) ?restm13
            case hym13 => (intro wz hSw; (try dsimp only at hSw); go_simp; try with_reducible rfl)
            (try simp only [List.getElem_toArray, List.getElem_cons_zero, List.getElem_cons_succ, Act.put, List.setIfInBounds_toArray, List.set_cons_zero, List.set_cons_succ])
            refine wpAnyH_done (by kernel_rfl) ?_ _
            go_wp2
            go_roundw
            case rel => exact ⟨j2 + 1, S9, by omega, by go_num, hk9.2⟩
            case measure => simp [intOf]; omega
          · obtain rfl : j2 = K := by omega
            go_wp2_with (first
              | (go_at_call 12; go_in)
              | (go_at_call 22; refine (diskCut_any HD2.out nF _ (by omega) 6 (EN1.out (l.length))).mono ?_; clear EN1; rintro e w12 ⟨S12, rfl, hh, _⟩; replace HD2 := Lib.hid hh; clear hh)
              | (go_at_call 22; refine (diskCut_any HD2.out nF _ (by omega) 6 (EN2.out (l.length))).mono ?_; clear EN2; rintro e w12 ⟨S12, rfl, hh, _⟩; replace HD2 := Lib.hid hh; clear hh)
              | (go_at_call 10; refine (awake5_any _).mono ?_; rintro e w13 ⟨rfl, hb⟩; have HZ := Lib.hid (HD2.out.below.trans (hb.mono HD2.out.below.size)); clear hb))
            go_ret
            exact ⟨rfl, HZ.out⟩

set_option maxRecDepth 100000 in
theorem lifted (os : Os) (started : os.Started) (H : Type) (enc : TypeId × Value → H) :
    ReturnsInHanded {} Try.checked os 8 .any (Rows.diskCutsSpec.pre6 enc Try.prog Try.f8 Rows.diskCutsRow.domain false) (Rows.diskCutsSpec.post enc Try.prog Try.f8 false true false false) := by
  refine returnsInHanded_of_change (C := Try.checked) own started (by kernel_rfl) Try.func8
    (ChangeSpec.witness6 (enc := enc) (C := Try.checked) false ⟨#[], #[.slice none 0 0, .int .u8 0, .slice none 0 0, .bool false], []⟩ 8 (by kernel_rfl) (by kernel_rfl) (by kernel_rfl) (by kernel_rfl)) ?_
  intro W base args ds gs before hval0 hW hcnd _
  have hval : ∀ (j : Nat) t v, Try.f8.params[j]? = some t → args[j]? = some v → Value.okWide Try.prog W .any base t v := hval0
  have hW' := hW
  obtain ⟨p, q, hA0, hV, rfl, hfz, hnd⟩ := hW
  have hA : DataW.TrodAll enc Try.prog W 0 (fun _ => true) true Try.f8.params.toList args.toList ds p := hA0
  rw [Try.params8] at hA hval
  obtain ⟨v0, vs0, d0, ds0, p0, q0, hargs, rfl, rfl, h0, r0⟩ := trodAll_cons hA
  obtain ⟨v1, vs1, d1, ds1, p1, q1, rfl, rfl, rfl, h1, r1⟩ := trodAll_cons r0
  obtain ⟨v2, vs2, d2, ds2, p2, q2, rfl, rfl, rfl, h2, r2⟩ := trodAll_cons r1
  obtain ⟨v3, vs3, d3, ds3, p3, q3, rfl, rfl, rfl, h3, r3⟩ := trodAll_cons r2
  obtain ⟨rfl, rfl, rfl⟩ := trodAll_nil r3
  obtain rfl : args = #[v0, v1, v2, v3] := by cases args; simp_all
  obtain ⟨rfl, rfl⟩ := trodVars_none hV
  have k0 := h0
  have lt0 : ∀ x ∈ p0, x.block < W.heap.size := by obtain ⟨m, hm⟩ := k0; exact DataW.trod_lt m _ _ _ hm
  obtain ⟨a0, len0, cap0, rfl⟩ := okWide_slice Try.underlying22 (hval 0 22 v0 rfl rfl)
  obtain ⟨z0, w0⟩ : ∃ zs, IsRow .u8 W a0 len0 cap0 zs := by
    obtain ⟨fuel, hf⟩ := h0
    rcases open_ints Try.underlying22 Try.underlying5 (by kernel_rfl) hf with ⟨hcs, _⟩ | ⟨x, l, c, zs, hcs, _, hl, hm, hz, _, hcell, hwz⟩
    · simp [Value.cells] at hcs
      obtain ⟨rfl, rfl, rfl⟩ := hcs
      exact ⟨[], .inl ⟨rfl, rfl, rfl, rfl⟩⟩
    · simp [Value.cells] at hcs
      obtain ⟨rfl, rfl, rfl⟩ := hcs
      exact ⟨zs, .inr ⟨_, rfl, hl, hm, by simpa using hz, hcell, hwz⟩⟩
  have k1 := h1
  have lt1 : ∀ x ∈ p1, x.block < W.heap.size := by obtain ⟨m, hm⟩ := k1; exact DataW.trod_lt m _ _ _ hm
  obtain ⟨a1, rfl, _, _, w1⟩ := open_int Try.underlying5 (hval 1 5 v1 rfl rfl) h1
  have k2 := h2
  have lt2 : ∀ x ∈ p2, x.block < W.heap.size := by obtain ⟨m, hm⟩ := k2; exact DataW.trod_lt m _ _ _ hm
  obtain ⟨a2, len2, cap2, rfl⟩ := okWide_slice Try.underlying23 (hval 2 23 v2 rfl rfl)
  obtain ⟨z2, w2⟩ := bools_open h2
  have k3 := h3
  have lt3 : ∀ x ∈ p3, x.block < W.heap.size := by obtain ⟨m, hm⟩ := k3; exact DataW.trod_lt m _ _ _ hm
  obtain ⟨a3, rfl, _, _⟩ := open_bool Try.underlying4 (hval 3 4 v3 rfl rfl) h3
  clear hA0 hval0
  refine (walk a0 len0 cap0 z0 a1 a2 len2 cap2 z2 a3 W w0 w1 w2).mono fun e W' ⟨he, bel⟩ => ?_
  subst he
  exact ⟨_, rfl, _, _, _, [], _, [], hW', trodAll_mk1 (shut_bool Try.underlying4 _), (trodAll_cons_mk (Below.trod laidOut (by kernel_rfl) (of_decide_eq_true (by kernel_rfl)) k0 bel lt0) (trodAll_cons_mk (Below.trod laidOut (by kernel_rfl) (of_decide_eq_true (by kernel_rfl)) k1 bel lt1) (trodAll_cons_mk (Below.trod laidOut (by kernel_rfl) (of_decide_eq_true (by kernel_rfl)) k2 bel lt2) (trodAll_cons_mk (Below.trod laidOut (by kernel_rfl) (of_decide_eq_true (by kernel_rfl)) k3 bel lt3) trodAll_mk0)))), rfl, bel.frame _, fun h => by cases h⟩

theorem over : Rows.diskCutsRow.holds Try.pinned (OpenSpec.ofChange Rows.diskCutsSpec) :=
  OpenClaim.holds_of_wide 8 Try.f8 rfl rfl rfl rfl rfl rfl rfl ⟨rfl, rfl, rfl, rfl, rfl⟩ rfl rfl rfl rfl rfl (by kernel_rfl) Try.func8 (by kernel_rfl)
    (of_decide_eq_true (by kernel_rfl)) (by unfold Func.isWrapper; first | (rw [if_pos (by decide +kernel)]; kernel_rfl) | (rw [if_neg (by decide +kernel)]; exact ⟨rfl, rfl⟩))
    (fun os started H enc _ => lifted os started H enc)

/-- The statement. -/
theorem proved : Rows.DiskCutsSaid := over
#print axioms proved
end Go.Proofs.Ytnhaidofblfopaa.diskCuts
