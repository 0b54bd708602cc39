/-
  Proved: 'matryoshkalaw10.LruWrites' returns true for every input, and each argument reads afterwards as before: the statement LruWritesSaid as given. Conditions: none beyond the row's own.
-/
import Derived.Test.YtjpblndjfcofpaaRows
import Derived.Test.YtjpblndjfcofpaaLw
import Derived.WalkKit
import Derived.ProofKit
import Derived.OpenShut
import Derived.ShutString
import Derived.ChangeOld
import Derived.Below
namespace Go.Proofs.Ytjpblndjfcofpaa.lruWrites
open Go.ChangeShapes Go.WideShapes Go.ChangeAt Go.RowKit
open Go.ChangeMaps (open_string shut_string)
set_option linter.unusedVariables false

theorem own : ownKnob Try.prog.godebug = none := by kernel_rfl
theorem laidOut : laidOutB Try.prog = true := by kernel_rfl

/-- A slice of integers that came in: nil, or a row of cells. -/
def IsRow (k : IntKind) (w : World) (a : Option Addr) (len cap : Nat) (zs : List Int) : Prop :=
  (a = none ∧ len = 0 ∧ cap = 0 ∧ zs = []) ∨
  ∃ x, a = some x ∧ len ≤ cap ∧ cap ≤ maxLen ∧ zs.length = cap ∧ (∀ i, i < zs.length → w.cell? (x.add i) = some (.int k (zs.getD i 0))) ∧ ∀ n ∈ zs, (Lit.int k n).wf = true

def Wetting (room j : Nat) (w : World) (p : Addr) (bD : Nat) (d : Nat → Bool) (wr : World) : Prop := ∃ C S, Wet room j d C ∧ Has w p C wr S ∧ Blk wr bD 54 (bools d) ∧ ¬ S bD ∧ w.heap.size ≤ bD
/-- What a put leads to. -/
def PutQ (room j : Nat) (w : World) (p : Addr) (bD : Nat) (d d1 d2 : Nat → Bool) (l : List Int) (wr : World) (e : Ending) (w' : World) : Prop :=
  ∃ (a : Option Addr) (c : Nat) (C : Lru) (S : Nat → Prop), e = .returned (.slice a l.length c) ∧ OwnG ivV 3 1 w' 0 (.slice a l.length c) l.length l ∧ (∀ k, (Value.slice a l.length c).ownBlock = some k → k ≠ bD ∧ ¬ S k) ∧ Wet room (j + 1) d2 C ∧ Has w p C w' S ∧ Blk w' bD 54 (bools d) ∧ ¬ S bD ∧ w.heap.size ≤ bD
theorem wput_any {room j bD k : Nat} {w wr : World} {p : Addr} {d : Nat → Bool} {m : Bool} (h : Wetting room j w p bD d wr) (hk : k < 8) (hj : j < 1000) :
    ∃ (l : List Int) (d2 : Nat → Bool), l.length ≤ 1 ∧ (l.length = 0 → d2 = upd d k (d k || m)) ∧ (∀ x : Int, l[0]? = some x → ∃ o : Nat, x = o ∧ o < 8 ∧ o ≠ k ∧ upd d k (d k || m) o = true ∧ d2 = upd (upd d k (d k || m)) o false) ∧
      Calls Try.prog 16 #[.pointer (some p), .int .i64 k, .slice none 0 0, .bool m] wr (PutQ room j w p bD d (upd d k (d k || m)) d2 l wr) := by
  obtain ⟨C, S, hc, hh, hb, hS, hl⟩ := h
  obtain ⟨l, C', d2, e1, h1, h2, h3, h4⟩ := hc.put hk m (by omega)
  refine ⟨l, d2, h2, h3, h4, (lruPut0_any hh (k : Int) (by omega) m (by rw [hc.uses]; omega)).mono ?_⟩
  rw [e1]
  rintro e w' ⟨a, c, S', rfl, g1, g2, g3, g4⟩
  refine ⟨a, c, C', S', rfl, g1.rebase (Nat.zero_le _), fun j' hj' => ⟨fun e => ?_, g4 j' hj'⟩, h1, g2, hb.away hS g3, g3.far hb.lt hS, hl⟩
  subst e
  have := (g1.1.lt _ hj').1
  have := hb.lt
  omega
theorem info8 : (Try.prog.info? 54).map (·.size) = some 8 := by kernel_rfl
theorem eq8 : ∀ w : World, (binOp .eql 54 (.agg (bools fun _ => false)) (.agg #[.bool false, .bool false, .bool false, .bool false, .bool false, .bool false, .bool false, .bool false])).run Try.prog w = .ok (.bool true) w := fun w => by kernel_rfl

set_option maxRecDepth 100000 in
set_option maxHeartbeats 4000000 in
theorem walk (a0 : Int) (a1 : Option Addr) (len1 cap1 : Nat) (z1 : List Int) (w : World) (w0 : (Lit.int .u8 a0).wf = true) (w1 : IsRow .u8 w a1 len1 cap1 z1) :
    Calls Try.prog 8 #[.int .u8 a0, .slice a1 len1 cap1] w fun e w' => e = .returned (.bool true) ∧ Below w.heap.size w w' := by
  have b0 := bounds_u8 w0
  obtain ⟨n, hn⟩ : ∃ n : Nat, (1 : Int) + a0 % 6 = n := ⟨(1 + a0 % 6).toNat, by omega⟩
  have hn1 : 1 ≤ n := by omega
  have hn2 : n ≤ 6 := by omega
  have e0 : a0.tmod 6 = a0 % 6 := Int.tmod_eq_emod_of_nonneg (by omega)
  by_cases hbig : 100 < len1
  · go_enter Try.func8, Try.ntmps8
    go_wp2_with (first
      | (go_at_call 12; refine (new_ok n w (by omega) (by omega)).mono ?_; rintro e w1 ⟨p, S, rfl, hh⟩; have H1 := Lib.hid hh.below; clear hh)
      | (go_at_call 14; refine (num_any _ _).mono ?_; rintro e w' ⟨rfl, rfl⟩)
      | (go_at_call 11; refine (awake_any _).mono ?_; rintro e w2 ⟨rfl, hb⟩; have HG := Lib.hid hb; clear hb))
    go_ret
    exact ⟨rfl, Below.weak H1.out HG.out⟩
  · have hB := bytes_of w1 (by omega)
    obtain ⟨L, hL⟩ := named (z1.take len1)
    rw [hL.out] at hB
    have HB := Lib.hid hB
    clear hB hL w1
    go_enter Try.func8, Try.ntmps8
    go_wp2_with (first
      | (go_at_call 12; refine (new_ok n w (by omega) (by omega)).mono ?_; rintro e w1 ⟨p, S, rfl, hh⟩; rw [Int.toNat_natCast] at hh; have H1 : Hid (∃ S, Has w p (Lru.new n) w1 S) := ⟨S, hh⟩; clear hh)
      | (go_at_call 14; refine (num_any _ _).mono ?_; rintro e w' ⟨rfl, rfl⟩))
    rename World => wz
    obtain ⟨bD, hbD⟩ := named wz.heap.size
    have HW0 : Hid (Wetting n 0 w p wz.heap.size (fun _ => false) (wz.alloc (.cells #[.bool false, .bool false, .bool false, .bool false, .bool false, .bool false, .bool false, .bool false] 54))) := by
      obtain ⟨S, hh⟩ := H1.out
      exact ⟨_, S, Wet.start hn1 (by omega), hh.alloc _, Blk.new _ _ _, fun hS => Nat.lt_irrefl _ (hh.lt _ hS), hh.below.size⟩
    go_loopw [9] (fun s9 wr => ∃ (i : Nat) (d : Nat → Bool), i ≤ len1 ∧ s9 = .int .i64 i ∧ Hid (Wetting n i w p wz.heap.size d wr)) (fun s9 _ => len1 - (intOf s9).toNat)
    case atStart => exact ⟨0, _, Nat.zero_le _, rfl, HW0.out⟩
    case round =>
      rename World => wr1
      obtain ⟨i, d, hi, rfl, HW⟩ := hrel
      clear HW0
      by_cases hlt : i < len1
      · have HBW : Hid (Bytes wr1 a1 len1 L) := by
          obtain ⟨C, S, _, hh, _⟩ := HW.out
          exact Lib.hid (HB.out.later hh.below)
        obtain ⟨bb, off, rfl⟩ := HB.out.lies (by omega)
        have d1 := HBW.out.cellAt i (by omega)
        have s1 := HB.out.small.at (k := i) (by have := HB.out.1; omega)
        obtain ⟨c1, C1⟩ := named (L.getD i 0)
        rw [C1.out] at d1 s1
        obtain ⟨K, hK⟩ : ∃ K : Nat, c1 % 8 = K := ⟨(c1 % 8).toNat, by omega⟩
        have hK8 : K < 8 := by omega
        have x1 : c1.tmod 8 = (K : Int) := by rw [Int.tmod_eq_emod_of_nonneg (by omega)]; exact hK
        obtain ⟨M, hM⟩ := named (decide ((128 : Int) ≤ c1))
        have hM2 : decide ((128 : Int) ≤ c1) = M := hM.out
        obtain ⟨l, d2, q1, q2, q3, q4⟩ := wput_any (m := M) HW.out hK8 (by omega)
        have Q2 := Lib.hid q2
        have Q3 := Lib.hid q3
        have Q4 := Lib.hid q4
        have QL := Lib.hid q1
        unfold PutQ at Q4
        obtain ⟨nl, hnl⟩ := named l.length
        rw [hnl.out] at Q4 Q2 QL
        have hk7 : (K : Int) < 8 := by omega
        clear q1 q2 q3 q4 hK
        cases hdK : d K with
        | false =>
          have HDK : Hid ((d K || M) = M) := by rw [Hid, hdK]; rfl
          go_wp2_with (go_at_call 16; refine Q4.out.mono ?_; rintro e w3 ⟨a3, c3, C3, S3, rfl, g1, g2, g3, g4, g5, g6, g7⟩; have G1 := Lib.hid g1; have G2 := Lib.hid g2; have G3 := Lib.hid g3; have G4 := Lib.hid g4; have G5 := Lib.hid g5; have G6 := Lib.hid g6; have G7 := Lib.hid g7; have cD : w3.cell? ⟨wz.heap.size, K, none⟩ = some (.bool false) := (g5.cell K).trans ((bools_at d K hK8).trans (by rw [hdK])); have fD := g5.free K; clear g1 g2 g3 g4 g5 g6 g7)
          obtain ⟨d1, hd1⟩ := named (upd d K (d K || M))
          rw [hd1.out] at Q2 Q3
          have HD1 : Hid (Blk (w3.setCell ⟨wz.heap.size, K, none⟩ (.bool M)) wz.heap.size 54 (bools d1)) := by
            have h1 := G5.out.set K (.bool M)
            rw [bools_set, ← HDK.out, hd1.out] at h1
            rw [← HDK.out]
            exact Lib.hid h1
          have HR0 : Hid (OwnG ivV 3 1 (w3.setCell ⟨wz.heap.size, K, none⟩ (.bool M)) 0 (.slice a3 nl c3) nl l) := Lib.hid (G1.out.frame fun j hj => Below.heap_setCell w3 ⟨wz.heap.size, K, none⟩ _ j (G2.out j hj).1)
          have HC0 : Hid (Has w p C3 (w3.setCell ⟨wz.heap.size, K, none⟩ (.bool M)) S3) := Lib.hid (G4.out.set G6.out G7.out K _)
          go_loopw [13] (fun s13 wr => ∃ j : Nat, j ≤ nl ∧ s13 = .int .i64 j ∧ Hid (Blk wr wz.heap.size 54 (bools (if j < nl then d1 else d2))) ∧ Hid ((w3.setCell ⟨wz.heap.size, K, none⟩ (.bool M)).grownBy wr (some wz.heap.size))) (fun s13 _ => nl - (intOf s13).toNat)
          case atStart =>
            refine ⟨0, Nat.zero_le _, rfl, ?_, World.grownBy.refl _ _⟩
            by_cases h0 : 0 < nl
            · rw [if_pos h0]; exact HD1.out
            · rw [if_neg h0, Q2.out (by omega)]; exact HD1.out
          case round =>
            rename World => wr2
            obtain ⟨j, hj, rfl, HBL, HGR⟩ := hrel
            have HRW : Hid (OwnG ivV 3 1 wr2 0 (.slice a3 nl c3) nl l) := Lib.hid (HR0.out.frame fun j hj => HGR.out.block j (HR0.out.1.lt j hj).2 (fun e => (G2.out j hj).1 (by injection e)))
            have HCW : Hid (Has w p C3 wr2 S3) := Lib.hid (HC0.out.grown HGR.out (fun j e => by cases e; exact ⟨G6.out, G7.out⟩))
            by_cases hlt2 : j < nl
            · have hj0 : j = 0 := by have := QL.out; omega
              subst hj0
              have hnl1 : nl = 1 := by have := QL.out; omega
              rw [if_pos hlt2] at HBL
              obtain ⟨bl, rfl, hcell⟩ := own_at HRW.out (by omega)
              obtain ⟨x, hx⟩ : ∃ x, l[0]? = some x := ⟨_, List.getElem?_eq_getElem (by have := hnl.out; omega)⟩
              obtain ⟨o, rfl, ho8, hok, hdo, hd2⟩ := Q3.out x hx
              have cl' : wr2.cell? ⟨bl, 0, none⟩ = some (.int .i64 o) := hcell 0 _ hx
              have cb : wr2.cell? ⟨wz.heap.size, o, none⟩ = some (.bool true) := (HBL.out.cell o).trans ((bools_at d1 o ho8).trans (by rw [hdo]))
              have fb := HBL.out.free o
              have HNB : Hid (Blk (wr2.setCell ⟨wz.heap.size, o, none⟩ (.bool false)) wz.heap.size 54 (bools d2)) := by
                have h1 := HBL.out.set o (.bool false)
                rw [bools_set, ← hd2] at h1
                exact Lib.hid h1
              have ho7 : ¬ 7 < (o : Int) := by omega
              have ho9 : (o : Int) < 8 := by omega
              have hoK : ((o : Int) == (K : Int)) = false := by simp; omega
              have hoK2 : ¬ (o : Int) = (K : Int) := by omega
              clear hcell hx hd2 hdo
              go_wp2
              go_roundw
              case rel => exact ⟨1, by omega, rfl, by rw [if_neg (by omega)]; exact HNB.out, HGR.out.trans (grownBy_setCell4 _ _ _ _)⟩
              case measure => first | (simp [intOf]; done) | (simp [intOf]; omega)
            · obtain rfl : j = nl := by omega
              rw [if_neg hlt2] at HBL
              go_wp2
              go_roundw
              case rel => exact ⟨i + 1, d2, by omega, by go_num, C3, S3, G3.out, HCW.out, HBL.out, G6.out, G7.out⟩
              case measure => simp [intOf]; omega
        | true =>
          have HDK : Hid ((d K || M) = true) := by rw [Hid, hdK]; rfl
          go_wp2_with (go_at_call 16; refine Q4.out.mono ?_; rintro e w3 ⟨a3, c3, C3, S3, rfl, g1, g2, g3, g4, g5, g6, g7⟩; have G1 := Lib.hid g1; have G2 := Lib.hid g2; have G3 := Lib.hid g3; have G4 := Lib.hid g4; have G5 := Lib.hid g5; have G6 := Lib.hid g6; have G7 := Lib.hid g7; have cD : w3.cell? ⟨wz.heap.size, K, none⟩ = some (.bool true) := (g5.cell K).trans ((bools_at d K hK8).trans (by rw [hdK])); have fD := g5.free K; clear g1 g2 g3 g4 g5 g6 g7)
          obtain ⟨d1, hd1⟩ := named (upd d K (d K || M))
          rw [hd1.out] at Q2 Q3
          have HD1 : Hid (Blk (w3.setCell ⟨wz.heap.size, K, none⟩ (.bool true)) wz.heap.size 54 (bools d1)) := by
            have h1 := G5.out.set K (.bool true)
            rw [bools_set, ← HDK.out, hd1.out] at h1
            rw [← HDK.out]
            exact Lib.hid h1
          have HR0 : Hid (OwnG ivV 3 1 (w3.setCell ⟨wz.heap.size, K, none⟩ (.bool true)) 0 (.slice a3 nl c3) nl l) := Lib.hid (G1.out.frame fun j hj => Below.heap_setCell w3 ⟨wz.heap.size, K, none⟩ _ j (G2.out j hj).1)
          have HC0 : Hid (Has w p C3 (w3.setCell ⟨wz.heap.size, K, none⟩ (.bool true)) S3) := Lib.hid (G4.out.set G6.out G7.out K _)
          go_loopw [13] (fun s13 wr => ∃ j : Nat, j ≤ nl ∧ s13 = .int .i64 j ∧ Hid (Blk wr wz.heap.size 54 (bools (if j < nl then d1 else d2))) ∧ Hid ((w3.setCell ⟨wz.heap.size, K, none⟩ (.bool true)).grownBy wr (some wz.heap.size))) (fun s13 _ => nl - (intOf s13).toNat)
          case atStart =>
            refine ⟨0, Nat.zero_le _, rfl, ?_, World.grownBy.refl _ _⟩
            by_cases h0 : 0 < nl
            · rw [if_pos h0]; exact HD1.out
            · rw [if_neg h0, Q2.out (by omega)]; exact HD1.out
          case round =>
            rename World => wr2
            obtain ⟨j, hj, rfl, HBL, HGR⟩ := hrel
            have HRW : Hid (OwnG ivV 3 1 wr2 0 (.slice a3 nl c3) nl l) := Lib.hid (HR0.out.frame fun j hj => HGR.out.block j (HR0.out.1.lt j hj).2 (fun e => (G2.out j hj).1 (by injection e)))
            have HCW : Hid (Has w p C3 wr2 S3) := Lib.hid (HC0.out.grown HGR.out (fun j e => by cases e; exact ⟨G6.out, G7.out⟩))
            by_cases hlt2 : j < nl
            · have hj0 : j = 0 := by have := QL.out; omega
              subst hj0
              have hnl1 : nl = 1 := by have := QL.out; omega
              rw [if_pos hlt2] at HBL
              obtain ⟨bl, rfl, hcell⟩ := own_at HRW.out (by omega)
              obtain ⟨x, hx⟩ : ∃ x, l[0]? = some x := ⟨_, List.getElem?_eq_getElem (by have := hnl.out; omega)⟩
              obtain ⟨o, rfl, ho8, hok, hdo, hd2⟩ := Q3.out x hx
              have cl' : wr2.cell? ⟨bl, 0, none⟩ = some (.int .i64 o) := hcell 0 _ hx
              have cb : wr2.cell? ⟨wz.heap.size, o, none⟩ = some (.bool true) := (HBL.out.cell o).trans ((bools_at d1 o ho8).trans (by rw [hdo]))
              have fb := HBL.out.free o
              have HNB : Hid (Blk (wr2.setCell ⟨wz.heap.size, o, none⟩ (.bool false)) wz.heap.size 54 (bools d2)) := by
                have h1 := HBL.out.set o (.bool false)
                rw [bools_set, ← hd2] at h1
                exact Lib.hid h1
              have ho7 : ¬ 7 < (o : Int) := by omega
              have ho9 : (o : Int) < 8 := by omega
              have hoK : ((o : Int) == (K : Int)) = false := by simp; omega
              have hoK2 : ¬ (o : Int) = (K : Int) := by omega
              clear hcell hx hd2 hdo
              go_wp2
              go_roundw
              case rel => exact ⟨1, by omega, rfl, by rw [if_neg (by omega)]; exact HNB.out, HGR.out.trans (grownBy_setCell4 _ _ _ _)⟩
              case measure => first | (simp [intOf]; done) | (simp [intOf]; omega)
            · obtain rfl : j = nl := by omega
              rw [if_neg hlt2] at HBL
              go_wp2
              go_roundw
              case rel => exact ⟨i + 1, d2, by omega, by go_num, C3, S3, G3.out, HCW.out, HBL.out, G6.out, G7.out⟩
              case measure => simp [intOf]; omega
      · obtain rfl : i = len1 := by omega
        obtain ⟨C, S, hc, hh, hb, hS, hl⟩ := HW.out
        have HFL := Lib.hid (lruFlush_any hh)
        have HMEM := Lib.hid (flush_mem hc.ok)
        have HND := Lib.hid (flush_lines hc.ok).nodup
        have HWET := Lib.hid hc
        unfold GivesL at HFL
        obtain ⟨l, hl'⟩ := named C.flush.1
        rw [hl'.out] at HFL HMEM HND
        obtain ⟨nl, hnl⟩ := named l.length
        rw [hnl.out] at HFL
        have HBL0 := Lib.hid hb
        have HSS := Lib.hid hS
        have HLL := Lib.hid hl
        clear hc hh hb hS hl
        go_wp2_with (go_at_call 18; refine HFL.out.mono ?_; rintro e w5 ⟨al, cl, S5, rfl, g1, g2, g3, g4⟩; have L1 := Lib.hid g1; have L2 := Lib.hid g2; have L3 := Lib.hid g3; clear g1 g2 g3 g4)
        have hnlb : nl ≤ 100000000 := L1.out.2.2
        have HB5 : Hid (Blk w5 wz.heap.size 54 (bools d)) := Lib.hid (HBL0.out.away HSS.out L3.out)
        have HS5 : Hid (¬ S5 wz.heap.size) := Lib.hid (L3.out.far HBL0.out.lt HSS.out)
        go_loopw [15] (fun s15 wr => ∃ t : Nat, t ≤ nl ∧ s15 = .int .i64 t ∧ Hid (Blk wr wz.heap.size 54 (bools (dT d l t))) ∧ Hid (w5.grownBy wr (some wz.heap.size))) (fun s15 _ => nl - (intOf s15).toNat)
        case atStart => exact ⟨0, Nat.zero_le _, rfl, by rw [dT_zero]; exact HB5.out, World.grownBy.refl _ _⟩
        case round =>
          rename World => wr6
          obtain ⟨t, ht, rfl, HBL, HGR⟩ := hrel
          have HRW : Hid (OwnG ivV 3 1 wr6 0 (.slice al nl cl) nl l) := Lib.hid ((L1.out.rebase (Nat.zero_le _)).frame fun j hj => HGR.out.block j (L1.out.1.lt j hj).2 (fun e => by
            cases e
            have h1 := (L1.out.1.lt _ hj).1
            have h2 := HBL0.out.lt
            omega))
          by_cases hlt2 : t < nl
          · obtain ⟨bl, rfl, hcell⟩ := own_at HRW.out (by omega)
            obtain ⟨x, hx⟩ : ∃ x, l[t]? = some x := ⟨_, List.getElem?_eq_getElem (by have := hnl.out; omega)⟩
            have hxd := (HMEM.out x).1 (List.mem_of_getElem? hx)
            have hxr := HWET.out.keys x (isD_present hxd)
            obtain ⟨o, rfl⟩ : ∃ o : Nat, x = o := ⟨x.toNat, by omega⟩
            have hdo : d o = true := by rw [HWET.out.flags o (by omega)]; exact hxd
            have cl' : wr6.cell? ⟨bl, t, none⟩ = some (.int .i64 o) := hcell t _ hx
            have cb : wr6.cell? ⟨wz.heap.size, o, none⟩ = some (.bool true) := (HBL.out.cell o).trans ((bools_at _ o (by omega)).trans (by rw [dT_true HND.out hx hdo]))
            have fb := HBL.out.free o
            have HNB : Hid (Blk (wr6.setCell ⟨wz.heap.size, o, none⟩ (.bool false)) wz.heap.size 54 (bools (dT d l (t + 1)))) := by
              have h1 := HBL.out.set o (.bool false)
              rw [bools_set, dT_succ d l t o hx] at h1
              exact Lib.hid h1
            have ho7 : ¬ 7 < (o : Int) := by omega
            have ho9 : (o : Int) < 8 := by omega
            clear hcell hx hdo hxd
            go_wp2
            go_roundw
            case rel => exact ⟨t + 1, by omega, by go_num, HNB.out, HGR.out.trans (grownBy_setCell4 _ _ _ _)⟩
            case measure => simp [intOf]; omega
          · obtain rfl : t = nl := by omega
            have HALL : Hid (bools (dT d l t) = bools fun _ => false) := by
              rw [Hid]
              unfold bools
              congr 1
              refine List.map_congr_left fun i hi => ?_
              rw [List.mem_range] at hi
              unfold dT
              rw [List.take_of_length_le (by have := hnl.out; omega)]
              cases hdi : d i with
              | false => rfl
              | true =>
                have h1 := HWET.out.flags i hi
                rw [hdi] at h1
                have h2 := (HMEM.out i).2 h1.symm
                simp [h2]
            rw [HALL.out] at HBL
            have HCW : Hid (Has w p C.flush.2 wr6 S5) := Lib.hid (L2.out.grown HGR.out (fun j e => by cases e; exact ⟨HS5.out, HLL.out⟩))
            obtain ⟨CS, hCS⟩ := named (bools fun _ => false)
            have heq := eq8
            rw [hCS.out] at heq HBL
            go_wp2_with (first
              | (refine wpList_load_row rfl 54 (.tmp 8) rfl wz.heap.size rfl 54 _ (0, 0) _ HBL.out Try.underlying54 rfl (by rw [info8, ← hCS.out]; rfl) ?_)
              | (go_at_call 11; refine (awake_any _).mono ?_; rintro e w2 ⟨rfl, hb⟩; have HG := Lib.hid hb; clear hb))
            go_ret
            exact ⟨rfl, Below.weak HCW.out.below HG.out⟩

set_option maxRecDepth 100000 in
theorem lifted (os : Os) (started : os.Started) (H : Type) (enc : TypeId × Value → H) :
    ReturnsInHanded {} Try.checked os 8 .any (Rows.lruWritesSpec.pre6 enc Try.prog Try.f8 Rows.lruWritesRow.domain false) (Rows.lruWritesSpec.post enc Try.prog Try.f8 false true false false) := by
  refine returnsInHanded_of_change (C := Try.checked) own started (by kernel_rfl) Try.func8
    (ChangeSpec.witness6 (enc := enc) (C := Try.checked) false ⟨#[], #[.int .u8 0, .slice none 0 0], []⟩ 8 (by kernel_rfl) (by kernel_rfl) (by kernel_rfl) (by kernel_rfl)) ?_
  intro W base args ds gs before hval0 hW hcnd _
  have hval : ∀ (j : Nat) t v, Try.f8.params[j]? = some t → args[j]? = some v → Value.okWide Try.prog W .any base t v := hval0
  have hW' := hW
  obtain ⟨p, q, hA0, hV, rfl, hfz, hnd⟩ := hW
  have hA : DataW.TrodAll enc Try.prog W 0 (fun _ => true) true Try.f8.params.toList args.toList ds p := hA0
  rw [Try.params8] at hA hval
  obtain ⟨v0, vs0, d0, ds0, p0, q0, hargs, rfl, rfl, h0, r0⟩ := trodAll_cons hA
  obtain ⟨v1, vs1, d1, ds1, p1, q1, rfl, rfl, rfl, h1, r1⟩ := trodAll_cons r0
  obtain ⟨rfl, rfl, rfl⟩ := trodAll_nil r1
  obtain rfl : args = #[v0, v1] := by cases args; simp_all
  obtain ⟨rfl, rfl⟩ := trodVars_none hV
  have k0 := h0
  have lt0 : ∀ x ∈ p0, x.block < W.heap.size := by obtain ⟨m, hm⟩ := k0; exact DataW.trod_lt m _ _ _ hm
  obtain ⟨a0, rfl, _, _, w0⟩ := open_int Try.underlying5 (hval 0 5 v0 rfl rfl) h0
  have k1 := h1
  have lt1 : ∀ x ∈ p1, x.block < W.heap.size := by obtain ⟨m, hm⟩ := k1; exact DataW.trod_lt m _ _ _ hm
  obtain ⟨a1, len1, cap1, rfl⟩ := okWide_slice Try.underlying34 (hval 1 34 v1 rfl rfl)
  obtain ⟨z1, w1⟩ : ∃ zs, IsRow .u8 W a1 len1 cap1 zs := by
    obtain ⟨fuel, hf⟩ := h1
    rcases open_ints Try.underlying34 Try.underlying5 (by kernel_rfl) hf with ⟨hcs, _⟩ | ⟨x, l, c, zs, hcs, _, hl, hm, hz, _, hcell, hwz⟩
    · simp [Value.cells] at hcs
      obtain ⟨rfl, rfl, rfl⟩ := hcs
      exact ⟨[], .inl ⟨rfl, rfl, rfl, rfl⟩⟩
    · simp [Value.cells] at hcs
      obtain ⟨rfl, rfl, rfl⟩ := hcs
      exact ⟨zs, .inr ⟨_, rfl, hl, hm, by simpa using hz, hcell, hwz⟩⟩
  clear hA0 hval0
  refine (walk a0 a1 len1 cap1 z1 W w0 w1).mono fun e W' ⟨he, bel⟩ => ?_
  subst he
  exact ⟨_, rfl, _, _, _, [], _, [], hW', trodAll_mk1 (shut_bool Try.underlying4 _), (trodAll_cons_mk (Below.trod laidOut (by kernel_rfl) (of_decide_eq_true (by kernel_rfl)) k0 bel lt0) (trodAll_cons_mk (Below.trod laidOut (by kernel_rfl) (of_decide_eq_true (by kernel_rfl)) k1 bel lt1) trodAll_mk0)), rfl, bel.frame _, fun h => by cases h⟩

theorem over : Rows.lruWritesRow.holds Try.pinned (OpenSpec.ofChange Rows.lruWritesSpec) :=
  OpenClaim.holds_of_wide 8 Try.f8 rfl rfl rfl rfl rfl rfl rfl ⟨rfl, rfl, rfl, rfl, rfl⟩ rfl rfl rfl rfl rfl (by kernel_rfl) Try.func8 (by kernel_rfl)
    (of_decide_eq_true (by kernel_rfl)) (by unfold Func.isWrapper; first | (rw [if_pos (by decide +kernel)]; kernel_rfl) | (rw [if_neg (by decide +kernel)]; exact ⟨rfl, rfl⟩))
    (fun os started H enc _ => lifted os started H enc)

/-- The statement. -/
theorem proved : Rows.LruWritesSaid := over
#print axioms proved
end Go.Proofs.Ytjpblndjfcofpaa.lruWrites
