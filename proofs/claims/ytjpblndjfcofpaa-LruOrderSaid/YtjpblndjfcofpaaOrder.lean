/-
  Proved: 'matryoshkalaw10.LruOrder' returns true for every input, and each argument reads afterwards as before: the statement LruOrderSaid as given. Conditions: none beyond the row's own.
-/
import Derived.Test.YtjpblndjfcofpaaRows
import Derived.Test.YtjpblndjfcofpaaLv
import Derived.Deep.QuietTactic
import Derived.BigQuiet
import Derived.WalkKit
import Derived.ProofKit
import Derived.OpenShut
import Derived.ShutString
import Derived.ChangeOld
import Derived.Below
namespace Go.Proofs.Ytjpblndjfcofpaa.lruOrder
open Go.ChangeShapes Go.WideShapes Go.ChangeAt Go.RowKit
open Go.ChangeMaps (open_string shut_string)
set_option linter.unusedVariables false

theorem own : ownKnob Try.prog.godebug = none := by kernel_rfl
theorem laidOut : laidOutB Try.prog = true := by kernel_rfl

/-- A slice of integers that came in: nil, or a row of cells. -/
def IsRow (k : IntKind) (w : World) (a : Option Addr) (len cap : Nat) (zs : List Int) : Prop :=
  (a = none ∧ len = 0 ∧ cap = 0 ∧ zs = []) ∨
  ∃ x, a = some x ∧ len ≤ cap ∧ cap ≤ maxLen ∧ zs.length = cap ∧ (∀ i, i < zs.length → w.cell? (x.add i) = some (.int k (zs.getD i 0))) ∧ ∀ n ∈ zs, (Lit.int k n).wf = true

def Putting (room : Nat) (w : World) (p : Addr) (j : Nat) (wr : World) : Prop := ∃ C S, Calm room j C ∧ Has w p C wr S
theorem putB_any {room j : Nat} {w wr : World} {p : Addr} (h : Putting room w p j wr) (hj : j < room) (h8 : j < 256) : Calls Try.prog 16 #[.pointer (some p), .int .i64 j, .slice (some ⟨wr.heap.size, 0, none⟩) 1 1, .bool true] (wr.alloc (.cells #[.int .u8 j] 5)) fun e w' => (∃ a c, e = .returned (.slice a 0 c)) ∧ Putting room w p (j + 1) w' := by
  obtain ⟨C, S, hc, hh⟩ := h
  have hr2 := hc.ok.room2
  have hr := hc.room
  obtain ⟨C', e1, e2⟩ := hc.put hj [(j : Int)] (by simp)
  refine (lruPut_any (hh.alloc _) (j : Int) (by omega) (some ⟨wr.heap.size, 0, none⟩) 1 1 [(j : Int)] true ⟨one_byte wr j (by omega), fun x hx _ => ?_⟩ (fun e => by cases e) (by omega) (by rw [hc.uses]; omega)).mono ?_
  · cases hx
    exact ⟨by rw [World.size_alloc]; exact Nat.lt_succ_self _, fun hS => by have := hh.lt _ hS; exact absurd this (Nat.lt_irrefl _)⟩
  · rw [e1]
    rintro e w' ⟨a, c, S', rfl, _, h2, _, _⟩
    exact ⟨⟨a, c, rfl⟩, C', S', e2, h2⟩
def Pairing (k : Nat) (w : World) (p : Addr) (wr : World) (a : Option Addr) (n c : Nat) (P : List (Int × Int)) : Prop :=
  ∃ C S, Ordering k P C ∧ Has w p C wr S ∧ OwnG prV 42 2 wr w.heap.size (.slice a n c) n P ∧ ∀ j, (Value.slice a n c).ownBlock = some j → ¬ S j
def StepQ (k : Nat) (w : World) (p : Addr) (a : Option Addr) (n c : Nat) (P : List (Int × Int)) (x y : Int) (E : Int) (e : Ending) (w' : World) : Prop :=
  e = .returned (.int .i64 E) ∧ ∃ C S, (if E = 0 then Ordering k (P ++ [(x, y)]) C else Ordering k P C) ∧ Has w p C w' S ∧ OwnG prV 42 2 w' w.heap.size (.slice a n c) n P ∧ ∀ j, (Value.slice a n c).ownBlock = some j → ¬ S j
theorem step_any {k n c : Nat} {w wr : World} {p : Addr} {a : Option Addr} {P : List (Int × Int)} (h : Pairing k w p wr a n c P) {x y : Int} (hx : 0 ≤ x ∧ x < k) (hy : 0 ≤ y ∧ y < k) :
    ∃ E, ∀ q, Calls Try.prog 17 #[.pointer (some p), .int .i64 x, .int .i64 y] (wr.drewN q) (StepQ k w p a n c P x y E) := by
  obtain ⟨C, S, ho, hh, hr, hf⟩ := h
  rcases ho.step hx hy with ⟨C', e1, e2⟩ | e1
  · refine ⟨0, fun q => (lruAfter_any (hh.later (below_drewN (Below.refl _ _) q)) x y).mono ?_⟩
    rw [e1]
    rintro e w' ⟨S', rfl, h2, h3⟩
    exact ⟨rfl, C', S', by rw [if_pos rfl]; exact e2, h2, hr.frame fun j hj => h3.block j (hr.1.lt j hj).2 (hf j hj), fun j hj => h3.far (hr.1.lt j hj).2 (hf j hj)⟩
  · refine ⟨11, fun q => (lruAfter_any (hh.later (below_drewN (Below.refl _ _) q)) x y).mono ?_⟩
    rw [e1]
    rintro e w' ⟨S', rfl, h2, h3⟩
    exact ⟨rfl, C, S', by rw [if_neg (by decide)]; exact ho, h2, hr.frame fun j hj => h3.block j (hr.1.lt j hj).2 (hf j hj), fun j hj => h3.far (hr.1.lt j hj).2 (hf j hj)⟩

set_option maxRecDepth 100000 in
set_option maxHeartbeats 4000000 in
theorem walk (a0 : Int) (a1 : Option Addr) (len1 cap1 : Nat) (z1 : List Int) (w : World) (w0 : (Lit.int .u8 a0).wf = true) (w1 : IsRow .u8 w a1 len1 cap1 z1) :
    Calls Try.prog 4 #[.int .u8 a0, .slice a1 len1 cap1] w fun e w' => e = .returned (.bool true) ∧ Below w.heap.size w w' := by
  have b0 := bounds_u8 w0
  obtain ⟨k, hk⟩ : ∃ k : Nat, (2 : Int) + a0 % 10 = k := ⟨(2 + a0 % 10).toNat, by omega⟩
  have hk2 : 2 ≤ k := by omega
  have hk3 : k ≤ 11 := by omega
  have e0 : a0.tmod 10 = a0 % 10 := Int.tmod_eq_emod_of_nonneg (by omega)
  by_cases hbig : 60 < len1
  · go_enter Try.func4, Try.ntmps4
    go_wp2_with (first
      | (go_at_call 12; refine (new_ok 100 w (by omega) (by omega)).mono ?_; rintro e w1 ⟨p, S, rfl, hh⟩; have H1 := Lib.hid hh.below; clear hh)
      | (go_at_call 14; refine (num_any _ _).mono ?_; rintro e w' ⟨rfl, rfl⟩)
      | (go_at_call 11; refine (awake_any _).mono ?_; rintro e w2 ⟨rfl, hb⟩; have HG := Lib.hid hb; clear hb))
    go_ret
    exact ⟨rfl, Below.weak H1.out HG.out⟩
  · have hB := bytes_of w1 (by omega)
    obtain ⟨L, hL⟩ := named (z1.take len1)
    rw [hL.out] at hB
    have HB := Lib.hid hB
    clear hB hL w1
    go_enter Try.func4, Try.ntmps4
    go_wp2_with (first
      | (go_at_call 12; refine (new_ok 100 w (by omega) (by omega)).mono ?_; rintro e w1 ⟨p, S, rfl, hh⟩; have H1 : Hid (Putting 100 w p 0 w1) := ⟨_, S, Calm.start (room := 100) (by omega) (by omega), hh⟩; clear hh)
      | (go_at_call 14; refine (num_any _ _).mono ?_; rintro e w' ⟨rfl, rfl⟩))
    go_loopw [8] (fun s8 wr => ∃ i : Nat, i ≤ k ∧ s8 = .int .i64 i ∧ Hid (Putting 100 w p i wr)) (fun s8 _ => k - (intOf s8).toNat)
    case atStart => exact ⟨0, Nat.zero_le _, rfl, H1.out⟩
    case round =>
      obtain ⟨i, hi, rfl, HP⟩ := hrel
      clear H1
      by_cases hlt : i < k
      · have hw8 : IntKind.u8.wrap (i : Int) = (i : Int) := by simp [IntKind.wrap, IntKind.bits, IntKind.signed]; omega
        go_wp2_with (go_at_call 16; refine (putB_any HP.out (by omega) (by omega)).mono ?_; rintro e w2 ⟨⟨a, c, rfl⟩, hh⟩; have HP2 := Lib.hid hh; clear hh)
        go_roundw
        case rel => exact ⟨i + 1, by omega, by go_num, HP2.out⟩
        case measure => simp [intOf]; omega
      · obtain rfl : i = k := by omega
        have HQ0 : Hid (Pairing i w p wr none 0 0 []) := by
          obtain ⟨C, S, hc, hh⟩ := HP.out
          exact ⟨C, S, hc.ordering, hh, OwnG.none _ _ _ _ _, fun j hj => by cases hj⟩
        go_wp2
        go_loopw [9, 10] (fun s9 s10 wr => ∃ (t n c : Nat) (a : Option Addr) (P : List (Int × Int)), t ≤ 62 ∧ n ≤ t ∧ s9 = .slice a n c ∧ s10 = .int .i64 t ∧ Hid (Pairing i w p wr a n c P)) (fun _ s10 _ => 70 - (intOf s10).toNat)
        case atStart => exact ⟨0, 0, 0, none, [], by omega, by omega, rfl, rfl, HQ0.out⟩
        case round =>
          obtain ⟨t, n, c, a, P, ht, hnt, rfl, rfl, HQ⟩ := hrel
          clear HQ0
          have HBW : Hid (Bytes wr a1 len1 L) := by
            obtain ⟨C, S, _, hh, _⟩ := HQ.out
            exact Lib.hid (HB.out.later hh.below)
          by_cases hlt2 : t + 1 < len1
          · obtain ⟨bb, off, rfl⟩ := HB.out.lies (by omega)
            have d1 := HBW.out.cellAt t (by omega)
            have d2 := HBW.out.cellAt (t + 1) (by omega)
            have s1 := HB.out.small.at (k := t) (by have := HB.out.1; omega)
            have s2 := HB.out.small.at (k := t + 1) (by have := HB.out.1; omega)
            obtain ⟨c1, C1⟩ := named (L.getD t 0)
            obtain ⟨c2, C2⟩ := named (L.getD (t + 1) 0)
            rw [C1.out] at d1 s1
            rw [C2.out] at d2 s2
            obtain ⟨X, hX⟩ : ∃ X : Nat, c1 % (i : Int) = X := ⟨(c1 % (i : Int)).toNat, by have := Int.emod_nonneg c1 (show (i : Int) ≠ 0 by omega); omega⟩
            have hXk : X < i := by have := Int.emod_lt_of_pos c1 (show (0 : Int) < i by omega); omega
            obtain ⟨Y, hY⟩ : ∃ Y : Nat, c2 % (i : Int) = Y := ⟨(c2 % (i : Int)).toNat, by have := Int.emod_nonneg c2 (show (i : Int) ≠ 0 by omega); omega⟩
            have hYk : Y < i := by have := Int.emod_lt_of_pos c2 (show (0 : Int) < i by omega); omega
            have x1 : c1.tmod (i : Int) = (X : Int) := by rw [Int.tmod_eq_emod_of_nonneg (by omega)]; exact hX
            have x2 : c2.tmod (i : Int) = (Y : Int) := by rw [Int.tmod_eq_emod_of_nonneg (by omega)]; exact hY
            obtain ⟨E, hE⟩ := step_any HQ.out (x := (X : Int)) (y := (Y : Int)) (by omega) (by omega)
            have HE := Lib.hid hE
            have v2 : IntKind.i64.wrap ((t : Int) + 1) = (t : Int) + 1 := by rw [IntKind.wrap_i64]; omega
            have i1 : (0 : Int) ≤ (t : Int) := by omega
            have i2 : (t : Int) < (len1 : Int) := by omega
            have i3 : (0 : Int) ≤ (t : Int) + 1 := by omega
            have i4 : (t : Int) + 1 < (len1 : Int) := by omega
            have t2 : ((t : Int) + 1).toNat = t + 1 := by omega
            have t1 : (t : Int).toNat = t := by omega
            clear hE hX hY
            by_cases hE0 : E = 0
            · subst hE0
              go_wp2_with fail
              go_quiet (fail)
              go_wp2_with (first
                | (go_at_call 17; refine (HE.out _).mono ?_; rintro e w3 ⟨rfl, C3, S3, g1, g2, g3, g4⟩; rw [if_pos rfl] at g1; have G1 := Lib.hid g1; have G2 := Lib.hid g2; have G3 := Lib.hid g3; have G4 := Lib.hid g4; clear g1 g2 g3 g4)
                | (go_at_call 14; refine (num_any _ _).mono ?_; rintro e w' ⟨rfl, rfl⟩)
                | (at_builtin; refine wpList_append_lg pr_rowed rfl (.tmp 78) (.tmp 82) rfl w.heap.size (.slice a n c) n P rfl (G3.out.alloc _) (some ⟨_, 0, none⟩) 1 1 [((X : Int), (Y : Int))] rfl (fun e => by cases e) (one_reads _ _ #[.int .i64 X, .int .i64 Y] 42 rfl) (by omega) (by rw [World.size_alloc]; have := G2.out.below.size; omega) ?_; intro a5 c5 w5 h1 h2 h3
                   have H5 : Hid (Pairing i w p w5 a5 (n + 1) c5 (P ++ [((X : Int), (Y : Int))])) := ⟨C3, S3, G1.out, (G2.out.alloc _).grown h2 (fun j e => ⟨G4.out j e, (G3.out.1.lt j e).1⟩), h1, fun j hj hS => by
                    rcases h3 with e | e
                    · exact G4.out j (e ▸ hj) hS
                    · rw [hj] at e
                      cases e
                      have := G2.out.lt _ hS
                      rw [World.size_alloc] at this
                      omega⟩
                   clear h1 h2 h3))
              go_roundw
              case rel => exact ⟨t + 2, n + 1, c5, a5, P ++ [((X : Int), (Y : Int))], by omega, by omega, rfl, by go_num, H5.out⟩
              case measure => simp [intOf]; omega
            · have hEb : (E == 0) = false := by simpa using hE0
              go_wp2_with fail
              go_quiet (fail)
              go_wp2_with (first
                | (go_at_call 17; refine (HE.out _).mono ?_; rintro e w3 ⟨rfl, C3, S3, g1, g2, g3, g4⟩; rw [if_neg hE0] at g1; have H5 : Hid (Pairing i w p w3 a n c P) := ⟨C3, S3, g1, g2, g3, g4⟩; clear g1 g2 g3 g4)
                | (go_at_call 14; refine (num_any _ _).mono ?_; rintro e w' ⟨rfl, rfl⟩))
              go_roundw
              case rel => exact ⟨t + 2, n, c, a, P, by omega, by omega, rfl, by go_num, H5.out⟩
              case measure => simp [intOf]; omega
          · obtain ⟨C, S, ho, hh, hr, hf⟩ := HQ.out
            have HT := Lib.hid ho.told
            have HFL := Lib.hid (lruFlush_any hh)
            have HCALM := Lib.hid (flush_calm ho.ok)
            have HPS := Lib.hid (fun q hq => (ho.pairs q hq).2)
            have HR := Lib.hid hr
            have HF := Lib.hid hf
            unfold GivesL at HFL
            obtain ⟨l, hl⟩ := named C.flush.1
            obtain ⟨C2, hC2⟩ := named C.flush.2
            rw [hC2.out] at HCALM
            rw [hl.out] at HT
            rw [hl.out, hC2.out, HT.out.len] at HFL
            have hmk := make_i i (by omega)
            have HH := Lib.hid hh
            clear ho hh hr hf HB HBW HQ
            go_wp2_with (go_at_call 18; refine HFL.out.mono ?_; rintro e w5 ⟨al, cl, S5, rfl, g1, g2, g3, g4⟩; have L1 := Lib.hid g1; have L2 := Lib.hid g2; have L3 := Lib.hid g3; have L4 := Lib.hid g4; clear g1 g2 g3 g4)
            have HAT0 : Hid (OwnG ivV 3 1 (w5.alloc (.cells (zerosI i) 3)) 0 (.slice (some ⟨w5.heap.size, 0, none⟩) i i) i (atL l i 0)) := Lib.hid (made_ints w5 i (by omega))
            go_loopw [15] (fun s15 wr => ∃ t : Nat, t ≤ i ∧ s15 = .int .i64 t ∧ Hid (OwnG ivV 3 1 wr 0 (.slice (some ⟨w5.heap.size, 0, none⟩) i i) i (atL l i t)) ∧ Hid ((w5.alloc (.cells (zerosI i) 3)).grownBy wr (some w5.heap.size))) (fun s15 _ => i - (intOf s15).toNat)
            case atStart => exact ⟨0, Nat.zero_le _, rfl, HAT0.out, World.grownBy.refl _ _⟩
            case round =>
              rename World => wr5
              obtain ⟨u, hu, rfl, HAT, HGR⟩ := hrel
              clear HAT0
              have HLR : Hid (OwnG ivV 3 1 wr5 0 (.slice al i cl) i l) := Lib.hid ((L1.out.rebase (Nat.zero_le _)).frame fun j hj => by
                have h1 := (L1.out.1.lt j hj).2
                rw [HGR.out.block j (by rw [World.size_alloc]; omega) (fun e => by cases e; omega)]
                exact Below.heap_alloc _ _ j h1)
              by_cases hlt3 : u < i
              · obtain ⟨bl, rfl, hcell⟩ := own_at HLR.out (by omega)
                obtain ⟨x, hx⟩ : ∃ x, l[u]? = some x := ⟨_, List.getElem?_eq_getElem (by have := HT.out.len; omega)⟩
                have hxr := (HT.out.mem x).1 (List.mem_of_getElem? hx)
                obtain ⟨X, rfl⟩ : ∃ X : Nat, x = X := ⟨x.toNat, by omega⟩
                have cl' := hcell u _ hx
                have hat := atL_at HT.out u (by omega) u _ hx
                rw [if_neg (Nat.lt_irrefl _), Int.toNat_natCast] at hat
                have cat := iv_cell HAT.out X 0 hat
                have fat := iv_free HAT.out X
                have HSET : Hid (atL l i (u + 1) = (atL l i u).set X ((u + 1 : Nat) : Int)) := by
                  rw [Hid, atL, List.getD_eq_getElem?_getD, hx]
                  rfl
                have HNX : Hid (OwnG ivV 3 1 (wr5.setCell ⟨w5.heap.size, X, none⟩ (.int .i64 ((u + 1 : Nat) : Int))) 0 (.slice (some ⟨w5.heap.size, 0, none⟩) i i) i (atL l i (u + 1))) := by
                  rw [HSET.out]
                  exact Lib.hid (iv_set HAT.out X _)
                have hx1 : (X : Int) < (i : Int) := by omega
                clear hcell hx hat
                go_wp2
                go_roundw
                case rel => exact ⟨u + 1, by omega, by go_num, HNX.out, HGR.out.trans (grownBy_setCell4 _ _ _ _)⟩
                case measure => simp [intOf]; omega
              · obtain rfl : u = i := by omega
                have HROW : Hid (OwnG prV 42 2 wr5 w.heap.size (.slice a n c) n P) := Lib.hid (HR.out.frame fun j hj => by
                  have h1 := (HR.out.1.lt j hj).2
                  have h2 := L3.out.size
                  have h3 := L3.out.block j h1 (HF.out j hj)
                  rw [HGR.out.block j (by rw [World.size_alloc]; omega) (fun e => by cases e; omega), ← h3]
                  exact Below.heap_alloc _ _ j (by omega))
                have HCA : Hid (Has w p C2 wr5 S5) := Lib.hid ((L2.out.alloc _).grown HGR.out (fun j e => by
                  cases e
                  exact ⟨fun hS => by have := L2.out.lt _ hS; omega, L2.out.below.size⟩))
                go_wp2
                go_loopw [16] (fun s16 wr => ∃ t : Nat, t ≤ n ∧ s16 = .int .i64 t ∧ Hid (∃ q, wr = wr5.drewN q)) (fun s16 _ => n - (intOf s16).toNat)
                case atStart => exact ⟨0, Nat.zero_le _, rfl, 0, rfl⟩
                case round =>
                  obtain ⟨v, hv, rfl, HW⟩ := hrel
                  rename World => wr7
                  obtain ⟨q, hq⟩ := HW.out
                  have HQ7 := Lib.hid hq
                  clear hq
                  by_cases hlt4 : v < n
                  · obtain ⟨z, hz⟩ : ∃ z, P[v]? = some z := ⟨_, List.getElem?_eq_getElem (by have := HROW.out.2.1; omega)⟩
                    obtain ⟨x, y⟩ := z
                    obtain ⟨hx, hy⟩ := HPS.out _ (List.mem_of_getElem? hz)
                    obtain ⟨ix, hix⟩ := HT.out.find hx
                    obtain ⟨iy, hlt5, hiy⟩ := HT.out.ahead _ (List.mem_of_getElem? hz) ix hix
                    have hixl := (List.getElem?_eq_some_iff.1 hix).1
                    rw [HT.out.len] at hixl
                    have cx := iv_cell HAT.out x.toNat _ (atL_at HT.out u (Nat.le_refl _) ix _ hix)
                    have cy := iv_cell HAT.out y.toNat _ (atL_at HT.out u (Nat.le_refl _) iy _ hiy)
                    rw [if_pos hixl] at cx
                    rw [if_pos (by omega)] at cy
                    obtain ⟨ba, rfl⟩ : ∃ ba, a = some ⟨ba, 0, none⟩ := by
                      rcases HROW.out.1.2 with ⟨e, e'⟩ | ⟨g, cap, cur, e, _⟩
                      · omega
                      · cases e
                        exact ⟨_, rfl⟩
                    have ca := (HROW.out.reads pr_rowed).1.cellAt pr_rowed v 0 (x, y) (.int .i64 x) hz rfl
                    have cb := (HROW.out.reads pr_rowed).1.cellAt pr_rowed v 1 (x, y) (.int .i64 y) hz rfl
                    rw [Nat.zero_add, Nat.add_zero] at ca
                    rw [Nat.zero_add] at cb
                    simp only at hx hy
                    obtain ⟨X, rfl⟩ : ∃ X : Nat, x = X := ⟨x.toNat, by omega⟩
                    obtain ⟨Y, rfl⟩ : ∃ Y : Nat, y = Y := ⟨y.toNat, by omega⟩
                    rw [Int.toNat_natCast] at cx cy
                    have dx : wr7.cell? ⟨w5.heap.size, X, none⟩ = some (.int .i64 ((ix + 1 : Nat) : Int)) := by rw [HQ7.out]; exact cx
                    have dy : wr7.cell? ⟨w5.heap.size, Y, none⟩ = some (.int .i64 ((iy + 1 : Nat) : Int)) := by rw [HQ7.out]; exact cy
                    have da : wr7.cell? ⟨ba, v * 2, none⟩ = some (.int .i64 X) := by rw [HQ7.out]; exact ca
                    have db : wr7.cell? ⟨ba, v * 2 + 1, none⟩ = some (.int .i64 Y) := by rw [HQ7.out]; exact cb
                    have hle : ¬ ((ix + 1 : Nat) : Int) ≤ ((iy + 1 : Nat) : Int) := by omega
                    have hle2 : decide ((ix : Int) + 1 ≤ (iy : Int) + 1) = false := decide_eq_false (by omega)
                    have n1 : (0 : Int) ≤ (v : Int) := by omega
                    have n2 : (v : Int) < (n : Int) := by omega
                    have n3 : (0 : Int) ≤ (X : Int) := by omega
                    have n4 : (X : Int) < (u : Int) := by omega
                    have n5 : (0 : Int) ≤ (Y : Int) := by omega
                    have n6 : (Y : Int) < (u : Int) := by omega
                    clear hz hx hy hix hiy cx cy ca cb hlt5 hixl
                    go_wp2_with fail
                    go_quiet (fail)
                    go_wp2
                    go_roundw
                    case rel => exact ⟨v + 1, by omega, by go_num, _, by rw [HQ7.out]; exact World.drewN_drewN _ _ _⟩
                    case measure => simp [intOf]; omega
                  · obtain rfl : v = n := by omega
                    have HCB : Hid (Has w p C2 wr7 S5) := by rw [HQ7.out]; exact Lib.hid (HCA.out.later (below_drewN (Below.refl _ _) q))
                    have HD9 := Lib.hid (lruDirty_any HCB.out)
                    rw [dirtyL_nil HCALM.out] at HD9
                    go_wp2_with (first
                      | (go_at_call 19; refine HD9.out.mono ?_; rintro e w8 ⟨a8, c8, S8, rfl, _, hh, _, _⟩; have HH8 := Lib.hid hh; clear hh)
                      | (go_at_call 18; have hfl := lruFlush_any HH8.out; rw [flush_empty HCALM.out] at hfl; refine hfl.mono ?_; rintro e w9 ⟨a9, c9, S9, rfl, _, hh, _, _⟩; have HH9 := Lib.hid hh; clear hh)
                      | (go_at_call 11; refine (awake_any _).mono ?_; rintro e w2 ⟨rfl, hb⟩; have HG := Lib.hid hb; clear hb))
                    go_ret
                    exact ⟨rfl, Below.weak HH9.out.below HG.out⟩

set_option maxRecDepth 100000 in
theorem lifted (os : Os) (started : os.Started) (H : Type) (enc : TypeId × Value → H) :
    ReturnsInHanded {} Try.checked os 4 .any (Rows.lruOrderSpec.pre6 enc Try.prog Try.f4 Rows.lruOrderRow.domain false) (Rows.lruOrderSpec.post enc Try.prog Try.f4 false true false false) := by
  refine returnsInHanded_of_change (C := Try.checked) own started (by kernel_rfl) Try.func4
    (ChangeSpec.witness6 (enc := enc) (C := Try.checked) false ⟨#[], #[.int .u8 0, .slice none 0 0], []⟩ 8 (by kernel_rfl) (by kernel_rfl) (by kernel_rfl) (by kernel_rfl)) ?_
  intro W base args ds gs before hval0 hW hcnd _
  have hval : ∀ (j : Nat) t v, Try.f4.params[j]? = some t → args[j]? = some v → Value.okWide Try.prog W .any base t v := hval0
  have hW' := hW
  obtain ⟨p, q, hA0, hV, rfl, hfz, hnd⟩ := hW
  have hA : DataW.TrodAll enc Try.prog W 0 (fun _ => true) true Try.f4.params.toList args.toList ds p := hA0
  rw [Try.params4] at hA hval
  obtain ⟨v0, vs0, d0, ds0, p0, q0, hargs, rfl, rfl, h0, r0⟩ := trodAll_cons hA
  obtain ⟨v1, vs1, d1, ds1, p1, q1, rfl, rfl, rfl, h1, r1⟩ := trodAll_cons r0
  obtain ⟨rfl, rfl, rfl⟩ := trodAll_nil r1
  obtain rfl : args = #[v0, v1] := by cases args; simp_all
  obtain ⟨rfl, rfl⟩ := trodVars_none hV
  have k0 := h0
  have lt0 : ∀ x ∈ p0, x.block < W.heap.size := by obtain ⟨m, hm⟩ := k0; exact DataW.trod_lt m _ _ _ hm
  obtain ⟨a0, rfl, _, _, w0⟩ := open_int Try.underlying5 (hval 0 5 v0 rfl rfl) h0
  have k1 := h1
  have lt1 : ∀ x ∈ p1, x.block < W.heap.size := by obtain ⟨m, hm⟩ := k1; exact DataW.trod_lt m _ _ _ hm
  obtain ⟨a1, len1, cap1, rfl⟩ := okWide_slice Try.underlying34 (hval 1 34 v1 rfl rfl)
  obtain ⟨z1, w1⟩ : ∃ zs, IsRow .u8 W a1 len1 cap1 zs := by
    obtain ⟨fuel, hf⟩ := h1
    rcases open_ints Try.underlying34 Try.underlying5 (by kernel_rfl) hf with ⟨hcs, _⟩ | ⟨x, l, c, zs, hcs, _, hl, hm, hz, _, hcell, hwz⟩
    · simp [Value.cells] at hcs
      obtain ⟨rfl, rfl, rfl⟩ := hcs
      exact ⟨[], .inl ⟨rfl, rfl, rfl, rfl⟩⟩
    · simp [Value.cells] at hcs
      obtain ⟨rfl, rfl, rfl⟩ := hcs
      exact ⟨zs, .inr ⟨_, rfl, hl, hm, by simpa using hz, hcell, hwz⟩⟩
  clear hA0 hval0
  refine (walk a0 a1 len1 cap1 z1 W w0 w1).mono fun e W' ⟨he, bel⟩ => ?_
  subst he
  exact ⟨_, rfl, _, _, _, [], _, [], hW', trodAll_mk1 (shut_bool Try.underlying4 _), (trodAll_cons_mk (Below.trod laidOut (by kernel_rfl) (of_decide_eq_true (by kernel_rfl)) k0 bel lt0) (trodAll_cons_mk (Below.trod laidOut (by kernel_rfl) (of_decide_eq_true (by kernel_rfl)) k1 bel lt1) trodAll_mk0)), rfl, bel.frame _, fun h => by cases h⟩

theorem over : Rows.lruOrderRow.holds Try.pinned (OpenSpec.ofChange Rows.lruOrderSpec) :=
  OpenClaim.holds_of_wide 4 Try.f4 rfl rfl rfl rfl rfl rfl rfl ⟨rfl, rfl, rfl, rfl, rfl⟩ rfl rfl rfl rfl rfl (by kernel_rfl) Try.func4 (by kernel_rfl)
    (of_decide_eq_true (by kernel_rfl)) (by unfold Func.isWrapper; first | (rw [if_pos (by decide +kernel)]; kernel_rfl) | (rw [if_neg (by decide +kernel)]; exact ⟨rfl, rfl⟩))
    (fun os started H enc _ => lifted os started H enc)

/-- The statement. -/
theorem proved : Rows.LruOrderSaid := over
#print axioms proved
end Go.Proofs.Ytjpblndjfcofpaa.lruOrder
