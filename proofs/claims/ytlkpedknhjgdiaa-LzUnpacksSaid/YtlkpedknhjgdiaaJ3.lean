/-
  What Pack's own helpers 'swap', 'note' and 'equalBytes' do. Conditions: the slice reads as bytes, no more than 20000 of them; places are noted one behind the other.
-/
import Derived.Test.YtlkpedknhjgdiaaI3
import Derived.Maps.Range
import Derived.Deep.RegionHeld3
import Derived.Deep.QuietTactic
import Derived.BigQuiet
namespace Go.Proofs.Ytlkpedknhjgdiaa
open Go.RowKit Go.Maps Go.WideMaps

/-- The map at block M holds where the first k places were seen. -/
def Seen (w : World) (M : Nat) (l : List Int) (k : Nat) : Prop := w.ownsMap Try.prog 59 (plainElem (H := Unit) Try.prog 3) M k (Dseen l k)
theorem info59 : (Try.prog.info? 59).map (·.size) = some 4 := by kernel_rfl
theorem grownBy_drew (w : World) (row : Option Nat) : w.grownBy w.drew row := ⟨rfl, rfl, rfl, Nat.le_refl _, fun _ _ _ => rfl⟩
/-- Where four bytes were last seen, as 'swap' tells it. -/
def lastN (l : List Int) (k : Nat) : Nat := (lastAt l (win l k) k).getD 0
def lastB (l : List Int) (k : Nat) : Bool := (lastAt l (win l k) k).isSome
/-- What 'swap' hands back. -/
def SwapPost (w0 : World) (M : Nat) (l : List Int) (k : Nat) (e : Ending) (w : World) : Prop :=
  e = .returned (.tuple #[.int .i64 (lastN l k), .bool (lastB l k)]) ∧ Seen w M l (k + 1) ∧ w0.grownBy w (some M)

set_option maxRecDepth 100000 in
set_option maxHeartbeats 3200000 in
theorem swap_any (M : Nat) (a : Option Addr) (len cap k : Nat) (l : List Int) (w : World) (hB : Bytes w a len l) (hM : Seen w M l k) (hk : k + 4 ≤ len) (hlen : len ≤ 20000) :
    Calls Try.prog 21 #[.map (some M), .slice a len cap, .int .i64 k] w (SwapPost w M l k) := by
  obtain ⟨bb, off, rfl⟩ := hB.lies (by omega)
  have hl := hB.1
  have d0 := hB.cellAt k (by omega)
  have d1 := hB.cellAt (k + 1) (by omega)
  have d2 := hB.cellAt (k + 2) (by omega)
  have d3 := hB.cellAt (k + 3) (by omega)
  have hW := win_four (l := l) (k := k) (by omega)
  have b0 := hB.small.at (k := k) (by omega)
  have b1 := hB.small.at (k := k + 1) (by omega)
  have b2 := hB.small.at (k := k + 2) (by omega)
  have b3 := hB.small.at (k := k + 3) (by omega)
  have hbd := win_bd hB.small.2 k
  have hat := Dseen_at (H := Unit) hB.small.2 hbd k
  obtain ⟨c0, C0⟩ := named (l.getD k 0)
  obtain ⟨c1, C1⟩ := named (l.getD (k + 1) 0)
  obtain ⟨c2, C2⟩ := named (l.getD (k + 2) 0)
  obtain ⟨c3, C3⟩ := named (l.getD (k + 3) 0)
  rw [C0.out, C1.out, C2.out, C3.out] at hW
  rw [C0.out] at d0 b0
  rw [C1.out] at d1 b1
  rw [C2.out] at d2 b2
  rw [C3.out] at d3 b3
  have HK := Lib.hid (key4 c0 c1 c2 c3 b0 b1 b2 b3)
  rw [← hW] at HK
  have HAT := Lib.hid hat
  have HM := Lib.hid hM
  have e0 : (0 : Int) ≤ (k : Int) := Int.natCast_nonneg _
  have e1 : (k : Int) < (len : Int) := by omega
  have e2 : (k : Int) + 1 < (len : Int) := by omega
  have e3 : (k : Int) + 2 < (len : Int) := by omega
  have e4 : (k : Int) + 3 < (len : Int) := by omega
  have g1 : (0 : Int) ≤ (k : Int) + 1 := by omega
  have g2 : (0 : Int) ≤ (k : Int) + 2 := by omega
  have g3 : (0 : Int) ≤ (k : Int) + 3 := by omega
  have w1 : IntKind.i64.wrap ((k : Int) + 1) = (k : Int) + 1 := by rw [IntKind.wrap_i64]; omega
  have w2 : IntKind.i64.wrap ((k : Int) + 2) = (k : Int) + 2 := by rw [IntKind.wrap_i64]; omega
  have w3 : IntKind.i64.wrap ((k : Int) + 3) = (k : Int) + 3 := by rw [IntKind.wrap_i64]; omega
  have t2 : ((k : Int) + 2).toNat = k + 2 := by omega
  have t3 : ((k : Int) + 3).toNat = k + 3 := by omega
  clear hB hM hl hbd hat b0 b1 b2 b3 hW
  go_enter Try.func21, Try.ntmps21
  go_wp2_with fail
  go_region_held3 (fun w' => w'.cell? ⟨bb, off + k, none⟩ = some (.int .u8 c0) ∧ w'.cell? ⟨bb, off + (k + 1), none⟩ = some (.int .u8 c1) ∧ w'.cell? ⟨bb, off + (k + 2), none⟩ = some (.int .u8 c2) ∧ w'.cell? ⟨bb, off + (k + 3), none⟩ = some (.int .u8 c3)) (go_keep) (fail)
  have HG : Hid ((w.alloc (.cells #[.int .u8 c0, .int .u8 c1, .int .u8 c2, .int .u8 c3] 59)).drew.heap[w.heap.size]? = some (.cells #[.int .u8 c0, .int .u8 c1, .int .u8 c2, .int .u8 c3] 59 (0, 0))) := heap_alloc_new w _
  have HM2 : Hid (Seen ((w.alloc (.cells #[.int .u8 c0, .int .u8 c1, .int .u8 c2, .int .u8 c3] 59)).drew) M l k) := (HM.out.alloc _).drew
  go_wp2_with (first
    | (refine wpList_load_row rfl 59 (.tmp 8) rfl w.heap.size rfl 59 _ (0, 0) _ HG.out Try.underlying59 rfl info59 ?_)
    | (at_lookup; refine wpList_lookup_own_ok_int _ rfl _ _ 49 rfl 59 3 .i64 law4 Try.underlying49 Try.underlying3 (zero3 _) M k _ rfl HM2.out _ _ rfl HK.out ?_; intro c hat hwc; have HC := Lib.hid hat; clear hat hwc)
    | (at_mapUpdate; refine wpList_mapUpdate_own _ rfl _ _ _ 49 rfl 59 3 law4 Try.underlying49 _ M k _ rfl HM2.out (by unfold maxLen; omega) _ _ _ rfl rfl HK.out _ [] (plainElem_int Try.underlying3 (WalkArith.wf_i64 (by omega))) ?_; intro w4 hown hgrow; have HM4 := Lib.hid hown; have HG4 := Lib.hid hgrow; clear hown hgrow))
  go_ret2
  have hc : c = (lastN l k : Int) := by
    have h1 := HAT.out.2
    rw [HC.out] at h1
    simpa [lastN] using h1
  have hh : has (Dseen (H := Unit) l k) (keyL (win l k)) = lastB l k := HAT.out.1
  subst hc
  refine ⟨?_, HM4.out, ((World.grownBy_alloc w _ (some M)).trans (grownBy_drew _ _)).trans HG4.out⟩
  rw [← hh]
  rfl

/-! 'note'. -/
theorem below_of_grown {w w' : World} {M : Nat} (hg : w.grownBy w' (some M)) (hM : M ≤ w.heap.size) : Below M w w' := (Below.refl M w).grown hg hM (fun k e => by cases e; exact Nat.le_refl _)
set_option maxRecDepth 100000 in
set_option maxHeartbeats 3200000 in
theorem note_any (M : Nat) (a : Option Addr) (len cap p t K : Nat) (l : List Int) (w : World) (hB : Bytes w a len l) (hM : Seen w M l p) (hlt : ∀ x, a = some x → x.block < M) (hK : K = min t (len - 3)) (hpK : p ≤ K) (h3 : 4 ≤ len) (hlen : len ≤ 20000) (ht : t ≤ len) :
    Calls Try.prog 24 #[.map (some M), .slice a len cap, .int .i64 p, .int .i64 t] w fun e w' => e = .returned (.tuple #[]) ∧ Seen w' M l K ∧ w.grownBy w' (some M) := by
  have hMl := hM.lt
  have HSW : Hid (∀ (k : Nat) (w' : World), Seen w' M l k → w.grownBy w' (some M) → k + 4 ≤ len → Calls Try.prog 21 #[.map (some M), .slice a len cap, .int .i64 k] w' (SwapPost w' M l k)) :=
    fun k w' h1 h2 h4 => swap_any M a len cap k l w' (hB.grown hlt (below_of_grown h2 (Nat.le_of_lt hMl))) h1 h4 hlen
  have HM := Lib.hid hM
  have hK3 : K + 3 ≤ len := by omega
  rcases (by omega : (t + 3 ≤ len ∧ K = t) ∨ (len < t + 3 ∧ K + 3 = len)) with ⟨c, rfl⟩ | ⟨c, c2⟩
  · have hz : ¬ ((len : Int) - 4 + 1 < (K : Int)) := by omega
    clear hB hM hlt hMl hK
    go_enter Try.func24, Try.ntmps24
    go_wp2
    go_loopw [8] (fun i wr => ∃ k : Nat, k ≤ K ∧ i = .int .i64 k ∧ Hid (Seen wr M l k) ∧ Hid (w.grownBy wr (some M))) (fun i _ => K - (intOf i).toNat)
    case atStart => exact ⟨p, hpK, rfl, HM.out, ⟨rfl, rfl, rfl, Nat.le_refl _, fun _ _ _ => rfl⟩⟩
    case round =>
      obtain ⟨k, hk, rfl, HMk, HGk⟩ := hrel
      by_cases hlt : k < K
      · go_wp2_with (go_at_call 21; ((with_reducible refine (HSW.out k wr HMk.out HGk.out (by omega)).mono ?_); rintro e w2 ⟨rfl, g1, g2⟩; have HM2 := Lib.hid g1; have HG2 := Lib.hid (HGk.out.trans g2); clear g1 g2))
        go_roundw
        case rel => exact ⟨k + 1, by omega, by go_num, HM2.out, HG2.out⟩
        case measure => simp [intOf]; omega
      · obtain rfl : k = K := by omega
        go_wp2
        go_end0
        exact ⟨rfl, HMk.out, HGk.out⟩
  · have hz : (len : Int) - 4 + 1 < (t : Int) := by omega
    clear hB hM hlt hMl hK
    go_enter Try.func24, Try.ntmps24
    go_wp2
    go_loopw [8] (fun i wr => ∃ k : Nat, k ≤ K ∧ i = .int .i64 k ∧ Hid (Seen wr M l k) ∧ Hid (w.grownBy wr (some M))) (fun i _ => K - (intOf i).toNat)
    case atStart => exact ⟨p, hpK, rfl, HM.out, ⟨rfl, rfl, rfl, Nat.le_refl _, fun _ _ _ => rfl⟩⟩
    case round =>
      obtain ⟨k, hk, rfl, HMk, HGk⟩ := hrel
      by_cases hlt : k < K
      · have hq : (k : Int) < (len : Int) - 4 + 1 := by omega
        go_wp2_with (go_at_call 21; ((with_reducible refine (HSW.out k wr HMk.out HGk.out (by omega)).mono ?_); rintro e w2 ⟨rfl, g1, g2⟩; have HM2 := Lib.hid g1; have HG2 := Lib.hid (HGk.out.trans g2); clear g1 g2))
        go_roundw
        case rel => exact ⟨k + 1, by omega, by go_num, HM2.out, HG2.out⟩
        case measure => simp [intOf]; omega
      · obtain rfl : k = K := by omega
        have hq : ¬ ((k : Int) < (len : Int) - 4 + 1) := by omega
        go_wp2
        go_end0
        exact ⟨rfl, HMk.out, HGk.out⟩

/-! 'equalBytes'. -/
/-- How many bytes are alike, n of them known so; f is a bound on those to come. -/
def eqAt (l : List Int) (p q : Nat) : Nat → Nat → Nat
  | 0, n => n
  | f + 1, n => if q + n < l.length then (if l.getD (p + n) 0 = l.getD (q + n) 0 then eqAt l p q f (n + 1) else n) else n
theorem drewN_drewN (w : World) (j k : Nat) : (w.drewN j).drewN k = w.drewN (j + k) := by simp [World.drewN, Nat.add_assoc]
set_option maxRecDepth 100000 in
set_option maxHeartbeats 3200000 in
theorem equal_any (a : Option Addr) (len cap p q : Nat) (l : List Int) (w : World) (hB : Bytes w a len l) (hpq : p < q) (hq : q ≤ len) (hlen : len ≤ 20000) :
    Calls Try.prog 22 #[.slice a len cap, .int .i64 p, .int .i64 q] w fun e w' => e = .returned (.int .i64 (eqAt l p q len 0 : Nat)) ∧ ∃ j, w' = w.drewN j := by
  have HB := Lib.hid hB
  have HL := Lib.hid hB.1
  obtain ⟨R, HR⟩ := named (eqAt l p q len 0)
  rw [HR.out]
  clear hB
  go_enter Try.func22, Try.ntmps22
  go_wp2
  go_loopw [7] (fun x wr => ∃ n f j : Nat, x = .int .i64 n ∧ q + n ≤ len ∧ len ≤ q + n + f ∧ Hid (wr = w.drewN j) ∧ Hid (eqAt l p q f n = R)) (fun x _ => len - (intOf x).toNat)
  case atStart => exact ⟨0, len, 0, rfl, by omega, by omega, rfl, HR.out⟩
  case round =>
    obtain ⟨n, f, j, rfl, hn, hf, HW, HE⟩ := hrel
    obtain rfl := HW.out
    have v2 : IntKind.i64.wrap ((q : Int) + (n : Int)) = (q : Int) + (n : Int) := by rw [IntKind.wrap_i64]; omega
    have v1 : IntKind.i64.wrap ((p : Int) + (n : Int)) = (p : Int) + (n : Int) := by rw [IntKind.wrap_i64]; omega
    by_cases hlt : q + n < len
    · obtain ⟨bb, off, rfl⟩ := HB.out.lies (by omega)
      obtain ⟨f', rfl⟩ : ∃ f', f = f' + 1 := ⟨f - 1, by omega⟩
      have d1 := HB.out.cellAt (p + n) (by omega)
      have d2 := HB.out.cellAt (q + n) (by omega)
      obtain ⟨c1, C1⟩ := named (l.getD (p + n) 0)
      obtain ⟨c2, C2⟩ := named (l.getD (q + n) 0)
      rw [C1.out] at d1
      rw [C2.out] at d2
      have i1 : (0 : Int) ≤ (p : Int) + (n : Int) := by omega
      have i2 : (p : Int) + (n : Int) < (len : Int) := by omega
      have i3 : (0 : Int) ≤ (q : Int) + (n : Int) := by omega
      have i4 : (q : Int) + (n : Int) < (len : Int) := by omega
      have t1 : ((p : Int) + (n : Int)).toNat = p + n := by omega
      have t2 : ((q : Int) + (n : Int)).toNat = q + n := by omega
      by_cases he : c1 = c2
      · have HE2 : Hid (eqAt l p q f' (n + 1) = R) := by
          rw [Hid, ← HE.out, eqAt, if_pos (by rw [HL.out]; exact hlt), if_pos (by rw [C1.out, C2.out]; exact he)]
        subst he
        go_wp2_with fail
        go_quiet (fail)
        go_wp2
        go_roundw
        case rel => exact ⟨n + 1, f', _, by go_num, by omega, by omega, rfl, HE2.out⟩
        case measure => simp [intOf]; omega
      · have HE2 : Hid (R = n) := by
          rw [Hid, ← HE.out, eqAt, if_pos (by rw [HL.out]; exact hlt), if_neg (by rw [C1.out, C2.out]; exact he)]
        have hb : (c1 == c2) = false := by simp [he]
        go_wp2_with fail
        go_quiet (fail)
        go_wp2
        go_ret
        exact ⟨ret_int (by rw [HE2.out]), _, drewN_drewN _ _ _⟩
    · have HE2 : Hid (R = n) := by
        rw [Hid, ← HE.out]
        cases f with
        | zero => rfl
        | succ f => rw [eqAt, if_neg (by rw [HL.out]; exact hlt)]
      have hz : decide ((q : Int) + (n : Int) < (len : Int)) = false := by simp; omega
      go_wp2_with fail
      go_quiet (fail)
      go_wp2
      go_ret
      exact ⟨ret_int (by rw [HE2.out]), _, drewN_drewN _ _ _⟩
end Go.Proofs.Ytlkpedknhjgdiaa
