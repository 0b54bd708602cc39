/-
  Proved: 'matryoshkalaw10.LruRoom' returns true for every input, and each argument reads afterwards as before: the statement LruRoomSaid as given. Conditions: none beyond the row's own.
-/
import Derived.Test.YtjpblndjfcofpaaRows
import Derived.Test.YtjpblndjfcofpaaLz
import Derived.WalkKit
import Derived.ProofKit
import Derived.OpenShut
import Derived.ShutString
import Derived.ChangeOld
import Derived.Below
namespace Go.Proofs.Ytjpblndjfcofpaa.lruRoom
open Go.ChangeShapes Go.WideShapes Go.ChangeAt Go.RowKit
open Go.ChangeMaps (open_string shut_string)
set_option linter.unusedVariables false

theorem own : ownKnob Try.prog.godebug = none := by kernel_rfl
theorem laidOut : laidOutB Try.prog = true := by kernel_rfl

/-- A slice of integers that came in: nil, or a row of cells. -/
def IsRow (k : IntKind) (w : World) (a : Option Addr) (len cap : Nat) (zs : List Int) : Prop :=
  (a = none ∧ len = 0 ∧ cap = 0 ∧ zs = []) ∨
  ∃ x, a = some x ∧ len ≤ cap ∧ cap ≤ maxLen ∧ zs.length = cap ∧ (∀ i, i < zs.length → w.cell? (x.add i) = some (.int k (zs.getD i 0))) ∧ ∀ n ∈ zs, (Lit.int k n).wf = true

/-- A list of keys that is not the cache's. -/
def Used (n j : Nat) (w : World) (p : Addr) (wr : World) (a : Option Addr) (m : Nat) (U : List Int) : Prop :=
  ∃ C S, Recent n j U C ∧ Has w p C wr S ∧ Reads ivV wr a m U ∧ ∀ x, a = some x → 0 < m → w.heap.size ≤ x.block ∧ x.block < wr.heap.size ∧ ¬ S x.block
theorem reads_away {S S' : Nat → Prop} {w w' : World} {a : Option Addr} {m : Nat} {U : List Int} (h : Reads ivV w a m U) (hf : ∀ x, a = some x → 0 < m → ¬ S x.block) (ha : Away S w S' w') : Reads ivV w' a m U := by
  obtain ⟨h1, h2, h3⟩ := h
  refine ⟨h1, h2, ?_⟩
  rcases h3 with h3 | ⟨b, off, e, hlt, hl⟩
  · exact Or.inl h3
  · by_cases h0 : m = 0
    · exact Or.inl h0
    · exact Or.inr ⟨b, off, e, Nat.lt_of_lt_of_le hlt ha.size, fun i u hu => (World.cell?_of_block (ha.block b hlt (hf _ e (by omega)))).trans (hl i u hu)⟩
def RGetQ (n j : Nat) (w : World) (p : Addr) (a : Option Addr) (m : Nat) (U : List Int) (k : Int) (e : Ending) (w' : World) : Prop :=
  ∃ (a2 : Option Addr) (n2 c2 : Nat) (C : Lru) (S : Nat → Prop), e = .returned (.tuple #[.slice a2 n2 c2, .bool (decide (k ∈ U))]) ∧ Recent n (j + 1) (if k ∈ U then lastL U k n else U) C ∧ Has w p C w' S ∧ Reads ivV w' a m U ∧ ∀ x, a = some x → 0 < m → w.heap.size ≤ x.block ∧ x.block < w'.heap.size ∧ ¬ S x.block
theorem rget_any {n j m : Nat} {w wr : World} {p : Addr} {a : Option Addr} {U : List Int} (h : Used n j w p wr a m U) (k : Int) (hj : j < 1000) : Calls Try.prog 20 #[.pointer (some p), .int .i64 k] wr (RGetQ n j w p a m U k) := by
  obtain ⟨C, S, hc, hh, hr, hf⟩ := h
  have hu := hc.uses
  refine (lruGet_any hh k (by omega)).mono ?_
  rintro e w' ⟨a2, n2, c2, S', rfl, g1, g2, g3, g4⟩
  by_cases hk : k ∈ U
  · obtain ⟨C', e1, e2⟩ := hc.get hk hj
    rw [e1] at g2 ⊢
    refine ⟨a2, n2, c2, C', S', by rw [decide_eq_true hk], by rw [if_pos hk]; exact e2, g2, reads_away hr (fun x e h0 => (hf x e h0).2.2) g3, fun x e h0 => ⟨(hf x e h0).1, Nat.lt_of_lt_of_le (hf x e h0).2.1 g3.size, g3.far (hf x e h0).2.1 (hf x e h0).2.2⟩⟩
  · rw [hc.missing hk] at g2 ⊢
    refine ⟨a2, n2, c2, C, S', by rw [decide_eq_false hk], by rw [if_neg hk]; exact ⟨hc.ok, hc.room, by omega, hc.bytes, hc.keys, hc.nodup, hc.mem, hc.order⟩, g2, reads_away hr (fun x e h0 => (hf x e h0).2.2) g3, fun x e h0 => ⟨(hf x e h0).1, Nat.lt_of_lt_of_le (hf x e h0).2.1 g3.size, g3.far (hf x e h0).2.1 (hf x e h0).2.2⟩⟩
def RPutQ (n j : Nat) (w : World) (p : Addr) (a : Option Addr) (m : Nat) (U : List Int) (k : Int) (e : Ending) (w' : World) : Prop :=
  ∃ (a2 : Option Addr) (n2 c2 : Nat) (C : Lru) (S : Nat → Prop), e = .returned (.slice a2 n2 c2) ∧ Recent n (j + 1) (lastL U k n) C ∧ Has w p C w' S ∧ Reads ivV w' a m U ∧ ∀ x, a = some x → 0 < m → w.heap.size ≤ x.block ∧ x.block < w'.heap.size ∧ ¬ S x.block
theorem rput_any {n j m : Nat} {w wr : World} {p : Addr} {a : Option Addr} {U : List Int} (h : Used n j w p wr a m U) (k : Nat) (hk : k < 20) (d : Bool) (hj : j < 1000) : Calls Try.prog 16 #[.pointer (some p), .int .i64 k, .slice (some ⟨wr.heap.size, 0, none⟩) 2 2, .bool d] (wr.alloc (.cells #[.int .u8 k, .int .u8 7] 5)) (RPutQ n j w p a m U k) := by
  obtain ⟨C, S, hc, hh, hr, hf⟩ := h
  have hu := hc.uses
  obtain ⟨l, C', e1, e2⟩ := hc.put (k := (k : Int)) (by omega) d hj
  have hr2 := hr.later ((Below.refl _ _).alloc (Nat.le_refl _) (.cells #[.int .u8 k, .int .u8 7] 5))
  refine (lruPut_any (hh.alloc _) (k : Int) (by omega) (some ⟨wr.heap.size, 0, none⟩) 2 2 [(k : Int), 7] d ⟨two_bytes wr k 7 (by omega) (by omega), fun x hx _ => ?_⟩ (fun e => by cases e) (by omega) (by omega)).mono ?_
  · cases hx
    exact ⟨by rw [World.size_alloc]; exact Nat.lt_succ_self _, fun hS => by have := hh.lt _ hS; exact absurd this (Nat.lt_irrefl _)⟩
  · rw [e1]
    rintro e w' ⟨a2, c2, S', rfl, g1, g2, g3, g4⟩
    have hs : (wr.alloc (.cells #[.int .u8 k, .int .u8 7] 5)).heap.size = wr.heap.size + 1 := World.size_alloc _ _
    exact ⟨a2, _, c2, C', S', rfl, e2, g2, reads_away hr2 (fun x e h0 => (hf x e h0).2.2) g3, fun x e h0 => ⟨(hf x e h0).1, Nat.lt_of_lt_of_le (by have := (hf x e h0).2.1; omega) g3.size, g3.far (by have := (hf x e h0).2.1; omega) (hf x e h0).2.2⟩⟩
theorem used_last {n j m' : Nat} {w w1 w2 : World} {p : Addr} {a' : Option Addr} {C : Lru} {S : Nat → Prop} {V : List Int} (hc : Recent n j V C) (hh : Has w p C w1 S) (hr : Reads ivV w2 a' m' V) (hb : Below w1.heap.size w1 w2) (hx : ∀ x, a' = some x → w1.heap.size ≤ x.block ∧ x.block < w2.heap.size) : Used n j w p w2 a' m' V :=
  ⟨C, S, hc, hh.later hb, hr, fun x e _ => ⟨Nat.le_trans hh.below.size (hx x e).1, (hx x e).2, fun hS => by have := hh.lt _ hS; have := (hx x e).1; omega⟩⟩
/-- A copy beside it. -/
def Both (n j : Nat) (w : World) (p p2 : Addr) (wr : World) (a : Option Addr) (m : Nat) (U : List Int) : Prop :=
  ∃ C S S2, Recent n j U C ∧ Has w p C wr S ∧ Has w p2 C wr S2 ∧ (∀ k, S k → ¬ S2 k) ∧ Reads ivV wr a m U ∧ ∀ x, a = some x → 0 < m → w.heap.size ≤ x.block ∧ x.block < wr.heap.size ∧ ¬ S x.block ∧ ¬ S2 x.block
theorem rcopy_any {n j m : Nat} {w wr : World} {p : Addr} {a : Option Addr} {U : List Int} (h : Used n j w p wr a m U) : Calls Try.prog 23 #[.pointer (some p)] wr fun e w' => ∃ p2, e = .returned (.pointer (some p2)) ∧ Both n j w p p2 w' a m U := by
  obtain ⟨C, S, hc, hh, hr, hf⟩ := h
  refine (copy_any hh.at').mono ?_
  rintro e w' ⟨p2, S2, rfl, g1, g2, g3⟩
  have h2 := hh.later g3
  exact ⟨p2, rfl, C, S, S2, hc, h2, ⟨g1, fun k hk => Nat.le_trans hh.below.size (g2 k hk), h2.below⟩, fun k hk hk2 => by have := hh.lt k hk; have := g2 k hk2; omega, hr.later g3, fun x e h0 => ⟨(hf x e h0).1, Nat.lt_of_lt_of_le (hf x e h0).2.1 g3.size, (hf x e h0).2.2, fun hS => by have := g2 _ hS; have := (hf x e h0).2.1; omega⟩⟩
def BGetQ (n j : Nat) (w : World) (p : Addr) (a : Option Addr) (m : Nat) (U : List Int) (k : Int) (e : Ending) (w' : World) : Prop :=
  ∃ (a2 : Option Addr) (n2 c2 : Nat), e = .returned (.tuple #[.slice a2 n2 c2, .bool (decide (k ∈ U))]) ∧ Used n j w p w' a m U ∧ (k ∈ U → Bytes w' a2 n2 [k, 7])
theorem bget_any {n j m : Nat} {w wr : World} {p p2 : Addr} {a : Option Addr} {U : List Int} (h : Both n j w p p2 wr a m U) (k : Int) (hj : j < 1000) : Calls Try.prog 20 #[.pointer (some p2), .int .i64 k] wr (BGetQ n j w p a m U k) := by
  obtain ⟨C, S, S2, hc, hh, hh2, hd, hr, hf⟩ := h
  have hu := hc.uses
  refine (lruGet_any hh2 k (by omega)).mono ?_
  rintro e w' ⟨a2, n2, c2, S', rfl, g1, g2, g3, g4⟩
  have hU : Used n j w p w' a m U := ⟨C, S, hc, ⟨hh.at'.frame fun i hi => g3.block i (hh.lt i hi) (hd i hi), hh.low, g2.below⟩, reads_away hr (fun x e h0 => (hf x e h0).2.2.2) g3, fun x e h0 => ⟨(hf x e h0).1, Nat.lt_of_lt_of_le (hf x e h0).2.1 g3.size, (hf x e h0).2.2.1⟩⟩
  by_cases hk : k ∈ U
  · obtain ⟨C', e1, _⟩ := hc.get hk hj
    rw [e1] at g1 ⊢
    exact ⟨a2, n2, c2, by rw [decide_eq_true hk], hU, fun _ => g1.bytes.1⟩
  · rw [hc.missing hk] at g1 ⊢
    exact ⟨a2, n2, c2, by rw [decide_eq_false hk], hU, fun h => absurd h hk⟩

set_option maxRecDepth 100000 in
set_option maxHeartbeats 4000000 in
theorem walk (a0 : Int) (a1 : Option Addr) (len1 cap1 : Nat) (z1 : List Int) (w : World) (w0 : (Lit.int .u8 a0).wf = true) (w1 : IsRow .u8 w a1 len1 cap1 z1) :
    Calls Try.prog 5 #[.int .u8 a0, .slice a1 len1 cap1] w fun e w' => e = .returned (.bool true) ∧ Below w.heap.size w w' := by
  have b0 := bounds_u8 w0
  obtain ⟨n, hn⟩ : ∃ n : Nat, (1 : Int) + a0 % 12 = n := ⟨(1 + a0 % 12).toNat, by omega⟩
  have hn1 : 1 ≤ n := by omega
  have hn2 : n ≤ 12 := by omega
  have e0 : a0.tmod 12 = a0 % 12 := Int.tmod_eq_emod_of_nonneg (by omega)
  by_cases hbig : 100 < len1
  · go_enter Try.func5, Try.ntmps5
    go_wp2_with (first
      | (go_at_call 12; refine (new_ok n w (by omega) (by omega)).mono ?_; rintro e w1 ⟨p, S, rfl, hh⟩; have H1 := Lib.hid hh.below; clear hh)
      | (go_at_call 14; refine (num_any _ _).mono ?_; rintro e w' ⟨rfl, rfl⟩)
      | (go_at_call 11; refine (awake_any _).mono ?_; rintro e w2 ⟨rfl, hb⟩; have HG := Lib.hid hb; clear hb))
    go_ret
    exact ⟨rfl, Below.weak H1.out HG.out⟩
  · have hB := bytes_of w1 (by omega)
    obtain ⟨L, hL⟩ := named (z1.take len1)
    rw [hL.out] at hB
    have HB := Lib.hid hB
    clear hB hL w1
    go_enter Try.func5, Try.ntmps5
    go_wp2_with (first
      | (go_at_call 12; refine (new_ok n w (by omega) (by omega)).mono ?_; rintro e w1 ⟨p, S, rfl, hh⟩; rw [Int.toNat_natCast] at hh; have H1 : Hid (Used n 0 w p w1 none 0 []) := ⟨_, S, Recent.start hn1 (by omega), hh, Reads.nil _ _ _, fun x hx => by cases hx⟩; clear hh)
      | (go_at_call 14; refine (num_any _ _).mono ?_; rintro e w' ⟨rfl, rfl⟩))
    go_loopw [8, 9] (fun s8 s9 wr => ∃ (i m c : Nat) (a : Option Addr) (U : List Int), i ≤ len1 ∧ s9 = .int .i64 i ∧ s8 = .slice a m c ∧ Hid (Used n i w p wr a m U)) (fun _ s9 _ => len1 - (intOf s9).toNat)
    case atStart => exact ⟨0, 0, 0, none, [], Nat.zero_le _, rfl, rfl, H1.out⟩
    case round =>
      rename World => wr1
      obtain ⟨i, m, c, a, U, hi, rfl, rfl, HU⟩ := hrel
      clear H1
      have hml : m ≤ 12 := by
        obtain ⟨C, S, hc, hh, hr, _⟩ := HU.out
        have h1 := len_same hc.ok.its.rise hc.nodup hc.mem
        have h2 := hr.1
        have := hc.ok.many
        have := hc.room
        omega
      by_cases hlt : i < len1
      · have HBW : Hid (Bytes wr1 a1 len1 L) := by
          obtain ⟨C, S, _, hh, _⟩ := HU.out
          exact Lib.hid (HB.out.later hh.below)
        obtain ⟨bb, off, rfl⟩ := HB.out.lies (by omega)
        have d1 := HBW.out.cellAt i (by omega)
        have s1 := HB.out.small.at (k := i) (by have := HB.out.1; omega)
        obtain ⟨c1, C1⟩ := named (L.getD i 0)
        rw [C1.out] at d1 s1
        obtain ⟨K, hK⟩ : ∃ K : Nat, c1 % 20 = K := ⟨(c1 % 20).toNat, by omega⟩
        have hK20 : K < 20 := by omega
        have x1 : c1.tmod 20 = (K : Int) := by rw [Int.tmod_eq_emod_of_nonneg (by omega)]; exact hK
        have HDW : Hid (∀ w', Below w.heap.size w w' → w'.cell? ⟨bb, off + i, none⟩ = some (.int .u8 c1)) := fun w' hb => by
          have := (HB.out.later hb).cellAt i (by omega)
          rwa [C1.out] at this
        by_cases hget : 200 ≤ c1
        · have HGET := Lib.hid (rget_any HU.out (K : Int) (by omega))
          unfold RGetQ at HGET
          have HIN : Hid (∀ w', Reads ivV w' a m U → Calls Try.prog 21 #[.slice a m c, .int .i64 K] w' fun e w'' => e = .returned (.bool (decide ((K : Int) ∈ U))) ∧ w'' = w') := fun w' hr => in_any hr _ (by omega)
          by_cases hk : (K : Int) ∈ U
          · have hkd : decide ((K : Int) ∈ U) = true := decide_eq_true hk
            rw [if_pos hk] at HGET
            rw [hkd] at HGET HIN
            go_wp2_with (first
              | (go_at_call 20; refine HGET.out.mono ?_; rintro e w2 ⟨a2, n2, c2, C2, S2, rfl, g1, g2, g3, g4⟩; have G1 := Lib.hid g1; have G2 := Lib.hid g2; have G3 := Lib.hid g3; clear g1 g2 g3 g4)
              | (go_at_call 21; refine (HIN.out _ G3.out).mono ?_; rintro e w' ⟨rfl, rfl⟩)
              | (go_at_call 22; refine (last_any G3.out (K : Int) n (by omega) (by omega) hn1).mono ?_; rintro e w3 ⟨a3, m3, c3, rfl, l1, l2, l3⟩; have HU3 := Lib.hid (used_last G1.out G2.out l1 l2 l3); clear l1 l2 l3))
            go_roundw
            case rel => exact ⟨i + 1, m3, c3, a3, _, by omega, by go_num, rfl, HU3.out⟩
            case measure => simp [intOf]; omega
          · have hkd : decide ((K : Int) ∈ U) = false := decide_eq_false hk
            rw [if_neg hk] at HGET
            rw [hkd] at HGET HIN
            go_wp2_with (first
              | (go_at_call 20; refine HGET.out.mono ?_; rintro e w2 ⟨a2, n2, c2, C2, S2, rfl, g1, g2, g3, g4⟩; have G3 := Lib.hid g3; have HU3 : Hid (Used n (i + 1) w p w2 a m U) := ⟨C2, S2, g1, g2, g3, g4⟩; clear g1 g2 g3 g4)
              | (go_at_call 21; refine (HIN.out _ G3.out).mono ?_; rintro e w' ⟨rfl, rfl⟩))
            go_roundw
            case rel => exact ⟨i + 1, m, c, a, U, by omega, by go_num, rfl, HU3.out⟩
            case measure => simp [intOf]; omega
        · have hw8 : IntKind.u8.wrap (K : Int) = (K : Int) := by simp [IntKind.wrap, IntKind.bits, IntKind.signed]; omega
          have dA : (wr1.alloc (.cells #[.int .u8 K, .int .u8 7] 5)).cell? ⟨bb, off + i, none⟩ = some (.int .u8 c1) := by
            obtain ⟨C, S, _, hh, _⟩ := HU.out
            exact HDW.out _ (hh.below.alloc hh.below.size _)
          go_wp2_with (first
            | (go_at_call 16; refine (rput_any HU.out K hK20 _ (by omega)).mono ?_; rintro e w2 ⟨a2, n2, c2, C2, S2, rfl, g1, g2, g3, g4⟩; have HU2 : Hid (Recent n (i + 1) (lastL U K n) C2 ∧ Has w p C2 w2 S2 ∧ Reads ivV w2 a m U) := ⟨g1, g2, g3⟩; clear g1 g2 g3 g4)
            | (go_at_call 22; refine (last_any HU2.out.2.2 (K : Int) n (by omega) (by omega) hn1).mono ?_; rintro e w3 ⟨a3, m3, c3, rfl, l1, l2, l3⟩; have HU3 := Lib.hid (used_last HU2.out.1 HU2.out.2.1 l1 l2 l3); clear l1 l2 l3))
          go_roundw
          case rel => exact ⟨i + 1, m3, c3, a3, _, by omega, by go_num, rfl, HU3.out⟩
          case measure => simp [intOf]; omega
      · obtain rfl : i = len1 := by omega
        go_wp2
        go_loopw [13] (fun s13 wr => ∃ t : Nat, t ≤ 20 ∧ s13 = .int .i64 t ∧ Hid (Used n i w p wr a m U)) (fun s13 _ => 20 - (intOf s13).toNat)
        case atStart => exact ⟨0, by omega, rfl, HU.out⟩
        case round =>
          rename World => wr2
          obtain ⟨t, ht, rfl, HV⟩ := hrel
          by_cases hlt2 : t < 20
          · have HCP := Lib.hid (rcopy_any HV.out)
            have hw8 : IntKind.u8.wrap (t : Int) = (t : Int) := by simp [IntKind.wrap, IntKind.bits, IntKind.signed]; omega
            have hlt3 : (t : Int) < 20 := by omega
            have HIN : Hid (∀ w', Reads ivV w' a m U → Calls Try.prog 21 #[.slice a m c, .int .i64 t] w' fun e w'' => e = .returned (.bool (decide ((t : Int) ∈ U))) ∧ w'' = w') := fun w' hr => in_any hr _ (by omega)
            have HGB : Hid (∀ w' p2, Both n i w p p2 w' a m U → Calls Try.prog 20 #[.pointer (some p2), .int .i64 t] w' (BGetQ n i w p a m U t)) := fun w' p2 h => bget_any h _ (by omega)
            unfold BGetQ at HGB
            by_cases hk : (t : Int) ∈ U
            · have hkd : decide ((t : Int) ∈ U) = true := decide_eq_true hk
              rw [hkd] at HIN HGB
              obtain ⟨X, hX⟩ := named (strOfNums [(t : Int), 7])
              go_wp2_with (first
                | (go_at_call 23; refine HCP.out.mono ?_; rintro e w2 ⟨p2, rfl, hb⟩; have HBO := Lib.hid hb; clear hb)
                | (go_at_call 20; refine (HGB.out _ _ HBO.out).mono ?_; rintro e w3 ⟨a3, n3, c3, rfl, h1, h2⟩; have HU3 := Lib.hid h1; have HR3 : Hid (Reads ivV w3 a m U) := (by obtain ⟨_, _, _, _, hr, _⟩ := h1; exact Lib.hid hr); have hcv := conv_str (h2 hk) c3; rw [hX.out] at hcv; have hcv2 := conv_str (two_bytes w3 t 7 (by omega) (by omega)) 2; rw [hX.out] at hcv2; clear h1 h2)
                | (go_at_call 21; refine (HIN.out _ HR3.out).mono ?_; rintro e w' ⟨rfl, rfl⟩))
              go_roundw
              case rel =>
                obtain ⟨C4, S4, q1, q2, q3, q4⟩ := HU3.out
                exact ⟨t + 1, by omega, by go_num, C4, S4, q1, q2.alloc _, q3.later ((Below.refl _ _).alloc (Nat.le_refl _) _), fun x e h0 => ⟨(q4 x e h0).1, Nat.lt_of_lt_of_le (q4 x e h0).2.1 (by rw [World.size_alloc]; omega), (q4 x e h0).2.2⟩⟩
              case measure => simp [intOf]; omega
            · have hkd : decide ((t : Int) ∈ U) = false := decide_eq_false hk
              rw [hkd] at HIN HGB
              go_wp2_with (first
                | (go_at_call 23; refine HCP.out.mono ?_; rintro e w2 ⟨p2, rfl, hb⟩; have HBO := Lib.hid hb; clear hb)
                | (go_at_call 20; refine (HGB.out _ _ HBO.out).mono ?_; rintro e w3 ⟨a3, n3, c3, rfl, h1, h2⟩; have HU3 := Lib.hid h1; have HR3 : Hid (Reads ivV w3 a m U) := (by obtain ⟨_, _, _, _, hr, _⟩ := h1; exact Lib.hid hr); clear h1 h2)
                | (go_at_call 21; refine (HIN.out _ HR3.out).mono ?_; rintro e w' ⟨rfl, rfl⟩))
              go_roundw
              case rel => exact ⟨t + 1, by omega, by go_num, HU3.out⟩
              case measure => simp [intOf]; omega
          · obtain rfl : t = 20 := by omega
            have HBE : Hid (Below w.heap.size w wr2) := by
              obtain ⟨_, _, _, hh, _⟩ := HV.out
              exact Lib.hid hh.below
            go_wp2_with (go_at_call 11; refine (awake_any _).mono ?_; rintro e w2 ⟨rfl, hb⟩; have HG := Lib.hid hb; clear hb)
            go_ret
            exact ⟨rfl, Below.weak HBE.out HG.out⟩

set_option maxRecDepth 100000 in
theorem lifted (os : Os) (started : os.Started) (H : Type) (enc : TypeId × Value → H) :
    ReturnsInHanded {} Try.checked os 5 .any (Rows.lruRoomSpec.pre6 enc Try.prog Try.f5 Rows.lruRoomRow.domain false) (Rows.lruRoomSpec.post enc Try.prog Try.f5 false true false false) := by
  refine returnsInHanded_of_change (C := Try.checked) own started (by kernel_rfl) Try.func5
    (ChangeSpec.witness6 (enc := enc) (C := Try.checked) false ⟨#[], #[.int .u8 0, .slice none 0 0], []⟩ 8 (by kernel_rfl) (by kernel_rfl) (by kernel_rfl) (by kernel_rfl)) ?_
  intro W base args ds gs before hval0 hW hcnd _
  have hval : ∀ (j : Nat) t v, Try.f5.params[j]? = some t → args[j]? = some v → Value.okWide Try.prog W .any base t v := hval0
  have hW' := hW
  obtain ⟨p, q, hA0, hV, rfl, hfz, hnd⟩ := hW
  have hA : DataW.TrodAll enc Try.prog W 0 (fun _ => true) true Try.f5.params.toList args.toList ds p := hA0
  rw [Try.params5] at hA hval
  obtain ⟨v0, vs0, d0, ds0, p0, q0, hargs, rfl, rfl, h0, r0⟩ := trodAll_cons hA
  obtain ⟨v1, vs1, d1, ds1, p1, q1, rfl, rfl, rfl, h1, r1⟩ := trodAll_cons r0
  obtain ⟨rfl, rfl, rfl⟩ := trodAll_nil r1
  obtain rfl : args = #[v0, v1] := by cases args; simp_all
  obtain ⟨rfl, rfl⟩ := trodVars_none hV
  have k0 := h0
  have lt0 : ∀ x ∈ p0, x.block < W.heap.size := by obtain ⟨m, hm⟩ := k0; exact DataW.trod_lt m _ _ _ hm
  obtain ⟨a0, rfl, _, _, w0⟩ := open_int Try.underlying5 (hval 0 5 v0 rfl rfl) h0
  have k1 := h1
  have lt1 : ∀ x ∈ p1, x.block < W.heap.size := by obtain ⟨m, hm⟩ := k1; exact DataW.trod_lt m _ _ _ hm
  obtain ⟨a1, len1, cap1, rfl⟩ := okWide_slice Try.underlying34 (hval 1 34 v1 rfl rfl)
  obtain ⟨z1, w1⟩ : ∃ zs, IsRow .u8 W a1 len1 cap1 zs := by
    obtain ⟨fuel, hf⟩ := h1
    rcases open_ints Try.underlying34 Try.underlying5 (by kernel_rfl) hf with ⟨hcs, _⟩ | ⟨x, l, c, zs, hcs, _, hl, hm, hz, _, hcell, hwz⟩
    · simp [Value.cells] at hcs
      obtain ⟨rfl, rfl, rfl⟩ := hcs
      exact ⟨[], .inl ⟨rfl, rfl, rfl, rfl⟩⟩
    · simp [Value.cells] at hcs
      obtain ⟨rfl, rfl, rfl⟩ := hcs
      exact ⟨zs, .inr ⟨_, rfl, hl, hm, by simpa using hz, hcell, hwz⟩⟩
  clear hA0 hval0
  refine (walk a0 a1 len1 cap1 z1 W w0 w1).mono fun e W' ⟨he, bel⟩ => ?_
  subst he
  exact ⟨_, rfl, _, _, _, [], _, [], hW', trodAll_mk1 (shut_bool Try.underlying4 _), (trodAll_cons_mk (Below.trod laidOut (by kernel_rfl) (of_decide_eq_true (by kernel_rfl)) k0 bel lt0) (trodAll_cons_mk (Below.trod laidOut (by kernel_rfl) (of_decide_eq_true (by kernel_rfl)) k1 bel lt1) trodAll_mk0)), rfl, bel.frame _, fun h => by cases h⟩

theorem over : Rows.lruRoomRow.holds Try.pinned (OpenSpec.ofChange Rows.lruRoomSpec) :=
  OpenClaim.holds_of_wide 5 Try.f5 rfl rfl rfl rfl rfl rfl rfl ⟨rfl, rfl, rfl, rfl, rfl⟩ rfl rfl rfl rfl rfl (by kernel_rfl) Try.func5 (by kernel_rfl)
    (of_decide_eq_true (by kernel_rfl)) (by unfold Func.isWrapper; first | (rw [if_pos (by decide +kernel)]; kernel_rfl) | (rw [if_neg (by decide +kernel)]; exact ⟨rfl, rfl⟩))
    (fun os started H enc _ => lifted os started H enc)

/-- The statement. -/
theorem proved : Rows.LruRoomSaid := over
#print axioms proved
end Go.Proofs.Ytjpblndjfcofpaa.lruRoom
