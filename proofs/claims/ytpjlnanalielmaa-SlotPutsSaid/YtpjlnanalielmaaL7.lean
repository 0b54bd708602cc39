/-
  What the reference's Order and Slots answer (layer 6). Conditions: the slices read as bytes; the lists read alike.
-/
import Derived.Test.YtpjlnanalielmaaK7
namespace Go.Proofs.Ytpjlnanalielmaa
open Go.RowKit
set_option linter.unusedVariables false

theorem slot_cells {w : World} {b off n : Nat} {L : List Sl} (h : Reads slV w (some ⟨b, off, none⟩) n L) (j : Nat) (q s c m : Int) (hj : L[j]? = some (q, s, c, m)) :
    w.cell? ⟨b, off + j * 4, none⟩ = some (.int .i64 q) ∧ w.cell? ⟨b, off + j * 4 + 1, none⟩ = some (.int .i64 s) ∧ w.cell? ⟨b, off + j * 4 + 2, none⟩ = some (.int .i64 c) ∧ w.cell? ⟨b, off + j * 4 + 3, none⟩ = some (.int .u32 m) := by
  have h0 := h.cellAt sl_rowed j 0 (q, s, c, m) _ hj rfl
  have h1 := h.cellAt sl_rowed j 1 (q, s, c, m) _ hj rfl
  have h2 := h.cellAt sl_rowed j 2 (q, s, c, m) _ hj rfl
  have h3 := h.cellAt sl_rowed j 3 (q, s, c, m) _ hj rfl
  exact ⟨h0, h1, h2, h3⟩
set_option maxHeartbeats 1600000 in
/-- Two lists that read alike. -/
theorem refSlots_any (a1 a2 : Option Addr) (n c1 c2 : Nat) (L : List Sl) (w : World) (hA : Reads slV w a1 n L) (hB : Reads slV w a2 n L) :
    Calls Try.prog 15 #[.slice a1 n c1, .slice a2 n c2] w fun e w' => e = .returned (.bool true) ∧ Below w.heap.size w w' := by
  have HA := Lib.hid hA
  have HB := Lib.hid hB
  have hsz := hA.2.1
  have HL := Lib.hid hA.1
  clear hA hB
  go_enter Try.func15, Try.ntmps15
  go_wp2
  go_loopw [5] (fun i wr => ∃ j : Nat, j ≤ n ∧ i = .int .i64 j ∧ Hid (Below w.heap.size w wr)) (fun i _ => n - (intOf i).toNat)
  case atStart => exact ⟨0, Nat.zero_le _, rfl, Below.refl _ _⟩
  case round =>
    obtain ⟨j, hj, rfl, HG⟩ := hrel
    by_cases hlt : j < n
    · obtain ⟨b1, o1, rfl⟩ := HA.out.lies (by omega)
      obtain ⟨b2, o2, rfl⟩ := HB.out.lies (by omega)
      obtain ⟨⟨q, s, c, m⟩, hr⟩ : ∃ r, L[j]? = some r := ⟨_, List.getElem?_eq_getElem (by have := HL.out; omega)⟩
      obtain ⟨d1, d2, d3, d4⟩ := slot_cells (HA.out.later HG.out) j q s c m hr
      obtain ⟨e1, e2, e3, e4⟩ := slot_cells (HB.out.later HG.out) j q s c m hr
      have HR := Lib.hid hr
      clear hr
      go_wp2
      go_region
      go_wp2
      go_roundw
      case rel => exact ⟨j + 1, by omega, by go_num, HG.out.drew⟩
      case measure => simp [intOf]; omega
    · obtain rfl : j = n := by omega
      go_wp2
      go_ret
      exact ⟨rfl, HG.out⟩
theorem two_reads7 (w : World) (x y : Sl) (cs : Array Value) (T : TypeId) (h : cs.toList = slV x ++ slV y) : Reads slV (w.alloc (.cells cs T)) (some ⟨w.heap.size, 0, none⟩) 2 [x, y] := by
  refine ⟨rfl, by omega, Or.inr ⟨w.heap.size, 0, rfl, by simp, fun j u hu => ?_⟩⟩
  have e : [x, y].flatMap slV = slV x ++ slV y := by simp
  rw [e, ← h] at hu
  rw [Nat.zero_add, World.cell?_alloc_new]
  simpa using hu
theorem two_reads8 (w : World) (X : Obj) (x y : Sl) (cs : Array Value) (T : TypeId) (h : cs.toList = slV x ++ slV y) : Reads slV ((w.alloc X).alloc (.cells cs T)) (some ⟨w.heap.size + 1, 0, none⟩) 2 [x, y] := by
  have := two_reads7 (w.alloc X) x y cs T h
  rwa [World.size_alloc] at this
theorem GotS.no {w0 w : World} {e : Ending} (h : GotS none w0 e w) : e = .returned (.tuple #[.agg #[.int .i64 0, .int .i64 0, .int .i64 0, .int .u32 0], .int .i64 3]) ∧ Below w0.heap.size w0 w := h
theorem GotS.yes {w0 w : World} {e : Ending} {q s c m : Int} (h : GotS (some (q, s, c, m)) w0 e w) : e = .returned (.tuple #[.agg #[.int .i64 q, .int .i64 s, .int .i64 c, .int .u32 m], .int .i64 0]) ∧ Below w0.heap.size w0 w := h
def slA (x : Sl) : Array Value := #[.int .i64 x.1, .int .i64 x.2.1, .int .i64 x.2.2.1, .int .u32 x.2.2.2]
set_option maxHeartbeats 4000000 in
set_option maxRecDepth 100000 in
theorem refOrder_any (w : World) (a1 a2 : Option Addr) (n1 c1 n2 c2 : Nat) (l1 l2 : List Int) (hB1 : Bytes w a1 n1 l1) (hB2 : Bytes w a2 n2 l2) :
    Calls Try.prog 17 #[.slice a1 n1 c1, .slice a2 n2 c2] w fun e w' => ∃ a n c, e = .returned (.slice a n c) ∧ Reads slV w' a n (ordS (getS l1) (getS l2)) ∧ Below w.heap.size w w' := by
  have HG1 : Hid (Calls Try.prog 14 #[.slice a1 n1 c1] w (GotS (getS l1) w)) := refGetSlot_any w a1 n1 c1 l1 hB1
  have HG2 : Hid (∀ wr, Below w.heap.size w wr → Calls Try.prog 14 #[.slice a2 n2 c2] wr (GotS (getS l2) wr)) := fun wr h => refGetSlot_any wr a2 n2 c2 l2 (hB2.later h)
  obtain ⟨o1, ho1⟩ := named (getS l1)
  obtain ⟨o2, ho2⟩ := named (getS l2)
  rw [ho1.out] at HG1 ⊢
  rw [ho2.out] at HG2 ⊢
  clear hB1 hB2 ho1 ho2
  cases o1 with
  | none =>
    cases o2 with
    | none =>
      go_enter Try.func17, Try.ntmps17
      go_wp2_with (first
        | (go_at_call 14; (with_reducible refine HG1.out.mono ?_); rintro e w1 g0; obtain ⟨rfl, g⟩ := g0.no; have HB1 := Lib.hid (g.alloc g.size (.cells #[.int .i64 0, .int .i64 0, .int .i64 0, .int .u32 0] 24)); have HX1 := Lib.hid (Blk.new w1 24 #[.int .i64 0, .int .i64 0, .int .i64 0, .int .u32 0]); have hlt : w1.heap.size < (w1.alloc (.cells #[.int .i64 0, .int .i64 0, .int .i64 0, .int .u32 0] 24)).heap.size := (by simp); clear g g0 HG1)
        | (go_at_call 14; (with_reducible refine (HG2.out _ HB1.out).mono ?_); rintro e w2 g0; obtain ⟨rfl, g⟩ := g0.no; have HB2 := Lib.hid (HB1.out.trans (g.mono HB1.out.size)); have HX2 := Lib.hid ((HX1.out.later g).alloc (.cells #[.int .i64 0, .int .i64 0, .int .i64 0, .int .u32 0] 24)); obtain ⟨k0, k1, k2, k3⟩ := cells4 HX2.out; clear g g0 HG2))
      go_ret
      exact ⟨none, 0, 0, rfl, Reads.nil _ _ _, HB2.out.alloc HB2.out.size _⟩
    | some y =>
      obtain ⟨q2, s2, c2', m2⟩ := y
      go_enter Try.func17, Try.ntmps17
      go_wp2_with (first
        | (go_at_call 14; (with_reducible refine HG1.out.mono ?_); rintro e w1 g0; obtain ⟨rfl, g⟩ := g0.no; have HB1 := Lib.hid (g.alloc g.size (.cells #[.int .i64 0, .int .i64 0, .int .i64 0, .int .u32 0] 24)); have HX1 := Lib.hid (Blk.new w1 24 #[.int .i64 0, .int .i64 0, .int .i64 0, .int .u32 0]); have hlt : w1.heap.size < (w1.alloc (.cells #[.int .i64 0, .int .i64 0, .int .i64 0, .int .u32 0] 24)).heap.size := (by simp); clear g g0 HG1)
        | (go_at_call 14; (with_reducible refine (HG2.out _ HB1.out).mono ?_); rintro e w2 g0; obtain ⟨rfl, g⟩ := g0.yes; have HB2 := Lib.hid (HB1.out.trans (g.mono HB1.out.size)); have HX2 := Lib.hid ((HX1.out.later g).alloc (.cells #[.int .i64 q2, .int .i64 s2, .int .i64 c2', .int .u32 m2] 24)); obtain ⟨k0, k1, k2, k3⟩ := cells4 HX2.out; clear g g0 HG2))
      go_ret
      exact ⟨_, 1, 1, rfl, one_reads2 _ _ ((q2, s2, c2', m2) : Sl) _ _ rfl, (HB2.out.alloc HB2.out.size _).alloc (Nat.le_trans HB2.out.size (by simp)) _⟩
  | some x =>
    obtain ⟨q1, s1, c1', m1⟩ := x
    cases o2 with
    | none =>
      go_enter Try.func17, Try.ntmps17
      go_wp2_with (first
        | (go_at_call 14; (with_reducible refine HG1.out.mono ?_); rintro e w1 g0; obtain ⟨rfl, g⟩ := g0.yes; have HB1 := Lib.hid (g.alloc g.size (.cells #[.int .i64 q1, .int .i64 s1, .int .i64 c1', .int .u32 m1] 24)); have HX1 := Lib.hid (Blk.new w1 24 #[.int .i64 q1, .int .i64 s1, .int .i64 c1', .int .u32 m1]); have hlt : w1.heap.size < (w1.alloc (.cells #[.int .i64 q1, .int .i64 s1, .int .i64 c1', .int .u32 m1] 24)).heap.size := (by simp); clear g g0 HG1)
        | (go_at_call 14; (with_reducible refine (HG2.out _ HB1.out).mono ?_); rintro e w2 g0; obtain ⟨rfl, g⟩ := g0.no; have HB2 := Lib.hid (HB1.out.trans (g.mono HB1.out.size)); have HX2 := Lib.hid ((HX1.out.later g).alloc (.cells #[.int .i64 0, .int .i64 0, .int .i64 0, .int .u32 0] 24)); obtain ⟨k0, k1, k2, k3⟩ := cells4 HX2.out; clear g g0 HG2))
      go_ret
      exact ⟨_, 1, 1, rfl, one_reads2 _ _ ((q1, s1, c1', m1) : Sl) _ _ rfl, (HB2.out.alloc HB2.out.size _).alloc (Nat.le_trans HB2.out.size (by simp)) _⟩
    | some y =>
      obtain ⟨q2, s2, c2', m2⟩ := y
      by_cases hq : q1 < q2
      · have HQ : Hid (ordS (some (q1, s1, c1', m1)) (some (q2, s2, c2', m2)) = [(q2, s2, c2', m2), (q1, s1, c1', m1)]) := by simp [Hid, ordS, hq]
        rw [HQ.out]
        go_enter Try.func17, Try.ntmps17
        go_wp2_with (first
          | (go_at_call 14; (with_reducible refine HG1.out.mono ?_); rintro e w1 g0; obtain ⟨rfl, g⟩ := g0.yes; have HB1 := Lib.hid (g.alloc g.size (.cells #[.int .i64 q1, .int .i64 s1, .int .i64 c1', .int .u32 m1] 24)); have HX1 := Lib.hid (Blk.new w1 24 #[.int .i64 q1, .int .i64 s1, .int .i64 c1', .int .u32 m1]); have hlt : w1.heap.size < (w1.alloc (.cells #[.int .i64 q1, .int .i64 s1, .int .i64 c1', .int .u32 m1] 24)).heap.size := (by simp); clear g g0 HG1)
          | (go_at_call 14; (with_reducible refine (HG2.out _ HB1.out).mono ?_); rintro e w2 g0; obtain ⟨rfl, g⟩ := g0.yes; have HB2 := Lib.hid (HB1.out.trans (g.mono HB1.out.size)); have HX2 := Lib.hid ((HX1.out.later g).alloc (.cells #[.int .i64 q2, .int .i64 s2, .int .i64 c2', .int .u32 m2] 24)); obtain ⟨k0, k1, k2, k3⟩ := cells4 HX2.out; clear g g0 HG2))
        go_ret
        exact ⟨_, 2, 2, rfl, two_reads8 _ _ ((q2, s2, c2', m2) : Sl) ((q1, s1, c1', m1) : Sl) _ _ rfl, (HB2.out.alloc HB2.out.size _).alloc (Nat.le_trans HB2.out.size (by simp)) _⟩
      · have HQ : Hid (ordS (some (q1, s1, c1', m1)) (some (q2, s2, c2', m2)) = [(q1, s1, c1', m1), (q2, s2, c2', m2)]) := by simp [Hid, ordS, hq]
        rw [HQ.out]
        go_enter Try.func17, Try.ntmps17
        go_wp2_with (first
          | (go_at_call 14; (with_reducible refine HG1.out.mono ?_); rintro e w1 g0; obtain ⟨rfl, g⟩ := g0.yes; have HB1 := Lib.hid (g.alloc g.size (.cells #[.int .i64 q1, .int .i64 s1, .int .i64 c1', .int .u32 m1] 24)); have HX1 := Lib.hid (Blk.new w1 24 #[.int .i64 q1, .int .i64 s1, .int .i64 c1', .int .u32 m1]); have hlt : w1.heap.size < (w1.alloc (.cells #[.int .i64 q1, .int .i64 s1, .int .i64 c1', .int .u32 m1] 24)).heap.size := (by simp); clear g g0 HG1)
          | (go_at_call 14; (with_reducible refine (HG2.out _ HB1.out).mono ?_); rintro e w2 g0; obtain ⟨rfl, g⟩ := g0.yes; have HB2 := Lib.hid (HB1.out.trans (g.mono HB1.out.size)); have HX2 := Lib.hid ((HX1.out.later g).alloc (.cells #[.int .i64 q2, .int .i64 s2, .int .i64 c2', .int .u32 m2] 24)); obtain ⟨k0, k1, k2, k3⟩ := cells4 HX2.out; clear g g0 HG2))
        go_ret
        exact ⟨_, 2, 2, rfl, two_reads8 _ _ ((q1, s1, c1', m1) : Sl) ((q2, s2, c2', m2) : Sl) _ _ rfl, (HB2.out.alloc HB2.out.size _).alloc (Nat.le_trans HB2.out.size (by simp)) _⟩
end Go.Proofs.Ytpjlnanalielmaa
