/-
  The document's example of layer 11 ('awake'). Conditions: none.
-/
import Derived.Test.YtobnmdjpcmegiaaKn
import Derived.Lib.SlBytesConst
namespace Go.Proofs.Ytobnmdjpcmegiaa
open Go.RowKit
set_option linter.unusedVariables false

theorem below10 {a b c d e f g h i j : Prop} {n : Nat} {w w' : World} (x : a ∧ b ∧ c ∧ d ∧ e ∧ f ∧ g ∧ h ∧ i ∧ j ∧ Below n w w') : Below n w w' := x.2.2.2.2.2.2.2.2.2.2
def exF : Int := ((fingerOf [98] : Nat) : Int)
theorem ex_add : addP [] (exF, 2, 5, 0, 0, 0) = [(exF, 2, 5, 0, 0, 0)] := by simp [addP]
theorem ex_find : findP [(exF, 2, 5, 0, 0, 0)] exF = [(2, 5, 0, 0, 0)] := by simp [findP]
theorem byte98 (w : World) : Bytes (w.alloc (.cells #[.int .u8 98] 5 (1, 2))) (some ⟨w.heap.size, 0, none⟩) 1 [98] := by
  refine ⟨rfl, ⟨by simp, by simp⟩, Or.inr ⟨w.heap.size, 0, rfl, by simp, fun i hi => ?_⟩⟩
  obtain rfl : i = 0 := by simpa using hi
  rw [cell_of_row _ w.heap.size (0 + 0) #[.int .u8 98] 5 (1, 2) (heap_alloc_new w _)]
  rfl
theorem byte98' (w : World) (X : Obj) : Bytes ((w.alloc X).alloc (.cells #[.int .u8 98] 5 (1, 2))) (some ⟨w.heap.size + 1, 0, none⟩) 1 [98] := by
  have := byte98 (w.alloc X)
  rwa [World.size_alloc] at this
set_option maxHeartbeats 1600000 in
set_option maxRecDepth 100000 in
theorem awake_any (w : World) : Calls Try.prog 9 #[] w fun e w' => e = .returned (.bool true) ∧ Below w.heap.size w w' := by
  obtain ⟨B, hB⟩ := named w.heap.size
  have hBB := hB.out
  have HNEW := Lib.hid (new_any (w0 := w) (w := w) (Below.refl _ _))
  rw [hBB] at HNEW
  have HADD : Hid (∀ (W : World) S a c, IxP w B [] S W → Bytes W a 1 [98] → Calls Try.prog 12 #[.pointer (some ⟨B, 0, none⟩), .slice a 1 c, .agg #[.int .i64 2, .int .i64 5, .int .i64 0, .int .i64 0, .int .u32 0]] W (GivesP w B [(exF, 2, 5, 0, 0, 0)] (.tuple #[]) S W)) := fun W S a c h hb => by
    have := add_any h a 1 c [98] hb 2 5 0 0 0
    rw [show addP [] ((fingerOf [98] : Nat), 2, 5, 0, 0, 0) = [(exF, 2, 5, 0, 0, 0)] from ex_add] at this
    exact this
  have HFIND : Hid (∀ (W : World) S a c, IxP w B [(exF, 2, 5, 0, 0, 0)] S W → Bytes W a 1 [98] → Calls Try.prog 13 #[.pointer (some ⟨B, 0, none⟩), .slice a 1 c] W fun e w' => ∃ a' c', e = .returned (.slice a' 1 c') ∧ Reads enV w' a' 1 [(2, 5, 0, 0, 0)] ∧ IxP w B [(exF, 2, 5, 0, 0, 0)] S w' ∧ Away S W S w') := fun W S a c h hb => by
    have := find_any h a 1 c [98] hb
    refine this.mono fun e w' ⟨a', c', e1, q1, q2, q3⟩ => ?_
    rw [show ((fingerOf [98] : Nat) : Int) = exF from rfl, ex_find] at e1 q1
    exact ⟨a', c', e1, (q1.reads en_rowed).1, q2, q3⟩
  have HLEN : Hid (∀ (W : World) S, IxP w B [(exF, 2, 5, 0, 0, 0)] S W → Calls Try.prog 14 #[.pointer (some ⟨B, 0, none⟩)] W fun e w' => e = .returned (.int .i64 1) ∧ w' = W) := fun W S h => len_any h
  have hg := guard_en
  have hq : ∀ w : World, (binOp .eql 35 (.agg #[.int .i64 2, .int .i64 5, .int .i64 0, .int .i64 0, .int .u32 0]) (.agg #[.int .i64 2, .int .i64 5, .int .i64 0, .int .i64 0, .int .u32 0])).run Try.prog w = .ok (.bool true) w := fun w => by
    have := eql_en (2, 5, 0, 0, 0) (2, 5, 0, 0, 0) w
    rw [decide_eq_true rfl] at this
    exact this
  have kc := fun (w : World) (C : Array Value) (n c : Nat) => Lib.run_convert_bytes_const (P := Try.prog) w 32 5 C n c Try.underlying32 Try.underlying5
  have kc1 : ∀ (w : World) (X : Obj) (C : Array Value) (n c : Nat), (convert 32 32 (.slice (some ⟨w.heap.size + 1, 0, none⟩) n c)).run Try.prog ((w.alloc X).alloc (.cells C 5)) = .ok (.slice (some ⟨w.heap.size + 1, 0, none⟩) n c) ((w.alloc X).alloc (.cells C 5 (C.size, C.size + 1))) := fun w X C n c => by
    have := kc (w.alloc X) C n c
    rwa [World.size_alloc] at this
  obtain ⟨F, hF⟩ := named exF
  rw [hF.out] at HADD HFIND HLEN
  go_enter Try.func9, Try.ntmps9
  go_wp2_with (first
    | (go_at_call 10; refine HNEW.out.mono ?_; rintro e w1 ⟨rfl, ⟨S, g1, g2⟩, g3⟩; have HX1 := Lib.hid g1; have HBE : Hid (Blk (w1.alloc (.cells #[.int .i64 2, .int .i64 5, .int .i64 0, .int .i64 0, .int .u32 0] 35)) w1.heap.size 35 #[.int .i64 2, .int .i64 5, .int .i64 0, .int .i64 0, .int .u32 0]) := Lib.hid (Blk.new w1 _ _); have HNS : Hid (¬ S w1.heap.size) := Lib.hid (fun h => by have := g1.lt _ h; omega); clear g1 g2 g3)
    | (go_at_call 12; refine (HADD.out _ S _ _ ((HX1.out.alloc _).alloc _) (byte98' _ _)).mono ?_; rintro e w2 ⟨rfl, S2, g1, g2⟩; have HX2 := Lib.hid g1; have HA2 := Lib.hid g2; clear g1 g2)
    | (go_at_call 13; refine (HFIND.out _ S2 _ _ (HX2.out.alloc _) (byte98 _)).mono ?_; rintro e w3 ⟨a', c', rfl, g1, g2, g3⟩; have HR3 := Lib.hid g1; have HX3 := Lib.hid g2; have HA3 := Lib.hid g3; clear g1 g2 g3))
  obtain ⟨b3, o3, rfl, r0, r1, r2, r3, r4⟩ := rd_cells HR3.out 0 _ rfl
  simp only [Nat.zero_mul, Nat.add_zero] at r0 r1 r2 r3 r4
  have HB2 := Lib.hid ((HBE.out.alloc (.cells #[.int .u8 98] 5 (1, 2))).away HNS.out HA2.out)
  have hNS2 : ¬ S2 w1.heap.size := HA2.out.far (by simp; omega) HNS.out
  have HB3 := Lib.hid ((HB2.out.alloc (.cells #[.int .u8 98] 5 (1, 2))).away hNS2 HA3.out)
  obtain ⟨N, hN⟩ := named w1.heap.size
  have hNN := hN.out
  rw [hNN] at HB3 ⊢
  obtain ⟨q0, q1, q2, q3, q4⟩ := cells5 HB3.out
  have hlt3 : b3 < w3.heap.size := by
    obtain ⟨_, _, h3⟩ := HR3.out
    obtain ⟨b', off', e, hlt, _⟩ := h3.resolve_left (by omega)
    cases e
    exact hlt
  have HSS : Hid (∀ W : World, Below w3.heap.size w3 W → W.cell? ⟨N, 0, none⟩ = some (.int .i64 2) ∧ W.cell? ⟨N, 1, none⟩ = some (.int .i64 5) ∧ W.cell? ⟨N, 2, none⟩ = some (.int .i64 0) ∧ W.cell? ⟨N, 3, none⟩ = some (.int .i64 0) ∧ W.cell? ⟨N, 4, none⟩ = some (.int .u32 0) ∧
      W.cell? ⟨b3, o3, none⟩ = some (.int .i64 2) ∧ W.cell? ⟨b3, o3 + 1, none⟩ = some (.int .i64 5) ∧ W.cell? ⟨b3, o3 + 2, none⟩ = some (.int .i64 0) ∧ W.cell? ⟨b3, o3 + 3, none⟩ = some (.int .i64 0) ∧ W.cell? ⟨b3, o3 + 4, none⟩ = some (.int .u32 0) ∧ Below w3.heap.size w3 W) := fun W hb => by
    obtain ⟨p0, p1, p2, p3, p4⟩ := cells5 (HB3.out.later hb)
    have hc : ∀ i v, w3.cell? ⟨b3, i, none⟩ = some v → W.cell? ⟨b3, i, none⟩ = some v := fun i v h => (hb.cell (p := ⟨b3, i, none⟩) hlt3).trans h
    exact ⟨p0, p1, p2, p3, p4, hc _ _ r0, hc _ _ r1, hc _ _ r2, hc _ _ r3, hc _ _ r4, hb⟩
  go_region_held3 (fun W => W.cell? ⟨N, 0, none⟩ = some (.int .i64 2) ∧ W.cell? ⟨N, 1, none⟩ = some (.int .i64 5) ∧ W.cell? ⟨N, 2, none⟩ = some (.int .i64 0) ∧ W.cell? ⟨N, 3, none⟩ = some (.int .i64 0) ∧ W.cell? ⟨N, 4, none⟩ = some (.int .u32 0) ∧
      W.cell? ⟨b3, o3, none⟩ = some (.int .i64 2) ∧ W.cell? ⟨b3, o3 + 1, none⟩ = some (.int .i64 5) ∧ W.cell? ⟨b3, o3 + 2, none⟩ = some (.int .i64 0) ∧ W.cell? ⟨b3, o3 + 3, none⟩ = some (.int .i64 0) ∧ W.cell? ⟨b3, o3 + 4, none⟩ = some (.int .u32 0) ∧ Below w3.heap.size w3 W) (first | assumption | exact HSS.out _ (Below.refl _ _) | exact HSS.out _ (Below.refl _ _).drew) (first | (go_at_call 14; refine (HLEN.out _ S2 (HX3.out.later (below10 (by assumption)))).mono ?_; rintro e w4 ⟨rfl, rfl⟩))
  all_goals
    go_wp2_with fail
    go_ret
    refine ⟨rfl, ?_⟩
    exact HX3.out.below.drew
end Go.Proofs.Ytobnmdjpcmegiaa
