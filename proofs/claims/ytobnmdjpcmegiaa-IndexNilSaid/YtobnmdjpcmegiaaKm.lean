/-
  'act' of layer 11: an act on both. Conditions: both as they lie, short bytes.
-/
import Derived.Test.YtobnmdjpcmegiaaKl
namespace Go.Proofs.Ytobnmdjpcmegiaa
open Go.RowKit
set_option linter.unusedVariables false

theorem cells7 {W : World} {X : Nat} {t : TypeId} {a b c d e f g : Value} (h : Blk W X t #[a, b, c, d, e, f, g]) : W.cell? ⟨X, 0, none⟩ = some a ∧ W.cell? ⟨X, 1, none⟩ = some b ∧ W.cell? ⟨X, 2, none⟩ = some c ∧ W.cell? ⟨X, 3, none⟩ = some d ∧ W.cell? ⟨X, 4, none⟩ = some e ∧ W.cell? ⟨X, 5, none⟩ = some f ∧ W.cell? ⟨X, 6, none⟩ = some g := by
  rw [h.cell, h.cell, h.cell, h.cell, h.cell, h.cell, h.cell]
  exact ⟨rfl, rfl, rfl, rfl, rfl, rfl, rfl⟩
theorem At.of1 {w0 W1 W : World} {B1 B2 : Nat} {L1 L2 : List Pr} {S : Nat → Prop} {p : Prop} (h : p ∧ At w0 W1 B1 B2 L1 L2 S W) : At w0 W1 B1 B2 L1 L2 S W := h.2
theorem At.drew {w0 W1 W : World} {B1 B2 : Nat} {L1 L2 : List Pr} {S : Nat → Prop} (h : At w0 W1 B1 B2 L1 L2 S W) : At w0 W1 B1 B2 L1 L2 S W.drew := h.later (Below.refl _ _).drew
theorem keep1 {w0 W1 W : World} {B1 B2 N : Nat} {L1 L2 : List Pr} {S : Nat → Prop} {t : TypeId} {a b c d e f g : Value} (hB : Blk W1 N t #[a, b, c, d, e, f, g]) (hS : ¬ S N) (h : At w0 W1 B1 B2 L1 L2 S W) : W.cell? ⟨N, 1, none⟩ = some b ∧ At w0 W1 B1 B2 L1 L2 S W :=
  ⟨(cells7 (h.blk hB hS)).2.1, h⟩
theorem At.of5 {w0 W1 W : World} {B1 B2 : Nat} {L1 L2 : List Pr} {S : Nat → Prop} {p q r u v : Prop} (h : p ∧ q ∧ r ∧ u ∧ v ∧ At w0 W1 B1 B2 L1 L2 S W) : At w0 W1 B1 B2 L1 L2 S W := h.2.2.2.2.2
theorem keep5 {w0 W1 W : World} {B1 B2 N : Nat} {L1 L2 : List Pr} {S : Nat → Prop} {t : TypeId} {a b c d e f g : Value} (hB : Blk W1 N t #[a, b, c, d, e, f, g]) (hS : ¬ S N) (h : At w0 W1 B1 B2 L1 L2 S W) : W.cell? ⟨N, 2, none⟩ = some c ∧ W.cell? ⟨N, 3, none⟩ = some d ∧ W.cell? ⟨N, 4, none⟩ = some e ∧ W.cell? ⟨N, 5, none⟩ = some f ∧ W.cell? ⟨N, 6, none⟩ = some g ∧ At w0 W1 B1 B2 L1 L2 S W := by
  obtain ⟨_, _, x2, x3, x4, x5, x6⟩ := cells7 (h.blk hB hS)
  exact ⟨x2, x3, x4, x5, x6, h⟩
/-- The reference's list. -/
theorem At.refL {w0 W1 W : World} {B1 B2 : Nat} {L1 L2 : List Pr} {S : Nat → Prop} (h : At w0 W1 B1 B2 L1 L2 S W) : ∃ a c, W.cell? ⟨B2, 0, none⟩ = some (.slice a L2.length c) := by
  obtain ⟨S2, g, _⟩ := h.right
  obtain ⟨v, fd, hb, ho, _⟩ := g.at'
  obtain ⟨a, c, rfl, _⟩ := ho.shape se_rowed
  exact ⟨a, c, hb.cell 0⟩
theorem keep6 {w0 W1 W : World} {B1 B2 : Nat} {L1 L2 L3 : List Pr} {S : Nat → Prop} {p q r u v : Prop} (h : p ∧ q ∧ r ∧ u ∧ v ∧ At w0 W1 B1 B2 L1 L2 S W) : p ∧ q ∧ r ∧ u ∧ v ∧ ∃ X, At w0 W1 B1 B2 X L2 S W ∨ At w0 W1 B1 B2 X L3 S W := ⟨h.1, h.2.1, h.2.2.1, h.2.2.2.1, h.2.2.2.2.1, L1, Or.inl h.2.2.2.2.2⟩
theorem keep7 {w0 W1 W : World} {B1 B2 : Nat} {L1 L2 L3 : List Pr} {S : Nat → Prop} {p q r u v : Prop} (h : p ∧ q ∧ r ∧ u ∧ v ∧ At w0 W1 B1 B2 L1 L2 S W) : p ∧ q ∧ r ∧ u ∧ v ∧ ∃ X, At w0 W1 B1 B2 X L3 S W ∨ At w0 W1 B1 B2 X L2 S W := ⟨h.1, h.2.1, h.2.2.1, h.2.2.2.1, h.2.2.2.2.1, L1, Or.inr h.2.2.2.2.2⟩
def ActQ (w0 : World) (B1 B2 : Nat) (L : List Pr) (S : Nat → Prop) (w : World) (e : Ending) (w' : World) : Prop := e = .returned (.bool true) ∧ ∃ S', Duo w0 B1 B2 L L S' w' ∧ Away S w S' w'
set_option maxHeartbeats 1600000 in
set_option maxRecDepth 100000 in
theorem act_0 {w0 w : World} {B1 B2 : Nat} {L : List Pr} {S : Nat → Prop} (h : Duo w0 B1 B2 L L S w) {ab : Option Addr} {len : Nat} (cap : Nat) {l : List Int} (hl : Bytes w0 ab len l) (k s m z g : Int) :
    Calls Try.prog 11 #[.pointer (some ⟨B1, 0, none⟩), .pointer (some ⟨B2, 0, none⟩), .agg #[.int .i64 0, .slice ab len cap, .int .i64 k, .int .i64 s, .int .i64 m, .int .i64 z, .int .u32 g]] w (ActQ w0 B1 B2 (addP L ((fingerOf l : Nat), k, s, m, z, g)) S w) := by
  obtain ⟨N, hN⟩ := named w.heap.size
  have hNN := hN.out
  have HNS : Hid (¬ S N) := fun hS => by have := h.lt N hS; omega
  obtain ⟨W1, hW1⟩ := named (w.alloc (.cells #[.int .i64 0, .slice ab len cap, .int .i64 k, .int .i64 s, .int .i64 m, .int .i64 z, .int .u32 g] 37))
  have hW := hW1.out
  have HBX : Hid (Blk W1 N 37 #[.int .i64 0, .slice ab len cap, .int .i64 k, .int .i64 s, .int .i64 m, .int .i64 z, .int .u32 g]) := by rw [← hW, ← hNN]; exact Blk.new w _ _
  have hBW : Below w.heap.size w W1 := by rw [← hW]; exact (Below.refl _ _).alloc (Nat.le_refl _) _
  have HA0 : Hid (At w0 W1 B1 B2 L L S W1) := ⟨S, h.later hBW, Away.refl _ _⟩
  have HBW := Lib.hid hBW
  have HL := Lib.hid hl
  obtain ⟨x0, x1, x2, x3, x4, x5, x6⟩ := cells7 HBX.out
  clear hBW h hl
  skip
  go_enter Try.func11, Try.ntmps11
  go_wp2_with (first
    | (go_at_call 12; refine (addL HA0.out cap HL.out k s m z g).mono ?_; rintro e w1 ⟨rfl, q⟩; have HA1 := Lib.hid q; obtain ⟨y0, y1, y2, y3, y4, y5, y6⟩ := cells7 (q.blk HBX.out HNS.out); clear q)
    | (go_at_call 17; refine (addR HA1.out cap HL.out k s m z g).mono ?_; rintro e w2 ⟨rfl, q⟩; have HA2 := Lib.hid q; clear q))
  obtain ⟨a9, c9, r9⟩ := HA2.out.refL
  have e9 := HA2.out.refL
  obtain ⟨n9, hn9⟩ := named (addP L ((fingerOf l : Nat), k, s, m, z, g)).length
  rw [hn9.out] at r9
  have HR9 : Hid (∀ W' : World, Below w2.heap.size w2 W' → W'.cell? ⟨B2, 0, none⟩ = some (.slice a9 n9 c9)) := by
    obtain ⟨S2, g, _⟩ := HA2.out.right
    obtain ⟨v, fd, hb, _⟩ := g.at'
    have hv : v = .slice a9 n9 c9 := by
      have := hb.cell 0
      rw [r9] at this
      exact (Option.some.inj this).symm
    intro W' hb'
    rw [← hv]
    exact (hb.later hb').cell 0
  clear e9
  go_wp2_with fail
  go_region_held3 (fun w' => w'.cell? ⟨B2, 0, none⟩ = some (.slice a9 n9 c9) ∧ Below w2.heap.size w2 w') (first | assumption | exact ⟨r9, Below.refl _ _⟩ | exact ⟨HR9.out _ (Below.refl _ _).drew, (Below.refl _ _).drew⟩) (first | (go_at_call 14; refine (lenL (HA2.out.later (And.right (by assumption)))).mono ?_; rintro e w1 ⟨rfl, rfl⟩))
  all_goals
    go_wp2_with fail
    go_ret
    obtain ⟨S', q1, q2⟩ := HA2.out.later (by first | exact (Below.refl _ _).drew | assumption)
    refine ⟨by simp [hn9.out], S', q1, ?_⟩
    exact (Away.of_below (S := S) HBW.out).trans q2
set_option maxHeartbeats 1600000 in
set_option maxRecDepth 100000 in
theorem act_1 {w0 w : World} {B1 B2 : Nat} {L : List Pr} {S : Nat → Prop} (h : Duo w0 B1 B2 L L S w) {ab : Option Addr} {len : Nat} (cap : Nat) {l : List Int} (hl : Bytes w0 ab len l) (k s m z g : Int) :
    Calls Try.prog 11 #[.pointer (some ⟨B1, 0, none⟩), .pointer (some ⟨B2, 0, none⟩), .agg #[.int .i64 1, .slice ab len cap, .int .i64 k, .int .i64 s, .int .i64 m, .int .i64 z, .int .u32 g]] w (ActQ w0 B1 B2 (addP L ((fingerOf l : Nat), k, s, m, z, g)) S w) := by
  obtain ⟨N, hN⟩ := named w.heap.size
  have hNN := hN.out
  have HNS : Hid (¬ S N) := fun hS => by have := h.lt N hS; omega
  obtain ⟨W1, hW1⟩ := named (w.alloc (.cells #[.int .i64 1, .slice ab len cap, .int .i64 k, .int .i64 s, .int .i64 m, .int .i64 z, .int .u32 g] 37))
  have hW := hW1.out
  have HBX : Hid (Blk W1 N 37 #[.int .i64 1, .slice ab len cap, .int .i64 k, .int .i64 s, .int .i64 m, .int .i64 z, .int .u32 g]) := by rw [← hW, ← hNN]; exact Blk.new w _ _
  have hBW : Below w.heap.size w W1 := by rw [← hW]; exact (Below.refl _ _).alloc (Nat.le_refl _) _
  have HA0 : Hid (At w0 W1 B1 B2 L L S W1) := ⟨S, h.later hBW, Away.refl _ _⟩
  have HBW := Lib.hid hBW
  have HL := Lib.hid hl
  obtain ⟨x0, x1, x2, x3, x4, x5, x6⟩ := cells7 HBX.out
  clear hBW h hl
  skip
  go_enter Try.func11, Try.ntmps11
  go_wp2_with (first
    | (go_at_call 12; refine (addL HA0.out cap HL.out k s m z g).mono ?_; rintro e w1 ⟨rfl, q⟩; have HA1 := Lib.hid q; obtain ⟨y0, y1, y2, y3, y4, y5, y6⟩ := cells7 (q.blk HBX.out HNS.out); clear q)
    | (go_at_call 17; refine (addR HA1.out cap HL.out k s m z g).mono ?_; rintro e w2 ⟨rfl, q⟩; have HA2 := Lib.hid q; clear q))
  obtain ⟨a9, c9, r9⟩ := HA2.out.refL
  have e9 := HA2.out.refL
  obtain ⟨n9, hn9⟩ := named (addP L ((fingerOf l : Nat), k, s, m, z, g)).length
  rw [hn9.out] at r9
  have HR9 : Hid (∀ W' : World, Below w2.heap.size w2 W' → W'.cell? ⟨B2, 0, none⟩ = some (.slice a9 n9 c9)) := by
    obtain ⟨S2, g, _⟩ := HA2.out.right
    obtain ⟨v, fd, hb, _⟩ := g.at'
    have hv : v = .slice a9 n9 c9 := by
      have := hb.cell 0
      rw [r9] at this
      exact (Option.some.inj this).symm
    intro W' hb'
    rw [← hv]
    exact (hb.later hb').cell 0
  clear e9
  go_wp2_with fail
  go_region_held3 (fun w' => w'.cell? ⟨B2, 0, none⟩ = some (.slice a9 n9 c9) ∧ Below w2.heap.size w2 w') (first | assumption | exact ⟨r9, Below.refl _ _⟩ | exact ⟨HR9.out _ (Below.refl _ _).drew, (Below.refl _ _).drew⟩) (first | (go_at_call 14; refine (lenL (HA2.out.later (And.right (by assumption)))).mono ?_; rintro e w1 ⟨rfl, rfl⟩))
  all_goals
    go_wp2_with fail
    go_ret
    obtain ⟨S', q1, q2⟩ := HA2.out.later (by first | exact (Below.refl _ _).drew | assumption)
    refine ⟨by simp [hn9.out], S', q1, ?_⟩
    exact (Away.of_below (S := S) HBW.out).trans q2
set_option maxHeartbeats 1600000 in
set_option maxRecDepth 100000 in
theorem act_2 {w0 w : World} {B1 B2 : Nat} {L : List Pr} {S : Nat → Prop} (h : Duo w0 B1 B2 L L S w) {ab : Option Addr} {len : Nat} (cap : Nat) {l : List Int} (hl : Bytes w0 ab len l) (k s m z g : Int) :
    Calls Try.prog 11 #[.pointer (some ⟨B1, 0, none⟩), .pointer (some ⟨B2, 0, none⟩), .agg #[.int .i64 2, .slice ab len cap, .int .i64 k, .int .i64 s, .int .i64 m, .int .i64 z, .int .u32 g]] w (ActQ w0 B1 B2 (addP L ((fingerOf l : Nat), k, s, m, z, g)) S w) := by
  obtain ⟨N, hN⟩ := named w.heap.size
  have hNN := hN.out
  have HNS : Hid (¬ S N) := fun hS => by have := h.lt N hS; omega
  obtain ⟨W1, hW1⟩ := named (w.alloc (.cells #[.int .i64 2, .slice ab len cap, .int .i64 k, .int .i64 s, .int .i64 m, .int .i64 z, .int .u32 g] 37))
  have hW := hW1.out
  have HBX : Hid (Blk W1 N 37 #[.int .i64 2, .slice ab len cap, .int .i64 k, .int .i64 s, .int .i64 m, .int .i64 z, .int .u32 g]) := by rw [← hW, ← hNN]; exact Blk.new w _ _
  have hBW : Below w.heap.size w W1 := by rw [← hW]; exact (Below.refl _ _).alloc (Nat.le_refl _) _
  have HA0 : Hid (At w0 W1 B1 B2 L L S W1) := ⟨S, h.later hBW, Away.refl _ _⟩
  have HBW := Lib.hid hBW
  have HL := Lib.hid hl
  obtain ⟨x0, x1, x2, x3, x4, x5, x6⟩ := cells7 HBX.out
  clear hBW h hl
  skip
  go_enter Try.func11, Try.ntmps11
  go_wp2_with (first
    | (go_at_call 12; refine (addL HA0.out cap HL.out k s m z g).mono ?_; rintro e w1 ⟨rfl, q⟩; have HA1 := Lib.hid q; obtain ⟨y0, y1, y2, y3, y4, y5, y6⟩ := cells7 (q.blk HBX.out HNS.out); clear q)
    | (go_at_call 17; refine (addR HA1.out cap HL.out k s m z g).mono ?_; rintro e w2 ⟨rfl, q⟩; have HA2 := Lib.hid q; clear q))
  obtain ⟨a9, c9, r9⟩ := HA2.out.refL
  have e9 := HA2.out.refL
  obtain ⟨n9, hn9⟩ := named (addP L ((fingerOf l : Nat), k, s, m, z, g)).length
  rw [hn9.out] at r9
  have HR9 : Hid (∀ W' : World, Below w2.heap.size w2 W' → W'.cell? ⟨B2, 0, none⟩ = some (.slice a9 n9 c9)) := by
    obtain ⟨S2, g, _⟩ := HA2.out.right
    obtain ⟨v, fd, hb, _⟩ := g.at'
    have hv : v = .slice a9 n9 c9 := by
      have := hb.cell 0
      rw [r9] at this
      exact (Option.some.inj this).symm
    intro W' hb'
    rw [← hv]
    exact (hb.later hb').cell 0
  clear e9
  go_wp2_with fail
  go_region_held3 (fun w' => w'.cell? ⟨B2, 0, none⟩ = some (.slice a9 n9 c9) ∧ Below w2.heap.size w2 w') (first | assumption | exact ⟨r9, Below.refl _ _⟩ | exact ⟨HR9.out _ (Below.refl _ _).drew, (Below.refl _ _).drew⟩) (first | (go_at_call 14; refine (lenL (HA2.out.later (And.right (by assumption)))).mono ?_; rintro e w1 ⟨rfl, rfl⟩))
  all_goals
    go_wp2_with fail
    go_ret
    obtain ⟨S', q1, q2⟩ := HA2.out.later (by first | exact (Below.refl _ _).drew | assumption)
    refine ⟨by simp [hn9.out], S', q1, ?_⟩
    exact (Away.of_below (S := S) HBW.out).trans q2
set_option maxHeartbeats 1600000 in
set_option maxRecDepth 100000 in
theorem act_3 {w0 w : World} {B1 B2 : Nat} {L : List Pr} {S : Nat → Prop} (h : Duo w0 B1 B2 L L S w) {ab : Option Addr} {len : Nat} (cap : Nat) {l : List Int} (hl : Bytes w0 ab len l) (k s m z g : Int) :
    Calls Try.prog 11 #[.pointer (some ⟨B1, 0, none⟩), .pointer (some ⟨B2, 0, none⟩), .agg #[.int .i64 3, .slice ab len cap, .int .i64 k, .int .i64 s, .int .i64 m, .int .i64 z, .int .u32 g]] w (ActQ w0 B1 B2 (L) S w) := by
  obtain ⟨N, hN⟩ := named w.heap.size
  have hNN := hN.out
  have HNS : Hid (¬ S N) := fun hS => by have := h.lt N hS; omega
  obtain ⟨W1, hW1⟩ := named (w.alloc (.cells #[.int .i64 3, .slice ab len cap, .int .i64 k, .int .i64 s, .int .i64 m, .int .i64 z, .int .u32 g] 37))
  have hW := hW1.out
  have HBX : Hid (Blk W1 N 37 #[.int .i64 3, .slice ab len cap, .int .i64 k, .int .i64 s, .int .i64 m, .int .i64 z, .int .u32 g]) := by rw [← hW, ← hNN]; exact Blk.new w _ _
  have hBW : Below w.heap.size w W1 := by rw [← hW]; exact (Below.refl _ _).alloc (Nat.le_refl _) _
  have HA0 : Hid (At w0 W1 B1 B2 L L S W1) := ⟨S, h.later hBW, Away.refl _ _⟩
  have HBW := Lib.hid hBW
  have HL := Lib.hid hl
  obtain ⟨x0, x1, x2, x3, x4, x5, x6⟩ := cells7 HBX.out
  clear hBW h hl
  skip
  go_enter Try.func11, Try.ntmps11
  obtain ⟨R, hR⟩ := named (findP L ((fingerOf l : Nat) : Int))
  have HF : Hid (∀ W, At w0 W1 B1 B2 L L S W → Calls Try.prog 13 #[.pointer (some ⟨B1, 0, none⟩), .slice ab len cap] W (FoundQ w0 W1 B1 B2 L L S R)) := by rw [← hR.out]; exact fun W hW => findL hW cap HL.out
  have HO : Hid (∀ W, At w0 W1 B1 B2 L L S W → Calls Try.prog 19 #[.pointer (some ⟨B2, 0, none⟩), .slice ab len cap] W fun e w' => FoundQ w0 W1 B1 B2 L L S R e w' ∧ Below W.heap.size W w') := by rw [← hR.out]; exact fun W hW => ofR hW cap HL.out
  have HRL : Hid (R.length ≤ 1000) := by
    obtain ⟨S2, g, _⟩ := HA0.out.right
    have h1 := g.ok.many
    have h2 := findP_len L ((fingerOf l : Nat) : Int)
    rw [hR.out] at h2
    rw [Hid]
    omega
  unfold FoundQ at HF HO
  obtain ⟨n1, hn1⟩ := named R.length
  rw [hn1.out] at HF HO HRL
  go_wp2_with fail
  go_region_held3 (fun w' => w'.cell? ⟨N, 1, none⟩ = some (.slice ab len cap) ∧ At w0 W1 B1 B2 L L S w') (first | assumption | exact keep1 HBX.out HNS.out HA3.out | exact keep1 HBX.out HNS.out HA2.out | exact keep1 HBX.out HNS.out HA1.out | exact keep1 HBX.out HNS.out HA0.out | exact keep1 HBX.out HNS.out HA0.out.drew) (first
    | (go_at_call 13; refine (HF.out _ (At.of1 (by assumption))).mono ?_; rintro e w1 ⟨a1, c1, rfl, q1, q2⟩; have HR1 := Lib.hid q1; have HA1 := Lib.hid q2; clear q1 q2)
    | (go_at_call 19; refine (HO.out _ (At.of1 (by assumption))).mono ?_; rintro e w2 ⟨⟨a2, c2, rfl, q1, q2⟩, q3⟩; have HR2 := Lib.hid q1; have HA2 := Lib.hid q2; have HR3 := Lib.hid (HR1.out.later q3); clear q1 q2 q3)
    | (go_at_call 18; refine (same_any (L := R) HR3.out HR2.out HRL.out).mono ?_; rintro e w3 ⟨rfl, q1⟩; have HA3 := Lib.hid (HA2.out.later q1); clear q1))
  obtain ⟨a9, c9, r9⟩ := HA3.out.refL
  have e9 := HA3.out.refL
  obtain ⟨n9, hn9⟩ := named (L).length
  rw [hn9.out] at r9
  have HR9 : Hid (∀ W' : World, Below w3.heap.size w3 W' → W'.cell? ⟨B2, 0, none⟩ = some (.slice a9 n9 c9)) := by
    obtain ⟨S2, g, _⟩ := HA3.out.right
    obtain ⟨v, fd, hb, _⟩ := g.at'
    have hv : v = .slice a9 n9 c9 := by
      have := hb.cell 0
      rw [r9] at this
      exact (Option.some.inj this).symm
    intro W' hb'
    rw [← hv]
    exact (hb.later hb').cell 0
  clear e9
  go_wp2_with fail
  go_region_held3 (fun w' => w'.cell? ⟨B2, 0, none⟩ = some (.slice a9 n9 c9) ∧ Below w3.heap.size w3 w') (first | assumption | exact ⟨r9, Below.refl _ _⟩ | exact ⟨HR9.out _ (Below.refl _ _).drew, (Below.refl _ _).drew⟩) (first | (go_at_call 14; refine (lenL (HA3.out.later (And.right (by assumption)))).mono ?_; rintro e w1 ⟨rfl, rfl⟩))
  all_goals
    go_wp2_with fail
    go_ret
    obtain ⟨S', q1, q2⟩ := HA3.out.later (by first | exact (Below.refl _ _).drew | assumption)
    refine ⟨by simp [hn9.out], S', q1, ?_⟩
    exact (Away.of_below (S := S) HBW.out).trans q2
set_option maxHeartbeats 1600000 in
set_option maxRecDepth 100000 in
theorem act_4 {w0 w : World} {B1 B2 : Nat} {L : List Pr} {S : Nat → Prop} (h : Duo w0 B1 B2 L L S w) {ab : Option Addr} {len : Nat} (cap : Nat) {l : List Int} (hl : Bytes w0 ab len l) (k s m z g : Int) :
    Calls Try.prog 11 #[.pointer (some ⟨B1, 0, none⟩), .pointer (some ⟨B2, 0, none⟩), .agg #[.int .i64 4, .slice ab len cap, .int .i64 k, .int .i64 s, .int .i64 m, .int .i64 z, .int .u32 g]] w (ActQ w0 B1 B2 (L) S w) := by
  obtain ⟨N, hN⟩ := named w.heap.size
  have hNN := hN.out
  have HNS : Hid (¬ S N) := fun hS => by have := h.lt N hS; omega
  obtain ⟨W1, hW1⟩ := named (w.alloc (.cells #[.int .i64 4, .slice ab len cap, .int .i64 k, .int .i64 s, .int .i64 m, .int .i64 z, .int .u32 g] 37))
  have hW := hW1.out
  have HBX : Hid (Blk W1 N 37 #[.int .i64 4, .slice ab len cap, .int .i64 k, .int .i64 s, .int .i64 m, .int .i64 z, .int .u32 g]) := by rw [← hW, ← hNN]; exact Blk.new w _ _
  have hBW : Below w.heap.size w W1 := by rw [← hW]; exact (Below.refl _ _).alloc (Nat.le_refl _) _
  have HA0 : Hid (At w0 W1 B1 B2 L L S W1) := ⟨S, h.later hBW, Away.refl _ _⟩
  have HBW := Lib.hid hBW
  have HL := Lib.hid hl
  obtain ⟨x0, x1, x2, x3, x4, x5, x6⟩ := cells7 HBX.out
  clear hBW h hl
  skip
  go_enter Try.func11, Try.ntmps11
  obtain ⟨R, hR⟩ := named (findP L ((fingerOf l : Nat) : Int))
  have HF : Hid (∀ W, At w0 W1 B1 B2 L L S W → Calls Try.prog 13 #[.pointer (some ⟨B1, 0, none⟩), .slice ab len cap] W (FoundQ w0 W1 B1 B2 L L S R)) := by rw [← hR.out]; exact fun W hW => findL hW cap HL.out
  have HO : Hid (∀ W, At w0 W1 B1 B2 L L S W → Calls Try.prog 19 #[.pointer (some ⟨B2, 0, none⟩), .slice ab len cap] W fun e w' => FoundQ w0 W1 B1 B2 L L S R e w' ∧ Below W.heap.size W w') := by rw [← hR.out]; exact fun W hW => ofR hW cap HL.out
  have HRL : Hid (R.length ≤ 1000) := by
    obtain ⟨S2, g, _⟩ := HA0.out.right
    have h1 := g.ok.many
    have h2 := findP_len L ((fingerOf l : Nat) : Int)
    rw [hR.out] at h2
    rw [Hid]
    omega
  unfold FoundQ at HF HO
  obtain ⟨n1, hn1⟩ := named R.length
  rw [hn1.out] at HF HO HRL
  go_wp2_with fail
  go_region_held3 (fun w' => w'.cell? ⟨N, 1, none⟩ = some (.slice ab len cap) ∧ At w0 W1 B1 B2 L L S w') (first | assumption | exact keep1 HBX.out HNS.out HA3.out | exact keep1 HBX.out HNS.out HA2.out | exact keep1 HBX.out HNS.out HA1.out | exact keep1 HBX.out HNS.out HA0.out | exact keep1 HBX.out HNS.out HA0.out.drew) (first
    | (go_at_call 13; refine (HF.out _ (At.of1 (by assumption))).mono ?_; rintro e w1 ⟨a1, c1, rfl, q1, q2⟩; have HR1 := Lib.hid q1; have HA1 := Lib.hid q2; clear q1 q2)
    | (go_at_call 19; refine (HO.out _ (At.of1 (by assumption))).mono ?_; rintro e w2 ⟨⟨a2, c2, rfl, q1, q2⟩, q3⟩; have HR2 := Lib.hid q1; have HA2 := Lib.hid q2; have HR3 := Lib.hid (HR1.out.later q3); clear q1 q2 q3)
    | (go_at_call 18; refine (same_any (L := R) HR3.out HR2.out HRL.out).mono ?_; rintro e w3 ⟨rfl, q1⟩; have HA3 := Lib.hid (HA2.out.later q1); clear q1))
  obtain ⟨a9, c9, r9⟩ := HA3.out.refL
  have e9 := HA3.out.refL
  obtain ⟨n9, hn9⟩ := named (L).length
  rw [hn9.out] at r9
  have HR9 : Hid (∀ W' : World, Below w3.heap.size w3 W' → W'.cell? ⟨B2, 0, none⟩ = some (.slice a9 n9 c9)) := by
    obtain ⟨S2, g, _⟩ := HA3.out.right
    obtain ⟨v, fd, hb, _⟩ := g.at'
    have hv : v = .slice a9 n9 c9 := by
      have := hb.cell 0
      rw [r9] at this
      exact (Option.some.inj this).symm
    intro W' hb'
    rw [← hv]
    exact (hb.later hb').cell 0
  clear e9
  go_wp2_with fail
  go_region_held3 (fun w' => w'.cell? ⟨B2, 0, none⟩ = some (.slice a9 n9 c9) ∧ Below w3.heap.size w3 w') (first | assumption | exact ⟨r9, Below.refl _ _⟩ | exact ⟨HR9.out _ (Below.refl _ _).drew, (Below.refl _ _).drew⟩) (first | (go_at_call 14; refine (lenL (HA3.out.later (And.right (by assumption)))).mono ?_; rintro e w1 ⟨rfl, rfl⟩))
  all_goals
    go_wp2_with fail
    go_ret
    obtain ⟨S', q1, q2⟩ := HA3.out.later (by first | exact (Below.refl _ _).drew | assumption)
    refine ⟨by simp [hn9.out], S', q1, ?_⟩
    exact (Away.of_below (S := S) HBW.out).trans q2
set_option maxHeartbeats 1600000 in
set_option maxRecDepth 100000 in
theorem act_5 {w0 w : World} {B1 B2 : Nat} {L : List Pr} {S : Nat → Prop} (h : Duo w0 B1 B2 L L S w) {ab : Option Addr} {len : Nat} (cap : Nat) {l : List Int} (hl : Bytes w0 ab len l) (k s m z g : Int) :
    Calls Try.prog 11 #[.pointer (some ⟨B1, 0, none⟩), .pointer (some ⟨B2, 0, none⟩), .agg #[.int .i64 5, .slice ab len cap, .int .i64 k, .int .i64 s, .int .i64 m, .int .i64 z, .int .u32 g]] w (ActQ w0 B1 B2 (forgetP L (k, s, m, z, g)) S w) := by
  obtain ⟨N, hN⟩ := named w.heap.size
  have hNN := hN.out
  have HNS : Hid (¬ S N) := fun hS => by have := h.lt N hS; omega
  obtain ⟨W1, hW1⟩ := named (w.alloc (.cells #[.int .i64 5, .slice ab len cap, .int .i64 k, .int .i64 s, .int .i64 m, .int .i64 z, .int .u32 g] 37))
  have hW := hW1.out
  have HBX : Hid (Blk W1 N 37 #[.int .i64 5, .slice ab len cap, .int .i64 k, .int .i64 s, .int .i64 m, .int .i64 z, .int .u32 g]) := by rw [← hW, ← hNN]; exact Blk.new w _ _
  have hBW : Below w.heap.size w W1 := by rw [← hW]; exact (Below.refl _ _).alloc (Nat.le_refl _) _
  have HA0 : Hid (At w0 W1 B1 B2 L L S W1) := ⟨S, h.later hBW, Away.refl _ _⟩
  have HBW := Lib.hid hBW
  have HL := Lib.hid hl
  obtain ⟨x0, x1, x2, x3, x4, x5, x6⟩ := cells7 HBX.out
  clear hBW h hl
  skip
  go_enter Try.func11, Try.ntmps11
  obtain ⟨L', hL'⟩ := named (forgetP L (k, s, m, z, g))
  obtain ⟨D, hD⟩ := named (decide (L'.length < L.length))
  have HF : Hid (∀ W, At w0 W1 B1 B2 L L S W → Calls Try.prog 15 #[.pointer (some ⟨B1, 0, none⟩), .agg #[.int .i64 k, .int .i64 s, .int .i64 m, .int .i64 z, .int .u32 g]] W fun e w' => e = .returned (.bool D) ∧ At w0 W1 B1 B2 L' L S w') := by rw [← hD.out, ← hL'.out]; exact fun W hW => forgetL hW k s m z g
  have HO : Hid (∀ W, At w0 W1 B1 B2 L' L S W → Calls Try.prog 20 #[.pointer (some ⟨B2, 0, none⟩), .agg #[.int .i64 k, .int .i64 s, .int .i64 m, .int .i64 z, .int .u32 g]] W fun e w' => e = .returned (.bool D) ∧ At w0 W1 B1 B2 L' L' S w') := by rw [← hD.out, ← hL'.out]; exact fun W hW => forgetR hW k s m z g
  rw [hL'.out]
  go_wp2_with fail
  go_region_held3 (fun w' => w'.cell? ⟨N, 2, none⟩ = some (.int .i64 k) ∧ w'.cell? ⟨N, 3, none⟩ = some (.int .i64 s) ∧ w'.cell? ⟨N, 4, none⟩ = some (.int .i64 m) ∧ w'.cell? ⟨N, 5, none⟩ = some (.int .i64 z) ∧ w'.cell? ⟨N, 6, none⟩ = some (.int .u32 g) ∧ ∃ X, At w0 W1 B1 B2 X L S w' ∨ At w0 W1 B1 B2 X L' S w') (first | assumption | exact keep7 (keep5 HBX.out HNS.out HA2.out) | exact keep6 (keep5 HBX.out HNS.out HA1.out) | exact keep6 (keep5 HBX.out HNS.out HA0.out) | exact keep6 (keep5 HBX.out HNS.out HA0.out.drew)) (first
    | (go_at_call 15; refine (HF.out _ HA0.out.drew).mono ?_; rintro e w1 ⟨rfl, q2⟩; have HA1 := Lib.hid q2; clear q2)
    | (go_at_call 20; refine (HO.out _ HA1.out).mono ?_; rintro e w2 ⟨rfl, q2⟩; have HA2 := Lib.hid q2; clear q2))
  obtain ⟨a9, c9, r9⟩ := HA2.out.refL
  have e9 := HA2.out.refL
  obtain ⟨n9, hn9⟩ := named (L').length
  rw [hn9.out] at r9
  have HR9 : Hid (∀ W' : World, Below w2.heap.size w2 W' → W'.cell? ⟨B2, 0, none⟩ = some (.slice a9 n9 c9)) := by
    obtain ⟨S2, g, _⟩ := HA2.out.right
    obtain ⟨v, fd, hb, _⟩ := g.at'
    have hv : v = .slice a9 n9 c9 := by
      have := hb.cell 0
      rw [r9] at this
      exact (Option.some.inj this).symm
    intro W' hb'
    rw [← hv]
    exact (hb.later hb').cell 0
  clear e9
  go_wp2_with fail
  go_region_held3 (fun w' => w'.cell? ⟨B2, 0, none⟩ = some (.slice a9 n9 c9) ∧ Below w2.heap.size w2 w') (first | assumption | exact ⟨r9, Below.refl _ _⟩ | exact ⟨HR9.out _ (Below.refl _ _).drew, (Below.refl _ _).drew⟩) (first | (go_at_call 14; refine (lenL (HA2.out.later (And.right (by assumption)))).mono ?_; rintro e w1 ⟨rfl, rfl⟩))
  all_goals
    go_wp2_with fail
    go_ret
    obtain ⟨S', q1, q2⟩ := HA2.out.later (by first | exact (Below.refl _ _).drew | assumption)
    refine ⟨by simp [hn9.out], S', q1, ?_⟩
    exact (Away.of_below (S := S) HBW.out).trans q2
set_option maxHeartbeats 1600000 in
set_option maxRecDepth 100000 in
theorem act_x {w0 w : World} {B1 B2 : Nat} {L : List Pr} {S : Nat → Prop} (h : Duo w0 B1 B2 L L S w) {ab : Option Addr} {len : Nat} (cap : Nat) {l : List Int} (hl : Bytes w0 ab len l) (d k s m z g : Int) (hd : ¬ (d = 0 ∨ d = 1 ∨ d = 2 ∨ d = 3 ∨ d = 4 ∨ d = 5)) :
    Calls Try.prog 11 #[.pointer (some ⟨B1, 0, none⟩), .pointer (some ⟨B2, 0, none⟩), .agg #[.int .i64 d, .slice ab len cap, .int .i64 k, .int .i64 s, .int .i64 m, .int .i64 z, .int .u32 g]] w (ActQ w0 B1 B2 (L) S w) := by
  obtain ⟨N, hN⟩ := named w.heap.size
  have hNN := hN.out
  have HNS : Hid (¬ S N) := fun hS => by have := h.lt N hS; omega
  obtain ⟨W1, hW1⟩ := named (w.alloc (.cells #[.int .i64 d, .slice ab len cap, .int .i64 k, .int .i64 s, .int .i64 m, .int .i64 z, .int .u32 g] 37))
  have hW := hW1.out
  have HBX : Hid (Blk W1 N 37 #[.int .i64 d, .slice ab len cap, .int .i64 k, .int .i64 s, .int .i64 m, .int .i64 z, .int .u32 g]) := by rw [← hW, ← hNN]; exact Blk.new w _ _
  have hBW : Below w.heap.size w W1 := by rw [← hW]; exact (Below.refl _ _).alloc (Nat.le_refl _) _
  have HA0 : Hid (At w0 W1 B1 B2 L L S W1) := ⟨S, h.later hBW, Away.refl _ _⟩
  have HBW := Lib.hid hBW
  have HL := Lib.hid hl
  obtain ⟨x0, x1, x2, x3, x4, x5, x6⟩ := cells7 HBX.out
  clear hBW h hl
  have t0 : (d == 0) = false := by rw [beq_eq_false_iff_ne]; omega
  have t1 : (d == 1) = false := by rw [beq_eq_false_iff_ne]; omega
  have t2 : (d == 2) = false := by rw [beq_eq_false_iff_ne]; omega
  have t3 : (d == 3) = false := by rw [beq_eq_false_iff_ne]; omega
  have t4 : (d == 4) = false := by rw [beq_eq_false_iff_ne]; omega
  have t5 : (d == 5) = false := by rw [beq_eq_false_iff_ne]; omega
  have u0 : ¬ d = 0 := by omega
  have u1 : ¬ d = 1 := by omega
  have u2 : ¬ d = 2 := by omega
  have u3 : ¬ d = 3 := by omega
  have u4 : ¬ d = 4 := by omega
  have u5 : ¬ d = 5 := by omega
  clear hd
  go_enter Try.func11, Try.ntmps11
  obtain ⟨a9, c9, r9⟩ := HA0.out.refL
  have e9 := HA0.out.refL
  obtain ⟨n9, hn9⟩ := named (L).length
  rw [hn9.out] at r9
  have HR9 : Hid (∀ W' : World, Below W1.heap.size W1 W' → W'.cell? ⟨B2, 0, none⟩ = some (.slice a9 n9 c9)) := by
    obtain ⟨S2, g, _⟩ := HA0.out.right
    obtain ⟨v, fd, hb, _⟩ := g.at'
    have hv : v = .slice a9 n9 c9 := by
      have := hb.cell 0
      rw [r9] at this
      exact (Option.some.inj this).symm
    intro W' hb'
    rw [← hv]
    exact (hb.later hb').cell 0
  clear e9
  go_wp2_with fail
  go_region_held3 (fun w' => w'.cell? ⟨B2, 0, none⟩ = some (.slice a9 n9 c9) ∧ Below W1.heap.size W1 w') (first | assumption | exact ⟨r9, Below.refl _ _⟩ | exact ⟨HR9.out _ (Below.refl _ _).drew, (Below.refl _ _).drew⟩) (first | (go_at_call 14; refine (lenL (HA0.out.later (And.right (by assumption)))).mono ?_; rintro e w1 ⟨rfl, rfl⟩))
  all_goals
    go_wp2_with fail
    go_ret
    obtain ⟨S', q1, q2⟩ := HA0.out.later (by first | exact (Below.refl _ _).drew | assumption)
    refine ⟨by simp [hn9.out], S', q1, ?_⟩
    exact (Away.of_below (S := S) HBW.out).trans q2
/-- act. -/
theorem act_any {w0 w : World} {B1 B2 : Nat} {L : List Pr} {S : Nat → Prop} (h : Duo w0 B1 B2 L L S w) {ab : Option Addr} {len : Nat} (cap : Nat) {l : List Int} (hl : Bytes w0 ab len l) (d k s m z g : Int) :
    Calls Try.prog 11 #[.pointer (some ⟨B1, 0, none⟩), .pointer (some ⟨B2, 0, none⟩), .agg #[.int .i64 d, .slice ab len cap, .int .i64 k, .int .i64 s, .int .i64 m, .int .i64 z, .int .u32 g]] w (ActQ w0 B1 B2 (stepA L d l (k, s, m, z, g)) S w) := by
  unfold stepA
  by_cases h0 : d = 0
  · subst h0
    exact act_0 h cap hl k s m z g
  by_cases h1 : d = 1
  · subst h1
    exact act_1 h cap hl k s m z g
  by_cases h2 : d = 2
  · subst h2
    exact act_2 h cap hl k s m z g
  rw [if_neg (by omega)]
  by_cases h5 : d = 5
  · subst h5
    exact act_5 h cap hl k s m z g
  rw [if_neg h5]
  by_cases h3 : d = 3
  · subst h3
    exact act_3 h cap hl k s m z g
  by_cases h4 : d = 4
  · subst h4
    exact act_4 h cap hl k s m z g
  exact act_x h cap hl d k s m z g (by omega)
end Go.Proofs.Ytobnmdjpcmegiaa
