/-
  'act' of layer 10: an act on both. Conditions: both as they lie, short bytes.
-/
import Derived.Test.YthmkmhfoicfapaaRp
import Derived.Deep.RegionHeld3
import Derived.Deep.QuietTactic
namespace Go.Proofs.Ythmkmhfoicfapaa
open Go.RowKit
set_option linter.unusedVariables false

theorem cells5a {W : World} {X : Nat} {t : TypeId} {a b c d e : Value} (h : Blk W X t #[a, b, c, d, e]) : W.cell? ⟨X, 0, none⟩ = some a ∧ W.cell? ⟨X, 1, none⟩ = some b ∧ W.cell? ⟨X, 2, none⟩ = some c ∧ W.cell? ⟨X, 3, none⟩ = some d ∧ W.cell? ⟨X, 4, none⟩ = some e := by
  rw [h.cell, h.cell, h.cell, h.cell, h.cell]
  exact ⟨rfl, rfl, rfl, rfl, rfl⟩
theorem keepA {w0 W1 W : World} {p : Addr} {B N : Nat} {C : Lru} {D : RC} {S : Nat → Prop} {t : TypeId} {a b c d e : Value} (hB : Blk W1 N t #[a, b, c, d, e]) (hS : ¬ S N) (h : Bt w0 W1 p B C D S W) : W.cell? ⟨N, 1, none⟩ = some b ∧ W.cell? ⟨N, 2, none⟩ = some c ∧ W.cell? ⟨N, 3, none⟩ = some d ∧ W.cell? ⟨N, 4, none⟩ = some e ∧ ∃ X Y, Bt w0 W1 p B X Y S W := by
  obtain ⟨_, x1, x2, x3, x4⟩ := cells5a (h.blk hB hS)
  exact ⟨x1, x2, x3, x4, C, D, h⟩
/-- Both states, with what they have in common. -/
structure Tw (w0 : World) (p : Addr) (B : Nat) (j : Nat) (C : Lru) (D : RC) (S : Nat → Prop) (w : World) : Prop where
  bo : Bo w0 p B C D S w
  sim : Sim C D
  few : D.rels.length ≤ j
  uses : C.uses ≤ j
theorem put_uses (C : Lru) (k : Int) (b : List Int) (d : Bool) : (C.put k b d).2.uses = C.uses + 1 := by
  unfold Lru.put
  dsimp only
  split <;> rfl
theorem get_uses (C : Lru) (k : Int) : (C.get k).2.2.uses ≤ C.uses + 1 := by
  unfold Lru.get
  split
  · exact Nat.le_succ _
  · exact Nat.le_refl _
theorem after_uses (C : Lru) (k f : Int) : (C.after k f).2.uses = C.uses := by
  unfold Lru.after
  split
  · split <;> rfl
  · rfl
def ActQ (w0 : World) (p : Addr) (B : Nat) (j : Nat) (S : Nat → Prop) (w : World) (e : Ending) (w' : World) : Prop := e = .returned (.bool true) ∧ ∃ C D S', Tw w0 p B (j + 1) C D S' w' ∧ Away S w S' w'
set_option maxHeartbeats 1600000 in
set_option maxRecDepth 100000 in
theorem act_0 {w0 w : World} {p : Addr} {B j : Nat} {C : Lru} {D : RC} {S : Nat → Prop} (h : Tw w0 p B j C D S w) (hj : j ≤ 1000) {ab : Option Addr} {len : Nat} (cap : Nat) {l : List Int} (hl : Bytes w0 ab len l) (hnil : ab = none → cap = 0) (hlen : len ≤ 200) (k : Int) (hk : -9223372036854775808 ≤ k ∧ k ≤ 9223372036854775807) (f : Int) (dd : Bool) :
    Calls Try.prog 15 #[.pointer (some p), .pointer (some ⟨B, 0, none⟩), .agg #[.int .i64 0, .int .i64 k, .int .i64 f, .slice ab len cap, .bool dd]] w (ActQ w0 p B j S w) := by
  obtain ⟨hbo, hsim, hfew, huses⟩ := h
  obtain ⟨N, hN⟩ := named w.heap.size
  have hNN := hN.out
  have HNS : Hid (¬ S N) := fun hS => by have := hbo.lt N hS; omega
  obtain ⟨W1, hW1⟩ := named (w.alloc (.cells #[.int .i64 0, .int .i64 k, .int .i64 f, .slice ab len cap, .bool dd] 36))
  have hW := hW1.out
  have HBX : Hid (Blk W1 N 36 #[.int .i64 0, .int .i64 k, .int .i64 f, .slice ab len cap, .bool dd]) := by rw [← hW, ← hNN]; exact Blk.new w _ _
  have hBW : Below w.heap.size w W1 := by rw [← hW]; exact (Below.refl _ _).alloc (Nat.le_refl _) _
  have HA0 : Hid (Bt w0 W1 p B C D S W1) := ⟨S, hbo.later hBW, Away.refl _ _⟩
  have HOK : Hid C.Ok := hbo.ok
  have HSIM := Lib.hid hsim
  have HFU : Hid (D.rels.length ≤ j ∧ C.uses ≤ j ∧ j ≤ 1000) := ⟨hfew, huses, hj⟩
  have HBW := Lib.hid hBW
  have HAW : Hid (Away1 S W1 ab len l) := away1_of hl (hbo.later hBW).below hbo.low
  have HNIL := Lib.hid hnil
  obtain ⟨x0, x1, x2, x3, x4⟩ := cells5a HBX.out
  clear hBW hbo hl hsim hfew huses hj hnil
  have HPB : Hid (∀ W, Bt w0 W1 p B C D S W → Calls Try.prog 16 #[.pointer (some p), .int .i64 k, .slice ab len cap, .bool dd] W (KeysQ w0 W1 p B (C.put k l dd).2 D S (C.put k l dd).1 W)) := fun W hW => putB hW hk HAW.out HNIL.out (by omega) (by have := HFU.out; omega)
  have HPR : Hid (∀ W, Bt w0 W1 p B (C.put k l dd).2 D S W → ∃ D', Sim (C.put k l dd).2 D' ∧ D'.rels.length ≤ D.rels.length ∧ Calls Try.prog 28 #[.pointer (some ⟨B, 0, none⟩), .int .i64 k, .slice ab len cap, .bool dd] W (KeysRQ w0 W1 p B (C.put k l dd).2 D' S (C.put k l dd).1 W)) := fun W hW => putR' hW HSIM.out HOK.out hk HAW.out HNIL.out (by omega) (by have := HFU.out; omega)
  have HU := Lib.hid (put_uses C k l dd)
  obtain ⟨C1, hC1⟩ := named (C.put k l dd).2
  obtain ⟨l1, hl1⟩ := named (C.put k l dd).1
  rw [hC1.out, hl1.out] at HPB HPR
  rw [hC1.out] at HU
  clear hC1 hl1 hk
  unfold ActQ
  go_enter Try.func15, Try.ntmps15
  go_wp2_with fail
  go_region_held3 (fun w' => w'.cell? ⟨N, 1, none⟩ = some (.int .i64 k) ∧ w'.cell? ⟨N, 2, none⟩ = some (.int .i64 f) ∧ w'.cell? ⟨N, 3, none⟩ = some (.slice ab len cap) ∧ w'.cell? ⟨N, 4, none⟩ = some (.bool dd) ∧ ∃ X Y, Bt w0 W1 p B X Y S w') (first | assumption | exact keepA HBX.out HNS.out HA3.out | exact keepA HBX.out HNS.out HA2.out | exact keepA HBX.out HNS.out HA1.out | exact keepA HBX.out HNS.out HA0.out | exact keepA HBX.out HNS.out HA0.out.drew) (first
    | (go_at_call 16; refine (HPB.out _ HA0.out.drew).mono ?_; rintro e w1 ⟨a1, c1, rfl, g1, g2⟩; have HO1 := Lib.hid g1; have HA1 := Lib.hid g2; clear g1 g2)
    | (go_at_call 28; obtain ⟨D1, s1, s2, hcall⟩ := HPR.out _ HA1.out; refine hcall.mono ?_; rintro e w2 ⟨a2, c2, rfl, g1, g2, g3⟩; have HO2 := Lib.hid g1; have HA2 := Lib.hid g2; have HO1b := Lib.hid (g3 _ _ _ _ HO1.out); have HSIM1 := Lib.hid s1; have HF1 := Lib.hid s2; clear g1 g2 g3 s1 s2 hcall)
    | (go_at_call 27; refine (ints_same HO1b.out HO2.out).mono ?_; rintro e w3 ⟨rfl, g1⟩; have HA3 := Lib.hid (HA2.out.later g1); clear g1))
  go_wp2_with (first
    | (go_at_call 19; refine (dirtyB HA3.out).mono ?_; rintro e w7 ⟨a7, c7, rfl, g1, g2⟩; have HO7 := Lib.hid g1; have HA7 := Lib.hid g2; clear g1 g2)
    | (go_at_call 32; refine (dirtyR' HA7.out HSIM1.out HA7.out.ok).mono ?_; rintro e w8 ⟨a8, c8, rfl, g1, g2, g3⟩; have HO8 := Lib.hid g1; have HA8 := Lib.hid g2; have HO7b := Lib.hid (g3 _ _ _ _ HO7.out); clear g1 g2 g3)
    | (go_at_call 27; refine (ints_same HO7b.out HO8.out).mono ?_; rintro e w9 ⟨rfl, g1⟩; have HA9 := Lib.hid (HA8.out.later g1); clear g1))
  go_ret
  obtain ⟨S', q1, q2⟩ := HA9.out
  exact ⟨rfl, _, _, S', ⟨q1, HSIM1.out, by have := HFU.out; have := HF1.out; omega, by have := HFU.out; have := HU.out; omega⟩, (Away.of_below (S := S) HBW.out).trans q2⟩
set_option maxHeartbeats 1600000 in
set_option maxRecDepth 100000 in
theorem act_1 {w0 w : World} {p : Addr} {B j : Nat} {C : Lru} {D : RC} {S : Nat → Prop} (h : Tw w0 p B j C D S w) (hj : j ≤ 1000) {ab : Option Addr} {len : Nat} (cap : Nat) {l : List Int} (hl : Bytes w0 ab len l) (hnil : ab = none → cap = 0) (hlen : len ≤ 200) (k : Int) (hk : -9223372036854775808 ≤ k ∧ k ≤ 9223372036854775807) (f : Int) (dd : Bool) :
    Calls Try.prog 15 #[.pointer (some p), .pointer (some ⟨B, 0, none⟩), .agg #[.int .i64 1, .int .i64 k, .int .i64 f, .slice ab len cap, .bool dd]] w (ActQ w0 p B j S w) := by
  obtain ⟨hbo, hsim, hfew, huses⟩ := h
  obtain ⟨N, hN⟩ := named w.heap.size
  have hNN := hN.out
  have HNS : Hid (¬ S N) := fun hS => by have := hbo.lt N hS; omega
  obtain ⟨W1, hW1⟩ := named (w.alloc (.cells #[.int .i64 1, .int .i64 k, .int .i64 f, .slice ab len cap, .bool dd] 36))
  have hW := hW1.out
  have HBX : Hid (Blk W1 N 36 #[.int .i64 1, .int .i64 k, .int .i64 f, .slice ab len cap, .bool dd]) := by rw [← hW, ← hNN]; exact Blk.new w _ _
  have hBW : Below w.heap.size w W1 := by rw [← hW]; exact (Below.refl _ _).alloc (Nat.le_refl _) _
  have HA0 : Hid (Bt w0 W1 p B C D S W1) := ⟨S, hbo.later hBW, Away.refl _ _⟩
  have HOK : Hid C.Ok := hbo.ok
  have HSIM := Lib.hid hsim
  have HFU : Hid (D.rels.length ≤ j ∧ C.uses ≤ j ∧ j ≤ 1000) := ⟨hfew, huses, hj⟩
  have HBW := Lib.hid hBW
  have HAW : Hid (Away1 S W1 ab len l) := away1_of hl (hbo.later hBW).below hbo.low
  have HNIL := Lib.hid hnil
  obtain ⟨x0, x1, x2, x3, x4⟩ := cells5a HBX.out
  clear hBW hbo hl hsim hfew huses hj hnil
  have HPB : Hid (∀ W, Bt w0 W1 p B C D S W → Calls Try.prog 16 #[.pointer (some p), .int .i64 k, .slice ab len cap, .bool dd] W (KeysQ w0 W1 p B (C.put k l dd).2 D S (C.put k l dd).1 W)) := fun W hW => putB hW hk HAW.out HNIL.out (by omega) (by have := HFU.out; omega)
  have HPR : Hid (∀ W, Bt w0 W1 p B (C.put k l dd).2 D S W → ∃ D', Sim (C.put k l dd).2 D' ∧ D'.rels.length ≤ D.rels.length ∧ Calls Try.prog 28 #[.pointer (some ⟨B, 0, none⟩), .int .i64 k, .slice ab len cap, .bool dd] W (KeysRQ w0 W1 p B (C.put k l dd).2 D' S (C.put k l dd).1 W)) := fun W hW => putR' hW HSIM.out HOK.out hk HAW.out HNIL.out (by omega) (by have := HFU.out; omega)
  have HU := Lib.hid (put_uses C k l dd)
  obtain ⟨C1, hC1⟩ := named (C.put k l dd).2
  obtain ⟨l1, hl1⟩ := named (C.put k l dd).1
  rw [hC1.out, hl1.out] at HPB HPR
  rw [hC1.out] at HU
  clear hC1 hl1 hk
  unfold ActQ
  go_enter Try.func15, Try.ntmps15
  go_wp2_with fail
  go_region_held3 (fun w' => w'.cell? ⟨N, 1, none⟩ = some (.int .i64 k) ∧ w'.cell? ⟨N, 2, none⟩ = some (.int .i64 f) ∧ w'.cell? ⟨N, 3, none⟩ = some (.slice ab len cap) ∧ w'.cell? ⟨N, 4, none⟩ = some (.bool dd) ∧ ∃ X Y, Bt w0 W1 p B X Y S w') (first | assumption | exact keepA HBX.out HNS.out HA3.out | exact keepA HBX.out HNS.out HA2.out | exact keepA HBX.out HNS.out HA1.out | exact keepA HBX.out HNS.out HA0.out | exact keepA HBX.out HNS.out HA0.out.drew) (first
    | (go_at_call 16; refine (HPB.out _ HA0.out.drew).mono ?_; rintro e w1 ⟨a1, c1, rfl, g1, g2⟩; have HO1 := Lib.hid g1; have HA1 := Lib.hid g2; clear g1 g2)
    | (go_at_call 28; obtain ⟨D1, s1, s2, hcall⟩ := HPR.out _ HA1.out; refine hcall.mono ?_; rintro e w2 ⟨a2, c2, rfl, g1, g2, g3⟩; have HO2 := Lib.hid g1; have HA2 := Lib.hid g2; have HO1b := Lib.hid (g3 _ _ _ _ HO1.out); have HSIM1 := Lib.hid s1; have HF1 := Lib.hid s2; clear g1 g2 g3 s1 s2 hcall)
    | (go_at_call 27; refine (ints_same HO1b.out HO2.out).mono ?_; rintro e w3 ⟨rfl, g1⟩; have HA3 := Lib.hid (HA2.out.later g1); clear g1))
  go_wp2_with (first
    | (go_at_call 19; refine (dirtyB HA3.out).mono ?_; rintro e w7 ⟨a7, c7, rfl, g1, g2⟩; have HO7 := Lib.hid g1; have HA7 := Lib.hid g2; clear g1 g2)
    | (go_at_call 32; refine (dirtyR' HA7.out HSIM1.out HA7.out.ok).mono ?_; rintro e w8 ⟨a8, c8, rfl, g1, g2, g3⟩; have HO8 := Lib.hid g1; have HA8 := Lib.hid g2; have HO7b := Lib.hid (g3 _ _ _ _ HO7.out); clear g1 g2 g3)
    | (go_at_call 27; refine (ints_same HO7b.out HO8.out).mono ?_; rintro e w9 ⟨rfl, g1⟩; have HA9 := Lib.hid (HA8.out.later g1); clear g1))
  go_ret
  obtain ⟨S', q1, q2⟩ := HA9.out
  exact ⟨rfl, _, _, S', ⟨q1, HSIM1.out, by have := HFU.out; have := HF1.out; omega, by have := HFU.out; have := HU.out; omega⟩, (Away.of_below (S := S) HBW.out).trans q2⟩
set_option maxHeartbeats 1600000 in
set_option maxRecDepth 100000 in
theorem act_2 {w0 w : World} {p : Addr} {B j : Nat} {C : Lru} {D : RC} {S : Nat → Prop} (h : Tw w0 p B j C D S w) (hj : j ≤ 1000) {ab : Option Addr} {len : Nat} (cap : Nat) {l : List Int} (hl : Bytes w0 ab len l) (hnil : ab = none → cap = 0) (hlen : len ≤ 200) (k : Int) (hk : -9223372036854775808 ≤ k ∧ k ≤ 9223372036854775807) (f : Int) (dd : Bool) :
    Calls Try.prog 15 #[.pointer (some p), .pointer (some ⟨B, 0, none⟩), .agg #[.int .i64 2, .int .i64 k, .int .i64 f, .slice ab len cap, .bool dd]] w (ActQ w0 p B j S w) := by
  obtain ⟨hbo, hsim, hfew, huses⟩ := h
  obtain ⟨N, hN⟩ := named w.heap.size
  have hNN := hN.out
  have HNS : Hid (¬ S N) := fun hS => by have := hbo.lt N hS; omega
  obtain ⟨W1, hW1⟩ := named (w.alloc (.cells #[.int .i64 2, .int .i64 k, .int .i64 f, .slice ab len cap, .bool dd] 36))
  have hW := hW1.out
  have HBX : Hid (Blk W1 N 36 #[.int .i64 2, .int .i64 k, .int .i64 f, .slice ab len cap, .bool dd]) := by rw [← hW, ← hNN]; exact Blk.new w _ _
  have hBW : Below w.heap.size w W1 := by rw [← hW]; exact (Below.refl _ _).alloc (Nat.le_refl _) _
  have HA0 : Hid (Bt w0 W1 p B C D S W1) := ⟨S, hbo.later hBW, Away.refl _ _⟩
  have HOK : Hid C.Ok := hbo.ok
  have HSIM := Lib.hid hsim
  have HFU : Hid (D.rels.length ≤ j ∧ C.uses ≤ j ∧ j ≤ 1000) := ⟨hfew, huses, hj⟩
  have HBW := Lib.hid hBW
  have HAW : Hid (Away1 S W1 ab len l) := away1_of hl (hbo.later hBW).below hbo.low
  have HNIL := Lib.hid hnil
  obtain ⟨x0, x1, x2, x3, x4⟩ := cells5a HBX.out
  clear hBW hbo hl hsim hfew huses hj hnil
  have HPB : Hid (∀ W, Bt w0 W1 p B C D S W → Calls Try.prog 16 #[.pointer (some p), .int .i64 k, .slice ab len cap, .bool dd] W (KeysQ w0 W1 p B (C.put k l dd).2 D S (C.put k l dd).1 W)) := fun W hW => putB hW hk HAW.out HNIL.out (by omega) (by have := HFU.out; omega)
  have HPR : Hid (∀ W, Bt w0 W1 p B (C.put k l dd).2 D S W → ∃ D', Sim (C.put k l dd).2 D' ∧ D'.rels.length ≤ D.rels.length ∧ Calls Try.prog 28 #[.pointer (some ⟨B, 0, none⟩), .int .i64 k, .slice ab len cap, .bool dd] W (KeysRQ w0 W1 p B (C.put k l dd).2 D' S (C.put k l dd).1 W)) := fun W hW => putR' hW HSIM.out HOK.out hk HAW.out HNIL.out (by omega) (by have := HFU.out; omega)
  have HU := Lib.hid (put_uses C k l dd)
  obtain ⟨C1, hC1⟩ := named (C.put k l dd).2
  obtain ⟨l1, hl1⟩ := named (C.put k l dd).1
  rw [hC1.out, hl1.out] at HPB HPR
  rw [hC1.out] at HU
  clear hC1 hl1 hk
  unfold ActQ
  go_enter Try.func15, Try.ntmps15
  go_wp2_with fail
  go_region_held3 (fun w' => w'.cell? ⟨N, 1, none⟩ = some (.int .i64 k) ∧ w'.cell? ⟨N, 2, none⟩ = some (.int .i64 f) ∧ w'.cell? ⟨N, 3, none⟩ = some (.slice ab len cap) ∧ w'.cell? ⟨N, 4, none⟩ = some (.bool dd) ∧ ∃ X Y, Bt w0 W1 p B X Y S w') (first | assumption | exact keepA HBX.out HNS.out HA3.out | exact keepA HBX.out HNS.out HA2.out | exact keepA HBX.out HNS.out HA1.out | exact keepA HBX.out HNS.out HA0.out | exact keepA HBX.out HNS.out HA0.out.drew) (first
    | (go_at_call 16; refine (HPB.out _ HA0.out.drew).mono ?_; rintro e w1 ⟨a1, c1, rfl, g1, g2⟩; have HO1 := Lib.hid g1; have HA1 := Lib.hid g2; clear g1 g2)
    | (go_at_call 28; obtain ⟨D1, s1, s2, hcall⟩ := HPR.out _ HA1.out; refine hcall.mono ?_; rintro e w2 ⟨a2, c2, rfl, g1, g2, g3⟩; have HO2 := Lib.hid g1; have HA2 := Lib.hid g2; have HO1b := Lib.hid (g3 _ _ _ _ HO1.out); have HSIM1 := Lib.hid s1; have HF1 := Lib.hid s2; clear g1 g2 g3 s1 s2 hcall)
    | (go_at_call 27; refine (ints_same HO1b.out HO2.out).mono ?_; rintro e w3 ⟨rfl, g1⟩; have HA3 := Lib.hid (HA2.out.later g1); clear g1))
  go_wp2_with (first
    | (go_at_call 19; refine (dirtyB HA3.out).mono ?_; rintro e w7 ⟨a7, c7, rfl, g1, g2⟩; have HO7 := Lib.hid g1; have HA7 := Lib.hid g2; clear g1 g2)
    | (go_at_call 32; refine (dirtyR' HA7.out HSIM1.out HA7.out.ok).mono ?_; rintro e w8 ⟨a8, c8, rfl, g1, g2, g3⟩; have HO8 := Lib.hid g1; have HA8 := Lib.hid g2; have HO7b := Lib.hid (g3 _ _ _ _ HO7.out); clear g1 g2 g3)
    | (go_at_call 27; refine (ints_same HO7b.out HO8.out).mono ?_; rintro e w9 ⟨rfl, g1⟩; have HA9 := Lib.hid (HA8.out.later g1); clear g1))
  go_ret
  obtain ⟨S', q1, q2⟩ := HA9.out
  exact ⟨rfl, _, _, S', ⟨q1, HSIM1.out, by have := HFU.out; have := HF1.out; omega, by have := HFU.out; have := HU.out; omega⟩, (Away.of_below (S := S) HBW.out).trans q2⟩
set_option maxHeartbeats 1600000 in
set_option maxRecDepth 100000 in
theorem act_3 {w0 w : World} {p : Addr} {B j : Nat} {C : Lru} {D : RC} {S : Nat → Prop} (h : Tw w0 p B j C D S w) (hj : j ≤ 1000) {ab : Option Addr} {len : Nat} (cap : Nat) {l : List Int} (hl : Bytes w0 ab len l) (hnil : ab = none → cap = 0) (hlen : len ≤ 200) (k : Int) (hk : -9223372036854775808 ≤ k ∧ k ≤ 9223372036854775807) (f : Int) (dd : Bool) :
    Calls Try.prog 15 #[.pointer (some p), .pointer (some ⟨B, 0, none⟩), .agg #[.int .i64 3, .int .i64 k, .int .i64 f, .slice ab len cap, .bool dd]] w (ActQ w0 p B j S w) := by
  obtain ⟨hbo, hsim, hfew, huses⟩ := h
  obtain ⟨N, hN⟩ := named w.heap.size
  have hNN := hN.out
  have HNS : Hid (¬ S N) := fun hS => by have := hbo.lt N hS; omega
  obtain ⟨W1, hW1⟩ := named (w.alloc (.cells #[.int .i64 3, .int .i64 k, .int .i64 f, .slice ab len cap, .bool dd] 36))
  have hW := hW1.out
  have HBX : Hid (Blk W1 N 36 #[.int .i64 3, .int .i64 k, .int .i64 f, .slice ab len cap, .bool dd]) := by rw [← hW, ← hNN]; exact Blk.new w _ _
  have hBW : Below w.heap.size w W1 := by rw [← hW]; exact (Below.refl _ _).alloc (Nat.le_refl _) _
  have HA0 : Hid (Bt w0 W1 p B C D S W1) := ⟨S, hbo.later hBW, Away.refl _ _⟩
  have HOK : Hid C.Ok := hbo.ok
  have HSIM := Lib.hid hsim
  have HFU : Hid (D.rels.length ≤ j ∧ C.uses ≤ j ∧ j ≤ 1000) := ⟨hfew, huses, hj⟩
  have HBW := Lib.hid hBW
  have HAW : Hid (Away1 S W1 ab len l) := away1_of hl (hbo.later hBW).below hbo.low
  have HNIL := Lib.hid hnil
  obtain ⟨x0, x1, x2, x3, x4⟩ := cells5a HBX.out
  clear hBW hbo hl hsim hfew huses hj hnil
  have HGB := Lib.hid (getBoth HA0.out HSIM.out k (by have := HFU.out; omega))
  unfold GetBQ GetRQ at HGB
  have HU := Lib.hid (get_uses C k)
  obtain ⟨C1, hC1⟩ := named (C.get k).2.2
  obtain ⟨bt, hbt⟩ := named (C.get k).2.1
  obtain ⟨l1, hl1⟩ := named (C.get k).1
  rw [hC1.out, hbt.out, hl1.out] at HGB
  rw [hC1.out] at HU
  clear hC1 hl1 hbt hk
  unfold ActQ
  go_enter Try.func15, Try.ntmps15
  go_wp2_with (first
    | (go_at_call 20; refine HGB.out.mono ?_; rintro e w1 ⟨a1, n1, c1, rfl, g1, D1, s1, s2, g2⟩; have HA1 := Lib.hid g1; have HSIM1 := Lib.hid s1; have HF1 := Lib.hid s2; have HGR := Lib.hid g2; obtain ⟨y0, y1, y2, y3, y4⟩ := cells5a (HA1.out.blk HBX.out HNS.out); clear g1 g2 s1 s2)
    | (go_at_call 25; refine HGR.out.mono ?_; rintro e w2 ⟨a2, n2, c2, rfl, g1, g2, g3⟩; have HA2 := Lib.hid g3; have t1 := conv_str g2 c1; have t2 := conv_str g1 c2; clear g1 g2 g3)
    | (go_at_call 19; refine (dirtyB HA2.out).mono ?_; rintro e w7 ⟨a7, c7, rfl, g1, g2⟩; have HO7 := Lib.hid g1; have HA7 := Lib.hid g2; clear g1 g2)
    | (go_at_call 32; refine (dirtyR' HA7.out HSIM1.out HA7.out.ok).mono ?_; rintro e w8 ⟨a8, c8, rfl, g1, g2, g3⟩; have HO8 := Lib.hid g1; have HA8 := Lib.hid g2; have HO7b := Lib.hid (g3 _ _ _ _ HO7.out); clear g1 g2 g3)
    | (go_at_call 27; refine (ints_same HO7b.out HO8.out).mono ?_; rintro e w9 ⟨rfl, g1⟩; have HA9 := Lib.hid (HA8.out.later g1); clear g1))
  go_ret
  obtain ⟨S', q1, q2⟩ := HA9.out
  exact ⟨rfl, _, _, S', ⟨q1, HSIM1.out, by have := HFU.out; have := HF1.out; omega, by have := HFU.out; have := HU.out; omega⟩, (Away.of_below (S := S) HBW.out).trans q2⟩
set_option maxHeartbeats 1600000 in
set_option maxRecDepth 100000 in
theorem act_4 {w0 w : World} {p : Addr} {B j : Nat} {C : Lru} {D : RC} {S : Nat → Prop} (h : Tw w0 p B j C D S w) (hj : j ≤ 1000) {ab : Option Addr} {len : Nat} (cap : Nat) {l : List Int} (hl : Bytes w0 ab len l) (hnil : ab = none → cap = 0) (hlen : len ≤ 200) (k : Int) (hk : -9223372036854775808 ≤ k ∧ k ≤ 9223372036854775807) (f : Int) (dd : Bool) :
    Calls Try.prog 15 #[.pointer (some p), .pointer (some ⟨B, 0, none⟩), .agg #[.int .i64 4, .int .i64 k, .int .i64 f, .slice ab len cap, .bool dd]] w (ActQ w0 p B j S w) := by
  obtain ⟨hbo, hsim, hfew, huses⟩ := h
  obtain ⟨N, hN⟩ := named w.heap.size
  have hNN := hN.out
  have HNS : Hid (¬ S N) := fun hS => by have := hbo.lt N hS; omega
  obtain ⟨W1, hW1⟩ := named (w.alloc (.cells #[.int .i64 4, .int .i64 k, .int .i64 f, .slice ab len cap, .bool dd] 36))
  have hW := hW1.out
  have HBX : Hid (Blk W1 N 36 #[.int .i64 4, .int .i64 k, .int .i64 f, .slice ab len cap, .bool dd]) := by rw [← hW, ← hNN]; exact Blk.new w _ _
  have hBW : Below w.heap.size w W1 := by rw [← hW]; exact (Below.refl _ _).alloc (Nat.le_refl _) _
  have HA0 : Hid (Bt w0 W1 p B C D S W1) := ⟨S, hbo.later hBW, Away.refl _ _⟩
  have HOK : Hid C.Ok := hbo.ok
  have HSIM := Lib.hid hsim
  have HFU : Hid (D.rels.length ≤ j ∧ C.uses ≤ j ∧ j ≤ 1000) := ⟨hfew, huses, hj⟩
  have HBW := Lib.hid hBW
  have HAW : Hid (Away1 S W1 ab len l) := away1_of hl (hbo.later hBW).below hbo.low
  have HNIL := Lib.hid hnil
  obtain ⟨x0, x1, x2, x3, x4⟩ := cells5a HBX.out
  clear hBW hbo hl hsim hfew huses hj hnil
  have HPB : Hid (∀ W, Bt w0 W1 p B C D S W → Calls Try.prog 17 #[.pointer (some p), .int .i64 k, .int .i64 f] W fun e w' => e = .returned (.int .i64 (C.after k f).1) ∧ Bt w0 W1 p B (C.after k f).2 D S w') := fun W hW => afterB hW k f
  have HPR : Hid (∀ W, Bt w0 W1 p B (C.after k f).2 D S W → ∃ D', Sim (C.after k f).2 D' ∧ D'.rels.length ≤ D.rels.length + 1 ∧ Calls Try.prog 29 #[.pointer (some ⟨B, 0, none⟩), .int .i64 k, .int .i64 f] W fun e w' => e = .returned (.int .i64 (C.after k f).1) ∧ Bt w0 W1 p B (C.after k f).2 D' S w') := fun W hW => afterR' hW HSIM.out HOK.out (by have := HFU.out; omega) k f
  have HU := Lib.hid (after_uses C k f)
  obtain ⟨C1, hC1⟩ := named (C.after k f).2
  obtain ⟨r1, hr1⟩ := named (C.after k f).1
  rw [hC1.out, hr1.out] at HPB HPR
  rw [hC1.out] at HU
  clear hC1 hr1 hk
  unfold ActQ
  go_enter Try.func15, Try.ntmps15
  go_wp2_with fail
  go_region_held3 (fun w' => w'.cell? ⟨N, 1, none⟩ = some (.int .i64 k) ∧ w'.cell? ⟨N, 2, none⟩ = some (.int .i64 f) ∧ w'.cell? ⟨N, 3, none⟩ = some (.slice ab len cap) ∧ w'.cell? ⟨N, 4, none⟩ = some (.bool dd) ∧ ∃ X Y, Bt w0 W1 p B X Y S w') (first | assumption | exact keepA HBX.out HNS.out HA3.out | exact keepA HBX.out HNS.out HA2.out | exact keepA HBX.out HNS.out HA1.out | exact keepA HBX.out HNS.out HA0.out | exact keepA HBX.out HNS.out HA0.out.drew) (first
    | (go_at_call 17; refine (HPB.out _ HA0.out.drew).mono ?_; rintro e w1 ⟨rfl, g2⟩; have HA1 := Lib.hid g2; clear g2)
    | (go_at_call 14; refine (num_any r1 _).mono ?_; rintro e w' ⟨rfl, hww⟩; obtain rfl := hww.symm; clear hww)
    | (go_at_call 29; obtain ⟨D1, s1, s2, hcall⟩ := HPR.out _ HA1.out; refine hcall.mono ?_; rintro e w2 ⟨rfl, g2⟩; have HA2 := Lib.hid g2; have HSIM1 := Lib.hid s1; have HF1 := Lib.hid s2; clear g2 s1 s2 hcall))
  go_wp2_with (first
    | (go_at_call 19; refine (dirtyB HA2.out).mono ?_; rintro e w7 ⟨a7, c7, rfl, g1, g2⟩; have HO7 := Lib.hid g1; have HA7 := Lib.hid g2; clear g1 g2)
    | (go_at_call 32; refine (dirtyR' HA7.out HSIM1.out HA7.out.ok).mono ?_; rintro e w8 ⟨a8, c8, rfl, g1, g2, g3⟩; have HO8 := Lib.hid g1; have HA8 := Lib.hid g2; have HO7b := Lib.hid (g3 _ _ _ _ HO7.out); clear g1 g2 g3)
    | (go_at_call 27; refine (ints_same HO7b.out HO8.out).mono ?_; rintro e w9 ⟨rfl, g1⟩; have HA9 := Lib.hid (HA8.out.later g1); clear g1))
  go_ret
  obtain ⟨S', q1, q2⟩ := HA9.out
  exact ⟨rfl, _, _, S', ⟨q1, HSIM1.out, by have := HFU.out; have := HF1.out; omega, by have := HFU.out; have := HU.out; omega⟩, (Away.of_below (S := S) HBW.out).trans q2⟩
set_option maxHeartbeats 1600000 in
set_option maxRecDepth 100000 in
theorem act_5 {w0 w : World} {p : Addr} {B j : Nat} {C : Lru} {D : RC} {S : Nat → Prop} (h : Tw w0 p B j C D S w) (hj : j ≤ 1000) {ab : Option Addr} {len : Nat} (cap : Nat) {l : List Int} (hl : Bytes w0 ab len l) (hnil : ab = none → cap = 0) (hlen : len ≤ 200) (k : Int) (hk : -9223372036854775808 ≤ k ∧ k ≤ 9223372036854775807) (f : Int) (dd : Bool) :
    Calls Try.prog 15 #[.pointer (some p), .pointer (some ⟨B, 0, none⟩), .agg #[.int .i64 5, .int .i64 k, .int .i64 f, .slice ab len cap, .bool dd]] w (ActQ w0 p B j S w) := by
  obtain ⟨hbo, hsim, hfew, huses⟩ := h
  obtain ⟨N, hN⟩ := named w.heap.size
  have hNN := hN.out
  have HNS : Hid (¬ S N) := fun hS => by have := hbo.lt N hS; omega
  obtain ⟨W1, hW1⟩ := named (w.alloc (.cells #[.int .i64 5, .int .i64 k, .int .i64 f, .slice ab len cap, .bool dd] 36))
  have hW := hW1.out
  have HBX : Hid (Blk W1 N 36 #[.int .i64 5, .int .i64 k, .int .i64 f, .slice ab len cap, .bool dd]) := by rw [← hW, ← hNN]; exact Blk.new w _ _
  have hBW : Below w.heap.size w W1 := by rw [← hW]; exact (Below.refl _ _).alloc (Nat.le_refl _) _
  have HA0 : Hid (Bt w0 W1 p B C D S W1) := ⟨S, hbo.later hBW, Away.refl _ _⟩
  have HOK : Hid C.Ok := hbo.ok
  have HSIM := Lib.hid hsim
  have HFU : Hid (D.rels.length ≤ j ∧ C.uses ≤ j ∧ j ≤ 1000) := ⟨hfew, huses, hj⟩
  have HBW := Lib.hid hBW
  have HAW : Hid (Away1 S W1 ab len l) := away1_of hl (hbo.later hBW).below hbo.low
  have HNIL := Lib.hid hnil
  obtain ⟨x0, x1, x2, x3, x4⟩ := cells5a HBX.out
  clear hBW hbo hl hsim hfew huses hj hnil
  have HPB : Hid (∀ W, Bt w0 W1 p B C D S W → Calls Try.prog 17 #[.pointer (some p), .int .i64 k, .int .i64 f] W fun e w' => e = .returned (.int .i64 (C.after k f).1) ∧ Bt w0 W1 p B (C.after k f).2 D S w') := fun W hW => afterB hW k f
  have HPR : Hid (∀ W, Bt w0 W1 p B (C.after k f).2 D S W → ∃ D', Sim (C.after k f).2 D' ∧ D'.rels.length ≤ D.rels.length + 1 ∧ Calls Try.prog 29 #[.pointer (some ⟨B, 0, none⟩), .int .i64 k, .int .i64 f] W fun e w' => e = .returned (.int .i64 (C.after k f).1) ∧ Bt w0 W1 p B (C.after k f).2 D' S w') := fun W hW => afterR' hW HSIM.out HOK.out (by have := HFU.out; omega) k f
  have HU := Lib.hid (after_uses C k f)
  obtain ⟨C1, hC1⟩ := named (C.after k f).2
  obtain ⟨r1, hr1⟩ := named (C.after k f).1
  rw [hC1.out, hr1.out] at HPB HPR
  rw [hC1.out] at HU
  clear hC1 hr1 hk
  unfold ActQ
  go_enter Try.func15, Try.ntmps15
  go_wp2_with fail
  go_region_held3 (fun w' => w'.cell? ⟨N, 1, none⟩ = some (.int .i64 k) ∧ w'.cell? ⟨N, 2, none⟩ = some (.int .i64 f) ∧ w'.cell? ⟨N, 3, none⟩ = some (.slice ab len cap) ∧ w'.cell? ⟨N, 4, none⟩ = some (.bool dd) ∧ ∃ X Y, Bt w0 W1 p B X Y S w') (first | assumption | exact keepA HBX.out HNS.out HA3.out | exact keepA HBX.out HNS.out HA2.out | exact keepA HBX.out HNS.out HA1.out | exact keepA HBX.out HNS.out HA0.out | exact keepA HBX.out HNS.out HA0.out.drew) (first
    | (go_at_call 17; refine (HPB.out _ HA0.out.drew).mono ?_; rintro e w1 ⟨rfl, g2⟩; have HA1 := Lib.hid g2; clear g2)
    | (go_at_call 14; refine (num_any r1 _).mono ?_; rintro e w' ⟨rfl, hww⟩; obtain rfl := hww.symm; clear hww)
    | (go_at_call 29; obtain ⟨D1, s1, s2, hcall⟩ := HPR.out _ HA1.out; refine hcall.mono ?_; rintro e w2 ⟨rfl, g2⟩; have HA2 := Lib.hid g2; have HSIM1 := Lib.hid s1; have HF1 := Lib.hid s2; clear g2 s1 s2 hcall))
  go_wp2_with (first
    | (go_at_call 19; refine (dirtyB HA2.out).mono ?_; rintro e w7 ⟨a7, c7, rfl, g1, g2⟩; have HO7 := Lib.hid g1; have HA7 := Lib.hid g2; clear g1 g2)
    | (go_at_call 32; refine (dirtyR' HA7.out HSIM1.out HA7.out.ok).mono ?_; rintro e w8 ⟨a8, c8, rfl, g1, g2, g3⟩; have HO8 := Lib.hid g1; have HA8 := Lib.hid g2; have HO7b := Lib.hid (g3 _ _ _ _ HO7.out); clear g1 g2 g3)
    | (go_at_call 27; refine (ints_same HO7b.out HO8.out).mono ?_; rintro e w9 ⟨rfl, g1⟩; have HA9 := Lib.hid (HA8.out.later g1); clear g1))
  go_ret
  obtain ⟨S', q1, q2⟩ := HA9.out
  exact ⟨rfl, _, _, S', ⟨q1, HSIM1.out, by have := HFU.out; have := HF1.out; omega, by have := HFU.out; have := HU.out; omega⟩, (Away.of_below (S := S) HBW.out).trans q2⟩
set_option maxHeartbeats 1600000 in
set_option maxRecDepth 100000 in
theorem act_6 {w0 w : World} {p : Addr} {B j : Nat} {C : Lru} {D : RC} {S : Nat → Prop} (h : Tw w0 p B j C D S w) (hj : j ≤ 1000) {ab : Option Addr} {len : Nat} (cap : Nat) {l : List Int} (hl : Bytes w0 ab len l) (hnil : ab = none → cap = 0) (hlen : len ≤ 200) (k : Int) (hk : -9223372036854775808 ≤ k ∧ k ≤ 9223372036854775807) (f : Int) (dd : Bool) :
    Calls Try.prog 15 #[.pointer (some p), .pointer (some ⟨B, 0, none⟩), .agg #[.int .i64 6, .int .i64 k, .int .i64 f, .slice ab len cap, .bool dd]] w (ActQ w0 p B j S w) := by
  obtain ⟨hbo, hsim, hfew, huses⟩ := h
  obtain ⟨N, hN⟩ := named w.heap.size
  have hNN := hN.out
  have HNS : Hid (¬ S N) := fun hS => by have := hbo.lt N hS; omega
  obtain ⟨W1, hW1⟩ := named (w.alloc (.cells #[.int .i64 6, .int .i64 k, .int .i64 f, .slice ab len cap, .bool dd] 36))
  have hW := hW1.out
  have HBX : Hid (Blk W1 N 36 #[.int .i64 6, .int .i64 k, .int .i64 f, .slice ab len cap, .bool dd]) := by rw [← hW, ← hNN]; exact Blk.new w _ _
  have hBW : Below w.heap.size w W1 := by rw [← hW]; exact (Below.refl _ _).alloc (Nat.le_refl _) _
  have HA0 : Hid (Bt w0 W1 p B C D S W1) := ⟨S, hbo.later hBW, Away.refl _ _⟩
  have HOK : Hid C.Ok := hbo.ok
  have HSIM := Lib.hid hsim
  have HFU : Hid (D.rels.length ≤ j ∧ C.uses ≤ j ∧ j ≤ 1000) := ⟨hfew, huses, hj⟩
  have HBW := Lib.hid hBW
  have HAW : Hid (Away1 S W1 ab len l) := away1_of hl (hbo.later hBW).below hbo.low
  have HNIL := Lib.hid hnil
  obtain ⟨x0, x1, x2, x3, x4⟩ := cells5a HBX.out
  clear hBW hbo hl hsim hfew huses hj hnil
  have HPB : Hid (∀ W, Bt w0 W1 p B C D S W → Calls Try.prog 18 #[.pointer (some p)] W (KeysQ w0 W1 p B C.flush.2 D S C.flush.1 W)) := fun W hW => flushB hW
  have HPR : Hid (∀ W, Bt w0 W1 p B C.flush.2 D S W → ∃ D', Sim C.flush.2 D' ∧ D'.rels.length ≤ D.rels.length ∧ Calls Try.prog 30 #[.pointer (some ⟨B, 0, none⟩)] W (KeysRQ w0 W1 p B C.flush.2 D' S C.flush.1 W)) := fun W hW => flushR' hW HSIM.out HOK.out
  have HU : Hid (C.flush.2.uses = C.uses) := rfl
  obtain ⟨C1, hC1⟩ := named C.flush.2
  obtain ⟨l1, hl1⟩ := named C.flush.1
  rw [hC1.out, hl1.out] at HPB HPR
  rw [hC1.out] at HU
  clear hC1 hl1 hk
  unfold ActQ
  go_enter Try.func15, Try.ntmps15
  go_wp2_with (first
    | (go_at_call 18; refine (HPB.out _ HA0.out).mono ?_; rintro e w1 ⟨a1, c1, rfl, g1, g2⟩; have HO1 := Lib.hid g1; have HA1 := Lib.hid g2; clear g1 g2)
    | (go_at_call 30; obtain ⟨D1, s1, s2, hcall⟩ := HPR.out _ HA1.out; refine hcall.mono ?_; rintro e w2 ⟨a2, c2, rfl, g1, g2, g3⟩; have HO2 := Lib.hid g1; have HA2 := Lib.hid g2; have HO1b := Lib.hid (g3 _ _ _ _ HO1.out); have HSIM1 := Lib.hid s1; have HF1 := Lib.hid s2; clear g1 g2 g3 s1 s2 hcall)
    | (go_at_call 27; refine (ints_same HO7b.out HO8.out).mono ?_; rintro e w9 ⟨rfl, g1⟩; have HA9 := Lib.hid (HA8.out.later g1); clear g1)
    | (go_at_call 27; refine (ints_same HO1b.out HO2.out).mono ?_; rintro e w3 ⟨rfl, g1⟩; have HA3 := Lib.hid (HA2.out.later g1); clear g1)
    | (go_at_call 19; refine (dirtyB HA3.out).mono ?_; rintro e w7 ⟨a7, c7, rfl, g1, g2⟩; have HO7 := Lib.hid g1; have HA7 := Lib.hid g2; clear g1 g2)
    | (go_at_call 32; refine (dirtyR' HA7.out HSIM1.out HA7.out.ok).mono ?_; rintro e w8 ⟨a8, c8, rfl, g1, g2, g3⟩; have HO8 := Lib.hid g1; have HA8 := Lib.hid g2; have HO7b := Lib.hid (g3 _ _ _ _ HO7.out); clear g1 g2 g3))
  go_ret
  obtain ⟨S', q1, q2⟩ := HA9.out
  exact ⟨rfl, _, _, S', ⟨q1, HSIM1.out, by have := HFU.out; have := HF1.out; omega, by have := HFU.out; have := HU.out; omega⟩, (Away.of_below (S := S) HBW.out).trans q2⟩
set_option maxHeartbeats 1600000 in
set_option maxRecDepth 100000 in
theorem act_7 {w0 w : World} {p : Addr} {B j : Nat} {C : Lru} {D : RC} {S : Nat → Prop} (h : Tw w0 p B j C D S w) (hj : j ≤ 1000) {ab : Option Addr} {len : Nat} (cap : Nat) {l : List Int} (hl : Bytes w0 ab len l) (hnil : ab = none → cap = 0) (hlen : len ≤ 200) (k : Int) (hk : -9223372036854775808 ≤ k ∧ k ≤ 9223372036854775807) (f : Int) (dd : Bool) :
    Calls Try.prog 15 #[.pointer (some p), .pointer (some ⟨B, 0, none⟩), .agg #[.int .i64 7, .int .i64 k, .int .i64 f, .slice ab len cap, .bool dd]] w (ActQ w0 p B j S w) := by
  obtain ⟨hbo, hsim, hfew, huses⟩ := h
  obtain ⟨N, hN⟩ := named w.heap.size
  have hNN := hN.out
  have HNS : Hid (¬ S N) := fun hS => by have := hbo.lt N hS; omega
  obtain ⟨W1, hW1⟩ := named (w.alloc (.cells #[.int .i64 7, .int .i64 k, .int .i64 f, .slice ab len cap, .bool dd] 36))
  have hW := hW1.out
  have HBX : Hid (Blk W1 N 36 #[.int .i64 7, .int .i64 k, .int .i64 f, .slice ab len cap, .bool dd]) := by rw [← hW, ← hNN]; exact Blk.new w _ _
  have hBW : Below w.heap.size w W1 := by rw [← hW]; exact (Below.refl _ _).alloc (Nat.le_refl _) _
  have HA0 : Hid (Bt w0 W1 p B C D S W1) := ⟨S, hbo.later hBW, Away.refl _ _⟩
  have HOK : Hid C.Ok := hbo.ok
  have HSIM := Lib.hid hsim
  have HFU : Hid (D.rels.length ≤ j ∧ C.uses ≤ j ∧ j ≤ 1000) := ⟨hfew, huses, hj⟩
  have HBW := Lib.hid hBW
  have HAW : Hid (Away1 S W1 ab len l) := away1_of hl (hbo.later hBW).below hbo.low
  have HNIL := Lib.hid hnil
  obtain ⟨x0, x1, x2, x3, x4⟩ := cells5a HBX.out
  clear hBW hbo hl hsim hfew huses hj hnil
  have HPB : Hid (∀ W, Bt w0 W1 p B C D S W → Calls Try.prog 26 #[.pointer (some p), .int .i64 k] W fun e w' => e = .returned (.tuple #[]) ∧ Bt w0 W1 p B (C.drop k) D S w') := fun W hW => dropB hW k
  have HPR : Hid (∀ W, Bt w0 W1 p B (C.drop k) D S W → ∃ D', Sim (C.drop k) D' ∧ D'.rels.length ≤ D.rels.length ∧ Calls Try.prog 31 #[.pointer (some ⟨B, 0, none⟩), .int .i64 k] W fun e w' => e = .returned (.tuple #[]) ∧ Bt w0 W1 p B (C.drop k) D' S w') := fun W hW => dropR' hW HSIM.out HOK.out k
  have HU : Hid ((C.drop k).uses = C.uses) := rfl
  obtain ⟨C1, hC1⟩ := named (C.drop k)
  rw [hC1.out] at HPB HPR HU
  clear hC1 hk
  unfold ActQ
  go_enter Try.func15, Try.ntmps15
  go_wp2_with (first
    | (go_at_call 26; refine (HPB.out _ HA0.out).mono ?_; rintro e w1 ⟨rfl, g2⟩; have HA1 := Lib.hid g2; obtain ⟨y0, y1, y2, y3, y4⟩ := cells5a (HA1.out.blk HBX.out HNS.out); clear g2)
    | (go_at_call 31; obtain ⟨D1, s1, s2, hcall⟩ := HPR.out _ HA1.out; refine hcall.mono ?_; rintro e w2 ⟨rfl, g2⟩; have HA2 := Lib.hid g2; have HSIM1 := Lib.hid s1; have HF1 := Lib.hid s2; clear g2 s1 s2 hcall)
    | (go_at_call 19; refine (dirtyB HA2.out).mono ?_; rintro e w7 ⟨a7, c7, rfl, g1, g2⟩; have HO7 := Lib.hid g1; have HA7 := Lib.hid g2; clear g1 g2)
    | (go_at_call 32; refine (dirtyR' HA7.out HSIM1.out HA7.out.ok).mono ?_; rintro e w8 ⟨a8, c8, rfl, g1, g2, g3⟩; have HO8 := Lib.hid g1; have HA8 := Lib.hid g2; have HO7b := Lib.hid (g3 _ _ _ _ HO7.out); clear g1 g2 g3)
    | (go_at_call 27; refine (ints_same HO7b.out HO8.out).mono ?_; rintro e w9 ⟨rfl, g1⟩; have HA9 := Lib.hid (HA8.out.later g1); clear g1))
  go_ret
  obtain ⟨S', q1, q2⟩ := HA9.out
  exact ⟨rfl, _, _, S', ⟨q1, HSIM1.out, by have := HFU.out; have := HF1.out; omega, by have := HFU.out; have := HU.out; omega⟩, (Away.of_below (S := S) HBW.out).trans q2⟩
set_option maxHeartbeats 1600000 in
set_option maxRecDepth 100000 in
theorem act_x {w0 w : World} {p : Addr} {B j : Nat} {C : Lru} {D : RC} {S : Nat → Prop} (h : Tw w0 p B j C D S w) (hj : j ≤ 1000) {ab : Option Addr} {len : Nat} (cap : Nat) {l : List Int} (hl : Bytes w0 ab len l) (hnil : ab = none → cap = 0) (hlen : len ≤ 200) (k : Int) (hk : -9223372036854775808 ≤ k ∧ k ≤ 9223372036854775807) (f : Int) (dd : Bool) (d : Int) (hd : ¬ (d = 0 ∨ d = 1 ∨ d = 2 ∨ d = 3 ∨ d = 4 ∨ d = 5 ∨ d = 6 ∨ d = 7)) :
    Calls Try.prog 15 #[.pointer (some p), .pointer (some ⟨B, 0, none⟩), .agg #[.int .i64 d, .int .i64 k, .int .i64 f, .slice ab len cap, .bool dd]] w (ActQ w0 p B j S w) := by
  obtain ⟨hbo, hsim, hfew, huses⟩ := h
  obtain ⟨N, hN⟩ := named w.heap.size
  have hNN := hN.out
  have HNS : Hid (¬ S N) := fun hS => by have := hbo.lt N hS; omega
  obtain ⟨W1, hW1⟩ := named (w.alloc (.cells #[.int .i64 d, .int .i64 k, .int .i64 f, .slice ab len cap, .bool dd] 36))
  have hW := hW1.out
  have HBX : Hid (Blk W1 N 36 #[.int .i64 d, .int .i64 k, .int .i64 f, .slice ab len cap, .bool dd]) := by rw [← hW, ← hNN]; exact Blk.new w _ _
  have hBW : Below w.heap.size w W1 := by rw [← hW]; exact (Below.refl _ _).alloc (Nat.le_refl _) _
  have HA0 : Hid (Bt w0 W1 p B C D S W1) := ⟨S, hbo.later hBW, Away.refl _ _⟩
  have HOK : Hid C.Ok := hbo.ok
  have HSIM := Lib.hid hsim
  have HFU : Hid (D.rels.length ≤ j ∧ C.uses ≤ j ∧ j ≤ 1000) := ⟨hfew, huses, hj⟩
  have HBW := Lib.hid hBW
  have HAW : Hid (Away1 S W1 ab len l) := away1_of hl (hbo.later hBW).below hbo.low
  have HNIL := Lib.hid hnil
  obtain ⟨x0, x1, x2, x3, x4⟩ := cells5a HBX.out
  clear hBW hbo hl hsim hfew huses hj hnil
  have t0 : (d == 0) = false := by rw [beq_eq_false_iff_ne]; omega
  have u0 : ¬ d = 0 := by omega
  have t1 : (d == 1) = false := by rw [beq_eq_false_iff_ne]; omega
  have u1 : ¬ d = 1 := by omega
  have t2 : (d == 2) = false := by rw [beq_eq_false_iff_ne]; omega
  have u2 : ¬ d = 2 := by omega
  have t3 : (d == 3) = false := by rw [beq_eq_false_iff_ne]; omega
  have u3 : ¬ d = 3 := by omega
  have t4 : (d == 4) = false := by rw [beq_eq_false_iff_ne]; omega
  have u4 : ¬ d = 4 := by omega
  have t5 : (d == 5) = false := by rw [beq_eq_false_iff_ne]; omega
  have u5 : ¬ d = 5 := by omega
  have t6 : (d == 6) = false := by rw [beq_eq_false_iff_ne]; omega
  have u6 : ¬ d = 6 := by omega
  have t7 : (d == 7) = false := by rw [beq_eq_false_iff_ne]; omega
  have u7 : ¬ d = 7 := by omega
  clear hd hk
  unfold ActQ
  go_enter Try.func15, Try.ntmps15
  go_wp2_with (first
    | (go_at_call 19; refine (dirtyB HA0.out).mono ?_; rintro e w7 ⟨a7, c7, rfl, g1, g2⟩; have HO7 := Lib.hid g1; have HA7 := Lib.hid g2; clear g1 g2)
    | (go_at_call 32; refine (dirtyR' HA7.out HSIM.out HA7.out.ok).mono ?_; rintro e w8 ⟨a8, c8, rfl, g1, g2, g3⟩; have HO8 := Lib.hid g1; have HA8 := Lib.hid g2; have HO7b := Lib.hid (g3 _ _ _ _ HO7.out); clear g1 g2 g3)
    | (go_at_call 27; refine (ints_same HO7b.out HO8.out).mono ?_; rintro e w9 ⟨rfl, g1⟩; have HA9 := Lib.hid (HA8.out.later g1); clear g1))
  go_ret
  obtain ⟨S', q1, q2⟩ := HA9.out
  exact ⟨rfl, _, _, S', ⟨q1, HSIM.out, by have := HFU.out; omega, by have := HFU.out; omega⟩, (Away.of_below (S := S) HBW.out).trans q2⟩
/-- act. -/
theorem act_any {w0 w : World} {p : Addr} {B j : Nat} {C : Lru} {D : RC} {S : Nat → Prop} (h : Tw w0 p B j C D S w) (hj : j ≤ 1000) {ab : Option Addr} {len : Nat} (cap : Nat) {l : List Int} (hl : Bytes w0 ab len l) (hnil : ab = none → cap = 0) (hlen : len ≤ 200) (k : Int) (hk : -9223372036854775808 ≤ k ∧ k ≤ 9223372036854775807) (f : Int) (dd : Bool) (d : Int) :
    Calls Try.prog 15 #[.pointer (some p), .pointer (some ⟨B, 0, none⟩), .agg #[.int .i64 d, .int .i64 k, .int .i64 f, .slice ab len cap, .bool dd]] w (ActQ w0 p B j S w) := by
  by_cases h0 : d = 0
  · subst h0
    exact act_0 h hj cap hl hnil hlen k hk f dd
  by_cases h1 : d = 1
  · subst h1
    exact act_1 h hj cap hl hnil hlen k hk f dd
  by_cases h2 : d = 2
  · subst h2
    exact act_2 h hj cap hl hnil hlen k hk f dd
  by_cases h3 : d = 3
  · subst h3
    exact act_3 h hj cap hl hnil hlen k hk f dd
  by_cases h4 : d = 4
  · subst h4
    exact act_4 h hj cap hl hnil hlen k hk f dd
  by_cases h5 : d = 5
  · subst h5
    exact act_5 h hj cap hl hnil hlen k hk f dd
  by_cases h6 : d = 6
  · subst h6
    exact act_6 h hj cap hl hnil hlen k hk f dd
  by_cases h7 : d = 7
  · subst h7
    exact act_7 h hj cap hl hnil hlen k hk f dd
  exact act_x h hj cap hl hnil hlen k hk f dd d (by omega)
end Go.Proofs.Ythmkmhfoicfapaa
