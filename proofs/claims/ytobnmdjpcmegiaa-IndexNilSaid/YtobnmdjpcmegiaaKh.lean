/-
  What an index's own calls answer (package index): New, Len, Copy, Add, Find, Forget. Conditions: the index as it lies, short bytes.
-/
import Derived.Test.YtobnmdjpcmegiaaKg
import Derived.Deep.RegionHeld3
import Derived.Deep.RegionLaw
namespace Go.Proofs.Ytobnmdjpcmegiaa
open Go.RowKit
set_option linter.unusedVariables false

def GivesX (tb te : TypeId) (cf : Value → Int → Array Value) (w0 : World) (B : Nat) (L' : List Pr) (ret : Value) (S : Nat → Prop) (w : World) (e : Ending) (w' : World) : Prop := e = .returned ret ∧ ∃ S', Ix tb te cf w0 B L' S' w' ∧ Away S w S' w'
abbrev GivesP := GivesX 55 59 cfP
abbrev GivesR := GivesX 30 66 cfR
/-- New. -/
theorem new_any {w0 w : World} (hb : Below w0.heap.size w0 w) : Calls Try.prog 10 #[] w fun e w' => e = .returned (.pointer (some ⟨w.heap.size, 0, none⟩)) ∧ (∃ S, IxP w0 w.heap.size [] S w' ∧ ∀ k, S k → w.heap.size ≤ k) ∧ Below w.heap.size w w' := by
  have HB := Lib.hid hb
  clear hb
  go_enter Try.func10, Try.ntmps10
  go_wp2
  go_ret
  have h2 : Below w.heap.size w (w.alloc (.cells #[.slice none 0 0, .int .u64 0] 55)) := (Below.refl _ _).alloc (Nat.le_refl _) _
  refine ⟨rfl, ⟨fun k => k = w.heap.size ∨ (Value.slice none 0 0).ownBlock = some k, ⟨⟨.slice none 0 0, 0, Blk.new w _ _, OwnG.none _ _ _ _ _, fun _ => Iff.rfl⟩, XOk.nil, fun k hk => ?_, HB.out.trans (h2.mono HB.out.size)⟩, fun k hk => ?_⟩, h2⟩
  · rcases hk with rfl | hk
    · exact HB.out.size
    · cases hk
  · rcases hk with rfl | hk
    · exact Nat.le_refl _
    · cases hk
/-- Len. -/
theorem len_any {w0 w : World} {B : Nat} {L : List Pr} {S : Nat → Prop} (h : IxP w0 B L S w) : Calls Try.prog 14 #[.pointer (some ⟨B, 0, none⟩)] w fun e w' => e = .returned (.int .i64 L.length) ∧ w' = w := by
  obtain ⟨v, fd, hb, ho, hs⟩ := h.at'
  have c0 : w.cell? ⟨B, 0, none⟩ = some v := hb.cell 0
  obtain ⟨a, c, rfl, _, hnil, _⟩ := ho.shape pr_rowed
  obtain ⟨n, hN⟩ := named L.length
  rw [hN.out] at c0 ⊢
  clear h hb ho hs
  go_enter Try.func14, Try.ntmps14
  go_wp2
  go_ret
  exact ⟨rfl, rfl⟩
/-- Copy. -/
def CopyQ (w0 : World) (L : List Pr) (w : World) (e : Ending) (w' : World) : Prop := ∃ B' S', e = .returned (.pointer (some ⟨B', 0, none⟩)) ∧ IxP w0 B' L S' w' ∧ (∀ k, S' k → w.heap.size ≤ k) ∧ Below w.heap.size w w'
theorem copy_any {w0 w : World} {B : Nat} {L : List Pr} {S : Nat → Prop} (h : IxP w0 B L S w) : Calls Try.prog 16 #[.pointer (some ⟨B, 0, none⟩)] w (CopyQ w0 L w) := by
  obtain ⟨v, fd, hb, ho, hs⟩ := h.at'
  have c0 : w.cell? ⟨B, 0, none⟩ = some v := hb.cell 0
  obtain ⟨a, c, rfl, hrd, hnil, _⟩ := ho.shape pr_rowed
  have hmany := h.ok.many
  have HH := Lib.hid h
  obtain ⟨n, hN⟩ := named L.length
  rw [hN.out] at c0 hrd hmany
  have HRD := Lib.hid hrd
  have HC := Lib.hid (pclone_any w a n c L hrd hnil (by omega))
  clear h hb ho hs hrd
  go_enter Try.func16, Try.ntmps16
  go_wp2_with (go_at_call 27; refine HC.out.mono ?_; rintro e w1 ⟨a', c', rfl, g1, g2⟩; have G1 := Lib.hid g1; have G2 := Lib.hid g2; clear g1 g2)
  go_ret
  have h2 : Below w.heap.size w (w1.alloc (.cells #[.slice a' n c', .int .u64 0] 55)) := G2.out.alloc G2.out.size _
  refine ⟨w1.heap.size, fun k => k = w1.heap.size ∨ (Value.slice a' n c').ownBlock = some k, rfl, ⟨⟨.slice a' n c', 0, Blk.new w1 _ _, ?_, fun _ => Iff.rfl⟩, HH.out.ok, fun k hk => ?_, HH.out.below.trans (h2.mono HH.out.below.size)⟩, fun k hk => ?_, h2⟩
  · rw [hN.out]
    exact (G1.out.rebase (Nat.zero_le _)).alloc _
  · rcases hk with rfl | hk
    · exact Nat.le_trans HH.out.below.size G2.out.size
    · exact Nat.le_trans HH.out.below.size (G1.out.1.lt k hk).1
  · rcases hk with rfl | hk
    · exact G2.out.size
    · exact (G1.out.1.lt k hk).1
/-- A box of an entry stays. -/
structure HoldE (w : World) (N : Nat) (k s m z g : Int) (w' : World) : Prop where
  box : Blk w' N 35 #[.int .i64 k, .int .i64 s, .int .i64 m, .int .i64 z, .int .u32 g]
  below : Below w.heap.size w w'
  old : w.heap.size ≤ N
def AllE (w : World) (N : Nat) (k s m z g : Int) (w' : World) : Prop := w'.cell? ⟨N, 0, none⟩ = some (.int .i64 k) ∧ w'.cell? ⟨N, 1, none⟩ = some (.int .i64 s) ∧ w'.cell? ⟨N, 2, none⟩ = some (.int .i64 m) ∧ w'.cell? ⟨N, 3, none⟩ = some (.int .i64 z) ∧ w'.cell? ⟨N, 4, none⟩ = some (.int .u32 g) ∧ HoldE w N k s m z g w'
section
variable {w w' w2 : World} {N : Nat} {k s m z g : Int}
theorem HoldE.all (h : HoldE w N k s m z g w') : AllE w N k s m z g w' := by
  obtain ⟨a, b, c, d, e⟩ := cells5 h.box
  exact ⟨a, b, c, d, e, h⟩
theorem AllE.hold (h : AllE w N k s m z g w') : HoldE w N k s m z g w' := h.2.2.2.2.2
theorem HoldE.drew (h : HoldE w N k s m z g w') : HoldE w N k s m z g w'.drew := ⟨h.box, h.below.drew, h.old⟩
theorem HoldE.later (h : HoldE w N k s m z g w') (hb : Below w'.heap.size w' w2) : HoldE w N k s m z g w2 := ⟨h.box.later hb, h.below.trans (hb.mono h.below.size), h.old⟩
theorem HoldE.alloc (h : HoldE w N k s m z g w') (o : Obj) : HoldE w N k s m z g (w'.alloc o) := h.later ((Below.refl _ _).alloc (Nat.le_refl _) o)
end
theorem hold_new (w : World) (k s m z g : Int) : HoldE w w.heap.size k s m z g (w.alloc (.cells #[.int .i64 k, .int .i64 s, .int .i64 m, .int .i64 z, .int .u32 g] 35)) := ⟨Blk.new w _ _, (Below.refl _ _).alloc (Nat.le_refl _) _, Nat.le_refl _⟩
/-- What Add holds. -/
structure Mid (w0 w : World) (B N : Nat) (v : Value) (fd : Int) (L : List Pr) (S : Nat → Prop) (F k s m z g : Int) (W : World) : Prop where
  blk : Blk W B 55 #[v, .int .u64 fd]
  own : OwnG pvV 59 6 W 0 v L.length L
  prb : Blk W (N + 1) 59 #[.int .u64 F, .int .i64 k, .int .i64 s, .int .i64 m, .int .i64 z, .int .u32 g]
  away : Away S w S W
  old : N = w.heap.size
  far : ∀ k, S k → k < w.heap.size
  sB : S B
  sv : ∀ k, v.ownBlock = some k → S k
section
variable {w0 w W W' : World} {B N : Nat} {v : Value} {fd : Int} {L : List Pr} {S : Nat → Prop} {F k s m z g : Int}
theorem Mid.later (h : Mid w0 w B N v fd L S F k s m z g W) (hb : Below W.heap.size W W') : Mid w0 w B N v fd L S F k s m z g W' :=
  ⟨h.blk.later hb, h.own.later hb, h.prb.later hb, h.away.later hb, h.old, h.far, h.sB, h.sv⟩
theorem Mid.drew (h : Mid w0 w B N v fd L S F k s m z g W) : Mid w0 w B N v fd L S F k s m z g W.drew := h.later (Below.refl _ _).drew
theorem Mid.cells (h : Mid w0 w B N v fd L S F k s m z g W) : W.cell? ⟨B, 0, none⟩ = some v ∧ W.cell? ⟨N + 1, 0, none⟩ = some (.int .u64 F) ∧ W.cell? ⟨N + 1, 1, none⟩ = some (.int .i64 k) ∧ W.cell? ⟨N + 1, 2, none⟩ = some (.int .i64 s) ∧ W.cell? ⟨N + 1, 3, none⟩ = some (.int .i64 m) ∧ W.cell? ⟨N + 1, 4, none⟩ = some (.int .i64 z) ∧ W.cell? ⟨N + 1, 5, none⟩ = some (.int .u32 g) ∧ Mid w0 w B N v fd L S F k s m z g W := by
  obtain ⟨a, b, c, d, e, f⟩ := cells6 h.prb
  exact ⟨h.blk.cell 0, a, b, c, d, e, f, h⟩
theorem Mid.of (h : W.cell? ⟨B, 0, none⟩ = some v ∧ W.cell? ⟨N + 1, 0, none⟩ = some (.int .u64 F) ∧ W.cell? ⟨N + 1, 1, none⟩ = some (.int .i64 k) ∧ W.cell? ⟨N + 1, 2, none⟩ = some (.int .i64 s) ∧ W.cell? ⟨N + 1, 3, none⟩ = some (.int .i64 m) ∧ W.cell? ⟨N + 1, 4, none⟩ = some (.int .i64 z) ∧ W.cell? ⟨N + 1, 5, none⟩ = some (.int .u32 g) ∧ Mid w0 w B N v fd L S F k s m z g W) : Mid w0 w B N v fd L S F k s m z g W := h.2.2.2.2.2.2.2
end
theorem Mid.ix {w0 w W : World} {B N : Nat} {v : Value} {fd : Int} {L : List Pr} {S : Nat → Prop} {F k s m z g : Int} (h : Mid w0 w B N v fd L S F k s m z g W) (H : IxP w0 B L S w) (hs : ∀ k, S k ↔ (k = B ∨ v.ownBlock = some k)) : IxP w0 B L S W :=
  ⟨⟨v, fd, h.blk, h.own, hs⟩, H.ok, H.low, h.away.below H.low H.below⟩
/-- Behind the append: the slice that was made is stored. -/
theorem Mid.done {w0 w W W' : World} {B N n c : Nat} {a : Option Addr} {fd : Int} {L L0 L' : List Pr} {v0 v' : Value} {S : Nat → Prop} {F k s m z g : Int} (h : Mid w0 w B N (.slice a n c) fd L S F k s m z g W) (H : IxP w0 B L0 S w) (hs : ∀ k, S k ↔ (k = B ∨ v0.ownBlock = some k))
    (hg : W.grownBy W' (Value.slice a n c).ownBlock) (ho : OwnG pvV 59 6 W' 0 v' L'.length L') (hok : XOk L') (hv : v'.ownBlock = (Value.slice a n c).ownBlock ∨ (∀ k, v'.ownBlock = some k → w.heap.size ≤ k)) :
    ∃ S', IxP w0 B L' S' (W'.setCell ⟨B, 0, none⟩ v') ∧ Away S w S' (W'.setCell ⟨B, 0, none⟩ v') := by
  have hBr : some B ≠ (Value.slice a n c).ownBlock := h.blk.not_row (by decide) h.own
  have hB' : Blk W' B 55 #[.slice a n c, .int .u64 fd] := h.blk.kept hg hBr
  have hBv : v'.ownBlock ≠ some B := fun e => Blk.not_row hB' (by decide) ho e.symm
  refine H.next (v := v0) (v' := v') (fd' := fd) ((h.away.grown hg fun k e => Or.inl (h.sv k e)).set h.sB 0 v') hs (hB'.set 0 v') (ho.frame fun k hk => Below.heap_setCell W' ⟨B, 0, none⟩ _ k (fun e => hBv (by rw [hk]; exact congrArg some e))) hok fun k hk => ?_
  rcases hv with e | e
  · exact Or.inl (h.sv k (e ▸ hk))
  · exact Or.inr (e k hk)
theorem mid_new {w0 w : World} {B : Nat} {v : Value} {fd : Int} {L : List Pr} {S : Nat → Prop} (F k s m z g : Int) (h : IxP w0 B L S w) (hb : Blk w B 55 #[v, .int .u64 fd]) (ho : OwnG pvV 59 6 w 0 v L.length L) (hs : ∀ k, S k ↔ (k = B ∨ v.ownBlock = some k)) :
    Mid w0 w B w.heap.size v fd L S F k s m z g (((w.alloc (.cells #[.int .i64 k, .int .i64 s, .int .i64 m, .int .i64 z, .int .u32 g] 35)).alloc (.cells #[.int .u64 F, .int .i64 k, .int .i64 s, .int .i64 m, .int .i64 z, .int .u32 g] 59)).drew) := by
  have hB : Below w.heap.size w (((w.alloc (.cells #[.int .i64 k, .int .i64 s, .int .i64 m, .int .i64 z, .int .u32 g] 35)).alloc (.cells #[.int .u64 F, .int .i64 k, .int .i64 s, .int .i64 m, .int .i64 z, .int .u32 g] 59)).drew) := (((Below.refl _ _).alloc (Nat.le_refl _) _).alloc (by simp) _).drew
  refine ⟨hb.later hB, ho.later hB, ?_, (Away.refl S w).later hB, rfl, h.lt, (hs B).2 (Or.inl rfl), fun k hk => (hs k).2 (Or.inr hk)⟩
  have := Blk.new (w.alloc (.cells #[.int .i64 k, .int .i64 s, .int .i64 m, .int .i64 z, .int .u32 g] 35)) 59 #[.int .u64 F, .int .i64 k, .int .i64 s, .int .i64 m, .int .i64 z, .int .u32 g]
  rw [World.size_alloc] at this
  exact this
set_option maxHeartbeats 1600000 in
set_option maxRecDepth 100000 in
/-- Add. -/
theorem add_any {w0 w : World} {B : Nat} {L : List Pr} {S : Nat → Prop} (h : IxP w0 B L S w) (ab : Option Addr) (len cap : Nat) (l : List Int) (hl : Bytes w ab len l) (k s m z g : Int) :
    Calls Try.prog 12 #[.pointer (some ⟨B, 0, none⟩), .slice ab len cap, .agg #[.int .i64 k, .int .i64 s, .int .i64 m, .int .i64 z, .int .u32 g]] w (GivesP w0 B (addP L ((fingerOf l : Nat), k, s, m, z, g)) (.tuple #[]) S w) := by
  obtain ⟨v, fd, hb, ho, hs⟩ := h.at'
  obtain ⟨a, c, rfl, hrd, hnil, _⟩ := ho.shape pr_rowed
  have hmany := h.ok.many
  have HH := Lib.hid h
  have HF := Lib.hid (fun w' (hb : Below w.heap.size w w') => finger_any ab len cap l w' (hl.later hb))
  obtain ⟨F, hF⟩ := named ((fingerOf l : Nat) : Int)
  rw [hF.out] at HF ⊢
  have HM0 := Lib.hid (mid_new F k s m z g h hb ho hs)
  obtain ⟨n, hN⟩ := named L.length
  have HN := Lib.hid hN.out
  rw [hN.out] at hmany HM0
  have HE0 := Lib.hid (hold_new w k s m z g)
  have hE1 := HE0.out.all
  unfold AllE at hE1
  clear h hrd hb ho
  cases hin : decide (((F, k, s, m, z, g) : Pr) ∈ L) with
  | true =>
    have HIN := Lib.hid hin
    go_enter Try.func12, Try.ntmps12
    go_wp2_with fail
    go_region_held3 (fun w' => w'.cell? ⟨w.heap.size, 0, none⟩ = some (.int .i64 k) ∧ w'.cell? ⟨w.heap.size, 1, none⟩ = some (.int .i64 s) ∧ w'.cell? ⟨w.heap.size, 2, none⟩ = some (.int .i64 m) ∧ w'.cell? ⟨w.heap.size, 3, none⟩ = some (.int .i64 z) ∧ w'.cell? ⟨w.heap.size, 4, none⟩ = some (.int .u32 g) ∧ HoldE w w.heap.size k s m z g w') (first | assumption | exact HoldE.all (AllE.hold (by assumption)) | exact HoldE.all HE0.out | exact HoldE.all HE0.out.drew | exact HoldE.all (HoldE.alloc HE0.out _) | exact HoldE.all (HoldE.drew (HoldE.alloc HE0.out _)) | exact HoldE.all (HoldE.alloc (AllE.hold (by assumption)) _)) (first | (go_at_call 21; refine (HF.out _ (AllE.hold (by assumption)).below).mono ?_; rintro e w1 ⟨rfl, rfl⟩))
    all_goals
      obtain ⟨W2, hW2⟩ := named (((w.alloc (.cells #[.int .i64 k, .int .i64 s, .int .i64 m, .int .i64 z, .int .u32 g] 35)).alloc (.cells #[.int .u64 F, .int .i64 k, .int .i64 s, .int .i64 m, .int .i64 z, .int .u32 g] 59)).drew)
      rw [hW2.out] at HM0 ⊢
      clear hE1 hW2
      go_wp2_with fail
      go_region_held3 (fun w' => w'.cell? ⟨B, 0, none⟩ = some (.slice a n c) ∧ w'.cell? ⟨w.heap.size + 1, 0, none⟩ = some (.int .u64 F) ∧ w'.cell? ⟨w.heap.size + 1, 1, none⟩ = some (.int .i64 k) ∧ w'.cell? ⟨w.heap.size + 1, 2, none⟩ = some (.int .i64 s) ∧ w'.cell? ⟨w.heap.size + 1, 3, none⟩ = some (.int .i64 m) ∧ w'.cell? ⟨w.heap.size + 1, 4, none⟩ = some (.int .i64 z) ∧ w'.cell? ⟨w.heap.size + 1, 5, none⟩ = some (.int .u32 g) ∧ Mid w0 w B w.heap.size (.slice a n c) fd L S F k s m z g w') (first | assumption | exact Mid.cells HM1.out | exact Mid.cells HM0.out | exact Mid.cells HM0.out.drew | exact Mid.cells (Mid.of (by assumption))) (first | (go_at_call 22; refine (contains_any (HN.out ▸ (Mid.of (by assumption)).own) (by omega) F k s m z g).mono ?_; rintro e w1 ⟨rfl, hb1⟩; have HM1 := Lib.hid ((Mid.of (by assumption)).later hb1); clear hb1))
      go_wp2_with fail
      refine bodyPost_ret (results_none rfl _ _ _) rfl ?_
      refine ⟨rfl, S, ?_, HM1.out.away⟩
      have : addP L (F, k, s, m, z, g) = L := if_pos (of_decide_eq_true HIN.out)
      rw [this]
      exact (HN.out ▸ HM1.out).ix HH.out hs
  | false =>
    have HIN := Lib.hid hin
    have hni : ((F, k, s, m, z, g) : Pr) ∉ L := of_decide_eq_false HIN.out
    by_cases h64 : 64 ≤ n
    · obtain ⟨p0, L', hLL⟩ : ∃ p0 L', L = p0 :: L' := by
        cases L with
        | nil => have := HN.out; simp at this; omega
        | cons p0 L' => exact ⟨p0, L', rfl⟩
      have HFG : Hid (L.filter (fun x => !decide (x = p0)) = L') := by
        have := HH.out.ok.nd
        rw [hLL] at this ⊢
        exact first_gone this
      have HADD : Hid (addP L (F, k, s, m, z, g) = L' ++ [(F, k, s, m, z, g)]) := by
        unfold addP
        rw [Hid, if_neg hni, if_pos (by rw [HN.out]; exact h64), hLL]
        rfl
      have HL0 : Hid (L[0]? = some p0) := by rw [Hid, hLL]; rfl
      have HLN : Hid (L'.length + 1 = n) := by rw [← HN.out, hLL]; rfl
      obtain ⟨b, rfl⟩ : ∃ b, a = some ⟨b, 0, none⟩ := HM0.out.own.at0 (by have := HN.out; omega)
      obtain ⟨f', k', s', m', z', g'⟩ := p0
      clear hLL
      go_enter Try.func12, Try.ntmps12
      go_wp2_with fail
      go_region_held3 (fun w' => w'.cell? ⟨w.heap.size, 0, none⟩ = some (.int .i64 k) ∧ w'.cell? ⟨w.heap.size, 1, none⟩ = some (.int .i64 s) ∧ w'.cell? ⟨w.heap.size, 2, none⟩ = some (.int .i64 m) ∧ w'.cell? ⟨w.heap.size, 3, none⟩ = some (.int .i64 z) ∧ w'.cell? ⟨w.heap.size, 4, none⟩ = some (.int .u32 g) ∧ HoldE w w.heap.size k s m z g w') (first | assumption | exact HoldE.all (AllE.hold (by assumption)) | exact HoldE.all HE0.out | exact HoldE.all HE0.out.drew | exact HoldE.all (HoldE.alloc HE0.out _) | exact HoldE.all (HoldE.drew (HoldE.alloc HE0.out _)) | exact HoldE.all (HoldE.alloc (AllE.hold (by assumption)) _)) (first | (go_at_call 21; refine (HF.out _ (AllE.hold (by assumption)).below).mono ?_; rintro e w1 ⟨rfl, rfl⟩))
      all_goals
        obtain ⟨W2, hW2⟩ := named (((w.alloc (.cells #[.int .i64 k, .int .i64 s, .int .i64 m, .int .i64 z, .int .u32 g] 35)).alloc (.cells #[.int .u64 F, .int .i64 k, .int .i64 s, .int .i64 m, .int .i64 z, .int .u32 g] 59)).drew)
        rw [hW2.out] at HM0 ⊢
        clear hE1 hW2 hni
        go_wp2_with fail
        go_region_held3 (fun w' => w'.cell? ⟨B, 0, none⟩ = some (.slice (some ⟨b, 0, none⟩) n c) ∧ w'.cell? ⟨w.heap.size + 1, 0, none⟩ = some (.int .u64 F) ∧ w'.cell? ⟨w.heap.size + 1, 1, none⟩ = some (.int .i64 k) ∧ w'.cell? ⟨w.heap.size + 1, 2, none⟩ = some (.int .i64 s) ∧ w'.cell? ⟨w.heap.size + 1, 3, none⟩ = some (.int .i64 m) ∧ w'.cell? ⟨w.heap.size + 1, 4, none⟩ = some (.int .i64 z) ∧ w'.cell? ⟨w.heap.size + 1, 5, none⟩ = some (.int .u32 g) ∧ Mid w0 w B w.heap.size (.slice (some ⟨b, 0, none⟩) n c) fd L S F k s m z g w') (first | assumption | exact Mid.cells HM1.out | exact Mid.cells HM0.out | exact Mid.cells HM0.out.drew | exact Mid.cells (Mid.of (by assumption))) (first | (go_at_call 22; refine (contains_any (HN.out ▸ (Mid.of (by assumption)).own) (by omega) F k s m z g).mono ?_; rintro e w1 ⟨rfl, hb1⟩; have HM1 := Lib.hid ((Mid.of (by assumption)).later hb1); clear hb1))
        have HON : Hid (OwnG pvV 59 6 w1 0 (.slice (some ⟨b, 0, none⟩) n c) n L) := Lib.hid (HN.out ▸ HM1.out.own)
        obtain ⟨e0, e1, e2, e3, e4, e5⟩ := pr_cells HON.out 0 _ HL0.out
        dsimp only at e0 e1 e2 e3 e4 e5
        simp only [Nat.zero_mul, Nat.zero_add] at e0 e1 e2 e3 e4 e5
        have c1 := HM1.out.cells.1
        have HRM : Hid (Calls Try.prog 23 #[.pointer (some ⟨B, 0, none⟩), .func (.func 24) #[] #[.pointer (some ⟨w1.heap.size, 0, none⟩)]] (w1.alloc (.cells #[.int .u64 f', .int .i64 k', .int .i64 s', .int .i64 m', .int .i64 z', .int .u32 g'] 59)) (RemQ B (.slice (some ⟨b, 0, none⟩) n c) fd L' S (w1.alloc (.cells #[.int .u64 f', .int .i64 k', .int .i64 s', .int .i64 m', .int .i64 z', .int .u32 g'] 59)))) := by
          have := removeA_any (q := fun x => decide (x = (f', k', s', m', z', g'))) (S := S) (HM1.out.blk.alloc (.cells #[.int .u64 f', .int .i64 k', .int .i64 s', .int .i64 m', .int .i64 z', .int .u32 g'] 59)) (HM1.out.own.alloc _) (by have := HN.out; omega) hs (Blk.new w1 59 #[.int .u64 f', .int .i64 k', .int .i64 s', .int .i64 m', .int .i64 z', .int .u32 g']) (Or.inr fun e => by have := (HM1.out.own.1.lt _ e).2; omega) (fun w r hB => isFirst_any w r (f', k', s', m', z', g') w1.heap.size hB)
          rw [HFG.out] at this
          exact this
        unfold RemQ at HRM
        go_wp2_with (first
          | (go_at_call 23; refine HRM.out.mono ?_; rintro e w5 ⟨rfl, v5, q1, q2, q3, q4⟩; have HM2 : Hid (Mid w0 w B w.heap.size v5 fd L' S F k s m z g w5) := Lib.hid ⟨q1, q2, (HM1.out.prb.alloc _).away (fun hS => by have := HM1.out.far _ hS; omega) q4, (HM1.out.away.later ((Below.refl _ _).alloc (Nat.le_refl _) _)).trans q4, rfl, HM1.out.far, HM1.out.sB, fun k hk => HM1.out.sv k (q3 k hk)⟩; obtain ⟨a5, c5, rfl, _, _, _⟩ := q2.shape pr_rowed; clear q1 q2 q3 q4 e0 e1 e2 e3 e4 e5 c1))
        obtain ⟨n2, hN2⟩ := named L'.length
        have HN2 := Lib.hid hN2.out
        have hn2 : n2 ≤ 64 := by have h1 := HLN.out; have h2 := HN2.out; omega
        rw [hN2.out] at HM2
        have HMX := Lib.hid (HM2.out.cells)
        obtain ⟨d0, d1, d2, d3, d4, d5, d6, _⟩ := HMX.out
        have dA : ∀ o, (w5.alloc o).cell? ⟨B, 0, none⟩ = some (.slice a5 n2 c5) := fun o => (HM2.out.blk.alloc o).cell 0
        clear HMX
        have HON : Hid (OwnG pvV 59 6 w5 0 (.slice a5 n2 c5) n2 L') := Lib.hid (HN2.out ▸ HM2.out.own)
        go_wp2_with fail
        go_region_law (refine step_append_g pr_rowed (by rfl) _ _ (by rfl) 0 (.slice a5 n2 c5) n2 L' (by rfl) (HON.out.drew.alloc _) _ 1 1 [(F, k, s, m, z, g)] (by rfl) (fun e => by cases e) (one_reads _ _ _ _ rfl) (by omega) (Nat.zero_le _) ?_; intro a4 c4 w4 g1 g2 g3; have hB4 : Blk w4 B 55 #[.slice a5 n2 c5, .int .u64 fd] := (HM2.out.drew.blk.alloc _).kept g2 (HM2.out.blk.not_row (by decide) HM2.out.own); have f0 := hB4.free 0; have q0 := hB4.cell 0; have HG1 := Lib.hid g1; have HG2 := Lib.hid g2; have HG3 := Lib.hid g3; clear g1 g2 g3 hB4)
        all_goals
          go_wp2_with fail
          go_end0
          have hg2 : World.grownBy w5 w4 (Value.slice a5 n2 c5).ownBlock := undrew (grown_alloc HG2.out)
          obtain ⟨S', r1, r2⟩ := HM2.out.done (L' := L' ++ [(F, k, s, m, z, g)]) HH.out hs hg2 (by rw [show (L' ++ [((F, k, s, m, z, g) : Pr)]).length = n2 + 1 by rw [List.length_append, HN2.out]; rfl]; exact HG1.out) (by have := HH.out.ok.add (F, k, s, m, z, g); rw [HADD.out] at this; exact this) (HG3.out.imp id fun e k' hk => by rw [hk] at e; cases e; have e2 := HM2.out.away.size; simp; omega)
          exact ⟨rfl, S', by rw [HADD.out]; exact r1, r2⟩
    · have HADD : Hid (addP L (F, k, s, m, z, g) = L ++ [(F, k, s, m, z, g)]) := by
        unfold addP
        rw [Hid, if_neg hni, if_neg (by rw [HN.out]; exact h64)]
      go_enter Try.func12, Try.ntmps12
      go_wp2_with fail
      go_region_held3 (fun w' => w'.cell? ⟨w.heap.size, 0, none⟩ = some (.int .i64 k) ∧ w'.cell? ⟨w.heap.size, 1, none⟩ = some (.int .i64 s) ∧ w'.cell? ⟨w.heap.size, 2, none⟩ = some (.int .i64 m) ∧ w'.cell? ⟨w.heap.size, 3, none⟩ = some (.int .i64 z) ∧ w'.cell? ⟨w.heap.size, 4, none⟩ = some (.int .u32 g) ∧ HoldE w w.heap.size k s m z g w') (first | assumption | exact HoldE.all (AllE.hold (by assumption)) | exact HoldE.all HE0.out | exact HoldE.all HE0.out.drew | exact HoldE.all (HoldE.alloc HE0.out _) | exact HoldE.all (HoldE.drew (HoldE.alloc HE0.out _)) | exact HoldE.all (HoldE.alloc (AllE.hold (by assumption)) _)) (first | (go_at_call 21; refine (HF.out _ (AllE.hold (by assumption)).below).mono ?_; rintro e w1 ⟨rfl, rfl⟩))
      all_goals
        obtain ⟨W2, hW2⟩ := named (((w.alloc (.cells #[.int .i64 k, .int .i64 s, .int .i64 m, .int .i64 z, .int .u32 g] 35)).alloc (.cells #[.int .u64 F, .int .i64 k, .int .i64 s, .int .i64 m, .int .i64 z, .int .u32 g] 59)).drew)
        rw [hW2.out] at HM0 ⊢
        clear hE1 hW2 hni
        go_wp2_with fail
        go_region_held3 (fun w' => w'.cell? ⟨B, 0, none⟩ = some (.slice a n c) ∧ w'.cell? ⟨w.heap.size + 1, 0, none⟩ = some (.int .u64 F) ∧ w'.cell? ⟨w.heap.size + 1, 1, none⟩ = some (.int .i64 k) ∧ w'.cell? ⟨w.heap.size + 1, 2, none⟩ = some (.int .i64 s) ∧ w'.cell? ⟨w.heap.size + 1, 3, none⟩ = some (.int .i64 m) ∧ w'.cell? ⟨w.heap.size + 1, 4, none⟩ = some (.int .i64 z) ∧ w'.cell? ⟨w.heap.size + 1, 5, none⟩ = some (.int .u32 g) ∧ Mid w0 w B w.heap.size (.slice a n c) fd L S F k s m z g w') (first | assumption | exact Mid.cells HM1.out | exact Mid.cells HM0.out | exact Mid.cells HM0.out.drew | exact Mid.cells (Mid.of (by assumption))) (first | (go_at_call 22; refine (contains_any (HN.out ▸ (Mid.of (by assumption)).own) (by omega) F k s m z g).mono ?_; rintro e w1 ⟨rfl, hb1⟩; have HM1 := Lib.hid ((Mid.of (by assumption)).later hb1); clear hb1))
        have HMX := Lib.hid (HM1.out.cells)
        obtain ⟨d0, d1, d2, d3, d4, d5, d6, _⟩ := HMX.out
        have dA : ∀ o, (w1.alloc o).cell? ⟨B, 0, none⟩ = some (.slice a n c) := fun o => (HM1.out.blk.alloc o).cell 0
        clear HMX
        have HON : Hid (OwnG pvV 59 6 w1 0 (.slice a n c) n L) := Lib.hid (HN.out ▸ HM1.out.own)
        go_wp2_with fail
        go_region_law (refine step_append_g pr_rowed (by rfl) _ _ (by rfl) 0 (.slice a n c) n L (by rfl) (HON.out.drew.alloc _) _ 1 1 [(F, k, s, m, z, g)] (by rfl) (fun e => by cases e) (one_reads _ _ _ _ rfl) (by omega) (Nat.zero_le _) ?_; intro a4 c4 w4 g1 g2 g3; have hB4 : Blk w4 B 55 #[.slice a n c, .int .u64 fd] := (HM1.out.drew.blk.alloc _).kept g2 (HM1.out.blk.not_row (by decide) HM1.out.own); have f0 := hB4.free 0; have q0 := hB4.cell 0; have HG1 := Lib.hid g1; have HG2 := Lib.hid g2; have HG3 := Lib.hid g3; clear g1 g2 g3 hB4)
        all_goals
          go_wp2_with fail
          go_end0
          have hg2 : World.grownBy w1 w4 (Value.slice a n c).ownBlock := undrew (grown_alloc HG2.out)
          obtain ⟨S', r1, r2⟩ := HM1.out.done (L' := L ++ [(F, k, s, m, z, g)]) HH.out hs hg2 (by rw [show (L ++ [((F, k, s, m, z, g) : Pr)]).length = n + 1 by rw [List.length_append, HN.out]; rfl]; exact HG1.out) (by have := HH.out.ok.add (F, k, s, m, z, g); rw [HADD.out] at this; exact this) (HG3.out.imp id fun e k' hk => by rw [hk] at e; cases e; have e2 := HM1.out.away.size; simp; omega)
          exact ⟨rfl, S', by rw [HADD.out]; exact r1, r2⟩
end Go.Proofs.Ytobnmdjpcmegiaa
