/-
  Both sides (layer 11): an index and the reference's beside one another; 'same', 'act'. Conditions: both as they lie, short bytes.
-/
import Derived.Test.YtobnmdjpcmegiaaKi
import Derived.Test.YtobnmdjpcmegiaaKj
import Derived.Test.YtobnmdjpcmegiaaKk
namespace Go.Proofs.Ytobnmdjpcmegiaa
open Go.RowKit
set_option linter.unusedVariables false

theorem rd_cells {w : World} {a : Option Addr} {n : Nat} {L : List En} (h : Reads enV w a n L) (j : Nat) (r : En) (hj : L[j]? = some r) : ∃ b off, a = some ⟨b, off, none⟩ ∧
    w.cell? ⟨b, off + j * 5, none⟩ = some (.int .i64 r.1) ∧ w.cell? ⟨b, off + j * 5 + 1, none⟩ = some (.int .i64 r.2.1) ∧ w.cell? ⟨b, off + j * 5 + 2, none⟩ = some (.int .i64 r.2.2.1) ∧ w.cell? ⟨b, off + j * 5 + 3, none⟩ = some (.int .i64 r.2.2.2.1) ∧ w.cell? ⟨b, off + j * 5 + 4, none⟩ = some (.int .u32 r.2.2.2.2) := by
  have hlt : j < n := by rw [← h.1]; exact (List.getElem?_eq_some_iff.1 hj).1
  obtain ⟨b, off, rfl⟩ := h.lies (by omega)
  refine ⟨b, off, rfl, ?_, ?_, ?_, ?_, ?_⟩
  · exact h.cellAt en_rowed j 0 _ _ hj rfl
  · have := h.cellAt en_rowed j 1 _ _ hj rfl
    rwa [← Nat.add_assoc] at this
  · have := h.cellAt en_rowed j 2 _ _ hj rfl
    rwa [← Nat.add_assoc] at this
  · have := h.cellAt en_rowed j 3 _ _ hj rfl
    rwa [← Nat.add_assoc] at this
  · have := h.cellAt en_rowed j 4 _ _ hj rfl
    rwa [← Nat.add_assoc] at this
set_option maxHeartbeats 1600000 in
/-- same, of two that are one. -/
theorem same_any {w : World} {a a' : Option Addr} {n c c' : Nat} {L : List En} (h : Reads enV w a n L) (h' : Reads enV w a' n L) (hn : n ≤ 1000) :
    Calls Try.prog 18 #[.slice a n c, .slice a' n c'] w fun e w' => e = .returned (.bool true) ∧ Below w.heap.size w w' := by
  have hL := h.1
  have hg := guard_en
  have H1 := Lib.hid h
  have H2 := Lib.hid h'
  clear h h'
  go_enter Try.func18, Try.ntmps18
  go_wp2
  go_loopw [5] (fun i wr => ∃ j : Nat, j ≤ n ∧ i = .int .i64 j ∧ Hid (Below w.heap.size w wr)) (fun i _ => n - (intOf i).toNat)
  case atStart => exact ⟨0, Nat.zero_le _, rfl, Below.refl _ _⟩
  case round =>
    obtain ⟨j, hj, rfl, HB⟩ := hrel
    by_cases hlt : j < n
    · obtain ⟨r, hr⟩ : ∃ r, L[j]? = some r := ⟨_, List.getElem?_eq_getElem (by omega)⟩
      obtain ⟨b, off, rfl, e0, e1, e2, e3, e4⟩ := rd_cells (H1.out.later HB.out) j r hr
      obtain ⟨b', off', rfl, d0, d1, d2, d3, d4⟩ := rd_cells (H2.out.later HB.out) j r hr
      obtain ⟨k', s', m', z', g'⟩ := r
      dsimp only at e0 e1 e2 e3 e4 d0 d1 d2 d3 d4
      have hq : ∀ w : World, (binOp .neq 35 (.agg #[.int .i64 k', .int .i64 s', .int .i64 m', .int .i64 z', .int .u32 g']) (.agg #[.int .i64 k', .int .i64 s', .int .i64 m', .int .i64 z', .int .u32 g'])).run Try.prog w = .ok (.bool false) w := fun w => by
        have := neq_en (k', s', m', z', g') (k', s', m', z', g') w
        rw [decide_eq_true rfl] at this
        exact this
      clear hr
      go_wp2
      go_quiet (fail)
      go_wp2
      go_roundw
      case rel => exact ⟨j + 1, by omega, by go_num, HB.out.trans ((below_dN _ _).mono HB.out.size)⟩
      case measure => simp [intOf]; omega
    · obtain rfl : j = n := by omega
      go_wp2
      go_ret
      exact ⟨rfl, HB.out⟩
/-- An index of the project's tells L1, the reference's L2; they lie apart. -/
structure Duo (w0 : World) (B1 B2 : Nat) (L1 L2 : List Pr) (S : Nat → Prop) (w : World) : Prop where
  two : ∃ S1 S2, IxP w0 B1 L1 S1 w ∧ IxR w0 B2 L2 S2 w ∧ (∀ k, S1 k → ¬ S2 k) ∧ ∀ k, S k ↔ (S1 k ∨ S2 k)
section
variable {w0 w w' : World} {B1 B2 : Nat} {L1 L2 : List Pr} {S : Nat → Prop}
theorem Duo.lt (h : Duo w0 B1 B2 L1 L2 S w) : ∀ k, S k → k < w.heap.size := fun k hk => by
  obtain ⟨S1, S2, h1, h2, h3, h4⟩ := h.two
  rcases (h4 k).1 hk with hk | hk
  · exact h1.lt k hk
  · exact h2.lt k hk
theorem Duo.low (h : Duo w0 B1 B2 L1 L2 S w) : ∀ k, S k → w0.heap.size ≤ k := fun k hk => by
  obtain ⟨S1, S2, h1, h2, h3, h4⟩ := h.two
  rcases (h4 k).1 hk with hk | hk
  · exact h1.low k hk
  · exact h2.low k hk
theorem Duo.below (h : Duo w0 B1 B2 L1 L2 S w) : Below w0.heap.size w0 w := by
  obtain ⟨S1, S2, h1, h2, h3, h4⟩ := h.two
  exact h1.below
theorem Duo.frame (h : Duo w0 B1 B2 L1 L2 S w) (hb : ∀ k, S k → w'.heap[k]? = w.heap[k]?) (hbel : Below w0.heap.size w0 w') : Duo w0 B1 B2 L1 L2 S w' := by
  obtain ⟨S1, S2, h1, h2, h3, h4⟩ := h.two
  exact ⟨S1, S2, h1.frame (fun k hk => hb k ((h4 k).2 (Or.inl hk))) hbel, h2.frame (fun k hk => hb k ((h4 k).2 (Or.inr hk))) hbel, h3, h4⟩
theorem Duo.later (h : Duo w0 B1 B2 L1 L2 S w) (hb : Below w.heap.size w w') : Duo w0 B1 B2 L1 L2 S w' :=
  h.frame (fun k hk => hb.block k (h.lt k hk)) (h.below.trans (hb.mono h.below.size))
theorem Duo.away {T T' : Nat → Prop} (h : Duo w0 B1 B2 L1 L2 S w) (ha : Away T w T' w') (hT : ∀ k, S k → ¬ T k) (hl : ∀ k, T k → w0.heap.size ≤ k) : Duo w0 B1 B2 L1 L2 S w' :=
  h.frame (fun k hk => ha.block k (h.lt k hk) (hT k hk)) (ha.below hl h.below)
/-- A step of the one; of the other. -/
theorem Duo.left (h : Duo w0 B1 B2 L1 L2 S w) : ∃ S1, IxP w0 B1 L1 S1 w ∧ (∀ k, S1 k → S k) ∧ ∀ (w' : World) L' S', IxP w0 B1 L' S' w' → Away S1 w S' w' → ∃ S'', Duo w0 B1 B2 L' L2 S'' w' ∧ Away S w S'' w' := by
  obtain ⟨S1, S2, h1, h2, h3, h4⟩ := h.two
  refine ⟨S1, h1, fun k hk => (h4 k).2 (Or.inl hk), fun w' L' S' g1 g2 => ⟨fun k => S' k ∨ S2 k, ⟨S', S2, g1, h2.away g2 (fun k hk hk' => h3 k hk' hk) h1.low, fun k hk hk' => ?_, fun _ => Iff.rfl⟩, g2.os, g2.tape, g2.output, g2.size, fun k hk hS => g2.block k hk fun h => hS ((h4 k).2 (Or.inl h)), fun k hk => ?_⟩⟩
  · rcases g2.mine k hk with h | h
    · exact h3 k h hk'
    · have := h2.lt k hk'
      omega
  · rcases hk with hk | hk
    · rcases g2.mine k hk with h | h
      · exact Or.inl ((h4 k).2 (Or.inl h))
      · exact Or.inr h
    · exact Or.inl ((h4 k).2 (Or.inr hk))
theorem Duo.right (h : Duo w0 B1 B2 L1 L2 S w) : ∃ S2, IxR w0 B2 L2 S2 w ∧ (∀ k, S2 k → S k) ∧ ∀ (w' : World) L' S', IxR w0 B2 L' S' w' → Away S2 w S' w' → ∃ S'', Duo w0 B1 B2 L1 L' S'' w' ∧ Away S w S'' w' := by
  obtain ⟨S1, S2, h1, h2, h3, h4⟩ := h.two
  refine ⟨S2, h2, fun k hk => (h4 k).2 (Or.inr hk), fun w' L' S' g1 g2 => ⟨fun k => S1 k ∨ S' k, ⟨S1, S', h1.away g2 (fun k hk hk' => h3 k hk hk') h2.low, g1, fun k hk hk' => ?_, fun _ => Iff.rfl⟩, g2.os, g2.tape, g2.output, g2.size, fun k hk hS => g2.block k hk fun h => hS ((h4 k).2 (Or.inr h)), fun k hk => ?_⟩⟩
  · rcases g2.mine k hk' with h | h
    · exact h3 k hk h
    · have := h1.lt k hk
      omega
  · rcases hk with hk | hk
    · exact Or.inl ((h4 k).2 (Or.inl hk))
    · rcases g2.mine k hk with h | h
      · exact Or.inl ((h4 k).2 (Or.inr h))
      · exact Or.inr h
end
/-- Both, since the world W1. -/
def At (w0 W1 : World) (B1 B2 : Nat) (L1 L2 : List Pr) (S : Nat → Prop) (W : World) : Prop := ∃ S', Duo w0 B1 B2 L1 L2 S' W ∧ Away S W1 S' W
section
variable {w0 W1 W W' : World} {B1 B2 : Nat} {L1 L2 : List Pr} {S : Nat → Prop}
theorem At.below (h : At w0 W1 B1 B2 L1 L2 S W) : Below w0.heap.size w0 W := by
  obtain ⟨S', h, _⟩ := h
  exact h.below
theorem At.later (h : At w0 W1 B1 B2 L1 L2 S W) (hb : Below W.heap.size W W') : At w0 W1 B1 B2 L1 L2 S W' := by
  obtain ⟨S', h1, h2⟩ := h
  exact ⟨S', h1.later hb, h2.later' h1.lt hb⟩
theorem At.blk (h : At w0 W1 B1 B2 L1 L2 S W) {N : Nat} {t : TypeId} {cs : Array Value} (hB : Blk W1 N t cs) (hS : ¬ S N) : Blk W N t cs := by
  obtain ⟨S', _, h2⟩ := h
  exact hB.away hS h2
theorem At.left (h : At w0 W1 B1 B2 L1 L2 S W) : ∃ S1, IxP w0 B1 L1 S1 W ∧ ∀ (w' : World) L' S', IxP w0 B1 L' S' w' → Away S1 W S' w' → At w0 W1 B1 B2 L' L2 S w' := by
  obtain ⟨S', h1, h2⟩ := h
  obtain ⟨S1, g1, _, g3⟩ := h1.left
  exact ⟨S1, g1, fun w' L' S2 k1 k2 => by
    obtain ⟨S3, q1, q2⟩ := g3 w' L' S2 k1 k2
    exact ⟨S3, q1, h2.trans q2⟩⟩
theorem At.right (h : At w0 W1 B1 B2 L1 L2 S W) : ∃ S2, IxR w0 B2 L2 S2 W ∧ ∀ (w' : World) L' S', IxR w0 B2 L' S' w' → Away S2 W S' w' → At w0 W1 B1 B2 L1 L' S w' := by
  obtain ⟨S', h1, h2⟩ := h
  obtain ⟨S1, g1, _, g3⟩ := h1.right
  exact ⟨S1, g1, fun w' L' S2 k1 k2 => by
    obtain ⟨S3, q1, q2⟩ := g3 w' L' S2 k1 k2
    exact ⟨S3, q1, h2.trans q2⟩⟩
end
/-- What an act does. -/
def stepA (L : List Pr) (d : Int) (l : List Int) (e : En) : List Pr :=
  if d = 0 ∨ d = 1 ∨ d = 2 then addP L ((fingerOf l : Nat), e) else if d = 5 then forgetP L e else L
/-- The calls from state to state. -/
theorem addL {w0 W1 W : World} {B1 B2 : Nat} {L1 L2 : List Pr} {S : Nat → Prop} (h : At w0 W1 B1 B2 L1 L2 S W) {ab : Option Addr} {len : Nat} (cap : Nat) {l : List Int} (hl : Bytes w0 ab len l) (k s m z g : Int) :
    Calls Try.prog 12 #[.pointer (some ⟨B1, 0, none⟩), .slice ab len cap, .agg #[.int .i64 k, .int .i64 s, .int .i64 m, .int .i64 z, .int .u32 g]] W fun e w' => e = .returned (.tuple #[]) ∧ At w0 W1 B1 B2 (addP L1 ((fingerOf l : Nat), k, s, m, z, g)) L2 S w' := by
  obtain ⟨S1, g1, g2⟩ := h.left
  exact (add_any g1 ab len cap l (hl.later h.below) k s m z g).mono fun e w' ⟨e1, S', q1, q2⟩ => ⟨e1, g2 w' _ S' q1 q2⟩
theorem addR {w0 W1 W : World} {B1 B2 : Nat} {L1 L2 : List Pr} {S : Nat → Prop} (h : At w0 W1 B1 B2 L1 L2 S W) {ab : Option Addr} {len : Nat} (cap : Nat) {l : List Int} (hl : Bytes w0 ab len l) (k s m z g : Int) :
    Calls Try.prog 17 #[.pointer (some ⟨B2, 0, none⟩), .slice ab len cap, .agg #[.int .i64 k, .int .i64 s, .int .i64 m, .int .i64 z, .int .u32 g]] W fun e w' => e = .returned (.tuple #[]) ∧ At w0 W1 B1 B2 L1 (addP L2 ((fingerOf l : Nat), k, s, m, z, g)) S w' := by
  obtain ⟨S1, g1, g2⟩ := h.right
  exact (refAdd_any g1 ab len cap l (hl.later h.below) k s m z g).mono fun e w' ⟨e1, S', q1, q2⟩ => ⟨e1, g2 w' _ S' q1 q2⟩
theorem forgetL {w0 W1 W : World} {B1 B2 : Nat} {L1 L2 : List Pr} {S : Nat → Prop} (h : At w0 W1 B1 B2 L1 L2 S W) (k s m z g : Int) :
    Calls Try.prog 15 #[.pointer (some ⟨B1, 0, none⟩), .agg #[.int .i64 k, .int .i64 s, .int .i64 m, .int .i64 z, .int .u32 g]] W fun e w' => e = .returned (.bool (decide ((forgetP L1 (k, s, m, z, g)).length < L1.length))) ∧ At w0 W1 B1 B2 (forgetP L1 (k, s, m, z, g)) L2 S w' := by
  obtain ⟨S1, g1, g2⟩ := h.left
  exact (forget_any g1 k s m z g).mono fun e w' ⟨e1, S', q1, q2⟩ => ⟨e1, g2 w' _ S' q1 q2⟩
theorem forgetR {w0 W1 W : World} {B1 B2 : Nat} {L1 L2 : List Pr} {S : Nat → Prop} (h : At w0 W1 B1 B2 L1 L2 S W) (k s m z g : Int) :
    Calls Try.prog 20 #[.pointer (some ⟨B2, 0, none⟩), .agg #[.int .i64 k, .int .i64 s, .int .i64 m, .int .i64 z, .int .u32 g]] W fun e w' => e = .returned (.bool (decide ((forgetP L2 (k, s, m, z, g)).length < L2.length))) ∧ At w0 W1 B1 B2 L1 (forgetP L2 (k, s, m, z, g)) S w' := by
  obtain ⟨S1, g1, g2⟩ := h.right
  exact (refForget_any g1 k s m z g).mono fun e w' ⟨e1, S', q1, q2⟩ => ⟨e1, g2 w' _ S' q1 q2⟩
theorem lenL {w0 W1 W : World} {B1 B2 : Nat} {L1 L2 : List Pr} {S : Nat → Prop} (h : At w0 W1 B1 B2 L1 L2 S W) : Calls Try.prog 14 #[.pointer (some ⟨B1, 0, none⟩)] W fun e w' => e = .returned (.int .i64 L1.length) ∧ w' = W := by
  obtain ⟨S1, g1, g2⟩ := h.left
  exact len_any g1
def FoundQ (w0 W1 : World) (B1 B2 : Nat) (L1 L2 : List Pr) (S : Nat → Prop) (R : List En) (e : Ending) (w' : World) : Prop := ∃ (a : Option Addr) (c : Nat), e = .returned (.slice a R.length c) ∧ Reads enV w' a R.length R ∧ At w0 W1 B1 B2 L1 L2 S w'
theorem findL {w0 W1 W : World} {B1 B2 : Nat} {L1 L2 : List Pr} {S : Nat → Prop} (h : At w0 W1 B1 B2 L1 L2 S W) {ab : Option Addr} {len : Nat} (cap : Nat) {l : List Int} (hl : Bytes w0 ab len l) :
    Calls Try.prog 13 #[.pointer (some ⟨B1, 0, none⟩), .slice ab len cap] W (FoundQ w0 W1 B1 B2 L1 L2 S (findP L1 ((fingerOf l : Nat) : Int))) := by
  obtain ⟨S1, g1, g2⟩ := h.left
  exact (find_any g1 ab len cap l (hl.later h.below)).mono fun e w' ⟨a, c, e1, q1, q2, q3⟩ => ⟨a, c, e1, (q1.reads en_rowed).1, g2 w' _ _ q2 q3⟩
theorem ofR {w0 W1 W : World} {B1 B2 : Nat} {L1 L2 : List Pr} {S : Nat → Prop} (h : At w0 W1 B1 B2 L1 L2 S W) {ab : Option Addr} {len : Nat} (cap : Nat) {l : List Int} (hl : Bytes w0 ab len l) :
    Calls Try.prog 19 #[.pointer (some ⟨B2, 0, none⟩), .slice ab len cap] W fun e w' => FoundQ w0 W1 B1 B2 L1 L2 S (findP L2 ((fingerOf l : Nat) : Int)) e w' ∧ Below W.heap.size W w' := by
  obtain ⟨S1, g1, g2⟩ := h.right
  exact (of_any g1 ab len cap l (hl.later h.below)).mono fun e w' ⟨a, c, e1, q1, q2⟩ => ⟨⟨a, c, e1, (q1.reads en_rowed).1, h.later q2⟩, q2⟩
end Go.Proofs.Ytobnmdjpcmegiaa
