/-
  What the reference's copyMaps answers (layer 9): some slice, nothing else turns. Conditions: the bitmaps read.
-/
import Derived.Test.YtidknkhkblloaaaG0
import Derived.Test.YtidknkhkblloaaaC0
namespace Go.Proofs.Ytidknkhkblloaaa
open Go.RowKit
set_option linter.unusedVariables false

def mpV (d : MpA) : List Value := [.string d.1, .bool d.2.1, .slice d.2.2.1 d.2.2.2.1 d.2.2.2.2]
theorem mp_rowed : Rowed Try.prog 26 56 3 48 mpV where
  under := Try.underlying26
  info := by
    have h : (Try.prog.info? 56).map (fun i => (i.zero.map (fun z => z.cells.size), i.size, i.bytes)) = some (some 3, 3, 48) := by kernel_rfl
    obtain ⟨i, hi, he⟩ := Option.map_eq_some_iff.1 h
    simp only [Prod.mk.injEq] at he
    obtain ⟨z, hz, hzs⟩ := Option.map_eq_some_iff.1 he.1
    exact ⟨i, z, hi, hz, he.2.1, he.2.2, hzs⟩
  pos := by decide
  small := by decide
  len := fun _ => rfl
  one := fun d u hu => by
    simp only [mpV, List.mem_cons, List.not_mem_nil, or_false] at hu
    rcases hu with rfl | rfl | rfl <;> rfl
theorem low_new {W W' : World} {B : Nat} {v : Value} (hg : W.grownBy W' v.ownBlock) (hv : ∀ k, v.ownBlock = some k → B ≤ k) (hB : B ≤ W.heap.size) : Below B W W' :=
  ⟨hg.os, hg.tape, hg.output, hg.size, fun k hk => hg.block k (Nat.lt_of_lt_of_le hk hB) fun e => by have := hv k e.symm; omega⟩
/-- 'append([]T{}, x...)': a copy of one's own. -/
theorem copy_lg {α : Type} {P : Program} {t e : TypeId} {sz bytes : Nat} {cv : α → List Value} (R : Rowed P t e sz bytes cv) {ops : Array Oper} {rest : List Oper} {o : Oper} {a : Act} (W : World) {Q : Exit → Act → World → Prop} (hgd : o.guard = Option.none) (s x : Operand)
    (ho : o.op = .call { callee := .builtin .append, args := #[s, x], argTypes := #[t, t] }) (r : Nat) (hr : r = W.heap.size) (hs : a.eval s = .slice (some ⟨r, 0, Option.none⟩) 0 0)
    (ao : Option Addr) (m c : Nat) (l : List α) (hx : a.eval x = .slice ao m c) (hnil : ao = Option.none → c = 0) (hB : Reads cv W ao m l) (hn : m ≤ 10000000)
    (h : ∀ a' c' w', Below W.heap.size W w' → wpList P ops Q rest (a.put o.dst (.slice a' m c')) w') : wpList P ops Q (o :: rest) a (W.alloc (.cells #[] e)) := by
  subst hr
  refine append_lg R hgd s x ho W.heap.size _ 0 [] hs (OwnG.made _ _ _ _ _ (Nat.le_refl _)) ao m c l hx hnil (hB.later ((Below.refl _ _).alloc (Nat.le_refl _) _)) (by omega) (by simp) ?_
  intro a' c' w' h1 h2 h3
  rw [Nat.zero_add]
  exact h a' c' w' (((Below.refl _ _).alloc (Nat.le_refl _) _).trans (low_new h2 (fun k e => by cases e; exact Nat.le_refl _) (by simp)))
/-- Between two bitmaps. -/
structure MS (w0 W : World) (v : Value) (n : Nat) (L : List MpA) : Prop where
  own : OwnG mpV 56 3 W w0.heap.size v n L
  dat : Below w0.heap.size w0 W
theorem MS.alloc {w0 W : World} {v : Value} {n : Nat} {L : List MpA} (h : MS w0 W v n L) (o : Obj) : MS w0 (W.alloc o) v n L := ⟨h.own.alloc o, h.dat.alloc h.dat.size o⟩
/-- ... and its box. -/
structure MB (w0 W : World) (v : Value) (n : Nat) (L : List MpA) (X : Nat) (cs : Array Value) : Prop where
  ms : MS w0 W v n L
  box : Blk W X 56 cs
  hX : v.ownBlock ≠ some X
  hw : w0.heap.size ≤ X
theorem MB.first {w0 W : World} {v : Value} {n : Nat} {L : List MpA} (h : MS w0 W v n L) (cs : Array Value) : MB w0 (W.alloc (.cells cs 56)) v n L W.heap.size cs :=
  ⟨h.alloc _, Blk.new _ _ _, fun e => absurd (h.own.1.lt _ e).2 (Nat.lt_irrefl _), h.dat.size⟩
theorem MB.alloc {w0 W : World} {v : Value} {n : Nat} {L : List MpA} {X : Nat} {cs : Array Value} (h : MB w0 W v n L X cs) (o : Obj) : MB w0 (W.alloc o) v n L X cs := ⟨h.ms.alloc o, h.box.alloc o, h.hX, h.hw⟩
/-- The copy of its spans. -/
theorem MB.copied {w0 W W' : World} {v : Value} {n : Nat} {L : List MpA} {X : Nat} {cs : Array Value} (h : MB w0 W v n L X cs) (hb : Below W.heap.size W W') : MB w0 W' v n L X cs :=
  ⟨⟨h.ms.own.kept' (grown_of_below hb) (fun k hk e => by cases e), h.ms.dat.trans (hb.mono h.ms.dat.size)⟩, h.box.later hb, h.hX, h.hw⟩
theorem MB.stored {w0 W : World} {v : Value} {n : Nat} {L : List MpA} {X : Nat} {cs : Array Value} (h : MB w0 W v n L X cs) (i : Nat) (u : Value) : MB w0 (W.setCell ⟨X, i, none⟩ u) v n L X (cs.setIfInBounds i u) :=
  ⟨⟨h.ms.own.kept' (grownBy_setCell4 W X i u) (fun k hk e => by cases e; exact h.hX hk), h.ms.dat.setCell h.hw u⟩, h.box.set i u, h.hX, h.hw⟩
/-- The append of the box. -/
theorem MB.step {w0 W W' : World} {v v' : Value} {n : Nat} {L L' : List MpA} {X : Nat} {cs : Array Value} (h : MB w0 W v n L X cs) (o : Obj) (hg : (W.alloc o).grownBy W' v.ownBlock) (hO : OwnG mpV 56 3 W' w0.heap.size v' (n + 1) L') : MS w0 W' v' (n + 1) L' :=
  ⟨hO, (h.ms.dat.alloc h.ms.dat.size o).trans (low_new hg (fun k e => (h.ms.own.1.lt k e).1) (Nat.le_trans h.ms.dat.size (by simp)))⟩
set_option maxRecDepth 100000 in
set_option maxHeartbeats 2000000 in
theorem copyMaps0 (w : World) (ma : Option Addr) (mn mc : Nat) (gm : Nat → MpA) (hM : Row3 w ma mn (fun i => .string (gm i).1) (fun i => .bool (gm i).2.1) (fun i => .slice (gm i).2.2.1 (gm i).2.2.2.1 (gm i).2.2.2.2))
    (hMs : ∀ i, i < mn → (gm i).1.size ≤ 9223372036854775807 ∧ (gm i).2.2.2.1 ≤ 500 ∧ ((gm i).2.2.1 = none → (gm i).2.2.2.2 = 0) ∧ ∃ l, Spans w (gm i).2.2.1 (gm i).2.2.2.1 l) (hmn : mn ≤ 20) :
    Calls Try.prog 44 #[.slice ma mn mc] w fun e w' => ∃ (a : Option Addr) (n c : Nat), e = .returned (.slice a n c) ∧ Below w.heap.size w w' := by
  have HM := Lib.hid hM
  have HMS := Lib.hid hMs
  clear hM hMs
  go_enter Try.func44, Try.ntmps44
  go_wp2
  go_loopw [3, 4] (fun l i wr => ∃ (j : Nat) (a : Option Addr) (c : Nat) (L : List MpA), j ≤ mn ∧ l = .slice a j c ∧ i = .int .i64 j ∧ Hid (MS w wr (.slice a j c) j L)) (fun _ i _ => mn - (intOf i).toNat)
  case atStart => exact ⟨0, none, 0, [], Nat.zero_le _, rfl, rfl, OwnG.none _ _ _ _ _, Below.refl _ _⟩
  case round =>
    obtain ⟨j, a1, c1, L, hj, rfl, rfl, HS⟩ := hrel
    by_cases hlt : j < mn
    · obtain ⟨b, off, rfl, hb, hc⟩ := (HM.out.later HS.out.dat).2 (by omega)
      obtain ⟨x1, x2, x3⟩ := hc j hlt
      obtain ⟨_, hll, hnil, sp, hsp⟩ := HMS.out j hlt
      obtain ⟨⟨nm, on, al, ll, cl⟩, hg⟩ := named (gm j)
      rw [hg.out] at hll hnil hsp
      dsimp only at x1 x2 x3 hll hnil hsp
      rw [hg.out] at x1 x2 x3
      dsimp only at x1 x2 x3
      have HB := Lib.hid (MB.first HS.out #[.string nm, .bool on, .slice al ll cl])
      have HSP := Lib.hid (hsp.later HB.out.ms.dat)
      have HNIL := Lib.hid hnil
      have HLL := Lib.hid hll
      have HLN : Hid (j + 1 ≤ 10000000) := by show j + 1 ≤ 10000000; omega
      clear hc hg hsp hnil hll
      have hb0 : (wr.alloc (.cells #[.string nm, .bool on, .slice al ll cl] 56)).cell? ⟨wr.heap.size, 2, none⟩ = some (.slice al ll cl) := HB.out.box.cell 2
      go_wp2_with (at_builtin; first
        | (have hh := HB3; clear hh; refine append_lg mp_rowed rfl (.tmp 21) (.tmp 23) rfl w.heap.size _ j L rfl (HB4.out.ms.own.alloc _) (some ⟨w3.heap.size, 0, none⟩) 1 1 [(nm, on, a3, ll, c3)] rfl (fun e => by cases e) (by have h9 := one_reads (cv := mpV) (w3.setCell ⟨wr.heap.size, 2, none⟩ (.slice a3 ll c3)) (nm, on, a3, ll, c3) #[.string nm, .bool on, .slice a3 ll c3] 56 rfl; rwa [World.size_setCell] at h9) HLN.out (by have := HB4.out.ms.dat.size; rw [World.size_alloc]; omega) ?_; intro a5 c5 w5 g1 g2 g3; have HS5 := Lib.hid (HB4.out.step _ g2 g1); clear g1 g2 g3)
        | (refine copy_lg sp_rowed (wr.alloc (.cells #[.string nm, .bool on, .slice al ll cl] 56)) rfl (.tmp 16) (.tmp 18) rfl _ (World.size_alloc _ _).symm rfl al ll cl sp rfl HNIL.out HSP.out (by have := HLL.out; omega) ?_; intro a3 c3 w3 g1; have HB3 := Lib.hid (HB.out.copied g1); clear g1; have HB4 := Lib.hid (HB3.out.stored 2 (.slice a3 ll c3)); have k0 : w3.cell? ⟨wr.heap.size, 2, none⟩ = some (.slice al ll cl) := HB3.out.box.cell 2; have kf := HB3.out.box.free 2; have k1 : (w3.setCell ⟨wr.heap.size, 2, none⟩ (.slice a3 ll c3)).cell? ⟨wr.heap.size, 0, none⟩ = some (.string nm) := HB4.out.box.cell 0; have k2 : (w3.setCell ⟨wr.heap.size, 2, none⟩ (.slice a3 ll c3)).cell? ⟨wr.heap.size, 1, none⟩ = some (.bool on) := HB4.out.box.cell 1; have k3 : (w3.setCell ⟨wr.heap.size, 2, none⟩ (.slice a3 ll c3)).cell? ⟨wr.heap.size, 2, none⟩ = some (.slice a3 ll c3) := HB4.out.box.cell 2))
      go_roundw
      case rel => exact ⟨j + 1, a5, c5, _, by omega, rfl, by go_num, HS5.out⟩
      case measure => simp [intOf]; omega
    · obtain rfl : j = mn := by omega
      go_wp2
      go_ret
      exact ⟨a1, j, c1, rfl, HS.out.dat⟩
end Go.Proofs.Ytidknkhkblloaaa
