/-
  What the reference's copyMaps answers: bitmaps anew (layer 12). Conditions: the bitmaps read.
-/
import Derived.Test.YtjaaieamlgghhaaSn
namespace Go.Proofs.Ytjaaieamlgghhaa
open Go.RowKit
set_option linter.unusedVariables false

/-- 'append([]T{}, x...)': a copy of one's own. -/
theorem copy_own {α : Type} {P : Program} {t e : TypeId} {sz bytes : Nat} {cv : α → List Value} (R : Rowed P t e sz bytes cv) {ops : Array Oper} {rest : List Oper} {o : Oper} {a : Act} (W : World) {Q : Exit → Act → World → Prop} (hgd : o.guard = Option.none) (s x : Operand)
    (ho : o.op = .call { callee := .builtin .append, args := #[s, x], argTypes := #[t, t] }) (r : Nat) (hr : r = W.heap.size) (hs : a.eval s = .slice (some ⟨r, 0, Option.none⟩) 0 0)
    (ao : Option Addr) (m c : Nat) (l : List α) (hx : a.eval x = .slice ao m c) (hnil : ao = Option.none → c = 0) (hB : Reads cv W ao m l) (hn : m ≤ 10000000)
    (h : ∀ a' c' w', OwnG cv e sz w' W.heap.size (.slice a' m c') m l → Below W.heap.size W w' → wpList P ops Q rest (a.put o.dst (.slice a' m c')) w') : wpList P ops Q (o :: rest) a (W.alloc (.cells #[] e)) := by
  subst hr
  refine append_lg R hgd s x ho W.heap.size _ 0 [] hs (OwnG.made _ _ _ _ _ (Nat.le_refl _)) ao m c l hx hnil (hB.later ((Below.refl _ _).alloc (Nat.le_refl _) _)) (by omega) (by simp) ?_
  intro a' c' w' h1 h2 h3
  rw [Nat.zero_add, List.nil_append] at h1
  rw [Nat.zero_add]
  exact h a' c' w' h1 (((Below.refl _ _).alloc (Nat.le_refl _) _).trans (low_new h2 (fun k e => by cases e; exact Nat.le_refl _) (by simp)))
/-- Between two bitmaps of a list that is made anew. -/
structure Msb (w0 W : World) (a : Option Addr) (c j : Nat) (B : List BmM) (L : List Bm) : Prop where
  own : OwnG bmV 53 3 W w0.heap.size (.slice a j c) j L
  sps : ∀ d ∈ L, SpN W w0.heap.size d.2.2.1 d.2.2.2.1 d.2.2.2.2.1 (bmL d)
  is : L.map bmM = B.take j
  dat : Below w0.heap.size w0 W
set_option maxRecDepth 100000 in
set_option maxHeartbeats 2000000 in
theorem refCopyMaps (w : World) (ma : Option Addr) (mn mc : Nat) (B : List BmM) (h : BmsD w ma mn mc B) : Calls Try.prog 56 #[.slice ma mn mc] w fun e w' => ∃ (a : Option Addr) (c : Nat), e = .returned (.slice a mn c) ∧ BmsN w' w.heap.size a mn c B ∧ Below w.heap.size w w' := by
  have HD := Lib.hid h
  have hl := h.lens
  have HL := Lib.hid hl.1
  have hmn := hl.2
  have HNM : Hid (∀ d ∈ B, d.1.size ≤ 9223372036854775807) := by
    obtain ⟨ds, _, _, _, _, h5⟩ := h
    exact h5
  clear h hl
  go_enter Try.func56, Try.ntmps56
  go_wp2
  go_loopw [3, 4] (fun l i wr => ∃ (j : Nat) (a : Option Addr) (c : Nat) (L : List Bm), j ≤ mn ∧ l = .slice a j c ∧ i = .int .i64 j ∧ Hid (Msb w wr a c j B L)) (fun _ i _ => mn - (intOf i).toNat)
  case atStart => exact ⟨0, none, 0, [], Nat.zero_le _, rfl, rfl, OwnG.none _ _ _ _ _, fun d hd => (by cases hd), rfl, Below.refl _ _⟩
  case round =>
    obtain ⟨j, a1, c1, L, hj, rfl, rfl, HS⟩ := hrel
    by_cases hlt : j < mn
    · obtain ⟨b, off, nm, on, al, ll, cl, l, rfl, hBj, hb, hnm, x1, x2, x3, hsp⟩ := (HD.out.later HS.out.dat).at j hlt
      have HWB : Hid (Below wr.heap.size wr (wr.alloc (.cells #[.string nm, .bool on, .slice al ll cl] 53))) := (Below.refl _ wr).alloc (Nat.le_refl _) _
      have HBX : Hid (Blk (wr.alloc (.cells #[.string nm, .bool on, .slice al ll cl] 53)) wr.heap.size 53 #[.string nm, .bool on, .slice al ll cl]) := Blk.new _ _ _
      have HSP := Lib.hid (hsp.later HWB.out)
      have HBJ := Lib.hid hBj
      have hb0 : (wr.alloc (.cells #[.string nm, .bool on, .slice al ll cl] 53)).cell? ⟨wr.heap.size, 2, none⟩ = some (.slice al ll cl) := HBX.out.cell 2
      have hll := hsp.2.2.1
      have HHX : Hid (w.heap.size ≤ wr.heap.size) := HS.out.dat.size
      clear hsp hBj hb hnm
      go_wp2_with (at_builtin; first
        | (have hh := HB3; clear hh; refine append_lg bm_rowed rfl (.tmp 21) (.tmp 23) rfl w.heap.size _ j L rfl (HO4.out.alloc _) (some ⟨w3.heap.size, 0, none⟩) 1 1 [(nm, on, a3, ll, c3, l)] rfl (fun e => by cases e) (by have h9 := one_reads (cv := bmV) (w3.setCell ⟨wr.heap.size, 2, none⟩ (.slice a3 ll c3)) (nm, on, a3, ll, c3, l) #[.string nm, .bool on, .slice a3 ll c3] 53 rfl; rwa [World.size_setCell] at h9) (by omega) HW5.out ?_; intro a5 c5 w5 g1 g2 g3; have HO5 := Lib.hid g1; have HG5 := Lib.hid g2; clear g1 g2 g3)
        | (refine copy_own sp_rowed (wr.alloc (.cells #[.string nm, .bool on, .slice al ll cl] 53)) rfl (.tmp 16) (.tmp 18) rfl _ (World.size_alloc _ _).symm rfl al ll cl l rfl HSP.out.2.1.1 HSP.out.1 (by omega) ?_; intro a3 c3 w3 g0 g1; have HB3 := Lib.hid (HBX.out.later g1); have HN3 : Hid (SpN w3 w.heap.size a3 ll c3 l) := ⟨g0.monoB (by have := HHX.out; rw [World.size_alloc]; omega), HSP.out.2.2⟩; have HW3 := Lib.hid (HWB.out.trans (g1.mono HWB.out.size)); have HB4 := Lib.hid (HB3.out.set 2 (.slice a3 ll c3)); have g4 := grownBy_setCell4 w3 wr.heap.size 2 (.slice a3 ll c3); have HO4 := Lib.hid ((HS.out.own.laterB HW3.out).kept' g4 (fun k hk e => absurd (HS.out.own.1.lt k hk).2 (by cases e; exact Nat.lt_irrefl _))); have HW5 : Hid (w.heap.size ≤ ((w3.setCell ⟨wr.heap.size, 2, none⟩ (.slice a3 ll c3)).alloc (.cells #[.string nm, .bool on, .slice a3 ll c3] 53)).heap.size) := Lib.hid (by rw [World.size_alloc, World.size_setCell]; have := HW3.out.size; have := HS.out.dat.size; omega); obtain ⟨k0, k1, k2⟩ := cells3 HB3.out; obtain ⟨f0, f1, f2⟩ := free3 HB3.out; clear g0 g1 g4))
      have HL9 : Hid (Msb w w5 a5 c5 (j + 1) B (L ++ [(nm, on, a3, ll, c3, l)])) := by
        have k4 := HB3.out.keepL (L := L5b) (by decide) (grownBy_setCell4 w3 wr.heap.size 2 (.slice a3 ll c3))
        have k5 := OwnG.keepL (L := L5b) (HO4.out.alloc (.cells #[.string nm, .bool on, .slice a3 ll c3] 53)) (by decide) HG5.out
        have k6 := KeepL.later L5b ((Below.refl _ (w3.setCell ⟨wr.heap.size, 2, none⟩ (.slice a3 ll c3))).alloc (Nat.le_refl _) (.cells #[.string nm, .bool on, .slice a3 ll c3] 53))
        have k := (k4.trans k6).trans k5
        have d3 := HS.out.dat.trans (HW3.out.mono HS.out.dat.size)
        have d4 := belowRow d3 (grownBy_setCell4 w3 wr.heap.size 2 (.slice a3 ll c3)) HHX.out d3.size
        have d5 := (d4.alloc d4.size (.cells #[.string nm, .bool on, .slice a3 ll c3] 53)).trans (low_new HG5.out (fun k e => ((HO4.out.alloc (.cells #[.string nm, .bool on, .slice a3 ll c3] 53)).1.lt k e).1) HW5.out)
        refine ⟨HO5.out, fun d hd => ?_, ?_, d5⟩
        · rcases List.mem_append.1 hd with hd | hd
          · exact ((HS.out.sps d hd).keep (L := L5b) (by decide) (KeepL.later L5b HW3.out)).keep (L := L5b) (by decide) k
          · obtain rfl : d = (nm, on, a3, ll, c3, l) := by simpa using hd
            exact HN3.out.keep (L := L5b) (by decide) k
        · rw [List.map_append, HS.out.is, List.take_add_one, HBJ.out]
          rfl
      go_roundw
      case rel => exact ⟨j + 1, a5, c5, _, by omega, rfl, by go_num, HL9.out⟩
      case measure => simp [intOf]; omega
    · obtain rfl : j = mn := by omega
      go_wp2
      go_ret
      exact ⟨a1, c1, rfl, ⟨L, HS.out.own, HS.out.sps, by rw [HS.out.is, List.take_of_length_le (Nat.le_of_eq HL.out)], hmn, HNM.out⟩, HS.out.dat⟩
end Go.Proofs.Ytjaaieamlgghhaa
