/-
  What the reference's right, Has and Count answer. Conditions: the slice reads as spans, no more than 100000 of them.
-/
import Derived.Test.YtdffgnpldapciaaGreatDoorS4
namespace Go.Proofs.YtdffgnpldapciaaGreatDoor
open Go.RowKit

/-- What hands back a list of spans. -/
def SpPost (w0 : World) (L : List Sp) (e : Ending) (w : World) : Prop :=
  ∃ a c, e = .returned (.slice a L.length c) ∧ OwnSp w w0.heap.size (.slice a L.length c) L.length L ∧ ((a = none → c = 0) ∧ L.length ≤ c) ∧ Below w0.heap.size w0 w
theorem OwnG.monoB {α : Type} {cv : α → List Value} {e : TypeId} {sz : Nat} {w : World} {base base' : Nat} {v : Value} {n : Nat} {l : List α} (h : OwnG cv e sz w base v n l) (hb : base' ≤ base) : OwnG cv e sz w base' v n l := by
  obtain ⟨⟨h1, h2⟩, h3⟩ := h
  refine ⟨⟨h1, ?_⟩, h3⟩
  rcases h2 with h2 | ⟨g, cap, cur, e, hg, r⟩
  · exact Or.inl h2
  · exact Or.inr ⟨g, cap, cur, e, Nat.le_trans hb hg, r⟩
theorem SpPost.named {w0 : World} {L : List Sp} {e : Ending} {w : World} (h : SpPost w0 L e w) {n : Nat} (hn : L.length = n) :
    ∃ a c, e = .returned (.slice a n c) ∧ Spans w a n L ∧ ((a = none → c = 0) ∧ n ≤ c) ∧ Below w0.heap.size w0 w := by
  subst hn
  obtain ⟨a, c, h1, h2, h3, h4⟩ := h
  exact ⟨a, c, h1, (h2.reads sp_rowed).1, h3, h4⟩
theorem SpPost.namedO {w0 : World} {L : List Sp} {e : Ending} {w : World} (h : SpPost w0 L e w) {n : Nat} (hn : L.length = n) :
    ∃ a c, e = .returned (.slice a n c) ∧ OwnSp w w0.heap.size (.slice a n c) n L ∧ ((a = none → c = 0) ∧ n ≤ c) ∧ Below w0.heap.size w0 w := by
  subst hn
  exact h
theorem OwnG.laterB {α : Type} {cv : α → List Value} {e : TypeId} {sz : Nat} {w w' : World} {base : Nat} {v : Value} {n : Nat} {l : List α} (h : OwnG cv e sz w base v n l) (hb : Below w.heap.size w w') : OwnG cv e sz w' base v n l :=
  ⟨h.1.kept (row := Option.none) ⟨hb.os, hb.tape, hb.output, hb.size, fun k hk _ => hb.block k hk⟩ (by
    cases hv : v.ownBlock with
    | none => exact .inl rfl
    | some k => exact .inr (fun e' => by cases e')), h.2⟩
theorem SpPost.empty (w0 : World) : SpPost w0 [] (.returned (.slice none 0 0)) w0 := ⟨none, 0, rfl, OwnG.none _ _ _ _ _, ⟨fun _ => rfl, Nat.le_refl _⟩, Below.refl _ _⟩
theorem SpPost.own {w0 w : World} {L : List Sp} {a : Option Addr} {n c base : Nat} (h : OwnSp w base (.slice a n c) n L) (hb : Below w0.heap.size w0 w) (hbase : w0.heap.size ≤ base := by first | exact Nat.le_refl _ | (simp; done) | omega) : SpPost w0 L (.returned (.slice a n c)) w := by
  have hl := h.2.1
  obtain ⟨h1, h2, h3⟩ := h.reads sp_rowed
  subst hl
  exact ⟨a, c, rfl, h.monoB hbase, ⟨h2, h3⟩, hb⟩

theorem norm_len (l : List Sp) : (norm l).length ≤ l.length := by
  unfold norm
  split
  · exact Nat.le_refl _
  · exact Nat.zero_le _

/-- Is a number there? -/
def sameTo (l m : List Sp) (i : Nat) : Prop := ∀ k, k < i → spAt l k = spAt m k
theorem same_all {l m : List Sp} (hl : l.length = m.length) (h : sameTo l m l.length) : l = m := by
  refine List.ext_getElem hl fun i h1 h2 => ?_
  have e := h i h1
  have a := spAt_some l i h1
  have b := spAt_some m i h2
  rw [List.getElem?_eq_getElem h1] at a
  rw [List.getElem?_eq_getElem h2] at b
  injection a with a
  injection b with b
  rw [a, b, e]

set_option maxHeartbeats 1600000 in
theorem refSpans_any (a1 a2 : Option Addr) (n1 n2 c1 c2 : Nat) (l m : List Sp) (w : World) (hA : Spans w a1 n1 l) (hB : Spans w a2 n2 m) :
    Calls Tryz.prog 42 #[.slice a1 n1 c1, .slice a2 n2 c2] w fun e w' => e = .returned (.bool (decide (l = m))) ∧ Below w.heap.size w w' := by
  by_cases hn : n1 = n2
  · subst hn
    obtain ⟨R, HR⟩ := named (decide (l = m))
    rw [HR.out]
    have HA := Lib.hid hA
    have HB := Lib.hid hB
    have hsz := hA.2.1
    have HL1 := Lib.hid hA.1
    have HL2 := Lib.hid hB.1
    clear hA hB
    go_enter Tryz.func42, Tryz.ntmps42
    go_wp2
    go_loopw [5] (fun i wr => ∃ j : Nat, j ≤ n1 ∧ i = .int .i64 j ∧ Hid (sameTo l m j) ∧ Hid (Below w.heap.size w wr)) (fun i _ => n1 - (intOf i).toNat)
    case atStart => exact ⟨0, Nat.zero_le _, rfl, fun k hk => by omega, Below.refl _ _⟩
    case round =>
      obtain ⟨j, hj, rfl, HJ, HG⟩ := hrel
      by_cases hlt : j < n1
      · obtain ⟨b1, o1, rfl⟩ := HA.out.lies (by omega)
        obtain ⟨b2, o2, rfl⟩ := HB.out.lies (by omega)
        obtain ⟨d1, d2⟩ := span_cells (HA.out.later HG.out) j hlt
        obtain ⟨e1, e2⟩ := span_cells (HB.out.later HG.out) j hlt
        have hne : spAt l j ≠ spAt m j → R = false := fun h => by
          rw [← HR.out, decide_eq_false_iff_not]
          intro e
          exact h (by rw [e])
        have heq : spAt l j = spAt m j → Hid (sameTo l m (j + 1)) := fun h k hk => by
          by_cases e : k = j
          · rw [e]; exact h
          · exact HJ.out k (by omega)
        obtain ⟨⟨f1, t1⟩, HF1⟩ := named (spAt l j)
        obtain ⟨⟨f2, t2⟩, HF2⟩ := named (spAt m j)
        rw [HF1.out] at d1 d2 hne heq
        rw [HF2.out] at e1 e2 hne heq
        have HNE := Lib.hid hne
        have HEQ := Lib.hid heq
        clear hne heq
        by_cases hf : f1 = f2
        · subst hf
          by_cases ht : t1 = t2
          · subst ht
            have HJ2 := HEQ.out rfl
            go_wp2
            go_region
            go_wp2
            go_roundw
            case rel => exact ⟨j + 1, by omega, by go_num, HJ2, HG.out.drew⟩
            case measure => simp [intOf]; omega
          · have hr : R = false := HNE.out fun e => ht (congrArg Prod.snd e)
            subst hr
            go_wp2
            go_region
            go_wp2
            go_ret
            exact ⟨rfl, HG.out.drew⟩
        · have hr : R = false := HNE.out fun e => hf (congrArg Prod.fst e)
          subst hr
          go_wp2
          go_region
          go_wp2
          go_ret
          exact ⟨rfl, HG.out.drew⟩
      · obtain rfl : j = n1 := by omega
        have hr : R = true := by rw [← HR.out, decide_eq_true_iff]; exact same_all (by rw [HL1.out, HL2.out]) (by rw [HL1.out]; exact HJ.out)
        subst hr
        go_wp2
        go_ret
        exact ⟨rfl, HG.out⟩
  · have hR : decide (l = m) = false := by
      rw [decide_eq_false_iff_not]
      intro e
      exact hn (by rw [← hA.1, ← hB.1, e])
    rw [hR]
    clear hA hB
    go_enter Tryz.func42, Tryz.ntmps42
    go_wp2
    go_ret
    exact ⟨rfl, Below.refl _ _⟩
end Go.Proofs.YtdffgnpldapciaaGreatDoor
