/-
  What the reference's right, Has and Count answer. Conditions: the slice reads as spans, no more than 100000 of them.
-/
import Derived.Test.YtipljkegmhclkaaS4
namespace Go.Proofs.Ytipljkegmhclkaa
open Go.RowKit

/-- What hands back a list of spans. -/
def SpPost (w0 : World) (L : List Sp) (e : Ending) (w : World) : Prop :=
  ∃ a c, e = .returned (.slice a L.length c) ∧ OwnSp w w0.heap.size (.slice a L.length c) L.length L ∧ ((a = none → c = 0) ∧ L.length ≤ c) ∧ Below w0.heap.size w0 w
theorem OwnG.monoB {α : Type} {cv : α → List Value} {e : TypeId} {sz : Nat} {w : World} {base base' : Nat} {v : Value} {n : Nat} {l : List α} (h : OwnG cv e sz w base v n l) (hb : base' ≤ base) : OwnG cv e sz w base' v n l := by
  obtain ⟨⟨h1, h2⟩, h3⟩ := h
  refine ⟨⟨h1, ?_⟩, h3⟩
  rcases h2 with h2 | ⟨g, cap, cur, e, hg, r⟩
  · exact Or.inl h2
  · exact Or.inr ⟨g, cap, cur, e, Nat.le_trans hb hg, r⟩
theorem SpPost.named {w0 : World} {L : List Sp} {e : Ending} {w : World} (h : SpPost w0 L e w) {n : Nat} (hn : L.length = n) :
    ∃ a c, e = .returned (.slice a n c) ∧ Spans w a n L ∧ ((a = none → c = 0) ∧ n ≤ c) ∧ Below w0.heap.size w0 w := by
  subst hn
  obtain ⟨a, c, h1, h2, h3, h4⟩ := h
  exact ⟨a, c, h1, (h2.reads sp_rowed).1, h3, h4⟩
theorem SpPost.namedO {w0 : World} {L : List Sp} {e : Ending} {w : World} (h : SpPost w0 L e w) {n : Nat} (hn : L.length = n) :
    ∃ a c, e = .returned (.slice a n c) ∧ OwnSp w w0.heap.size (.slice a n c) n L ∧ ((a = none → c = 0) ∧ n ≤ c) ∧ Below w0.heap.size w0 w := by
  subst hn
  exact h
theorem OwnG.laterB {α : Type} {cv : α → List Value} {e : TypeId} {sz : Nat} {w w' : World} {base : Nat} {v : Value} {n : Nat} {l : List α} (h : OwnG cv e sz w base v n l) (hb : Below w.heap.size w w') : OwnG cv e sz w' base v n l :=
  ⟨h.1.kept (row := Option.none) ⟨hb.os, hb.tape, hb.output, hb.size, fun k hk _ => hb.block k hk⟩ (by
    cases hv : v.ownBlock with
    | none => exact .inl rfl
    | some k => exact .inr (fun e' => by cases e')), h.2⟩
theorem SpPost.empty (w0 : World) : SpPost w0 [] (.returned (.slice none 0 0)) w0 := ⟨none, 0, rfl, OwnG.none _ _ _ _ _, ⟨fun _ => rfl, Nat.le_refl _⟩, Below.refl _ _⟩
theorem SpPost.own {w0 w : World} {L : List Sp} {a : Option Addr} {n c base : Nat} (h : OwnSp w base (.slice a n c) n L) (hb : Below w0.heap.size w0 w) (hbase : w0.heap.size ≤ base := by first | exact Nat.le_refl _ | (simp; done) | omega) : SpPost w0 L (.returned (.slice a n c)) w := by
  have hl := h.2.1
  obtain ⟨h1, h2, h3⟩ := h.reads sp_rowed
  subst hl
  exact ⟨a, c, rfl, h.monoB hbase, ⟨h2, h3⟩, hb⟩

set_option maxHeartbeats 800000 in
theorem refNorm_any (a : Option Addr) (len cap : Nat) (l : List Sp) (w : World) (hB : Spans w a len l) (hnil : a = none → cap = 0) (hlen : len ≤ 100000) :
    Calls Try.prog 41 #[.slice a len cap] w (SpPost w (norm l)) := by
  have HRR := Lib.hid (fun R hR => refRight_any a len cap l w hB hlen R hR)
  have HB := Lib.hid hB
  have HN := Lib.hid hnil
  clear hB hnil
  by_cases h : Rt (-1) l
  · have HR := Lib.hid (HRR.out true (by rw [decide_eq_true_iff]; exact h))
    rw [norm_of h]
    clear HRR h
    go_enter Try.func41, Try.ntmps41
    go_wp2_with (first
      | (go_at_call 22; refine HR.out.mono ?_; rintro e w1 ⟨rfl, hb⟩; have HG := Lib.hid hb; clear hb)
      | (at_builtin; refine append_g_copy sp_rowed rfl (.tmp 6) (.tmp 7) rfl w.heap.size rfl a len cap l rfl HN.out (HB.out.later HG.out) (by omega) HG.out.size ?_; intro a2 c2 w2 g1 g2; have HO := Lib.hid g1; have HG2 := Lib.hid (HG.out.trans g2); clear g1 g2))
    go_ret
    exact SpPost.own HO.out HG2.out
  · have HR := Lib.hid (HRR.out false (by rw [decide_eq_false_iff_not]; exact h))
    have e : norm l = [] := if_neg h
    rw [e]
    clear HRR h e
    go_enter Try.func41, Try.ntmps41
    go_wp2_with (go_at_call 22; refine HR.out.mono ?_; rintro e w1 ⟨rfl, hb⟩; have HG := Lib.hid hb; clear hb)
    go_ret
    exact ⟨none, 0, rfl, OwnG.none _ _ _ _ _, ⟨fun _ => rfl, Nat.le_refl _⟩, HG.out⟩
theorem norm_len (l : List Sp) : (norm l).length ≤ l.length := by
  unfold norm
  split
  · exact Nat.le_refl _
  · exact Nat.zero_le _

/-- Is a number there? -/
def sameTo (l m : List Sp) (i : Nat) : Prop := ∀ k, k < i → spAt l k = spAt m k
theorem same_all {l m : List Sp} (hl : l.length = m.length) (h : sameTo l m l.length) : l = m := by
  refine List.ext_getElem hl fun i h1 h2 => ?_
  have e := h i h1
  have a := spAt_some l i h1
  have b := spAt_some m i h2
  rw [List.getElem?_eq_getElem h1] at a
  rw [List.getElem?_eq_getElem h2] at b
  injection a with a
  injection b with b
  rw [a, b, e]

end Go.Proofs.Ytipljkegmhclkaa
