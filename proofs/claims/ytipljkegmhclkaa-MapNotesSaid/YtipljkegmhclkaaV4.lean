/-
  What the reference's Add answers. Conditions: the slice reads as spans, no more than 100000 of them.
-/
import Derived.Test.YtipljkegmhclkaaU4
import Derived.Deep.AppendLies
namespace Go.Proofs.Ytipljkegmhclkaa
open Go.RowKit

/-- One span more, as the text does it: the spans from here on, the span, what is put so far, whether the span is put. -/
def addGo : List Sp → Sp → List Sp → Bool → List Sp
  | [], s, out, put => if put then out else out ++ [s]
  | x :: r, s, out, put => if x.2 < s.1 then addGo r s (out ++ [x]) put else if s.2 < x.1 then addGo r s ((if put then out else out ++ [s]) ++ [x]) true else addGo r (min s.1 x.1, max s.2 x.2) out put
theorem addGo_put (s : Sp) : ∀ (r out : List Sp) (lo : Int), Rt lo r → s.2 ≤ lo → s.1 < s.2 → addGo r s out true = out ++ r
  | [], out, _, _, _, _ => by simp [addGo]
  | x :: r, out, lo, h, h1, h2 => by
    have g0 := h.1
    have g1 := h.2.1
    rw [addGo, if_neg (by omega), if_pos (by omega), if_pos rfl, addGo_put s r (out ++ [x]) x.2 h.2.2.2 (by omega) h2]
    simp
theorem addGo_ins : ∀ (l : List Sp) (s : Sp) (out : List Sp) (lo : Int), Rt lo l → s.1 < s.2 → addGo l s out false = out ++ ins l s
  | [], s, out, _, _, _ => by simp [addGo, ins]
  | x :: r, s, out, lo, h, h2 => by
    have g1 := h.2.1
    unfold addGo ins
    by_cases c1 : x.2 < s.1
    · rw [if_pos c1, if_pos c1, addGo_ins r s (out ++ [x]) x.2 h.2.2.2 h2]
      simp
    · rw [if_neg c1, if_neg c1]
      by_cases c2 : s.2 < x.1
      · rw [if_pos c2, if_pos c2, if_neg Bool.false_ne_true, addGo_put s r _ x.2 h.2.2.2 (by omega) h2]
        simp
      · rw [if_neg c2, if_neg c2]
        refine addGo_ins r _ out x.2 h.2.2.2 ?_
        show min s.1 x.1 < max s.2 x.2
        omega
theorem drop_at (L : List Sp) (j : Nat) (h : j < L.length) : L.drop j = spAt L j :: L.drop (j + 1) := by
  have e : spAt L j = L[j] := by
    have := spAt_some L j h
    rw [List.getElem?_eq_getElem h] at this
    injection this with this
    exact this.symm
  rw [List.drop_eq_getElem_cons h, e]
theorem ins_len : ∀ (l : List Sp) (s : Sp), (ins l s).length ≤ l.length + 1
  | [], _ => by simp [ins]
  | x :: r, s => by
    unfold ins
    have h1 := ins_len r s
    have h2 := ins_len r (min s.1 x.1, max s.2 x.2)
    split
    · simp; omega
    · split
      · simp
      · simp; omega

/-- All that was there stays, but for one block. -/
def Kept (w2 wr : World) (B : Nat) : Prop := w2.heap.size ≤ wr.heap.size ∧ ∀ p v, p.block ≠ B → p.block < w2.heap.size → w2.cell? p = some v → wr.cell? p = some v
theorem Kept.refl (w : World) (B : Nat) : Kept w w B := ⟨Nat.le_refl _, fun _ _ _ _ h => h⟩
theorem Kept.alloc {w2 wr : World} {B : Nat} (h : Kept w2 wr B) (X : Obj) : Kept w2 (wr.alloc X) B :=
  ⟨by rw [World.size_alloc]; have := h.1; omega, fun p v h1 h2 h3 => (World.cell?_alloc_lt wr X p (Nat.lt_of_lt_of_le h2 h.1)).trans (h.2 p v h1 h2 h3)⟩
theorem Kept.setCell {w2 wr : World} {B i : Nat} (h : Kept w2 wr B) (v : Value) : Kept w2 (wr.setCell ⟨B, i, none⟩ v) B :=
  ⟨by rw [World.size_setCell]; exact h.1, fun p u h1 h2 h3 => by
    rw [World.cell?_setCell_other _ _ _ _ (fun e => h1 (by rw [← e]))]
    exact h.2 p u h1 h2 h3⟩
theorem Kept.grown {w2 wr w0 w' : World} {B base n c : Nat} {a : Option Addr} {l : List Sp} (h : Kept w2 wr B) (hO : OwnSp w0 base (.slice a n c) n l) (hb : w2.heap.size ≤ base) (hs : wr.heap.size ≤ w'.heap.size) (hg : wr.grownBy w' (Value.slice a n c).ownBlock) : Kept w2 w' B :=
  ⟨Nat.le_trans h.1 hs, fun p v h1 h2 h3 => hO.far hg (h.2 p v h1 h2 h3) (Or.inl (Nat.lt_of_lt_of_le h2 hb))⟩
theorem Kept.spans {w2 wr : World} {B b off K : Nat} {L : List Sp} (h : Kept w2 wr B) (hb : b ≠ B) (hS : Spans w2 (some ⟨b, off, none⟩) K L) (j : Nat) (hj : j < K) :
    wr.cell? ⟨b, off + j * 2, none⟩ = some (.int .i64 (spAt L j).1) ∧ wr.cell? ⟨b, off + j * 2 + 1, none⟩ = some (.int .i64 (spAt L j).2) := by
  obtain ⟨h1, h2⟩ := span_cells hS j hj
  exact ⟨h.2 _ _ hb (block_lt_of_cell h1) h1, h.2 _ _ hb (block_lt_of_cell h2) h2⟩

theorem OwnG.farF {α : Type} {cv : α → List Value} {e : TypeId} {sz : Nat} {w w0 w' : World} {base n c : Nat} {a : Option Addr} {l : List α} (h : OwnG cv e sz w0 base (.slice a n c) n l) (hg : w.grownBy w' (Value.slice a n c).ownBlock) {p : Addr}
    (hp : w.frozen? p = false) (hlt : p.block < w.heap.size) (hb : p.block < base ∨ w0.heap.size ≤ p.block) : w'.frozen? p = false :=
  (hg.frozen_far p hlt fun e => by
    have := h.1.lt p.block e.symm
    omega).trans hp
theorem OwnG.setFar {α : Type} {cv : α → List Value} {e : TypeId} {sz : Nat} {w : World} {base n c B i : Nat} {a : Option Addr} {l : List α} (h : OwnG cv e sz w base (.slice a n c) n l) (hB : B < base) (v : Value) : OwnG cv e sz (w.setCell ⟨B, i, Option.none⟩ v) base (.slice a n c) n l :=
  ⟨h.1.kept (row := some B) ⟨rfl, rfl, rfl, by rw [World.size_setCell]; exact Nat.le_refl _, fun k hk hne => Below.heap_setCell _ _ _ _ (fun e => hne (by rw [e]))⟩ (Or.inr fun e => by
    have := h.1.lt B e
    omega), h.2⟩

set_option maxHeartbeats 800000 in
/-- 'right': a row of the call's own. -/
theorem refNorm_own (a : Option Addr) (len cap : Nat) (l : List Sp) (w : World) (hB : Spans w a len l) (hnil : a = none → cap = 0) (hlen : len ≤ 100000) (K : Nat) (hK : (norm l).length = K) :
    Calls Try.prog 41 #[.slice a len cap] w fun e w' => ∃ x c, e = .returned (.slice x K c) ∧ OwnSp w' w.heap.size (.slice x K c) K (norm l) ∧ Below w.heap.size w w' := by
  have HRR := Lib.hid (fun R hR => refRight_any a len cap l w hB hlen R hR)
  have HB := Lib.hid hB
  have HN := Lib.hid hnil
  have hl := hB.1
  clear hB hnil
  by_cases h : Rt (-1) l
  · have HR := Lib.hid (HRR.out true (by rw [decide_eq_true_iff]; exact h))
    rw [norm_of h] at hK ⊢
    obtain rfl : len = K := by omega
    clear HRR h
    go_enter Try.func41, Try.ntmps41
    go_wp2_with (first
      | (go_at_call 22; refine HR.out.mono ?_; rintro e w1 ⟨rfl, hb⟩; have HG := Lib.hid hb; clear hb)
      | (at_builtin; refine append_g_copy sp_rowed rfl (.tmp 6) (.tmp 7) rfl w.heap.size rfl a len cap l rfl HN.out (HB.out.later HG.out) (by omega) HG.out.size ?_; intro a2 c2 w2 g1 g2; have HO := Lib.hid g1; have HG2 := Lib.hid (HG.out.trans g2); clear g1 g2))
    go_ret
    exact ⟨_, _, rfl, HO.out, HG2.out⟩
  · have HR := Lib.hid (HRR.out false (by rw [decide_eq_false_iff_not]; exact h))
    have e : norm l = [] := if_neg h
    rw [e] at hK ⊢
    obtain rfl : 0 = K := hK
    clear HRR h e
    go_enter Try.func41, Try.ntmps41
    go_wp2_with (go_at_call 22; refine HR.out.mono ?_; rintro e w1 ⟨rfl, hb⟩; have HG := Lib.hid hb; clear hb)
    go_ret
    exact ⟨none, 0, rfl, OwnG.none _ _ _ _ _, HG.out⟩

end Go.Proofs.Ytipljkegmhclkaa
