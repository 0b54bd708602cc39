/-
  What the reference's right, Has and Count answer. Conditions: the slice reads as spans, no more than 100000 of them.
-/
import Derived.Test.YtdnkldcmefcmbaaS4
namespace Go.Proofs.Ytdnkldcmefcmbaa
open Go.RowKit

/-- What hands back a list of spans. -/
def SpPost (w0 : World) (L : List Sp) (e : Ending) (w : World) : Prop :=
  ∃ a c, e = .returned (.slice a L.length c) ∧ Spans w a L.length L ∧ ((a = none → c = 0) ∧ L.length ≤ c) ∧ Below w0.heap.size w0 w
theorem SpPost.named {w0 : World} {L : List Sp} {e : Ending} {w : World} (h : SpPost w0 L e w) {n : Nat} (hn : L.length = n) :
    ∃ a c, e = .returned (.slice a n c) ∧ Spans w a n L ∧ ((a = none → c = 0) ∧ n ≤ c) ∧ Below w0.heap.size w0 w := by
  subst hn
  exact h
theorem SpPost.empty (w0 : World) : SpPost w0 [] (.returned (.slice none 0 0)) w0 := ⟨none, 0, rfl, Reads.nil _ _ _, ⟨fun _ => rfl, Nat.le_refl _⟩, Below.refl _ _⟩
theorem SpPost.own {w0 w : World} {L : List Sp} {a : Option Addr} {n c base : Nat} (h : OwnSp w base (.slice a n c) n L) (hb : Below w0.heap.size w0 w) : SpPost w0 L (.returned (.slice a n c)) w := by
  have hl := h.2.1
  obtain ⟨h1, h2, h3⟩ := h.reads sp_rowed
  subst hl
  exact ⟨a, c, rfl, h1, ⟨h2, h3⟩, hb⟩

set_option maxHeartbeats 800000 in
theorem refNorm_any (a : Option Addr) (len cap : Nat) (l : List Sp) (w : World) (hB : Spans w a len l) (hnil : a = none → cap = 0) (hlen : len ≤ 100000) :
    Calls Try.prog 32 #[.slice a len cap] w (SpPost w (norm l)) := by
  have HRR := Lib.hid (fun R hR => refRight_any a len cap l w hB hlen R hR)
  have HB := Lib.hid hB
  have HN := Lib.hid hnil
  clear hB hnil
  by_cases h : Rt (-1) l
  · have HR := Lib.hid (HRR.out true (by rw [decide_eq_true_iff]; exact h))
    rw [norm_of h]
    clear HRR h
    go_enter Try.func32, Try.ntmps32
    go_wp2_with (first
      | (go_at_call 13; refine HR.out.mono ?_; rintro e w1 ⟨rfl, hb⟩; have HG := Lib.hid hb; clear hb)
      | (at_builtin; refine append_g_copy sp_rowed rfl (.tmp 6) (.tmp 7) rfl w.heap.size rfl a len cap l rfl HN.out (HB.out.later HG.out) (by omega) HG.out.size ?_; intro a2 c2 w2 g1 g2; have HO := Lib.hid g1; have HG2 := Lib.hid (HG.out.trans g2); clear g1 g2))
    go_ret
    exact SpPost.own HO.out HG2.out
  · have HR := Lib.hid (HRR.out false (by rw [decide_eq_false_iff_not]; exact h))
    have e : norm l = [] := if_neg h
    rw [e]
    clear HRR h e
    go_enter Try.func32, Try.ntmps32
    go_wp2_with (go_at_call 13; refine HR.out.mono ?_; rintro e w1 ⟨rfl, hb⟩; have HG := Lib.hid hb; clear hb)
    go_ret
    exact ⟨none, 0, rfl, Reads.nil _ _ _, ⟨fun _ => rfl, Nat.le_refl _⟩, HG.out⟩
theorem norm_len (l : List Sp) : (norm l).length ≤ l.length := by
  unfold norm
  split
  · exact Nat.le_refl _
  · exact Nat.zero_le _

/-- Is a number there? -/
def hasB (l : List Sp) (n : Int) : Bool := l.any fun x => decide (x.1 ≤ n) && decide (n < x.2)
theorem hasB_iff (l : List Sp) (n : Int) : hasB l n = true ↔ inL l n := by
  unfold hasB inL
  rw [List.any_eq_true]
  simp only [Bool.and_eq_true, decide_eq_true_eq]
theorem has_here {l : List Sp} {n : Int} (j : Nat) (hj : j < l.length) (h1 : (spAt l j).1 ≤ n) (h2 : n < (spAt l j).2) : hasB l n = true :=
  (hasB_iff l n).2 ⟨spAt l j, List.mem_of_getElem? (spAt_some l j hj), h1, h2⟩
theorem has_none {l : List Sp} {n : Int} (h : ∀ k, k < l.length → ¬ ((spAt l k).1 ≤ n ∧ n < (spAt l k).2)) : hasB l n = false := by
  rw [Bool.eq_false_iff]
  intro g
  obtain ⟨x, hx, hn⟩ := (hasB_iff l n).1 g
  obtain ⟨k, hk, rfl⟩ := List.getElem_of_mem hx
  have := h k hk
  have e : spAt l k = l[k] := by
    have := spAt_some l k hk
    rw [List.getElem?_eq_getElem hk] at this
    injection this with this
    exact this.symm
  rw [e] at this
  exact this hn

set_option maxHeartbeats 1600000 in
theorem refHas_any (a : Option Addr) (len cap : Nat) (l : List Sp) (n : Int) (w : World) (hB : Spans w a len l) (hnil : a = none → cap = 0) (hlen : len ≤ 100000) :
    Calls Try.prog 20 #[.slice a len cap, .int .i64 n] w fun e w' => e = .returned (.bool (hasB (norm l) n)) ∧ Below w.heap.size w w' := by
  have HR := Lib.hid (refNorm_any a len cap l w hB hnil hlen)
  have hk := norm_len l
  rw [hB.1] at hk
  obtain ⟨L, HL⟩ := named (norm l)
  rw [HL.out] at HR hk ⊢
  obtain ⟨K, HK⟩ := named L.length
  rw [HK.out] at hk
  obtain ⟨R, HRR⟩ := named (hasB L n)
  rw [HRR.out]
  clear hB hnil
  go_enter Try.func20, Try.ntmps20
  go_wp2_with (go_at_call 32; refine HR.out.mono ?_; rintro e w1 hp; obtain ⟨a1, c1, rfl, hS, _, hb⟩ := hp.named HK.out; have HS := Lib.hid hS; have HG := Lib.hid hb; clear hp hS hb)
  go_loop [5] (fun i => ∃ j : Nat, j ≤ K ∧ i = .int .i64 j ∧ Hid (∀ k, k < j → ¬ ((spAt L k).1 ≤ n ∧ n < (spAt L k).2))) (fun i => K - (intOf i).toNat)
  case atStart => exact ⟨0, Nat.zero_le _, rfl, fun k hk => by omega⟩
  case round =>
    obtain ⟨j, hj, rfl, HJ⟩ := hrel
    by_cases hlt : j < K
    · obtain ⟨b, off, rfl⟩ := HS.out.lies (by omega)
      obtain ⟨c1, c2⟩ := span_cells HS.out j hlt
      have hh := fun h1 h2 => has_here (n := n) j (by rw [HK.out]; exact hlt) h1 h2
      obtain ⟨⟨f, t⟩, HF⟩ := named (spAt L j)
      rw [HF.out, HRR.out] at hh
      rw [HF.out] at c1 c2
      rcases (by omega : (f ≤ n ∧ n < t) ∨ n < f ∨ (f ≤ n ∧ t ≤ n)) with ⟨h1, h2⟩ | h1 | ⟨h1, h2⟩
      · have hr : R = true := hh h1 h2
        subst hr
        clear hh
        go_wp2
        go_ret
        exact ⟨rfl, HG.out⟩
      · have HJ2 : Hid (∀ k, k < j + 1 → ¬ ((spAt L k).1 ≤ n ∧ n < (spAt L k).2)) := fun k hk => by
          by_cases e : k = j
          · subst e
            rw [HF.out]
            show ¬ (f ≤ n ∧ n < t)
            omega
          · exact HJ.out k (by omega)
        clear hh
        go_wp2
        go_round
        case rel => exact ⟨j + 1, by omega, by go_num, HJ2.out⟩
        case measure => simp [intOf]; omega
      · have HJ2 : Hid (∀ k, k < j + 1 → ¬ ((spAt L k).1 ≤ n ∧ n < (spAt L k).2)) := fun k hk => by
          by_cases e : k = j
          · subst e
            rw [HF.out]
            show ¬ (f ≤ n ∧ n < t)
            omega
          · exact HJ.out k (by omega)
        clear hh
        go_wp2
        go_round
        case rel => exact ⟨j + 1, by omega, by go_num, HJ2.out⟩
        case measure => simp [intOf]; omega
    · obtain rfl : j = K := by omega
      have hf : R = false := by rw [← HRR.out]; exact has_none (by rw [HK.out]; exact HJ.out)
      subst hf
      go_wp2
      go_ret
      exact ⟨rfl, HG.out⟩

/-- How many numbers. -/
def sumTo4 (l : List Sp) : Nat → Int
  | 0 => 0
  | j + 1 => sumTo4 l j + (spAt l j).2 - (spAt l j).1
def sumL (l : List Sp) : Int := sumTo4 l l.length
theorem right_at {l : List Sp} (h : Rt (-1) l) {j : Nat} (hj : j < l.length) : 0 ≤ (spAt l j).1 ∧ (spAt l j).1 < (spAt l j).2 ∧ (spAt l j).2 ≤ 1073741824 :=
  (mayB_iff _).1 ((okTo_all l).1 h j hj).1
theorem sumTo_bd {l : List Sp} (h : Rt (-1) l) : ∀ j, j ≤ l.length → 0 ≤ sumTo4 l j ∧ sumTo4 l j ≤ 1073741824 * j
  | 0, _ => by simp [sumTo4]
  | j + 1, hj => by
    have ih := sumTo_bd h j (by omega)
    have hx := right_at h (j := j) (by omega)
    show 0 ≤ sumTo4 l j + (spAt l j).2 - (spAt l j).1 ∧ sumTo4 l j + (spAt l j).2 - (spAt l j).1 ≤ 1073741824 * ((j + 1 : Nat) : Int)
    omega

set_option maxHeartbeats 1600000 in
theorem refCount_any (a : Option Addr) (len cap : Nat) (l : List Sp) (w : World) (hB : Spans w a len l) (hnil : a = none → cap = 0) (hlen : len ≤ 100000) :
    Calls Try.prog 22 #[.slice a len cap] w fun e w' => e = .returned (.int .i64 (sumL (norm l))) ∧ Below w.heap.size w w' := by
  have HR := Lib.hid (refNorm_any a len cap l w hB hnil hlen)
  have hk := norm_len l
  rw [hB.1] at hk
  have HRT := Lib.hid (norm_right l)
  obtain ⟨L, HL⟩ := named (norm l)
  rw [HL.out] at HR hk HRT ⊢
  obtain ⟨K, HK⟩ := named L.length
  rw [HK.out] at hk
  have HBD := Lib.hid (fun j => sumTo_bd HRT.out j)
  have HAT := Lib.hid (fun j => right_at HRT.out (j := j))
  have HS1 : Hid (∀ j, sumTo4 L (j + 1) = sumTo4 L j + (spAt L j).2 - (spAt L j).1) := fun _ => rfl
  unfold sumL
  rw [HK.out]
  rw [HK.out] at HBD HAT
  clear hB hnil
  go_enter Try.func22, Try.ntmps22
  go_wp2_with (go_at_call 32; refine HR.out.mono ?_; rintro e w1 hp; obtain ⟨a1, c1, rfl, hS, _, hb⟩ := hp.named HK.out; have HS := Lib.hid hS; have HG := Lib.hid hb; clear hp hS hb)
  go_loopw [3, 4] (fun x i wr => ∃ (j : Nat) (t : Int), j ≤ K ∧ i = .int .i64 j ∧ x = .int .i64 t ∧ Hid (t = sumTo4 L j) ∧ Hid (Below w1.heap.size w1 wr)) (fun _ i _ => K - (intOf i).toNat)
  case atStart => exact ⟨0, 0, Nat.zero_le _, rfl, rfl, rfl, Below.refl _ _⟩
  case round =>
    obtain ⟨j, x, hj, rfl, rfl, HT, HGr⟩ := hrel
    by_cases hlt : j < K
    · obtain ⟨b, off, rfl⟩ := HS.out.lies (by omega)
      obtain ⟨c1, c2⟩ := span_cells (HS.out.later HGr.out) j hlt
      have hb1 := HBD.out j hj
      have hb2 := HBD.out (j + 1) hlt
      have hat := HAT.out j hlt
      have hs1 := HS1.out j
      rw [hs1] at hb2
      obtain ⟨⟨f, t⟩, HF⟩ := named (spAt L j)
      rw [HF.out] at c1 c2 hb2 hat hs1
      rw [← HT.out] at hb1 hb2 hs1
      have hb2' : 0 ≤ x + t - f := hb2.1
      have hb3 : x ≤ 1073741824 * (j : Int) := hb1.2
      obtain ⟨y, hy, hy2⟩ : ∃ y, IntKind.i64.wrap (x + t) = y ∧ y = x + t := ⟨x + t, by
        have h1 : 0 ≤ f := hat.1
        have h2 : f < t := hat.2.1
        have h3 : t ≤ 1073741824 := hat.2.2
        have h4 : 0 ≤ x := hb1.1
        rw [IntKind.wrap_i64]
        omega, rfl⟩
      obtain ⟨z, hz, hz2⟩ : ∃ z, IntKind.i64.wrap (y - f) = z ∧ z = x + t - f := ⟨x + t - f, by
        have h1 : 0 ≤ f := hat.1
        have h2 : f < t := hat.2.1
        have h3 : t ≤ 1073741824 := hat.2.2
        have h4 : 0 ≤ x := hb1.1
        rw [hy2, IntKind.wrap_i64]
        omega, rfl⟩
      have HZ : Hid (z = sumTo4 L (j + 1)) := by rw [Hid, hz2]; exact hs1.symm
      clear hb1 hb2 hb2' hb3 hat hs1 hy2 hz2
      go_wp2
      go_region
      go_wp2
      go_roundw
      case rel => exact ⟨j + 1, z, by omega, by go_num, rfl, HZ.out, HGr.out.drew⟩
      case measure => simp [intOf]; omega
    · obtain rfl : j = K := by omega
      go_wp2
      go_ret
      exact ⟨ret_int HT.out, HG.out.trans (HGr.out.mono HG.out.size)⟩

/-! Two lists, span by span. -/
def sameTo (l m : List Sp) (i : Nat) : Prop := ∀ k, k < i → spAt l k = spAt m k
theorem same_all {l m : List Sp} (hl : l.length = m.length) (h : sameTo l m l.length) : l = m := by
  refine List.ext_getElem hl fun i h1 h2 => ?_
  have e := h i h1
  have a := spAt_some l i h1
  have b := spAt_some m i h2
  rw [List.getElem?_eq_getElem h1] at a
  rw [List.getElem?_eq_getElem h2] at b
  injection a with a
  injection b with b
  rw [a, b, e]

set_option maxHeartbeats 1600000 in
theorem refSpans_any (a1 a2 : Option Addr) (n1 n2 c1 c2 : Nat) (l m : List Sp) (w : World) (hA : Spans w a1 n1 l) (hB : Spans w a2 n2 m) :
    Calls Try.prog 14 #[.slice a1 n1 c1, .slice a2 n2 c2] w fun e w' => e = .returned (.bool (decide (l = m))) ∧ Below w.heap.size w w' := by
  by_cases hn : n1 = n2
  · subst hn
    obtain ⟨R, HR⟩ := named (decide (l = m))
    rw [HR.out]
    have HA := Lib.hid hA
    have HB := Lib.hid hB
    have hsz := hA.2.1
    have HL1 := Lib.hid hA.1
    have HL2 := Lib.hid hB.1
    clear hA hB
    go_enter Try.func14, Try.ntmps14
    go_wp2
    go_loopw [5] (fun i wr => ∃ j : Nat, j ≤ n1 ∧ i = .int .i64 j ∧ Hid (sameTo l m j) ∧ Hid (Below w.heap.size w wr)) (fun i _ => n1 - (intOf i).toNat)
    case atStart => exact ⟨0, Nat.zero_le _, rfl, fun k hk => by omega, Below.refl _ _⟩
    case round =>
      obtain ⟨j, hj, rfl, HJ, HG⟩ := hrel
      by_cases hlt : j < n1
      · obtain ⟨b1, o1, rfl⟩ := HA.out.lies (by omega)
        obtain ⟨b2, o2, rfl⟩ := HB.out.lies (by omega)
        obtain ⟨d1, d2⟩ := span_cells (HA.out.later HG.out) j hlt
        obtain ⟨e1, e2⟩ := span_cells (HB.out.later HG.out) j hlt
        have hne : spAt l j ≠ spAt m j → R = false := fun h => by
          rw [← HR.out, decide_eq_false_iff_not]
          intro e
          exact h (by rw [e])
        have heq : spAt l j = spAt m j → Hid (sameTo l m (j + 1)) := fun h k hk => by
          by_cases e : k = j
          · rw [e]; exact h
          · exact HJ.out k (by omega)
        obtain ⟨⟨f1, t1⟩, HF1⟩ := named (spAt l j)
        obtain ⟨⟨f2, t2⟩, HF2⟩ := named (spAt m j)
        rw [HF1.out] at d1 d2 hne heq
        rw [HF2.out] at e1 e2 hne heq
        have HNE := Lib.hid hne
        have HEQ := Lib.hid heq
        clear hne heq
        by_cases hf : f1 = f2
        · subst hf
          by_cases ht : t1 = t2
          · subst ht
            have HJ2 := HEQ.out rfl
            go_wp2
            go_region
            go_wp2
            go_roundw
            case rel => exact ⟨j + 1, by omega, by go_num, HJ2, HG.out.drew⟩
            case measure => simp [intOf]; omega
          · have hr : R = false := HNE.out fun e => ht (congrArg Prod.snd e)
            subst hr
            go_wp2
            go_region
            go_wp2
            go_ret
            exact ⟨rfl, HG.out.drew⟩
        · have hr : R = false := HNE.out fun e => hf (congrArg Prod.fst e)
          subst hr
          go_wp2
          go_region
          go_wp2
          go_ret
          exact ⟨rfl, HG.out.drew⟩
      · obtain rfl : j = n1 := by omega
        have hr : R = true := by rw [← HR.out, decide_eq_true_iff]; exact same_all (by rw [HL1.out, HL2.out]) (by rw [HL1.out]; exact HJ.out)
        subst hr
        go_wp2
        go_ret
        exact ⟨rfl, HG.out⟩
  · have hR : decide (l = m) = false := by
      rw [decide_eq_false_iff_not]
      intro e
      exact hn (by rw [← hA.1, ← hB.1, e])
    rw [hR]
    clear hA hB
    go_enter Try.func14, Try.ntmps14
    go_wp2
    go_ret
    exact ⟨rfl, Below.refl _ _⟩
end Go.Proofs.Ytdnkldcmefcmbaa
