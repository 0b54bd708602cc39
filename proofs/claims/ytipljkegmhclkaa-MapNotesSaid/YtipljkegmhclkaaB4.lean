/-
  The iterator over the spans of a list (package span): what it hands to whatever loop. Conditions: the slice reads as spans, no more than 100000 of them.
-/
import Derived.Test.YtipljkegmhclkaaA4
import Derived.Test.YtipljkegmhclkaaBl
import Derived.RangeFuncNested
import Derived.RangeFuncLeaves
import Derived.Shelf.Abstract
import Derived.OwnWalkIn
import Derived.TacticsInMore
import Derived.LoopNIn
import Derived.LoopIn
namespace Go.Proofs.Ytipljkegmhclkaa
open Go.RowKit Go.Shelf
attribute [local go_sem] Oper.semAt_some

/-- A span that may stand in a list. -/
abbrev VSp := { x : Sp // 0 ≤ x.1 ∧ x.1 < x.2 ∧ x.2 ≤ 1073741824 }
abbrev vals (l : List VSp) : List Sp := l.map (·.1)
def vspArg (x : VSp) : Array Value := #[.agg #[.int .i64 x.1.1, .int .i64 x.1.2]]
/-- A right list as valid spans. -/
theorem right_vals : ∀ {lo : Int} (l : List Sp), Rt lo l → -1 ≤ lo → ∃ v : List VSp, vals v = l
  | _, [], _, _ => ⟨[], rfl⟩
  | lo, x :: r, h, hlo => by
    have h1 := h.1
    have h2 := h.2.1
    have h3 := h.2.2.1
    obtain ⟨v, hv⟩ := right_vals r h.2.2.2 (by omega)
    exact ⟨⟨x, by omega, h2, h3⟩ :: v, by simp [vals, hv]⟩

theorem spans_any (a : Option Addr) (len cap : Nat) (w : World) :
    Calls Try.prog 54 #[.slice a len cap] w fun e w' => e = .returned (.func (.func 59) #[] #[.pointer (some ⟨w.heap.size, 0, none⟩)]) ∧ w' = w.alloc (.cells #[.slice a len cap] 41) := by
  go_enter Try.func54, Try.ntmps54
  go_wp2
  go_ret
  exact ⟨rfl, rfl⟩

/-- What is shown of whatever machine is shown within the widest fence. -/
theorem callsF {F : Fence} {n f : Nat} {args : Array Value} {w : World} {R : Ending → World → Prop} (h : F = Fence.wide) (hc : Calls Try.prog f args w R) : CallsIn F n Try.prog f args w R := by
  subst h
  exact callsIn_wide.2 hc
theorem wide_fn {F : Fence} (h : F = Fence.wide) (f : Nat) : F.fn f := by
  subst h
  trivial

set_option maxRecDepth 100000 in
set_option maxHeartbeats 2000000 in
theorem spans1_in (F : Fence) (hFw : Hid (F = Fence.wide)) (n : Nat) (h1 : 1 ≤ n) (l B n₀ : Nat) (a : Option Addr) (len cap : Nat) (L : List Sp) (v : List VSp) (hv : vals v = norm L) (hlen : len ≤ 100000) (J Jx : List VSp → World → Prop)
    (hY : ∀ pre x W, J pre W → pre.length < len → YieldAt F (n - 1) Try.prog l (vspArg x) W fun e W' =>
      (e = .returned (.bool true) ∧ J (pre ++ [x]) W' ∧ Below n₀ W W') ∨ (e = .returned (.bool false) ∧ Jx (pre ++ [x]) W'))
    (W : World) (hJ : AbidesFrom W.heap.size J) (hBs : W.cell? ⟨B, 0, none⟩ = some (.slice a len cap)) (hS : Spans W a len L) (hn₀ : n₀ ≤ W.heap.size) (hlow : 0 < len → ∀ b off, a = some ⟨b, off, none⟩ → b < n₀) (h0 : J [] W) :
    CallsIn F n Try.prog 59 #[.func (.yield l) #[] #[], .pointer (some ⟨B, 0, none⟩)] W fun e W' => (∃ v, e = .returned v) ∧
      ((∃ ys, vals ys = norm L ∧ J ys W') ∨ (∃ pre, vals pre <+: norm L ∧ Jx pre W')) := by
  have HL := Lib.hid hS.1
  have HS := Lib.hid hS
  have HV := Lib.hid hv
  have hBlt : B < W.heap.size := block_lt_of_cell hBs
  have HR := Lib.hid (fun R hR => spanRight_is a len cap L W hS hlen R hR)
  clear hS hv
  have hro : F.round = none := by rw [hFw.out]; rfl
  have hf1 := wide_fn hFw.out 39
  have hf2 := wide_fn hFw.out 59
  obtain ⟨R, HRR⟩ := named (decide (Rt (-1) L))
  have hcall := HR.out R HRR.out
  cases R with
  | false =>
    have hN : norm L = [] := if_neg (by have := HRR.out; rwa [decide_eq_false_iff_not] at this)
    refine callsIn_of_wp Try.func59 rfl hf2 ?_ hro
    simp only [Try.ntmps59, List.size_toArray, List.length_cons, List.length_nil, Nat.reduceAdd, Nat.reduceSub, Array.replicate_succ, Array.replicate_zero, List.push_toArray, List.append_toArray, List.nil_append, List.cons_append]
    gi_wp2_with (gi_at_call 39; refine (callsF hFw.out hcall).mono ?_; rintro e w1 ⟨rfl, hb⟩)

    refine bodyPost_ret (results_none rfl _ _ _) rfl ?_
    exact ⟨⟨_, rfl⟩, .inl ⟨[], by rw [hN]; rfl, hJ [] W w1 none h0 (grown_of_below hb) (fun r e => by cases e)⟩⟩
  | true =>
    have hN : norm L = L := norm_of (by have := HRR.out; rwa [decide_eq_true_iff] at this)
    rw [hN] at HV ⊢
    have HW := Lib.hid hBs
    refine callsIn_of_wp Try.func59 rfl hf2 ?_ hro
    simp only [Try.ntmps59, List.size_toArray, List.length_cons, List.length_nil, Nat.reduceAdd, Nat.reduceSub, Array.replicate_succ, Array.replicate_zero, List.push_toArray, List.append_toArray, List.nil_append, List.cons_append]
    gi_wp2_with (gi_at_call 39; refine (callsF hFw.out hcall).mono ?_; rintro e w1 ⟨rfl, hb⟩; have hBs1 := (hb.cell (p := ⟨B, 0, none⟩) hBlt).trans HW.out)
    have HG := Lib.hid hb
    have HJ := Lib.hid (hJ [] W w1 none h0 (grown_of_below hb) (fun r e => by cases e))
    clear hb h0 hcall
    gi_loopw [10] (fun i wr => ∃ k : Nat, k ≤ len ∧ i = .int .i64 k ∧ Hid (J (v.take k) wr) ∧ Hid (Below n₀ W wr))
      (fun i _ => len - (intOf i).toNat)
    case atStart => exact ⟨0, Nat.zero_le _, rfl, HJ.out, HG.out.mono hn₀⟩
    case round =>
      obtain ⟨k, hk, rfl, HJk, HGk⟩ := hrel
      by_cases hlt : k < len
      · obtain ⟨b, off, rfl⟩ := HS.out.lies (by omega)
        have hbn := hlow (by omega) b off rfl
        obtain ⟨c1, c2⟩ := span_cells HS.out k hlt
        have hvl : v.length = len := by have := congrArg List.length HV.out; rw [HL.out, List.length_map] at this; exact this
        obtain ⟨x, hx⟩ : ∃ x, v[k]? = some x := ⟨v[k]'(by omega), List.getElem?_eq_getElem (by omega)⟩
        have hsx : spAt L k = x.1 := by
          have h2 := spAt_some L k (by rw [HL.out]; exact hlt)
          rw [← HV.out, List.getElem?_map, hx] at h2
          rw [← HV.out]
          exact (Option.some.inj h2).symm
        have htk : v.take (k + 1) = v.take k ++ [x] := by rw [List.take_add_one, hx]; rfl
        rw [hsx] at c1 c2
        replace c1 := (HGk.out.cell (p := ⟨b, off + k * 2, none⟩) hbn).trans c1
        replace c2 := (HGk.out.cell (p := ⟨b, off + k * 2 + 1, none⟩) hbn).trans c2
        have hJa := hJ (v.take k) wr (wr.alloc (.cells #[.int .i64 x.1.1, .int .i64 x.1.2] 40)) none HJk.out (World.grownBy_alloc _ _ none) (fun r e => by cases e)
        obtain ⟨fn, tmps, assign, body, hy, hR⟩ := hY (v.take k) x _ hJa (by rw [List.length_take]; omega)
        have HTK := Lib.hid htk
        have HGa := Lib.hid (HGk.out.alloc (Nat.le_trans hn₀ HGk.out.size) (.cells #[.int .i64 x.1.1, .int .i64 x.1.2] 40))
        have HX := Lib.hid hx
        unfold vspArg at hy
        clear hJa htk hsx hx hvl
        gi_wp2
        refine hR.mono ?_
        rintro e W3 (⟨rfl, hJ3, hk3⟩ | ⟨rfl, hJx3⟩)
        · have HJ3 := Lib.hid hJ3
          have HK3 := Lib.hid hk3
          clear hJ3 hk3
          gi_wp2
          go_roundw
          case rel => exact ⟨k + 1, by omega, by go_num, by rw [HTK.out]; exact HJ3.out, HGa.out.trans HK3.out⟩
          case measure => simp [intOf]; omega
        · gi_wp2
          refine bodyPost_ret (results_none rfl _ _ _) rfl ?_
          exact ⟨⟨_, rfl⟩, .inr ⟨_, by rw [← HTK.out, ← HV.out, vals, List.map_take]; exact List.take_prefix _ _, hJx3⟩⟩
      · obtain rfl : k = len := by omega
        gi_wp2
        go_end0
        exact ⟨⟨_, rfl⟩, .inl ⟨_, HV.out, by have := HJk.out; rwa [List.take_of_length_le (by have := congrArg List.length HV.out; rw [HL.out, List.length_map] at this; omega)] at this⟩⟩
end Go.Proofs.Ytipljkegmhclkaa
