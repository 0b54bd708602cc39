/-
  A loop over the spans of a list, as one law: what is owed of the loop's body alone; blocks of cells under a name. Conditions: the slice reads as spans, no more than 100000 of them.
-/
import Derived.Test.YtipljkegmhclkaaB4
import Derived.RangeFuncBound
namespace Go.Proofs.Ytipljkegmhclkaa
open Go.RowKit Go.Shelf
attribute [local go_sem] Oper.semAt_some

theorem spans_stops (F : Fence) (hFw : Hid (F = Fence.wide)) (n : Nat) (h1 : 1 ≤ n) (B n₀ : Nat) (a : Option Addr) (len cap : Nat) (L : List Sp) (w : World) (hlen : len ≤ 100000)
    (hB : w.cell? ⟨B, 0, none⟩ = some (.slice a len cap)) (hS : Spans w a len L) (hn₀ : n₀ ≤ w.heap.size) (hlow : 0 < len → ∀ b off, a = some ⟨b, off, none⟩ → b < n₀) :
    SeqStopsK F n Try.prog 59 #[.pointer (some ⟨B, 0, none⟩)] vspArg (Below n₀) (fun ys => vals ys = norm L) (fun pre => vals pre <+: norm L) len w := fun l J Jx W hW hJ _ hY h0 => by
  obtain ⟨v, hv⟩ := right_vals (norm L) (norm_right L) (by omega)
  exact spans1_in F hFw n h1 l B n₀ a len cap L v hv hlen J Jx hY W hJ ((hW.cell (p := ⟨B, 0, none⟩) (block_lt_of_cell hB)).trans hB) (hS.later hW) (Nat.le_trans hn₀ hW.size) hlow h0

theorem vals_snoc (pre : List VSp) (x : VSp) : vals (pre ++ [x]) = vals pre ++ [x.1] := by simp [vals]
/-- 'for x := range spans(l) { .. }'. -/
theorem range_spans {g : Operand} {p : Tmp} {assign body : Code} {Q : Exit → Act → World → Prop} {a : Act} {w : World} (B n₀ : Nat) (aa : Option Addr) (len cap : Nat) (L : List Sp)
    (hg : a.eval g = .func (.func 59) #[] #[.pointer (some ⟨B, 0, none⟩)]) (hlen : len ≤ 100000)
    (hB : w.cell? ⟨B, 0, none⟩ = some (.slice aa len cap)) (hS : Spans w aa len L) (hn₀ : n₀ ≤ w.heap.size) (hlow : 0 < len → ∀ b off, aa = some ⟨b, off, none⟩ → b < n₀)
    (I : List Sp → World → Prop) (Ix : Code → List Sp → World → Prop) (hI : OwnFrom w.heap.size I) (hIx : ∀ c, OwnFrom w.heap.size (Ix c)) (h0 : I [] w) (T : Int → Int → Nat → Array Value)
    (N : Nat → World → Prop) (hN : ∀ Bx, OwnFrom w.heap.size (fun (_ : Unit) W => N Bx W)) (hNew : ∀ pre W o, I pre W → w.heap.size ≤ W.heap.size → N W.heap.size (W.alloc o))
    (hassign : ∀ (F : Fence) (l : Nat) (f t : Int) (W : World) (K : Act → World → Prop), Hid (F = Fence.wide) → F.round = none → K { tmps := T f t W.heap.size, defers := [] } (W.alloc (.cells #[.int .i64 f, .int .i64 t] 40)) →
      assign.wpIn (F.inRound l) 1 Try.prog (Exit.then K (fun _ _ _ => False)) { tmps := a.tmps.setIfInBounds p (.agg #[.int .i64 f, .int .i64 t]), defers := [] } W)
    (hbody : ∀ (F : Fence) (l : Nat) (pre : List Sp) (f t : Int) (Bx : Nat) (W : World), Hid (F = Fence.wide) → F.round = none → w.heap.size ≤ Bx → Blk W Bx 40 #[.int .i64 f, .int .i64 t] → N Bx W → I pre W → pre.length < len →
      0 ≤ f → f < t → t ≤ 1073741824 → Hid (∀ x ∈ pre, 0 ≤ x.1 ∧ x.1 < x.2 ∧ x.2 ≤ 1073741824) →
      body.wpIn (F.inRound l) 1 Try.prog (ownPostG w.heap.size (Below n₀) I Ix (pre ++ [(f, t)]) W) { tmps := T f t Bx, defers := [] } W)
    (hdone : ∀ (D : Nat) (W : World), w.heap.size ≤ D → I (norm L) W → W.heap[D]? = some (.deferred (some [])) → Q .normal { a with defers := { target := .collected D, args := #[] } :: a.defers } W)
    (hstop : ∀ (D : Nat) (c : Code) (pre : List Sp) (W : World), w.heap.size ≤ D → pre <+: norm L → Ix c pre W → W.heap[D]? = some (.deferred (some [])) → c.wp Try.prog Q { a with defers := { target := .collected D, args := #[] } :: a.defers } W) :
    (Code.rangeFunc g #[p] assign body).wp Try.prog Q a w := by
  refine (wpIn_wide (n := 3)).1 ?_
  refine wpIn_rangeFunc_ownH (n := 3) rfl (by omega) hg trivial (enters_of Try.func59 (by kernel_rfl) rfl)
    (spans_stops Fence.wide rfl 2 (by omega) B n₀ aa len cap L w hlen hB hS hn₀ hlow) belowK_t (belowK_b hn₀) (Below.refl _ _) (fun _ => rfl)
    (fun pre W => I (vals pre) W ∧ w.heap.size ≤ W.heap.size) (fun c pre W => Ix c (vals pre) W) (OwnFrom.and (fun s W W' row hs hg hr => hI (vals s) W W' row hs hg hr) (fun s W W' row hs hg _ => Nat.le_trans hs hg.size)) (fun c s W W' row hs hg hr => hIx c (vals s) W W' row hs hg hr) ⟨h0, Nat.le_refl _⟩
    (fun x a' W => ∃ Bx, w.heap.size ≤ Bx ∧ Blk W Bx 40 #[.int .i64 x.1.1, .int .i64 x.1.2] ∧ N Bx W ∧ a' = { tmps := T x.1.1 x.1.2 Bx, defers := [] }) ?own ?assign ?body ?done ?stop
  case own =>
    rintro x a' u X Y row ⟨Bx, h1, h2, hn, h3⟩ hg' hr
    exact ⟨Bx, h1, h2.kept hg' (fun e' => by obtain ⟨_, o, ho, hc⟩ := hr Bx e'.symm; rw [show X.heap[Bx]? = _ from h2] at ho; cases ho; cases hc), hN Bx () X Y row hn hg' hr, h3⟩
  case assign =>
    intro l pre x W K hi hK
    have e : ((#[p] : Array Tmp).zip (vspArg x)).foldl (fun t (p, v) => t.setIfInBounds p v) a.tmps = a.tmps.setIfInBounds p (.agg #[.int .i64 x.1.1, .int .i64 x.1.2]) := by simp [vspArg]
    rw [e]
    exact hassign Fence.wide l x.1.1 x.1.2 W K rfl rfl (hK _ _ ((KeepsOthers.alloc _ _).from _) ((Below.refl _ _).alloc (Nat.le_trans hn₀ hi.2) _) ⟨hI.alloc _ hi.1, by rw [World.size_alloc]; omega⟩ ⟨_, hi.2, Blk.new _ _ _, hNew _ _ _ hi.1 hi.2, rfl⟩)
  case body =>
    rintro l pre x a' W _ _ hi ⟨Bx, h1, h2, hn, rfl⟩ hl
    refine wpIn_mono (hbody Fence.wide l (vals pre) x.1.1 x.1.2 Bx W rfl rfl h1 h2 hn hi.1 (by rw [vals, List.length_map]; exact hl) x.2.1 x.2.2.1 x.2.2.2 (fun y hy => by obtain ⟨z, _, rfl⟩ := List.mem_map.1 hy; exact z.2)) ?_
    have ev : vals pre ++ [(x.1.1, x.1.2)] = vals (pre ++ [x]) := (vals_snoc pre x).symm
    rw [ev]
    rintro e a3 W3 hp
    cases e with
    | normal => exact ⟨hp.1, hp.2.1, hp.2.2, Nat.le_trans hi.2 hp.1.size⟩
    | ret => exact hp
    | exit id => exact hp
    | goto t => exact hp
    | panic ch => exact hp
    | outgrown => exact hp
  case done =>
    intro D xs W h1 h2 h3 h4
    rw [h2] at h3
    exact hdone D W h1 h3.1 h4
  case stop =>
    intro D c pre W h1 h2 h3 h4
    exact wpIn_wide.2 (hstop D c (vals pre) W h1 h2 h3 h4)
end Go.Proofs.Ytipljkegmhclkaa
