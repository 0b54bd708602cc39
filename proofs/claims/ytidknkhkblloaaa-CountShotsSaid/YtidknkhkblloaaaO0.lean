/-
  What the project's own addSteps and Of answer (package count). Conditions: the meta reads and is right.
-/
import Derived.Test.YtidknkhkblloaaaJ0
import Derived.RegionTactic
import Derived.BigRegion
import Derived.Laws.MakeOwn
namespace Go.Proofs.Ytidknkhkblloaaa
open Go.RowKit Go.Shelf
attribute [local go_sem] Oper.semAt_some
set_option linter.unusedVariables false

/-- A row of n ints of one's own. -/
def IRow (w : World) (b n : Nat) (f : Nat → Int) : Prop := ∃ cs : Array Value, Blk w b 3 cs ∧ cs.size = n ∧ ∀ j, j < n → cs[j]? = some (.int .i64 (f j))
theorem IRow.lt {w : World} {b n : Nat} {f : Nat → Int} (h : IRow w b n f) : b < w.heap.size := by
  obtain ⟨cs, h1, _⟩ := h
  exact h1.lt
theorem IRow.later {w w' : World} {b n : Nat} {f : Nat → Int} (h : IRow w b n f) (hb : Below w.heap.size w w') : IRow w' b n f := by
  obtain ⟨cs, h1, h2⟩ := h
  exact ⟨cs, h1.later hb, h2⟩
theorem IRow.kept {w w' : World} {b n : Nat} {f : Nat → Int} {row : Option Nat} (h : IRow w b n f) (hg : w.grownBy w' row) (hne : some b ≠ row) : IRow w' b n f := by
  obtain ⟨cs, h1, h2⟩ := h
  exact ⟨cs, h1.kept hg hne, h2⟩
theorem IRow.alloc {w : World} {b n : Nat} {f : Nat → Int} (h : IRow w b n f) (o : Obj) : IRow (w.alloc o) b n f := h.kept (World.grownBy_alloc w o none) (by simp)
theorem IRow.cell {w : World} {b n : Nat} {f : Nat → Int} (h : IRow w b n f) {j : Nat} (hj : j < n) : w.cell? ⟨b, j, none⟩ = some (.int .i64 (f j)) := by
  obtain ⟨cs, h1, _, h3⟩ := h
  rw [h1.cell]
  exact h3 j hj
theorem IRow.free {w : World} {b n : Nat} {f : Nat → Int} (h : IRow w b n f) (j : Nat) : w.frozen? ⟨b, j, none⟩ = false := by
  obtain ⟨cs, h1, _⟩ := h
  exact h1.free j
theorem IRow.set {w : World} {b n : Nat} {f : Nat → Int} (h : IRow w b n f) {j : Nat} (hj : j < n) (x : Int) : IRow (w.setCell ⟨b, j, none⟩ (.int .i64 x)) b n (fun i => if i = j then x else f i) := by
  obtain ⟨cs, h1, h2, h3⟩ := h
  refine ⟨_, h1.set j _, by rw [Array.size_setIfInBounds]; exact h2, fun i hi => ?_⟩
  rw [Array.getElem?_setIfInBounds]
  dsimp only
  by_cases e : j = i
  · subst e
    rw [if_pos rfl, if_pos (by omega), if_pos rfl]
  · rw [if_neg e, if_neg (show ¬ i = j by omega)]
    exact h3 i hi
theorem IRow.congr {w : World} {b n : Nat} {f g : Nat → Int} (h : IRow w b n f) (e : ∀ j, j < n → f j = g j) : IRow w b n g := by
  obtain ⟨cs, h1, h2, h3⟩ := h
  exact ⟨cs, h1, h2, fun j hj => by rw [h3 j hj, e j hj]⟩
theorem IRow.ownI {β : Type} (B b n : Nat) (f : β → Nat → Int) : OwnFrom B (fun s W => IRow W b n (f s)) := fun s X Y row hs hg hr => by
  obtain ⟨cs, h1, h2⟩ := hs
  refine ⟨cs, h1.kept hg fun e' => ?_, h2⟩
  obtain ⟨_, o, ho, hf⟩ := hr b e'.symm
  rw [show X.heap[b]? = _ from h1] at ho
  cases ho
  cases hf
theorem info_i : (Try.prog.info? 3).map (fun i => (i.zero, i.size, i.bytes)) = some (some (.int .i64 0), 1, 8) := by kernel_rfl
def zerosI (n : Nat) : Array Value := madeCells #[.int .i64 0] n
theorem make_i (n : Nat) (hn : n ≤ 100000) (w : World) : (Instr.makeSlice 27 (.int .i64 n) (.int .i64 n)).run Try.prog w = .ok (.slice (some ⟨w.heap.size, 0, none⟩) n n) (w.alloc (.cells (zerosI n) 3)) := by
  obtain ⟨i0, hi, hz0, hz1, hz2⟩ := info_parts info_i
  have := run_make (P := Try.prog) w 27 3 i0 (.int .i64 0) Try.underlying27 hi hz0 .i64 .i64 n n (by omega) (Int.le_refl _) (by rw [hz2]; omega) (by omega)
  rw [hz1, Int.toNat_natCast, Nat.mul_one] at this
  exact this
theorem IRow.made (w : World) (n : Nat) : IRow (w.alloc (.cells (zerosI n) 3)) w.heap.size n (fun _ => 0) := by
  refine ⟨_, Blk.new w _ _, size_madeCells _ _, fun j hj => ?_⟩
  have e : (zerosI n).toList = List.replicate n (.int .i64 0) := toList_madeCells_one _ _
  rw [← Array.getElem?_toList, e, List.getElem?_replicate, if_pos hj]
theorem run_max0 (P : Program) (ts : Array TypeId) (t : TypeId) (x y : Int) (w : World) : (Builtin.max_ ts t #[.int .i64 x, .int .i64 y]).run P w = .ok (.int .i64 (if x < y then y else x)) w := by
  simp [Builtin.max_, Builtin.max2]

set_option maxRecDepth 20000 in
set_option maxHeartbeats 1600000 in
theorem addSteps_any (w : World) (b n : Nat) (f : Nat → Int) (s c : Int) (h : IRow w b n f) (hf : ∀ j, -1000000000 ≤ f j ∧ f j ≤ 1000000000) (hn : n ≤ 65536) (hs : 0 ≤ s ∧ s ≤ 65536) (hc : 1 ≤ c ∧ c ≤ 65536) :
    Calls Try.prog 30 #[.slice (some ⟨b, 0, none⟩) n n, .int .i64 s, .int .i64 c] w fun e w' => (∃ v, e = .returned v) ∧ IRow w' b n (fun j => f j + stS (s, c) j) ∧ w.grownBy w' (some b) := by
  obtain ⟨S, rfl⟩ : ∃ S : Nat, s = S := ⟨s.toNat, by omega⟩
  obtain ⟨C, rfl⟩ : ∃ C : Nat, c = C := ⟨c.toNat, by omega⟩
  have HR := Lib.hid h
  have HF := Lib.hid hf
  have h1 : ¬ (C : Int) < 1 := by omega
  by_cases hsn : n ≤ S
  · have HC : Hid (IRow w b n (fun j => f j + stS ((S : Int), (C : Int)) j)) := h.congr fun j hj => by
      unfold stS
      dsimp only
      rw [if_neg (by omega), if_neg (by omega)]
      omega
    clear h hf
    go_enter Try.func30, Try.ntmps30
    go_wp2
    refine bodyPost_ret (results_none rfl _ _ _) rfl ?_
    exact ⟨⟨_, rfl⟩, HC.out, rfl, rfl, rfl, Nat.le_refl _, fun _ _ _ => rfl⟩
  · have hlt : S < n := by omega
    have hcS := h.cell hlt
    have hfS := h.free S
    have hmax : ∀ w : World, (Builtin.max_ #[3, 3] 3 #[.int .i64 S, .int .i64 0]).run Try.prog w = .ok (.int .i64 S) w := fun w => by rw [run_max0, if_neg (by omega)]
    have hbS := hf S
    have e1 : IntKind.i64.wrap (f S + 1) = f S + 1 := by rw [IntKind.wrap_i64] <;> omega
    have e1' : wrap64 (f S + 1) = f S + 1 := by unfold wrap64; omega
    have hb := h.lt
    have hset := h.set hlt (f S + 1)
    have e2 : IntKind.i64.wrap ((n : Int) - C) = (n : Int) - C := by rw [IntKind.wrap_i64] <;> omega
    obtain ⟨FS, HFS⟩ := named (f S)
    by_cases he : S + C < n
    · obtain ⟨E, HE⟩ := named (S + C)
      have e3 : IntKind.i64.wrap ((S : Int) + C) = (E : Int) := by rw [← HE.out, IntKind.wrap_i64] <;> omega
      have hEl : E < n := by rw [← HE.out]; exact he
      have hES : E ≠ S := by rw [← HE.out]; omega
      have hE0 : ¬ (E : Int) ≤ 0 := by rw [← HE.out]; omega
      have hc2 := hset.cell hEl
      have hf2 := hset.free E
      rw [if_neg hES] at hc2
      have hbE := hf E
      have e4 : IntKind.i64.wrap (f E - 1) = f E - 1 := by rw [IntKind.wrap_i64] <;> omega
      have HOUT : Hid (IRow ((w.setCell ⟨b, S, none⟩ (.int .i64 (f S + 1))).setCell ⟨b, E, none⟩ (.int .i64 (f E - 1))) b n (fun j => f j + stS ((S : Int), (C : Int)) j)) := (hset.set hEl (f E - 1)).congr fun j hj => by
        have := HE.out
        unfold stS
        dsimp only
        by_cases x1 : j = E
        · subst x1
          rw [if_pos rfl, if_neg (by omega), if_pos (by omega)]
          omega
        · rw [if_neg x1]
          by_cases x2 : j = S
          · subst x2
            rw [if_pos rfl, if_pos rfl, if_neg (by omega)]
            omega
          · rw [if_neg x2, if_neg (by omega), if_neg (by omega)]
            omega
      have HGR : Hid (∀ u v, w.grownBy ((w.setCell ⟨b, S, none⟩ u).setCell ⟨b, E, none⟩ v) (some b)) := fun u v => (grownBy_setCell4 _ _ _ _).trans (grownBy_setCell4 _ _ _ _)
      clear h hf hset
      go_enter Try.func30, Try.ntmps30
      go_wp2
      go_end0
      exact ⟨⟨_, rfl⟩, HOUT.out, HGR.out _ _⟩
    · have n1 : ¬ (S : Int) < (n : Int) - C := by omega
      have n2 : ¬ (n : Int) ≤ 0 := by omega
      have HOUT : Hid (IRow (w.setCell ⟨b, S, none⟩ (.int .i64 (f S + 1))) b n (fun j => f j + stS ((S : Int), (C : Int)) j)) := hset.congr fun j hj => by
        unfold stS
        dsimp only
        by_cases x2 : j = S
        · subst x2
          rw [if_pos rfl, if_pos rfl, if_neg (by omega)]
          omega
        · rw [if_neg x2, if_neg (by omega), if_neg (by omega)]
          omega
      clear h hf hset
      go_enter Try.func30, Try.ntmps30
      go_wp2
      go_end0
      exact ⟨⟨_, rfl⟩, HOUT.out, grownBy_setCell4 _ _ _ _⟩
theorem within0 (n a b : Int) {R : Bool} (h : decide (a ≤ n ∧ n ≤ b) = R) (w : World) : Calls Try.prog 29 #[.int .i64 n, .int .i64 a, .int .i64 b] w fun e w' => e = .returned (.bool R) ∧ w = w' := by
  by_cases h1 : a ≤ n
  · by_cases h2 : n ≤ b
    · obtain rfl : R = true := by rw [← h]; exact decide_eq_true ⟨h1, h2⟩
      clear h
      go_enter Try.func29, Try.ntmps29
      go_wp2
      go_ret
      exact ⟨rfl, rfl⟩
    · obtain rfl : R = false := by rw [← h]; exact decide_eq_false fun h => h2 h.2
      clear h
      go_enter Try.func29, Try.ntmps29
      go_wp2
      go_ret
      exact ⟨rfl, rfl⟩
  · obtain rfl : R = false := by rw [← h]; exact decide_eq_false fun h => h1 h.1
    clear h
    go_enter Try.func29, Try.ntmps29
    go_wp2
    go_ret
    exact ⟨rfl, rfl⟩
/-- A right meta's tables. -/
def RightX (T : Tb) (S : List Sh) : Prop := ∃ c, (∃ m, rightT T m c) ∧ ∀ d ∈ S, ∃ m, rightT (shT d) m c
theorem tab_ok {w : World} {a : Option Addr} {len cap : Nat} {T : Tb} (h : Tab w a len cap T) {m c : Int} (hr : rightT T m c) {sh : Int} (h1 : -1 ≤ sh) (h2 : sh < 1000) : TxOk w (sh, a, len, cap, T) :=
  ⟨h, right_lines hr h.lens.2.2.2 ⟨h1, h2⟩, by rw [← h.lens.1]; exact hr.2.2.2.1, h1, h2⟩
theorem shX_ok {w : World} {a : Option Addr} {len : Nat} {S : List Sh} (h : ShsR w a len S) (hr : ∀ d ∈ S, ∃ m c, rightT (shT d) m c) : ∀ n, n ≤ S.length → n ≤ 1000 → ∀ x ∈ shX S n, TxOk w x := fun n hn hn2 x hx => by
  unfold shX at hx
  obtain ⟨i, hi, rfl⟩ := List.mem_map.1 hx
  have hi' := List.mem_range.1 hi
  have hl := h.len
  obtain ⟨b, off, nm, sz, al, ll, cl, T, _, hSi, _, _, _, hT⟩ := h.at i (by omega)
  obtain ⟨m, c, hr'⟩ := hr _ (List.mem_of_getElem? hSi)
  have e : S.getD i default = (nm, sz, al, ll, cl, T) := by rw [List.getD_eq_getElem?_getD, hSi]; rfl
  rw [e]
  exact tab_ok hT hr' (by omega) (by omega)
theorem tabsX_ok {w : World} {a0 : Option Addr} {n0 c0 : Nat} {T : Tb} {sa : Option Addr} {sn : Nat} {S : List Sh} (hT : Tab w a0 n0 c0 T) (hS : ShsR w sa sn S) (hR : RightX T S) (hsn : sn ≤ 900) : ∀ x ∈ tabsX a0 n0 c0 T S, TxOk w x := fun x hx => by
  obtain ⟨c, ⟨m, h1⟩, h2⟩ := hR
  rcases List.mem_cons.1 hx with rfl | hx
  · exact tab_ok hT h1 (by omega) (by omega)
  · exact shX_ok hS (fun d hd => by obtain ⟨m, h⟩ := h2 d hd; exact ⟨m, c, h⟩) S.length (Nat.le_refl _) (by rw [hS.len]; omega) x hx
theorem lines_is {w : World} {a0 : Option Addr} {n0 c0 : Nat} {T : Tb} {S : List Sh} {v : List (VTx w)} (hv : v.map (·.1) = tabsX a0 n0 c0 T S) : linesOf v = allLines T (S.map shT) := by
  have e1 : linesOf v = (v.map (·.1)).flatMap fun x => tabLines x.1 x.2.2.2.2 := by
    unfold linesOf
    rw [List.flatMap_map]
  rw [e1, hv]
  unfold tabsX allLines shotsTo
  rw [List.flatMap_cons, List.length_map]
  congr 1
  unfold shX
  rw [List.flatMap_map]
  rw [List.flatMap_def, List.flatMap_def]
  congr 1
  refine List.map_congr_left fun i hi => ?_
  have hi' := List.mem_range.1 hi
  unfold tbNth
  have e1 : (S.map shT).getD i [] = shT S[i] := by rw [List.getD_eq_getElem?_getD, List.getElem?_map, List.getElem?_eq_getElem hi']; rfl
  have e2 : S.getD i default = S[i] := by rw [List.getD_eq_getElem?_getD, List.getElem?_eq_getElem hi']; rfl
  rw [e1, e2]
theorem lnOk_all {w : World} (v : List (VTx w)) : ∀ x ∈ linesOf v, LnOk x := fun x hx => by
  obtain ⟨t, ht, hx⟩ := List.mem_flatMap.1 hx
  exact t.2.2.1 x hx
end Go.Proofs.Ytidknkhkblloaaa
