/-
  slices.Index, Contains, Clone of pairs; the atomic number; remove (package index). Conditions: short rows.
-/
import Derived.Test.YtobnmdjpcmegiaaKe
import Derived.Test.YtobnmdjpcmegiaaKf
namespace Go.Proofs.Ytobnmdjpcmegiaa
open Go.RowKit
set_option linter.unusedVariables false

theorem below_dN (w : World) (k : Nat) : Below w.heap.size w (w.drewN k) := ⟨rfl, rfl, rfl, Nat.le_refl _, fun _ _ => rfl⟩
theorem pr_cells {w : World} {te : TypeId} {base b n c : Nat} {L : List Pr} (h : OwnG pvV te 6 w base (.slice (some ⟨b, 0, none⟩) n c) n L) (j : Nat) (r : Pr) (hj : L[j]? = some r) :
    w.cell? ⟨b, j * 6, none⟩ = some (.int .u64 r.1) ∧ w.cell? ⟨b, j * 6 + 1, none⟩ = some (.int .i64 r.2.1) ∧ w.cell? ⟨b, j * 6 + 2, none⟩ = some (.int .i64 r.2.2.1) ∧ w.cell? ⟨b, j * 6 + 3, none⟩ = some (.int .i64 r.2.2.2.1) ∧ w.cell? ⟨b, j * 6 + 4, none⟩ = some (.int .i64 r.2.2.2.2.1) ∧ w.cell? ⟨b, j * 6 + 5, none⟩ = some (.int .u32 r.2.2.2.2.2) := by
  have h1 := pr_range h j r hj
  exact ⟨h1 0 _ rfl, h1 1 _ rfl, h1 2 _ rfl, h1 3 _ rfl, h1 4 _ rfl, h1 5 _ rfl⟩
theorem cells6 {W : World} {X : Nat} {t : TypeId} {a b c d e f : Value} (h : Blk W X t #[a, b, c, d, e, f]) : W.cell? ⟨X, 0, none⟩ = some a ∧ W.cell? ⟨X, 1, none⟩ = some b ∧ W.cell? ⟨X, 2, none⟩ = some c ∧ W.cell? ⟨X, 3, none⟩ = some d ∧ W.cell? ⟨X, 4, none⟩ = some e ∧ W.cell? ⟨X, 5, none⟩ = some f := by
  rw [h.cell, h.cell, h.cell, h.cell, h.cell, h.cell]
  exact ⟨rfl, rfl, rfl, rfl, rfl, rfl⟩
theorem cells5 {W : World} {X : Nat} {t : TypeId} {a b c d e : Value} (h : Blk W X t #[a, b, c, d, e]) : W.cell? ⟨X, 0, none⟩ = some a ∧ W.cell? ⟨X, 1, none⟩ = some b ∧ W.cell? ⟨X, 2, none⟩ = some c ∧ W.cell? ⟨X, 3, none⟩ = some d ∧ W.cell? ⟨X, 4, none⟩ = some e := by
  rw [h.cell, h.cell, h.cell, h.cell, h.cell]
  exact ⟨rfl, rfl, rfl, rfl, rfl⟩
theorem OwnG.later {α : Type} {cv : α → List Value} {e : TypeId} {sz : Nat} {w w' : World} {base n : Nat} {v : Value} {l : List α} (h : OwnG cv e sz w base v n l) (hb : Below w.heap.size w w') : OwnG cv e sz w' base v n l := h.kept' (grown_of_below hb) (fun k _ e => by cases e)
theorem OwnG.at0 {α : Type} {cv : α → List Value} {e : TypeId} {sz : Nat} {w : World} {base n c n' : Nat} {a : Option Addr} {l : List α} (h : OwnG cv e sz w base (.slice a n' c) n l) (h0 : 0 < n) : ∃ b, a = some ⟨b, 0, Option.none⟩ := by
  rcases h.1.2 with ⟨e, e'⟩ | ⟨g, cap, cur, e, _⟩
  · omega
  · cases e
    exact ⟨_, rfl⟩
/-- slices.Index of pairs. -/
def Idx1Q (L : List Pr) (y : Pr) (w : World) (e : Ending) (w' : World) : Prop := (∃ i : Int, e = .returned (.int .i64 i) ∧ (0 ≤ i ↔ y ∈ L)) ∧ Below w.heap.size w w'
set_option maxHeartbeats 1600000 in
theorem index_any {w : World} {v : Value} {n : Nat} {L : List Pr} (hown : OwnG pvV 59 6 w 0 v n L) (hn : n ≤ 1000) (f k s m z g : Int) :
    Calls Try.prog 29 #[v, .agg #[.int .u64 f, .int .i64 k, .int .i64 s, .int .i64 m, .int .i64 z, .int .u32 g]] w (Idx1Q L (f, k, s, m, z, g) w) := by
  obtain ⟨a, c, rfl, _, hnil, hcap⟩ := hown.shape pr_rowed
  have hL : L.length = n := hown.2.1
  have HO := Lib.hid hown
  have hg := guard_pr
  obtain ⟨N, hN⟩ := named w.heap.size
  have HB0 : Hid (Blk (w.alloc (.cells #[.int .u64 f, .int .i64 k, .int .i64 s, .int .i64 m, .int .i64 z, .int .u32 g] 59)) N 59 #[.int .u64 f, .int .i64 k, .int .i64 s, .int .i64 m, .int .i64 z, .int .u32 g]) := by rw [← hN.out]; exact Blk.new w _ _
  have hNN := hN.out
  clear hown
  go_enter Try.func29, Try.ntmps29
  go_wp2
  go_loopw [5, 8] (fun _ i wr => ∃ j : Nat, j ≤ n ∧ i = .int .i64 j ∧ Hid (Below w.heap.size w wr) ∧ Hid (Blk wr N 59 #[.int .u64 f, .int .i64 k, .int .i64 s, .int .i64 m, .int .i64 z, .int .u32 g]) ∧ Hid (∀ x ∈ L.take j, (f, k, s, m, z, g) ≠ x)) (fun _ i _ => n - (intOf i).toNat)
  case atStart => exact ⟨0, Nat.zero_le _, rfl, (Below.refl _ _).alloc (Nat.le_refl _) _, HB0.out, fun x hx => by simp at hx⟩
  case round =>
    obtain ⟨j, hj, rfl, HB, HX, HA⟩ := hrel
    by_cases hlt : j < n
    · obtain ⟨r, hr⟩ : ∃ r, L[j]? = some r := ⟨_, List.getElem?_eq_getElem (by omega)⟩
      obtain ⟨b, rfl⟩ := HO.out.at0 (by omega)
      have HRR := Lib.hid hr
      obtain ⟨f', k', s', m', z', g'⟩ := r
      obtain ⟨e0, e1, e2, e3, e4, e5⟩ := pr_cells (HO.out.later HB.out) j _ hr
      obtain ⟨d0, d1, d2, d3, d4, d5⟩ := cells6 HX.out
      dsimp only at e0 e1 e2 e3 e4 e5
      have hq : ∀ w : World, (binOp .eql 59 (.agg #[.int .u64 f, .int .i64 k, .int .i64 s, .int .i64 m, .int .i64 z, .int .u32 g]) (.agg #[.int .u64 f', .int .i64 k', .int .i64 s', .int .i64 m', .int .i64 z', .int .u32 g'])).run Try.prog w = .ok (.bool (decide (((f, k, s, m, z, g) : Pr) = (f', k', s', m', z', g')))) w := fun w => eql_pr (f, k, s, m, z, g) (f', k', s', m', z', g') w
      clear hr
      by_cases hp : ((f, k, s, m, z, g) : Pr) = (f', k', s', m', z', g')
      · rw [decide_eq_true hp] at hq
        have HP := Lib.hid hp
        clear hp
        go_wp2
        go_quiet (fail)
        go_wp2
        go_ret
        exact ⟨⟨j, rfl, fun _ => HP.out ▸ List.mem_of_getElem? HRR.out, fun _ => Int.natCast_nonneg _⟩, HB.out.trans ((below_dN _ _).mono HB.out.size)⟩
      · rw [decide_eq_false hp] at hq
        have HP := Lib.hid hp
        clear hp
        go_wp2
        go_quiet (fail)
        go_wp2
        go_roundw
        case rel =>
          refine ⟨j + 1, by omega, by go_num, HB.out.trans ((below_dN _ _).mono HB.out.size), HX.out.later (below_dN _ _), fun x hx => ?_⟩
          rw [List.take_add_one, HRR.out] at hx
          rcases List.mem_append.1 hx with hx | hx
          · exact HA.out x hx
          · simp at hx
            rw [hx]
            exact HP.out
        case measure => simp [intOf]; omega
    · obtain rfl : j = n := by omega
      go_wp2
      go_ret
      refine ⟨⟨-1, rfl, fun h => by omega, fun hx => ?_⟩, HB.out⟩
      have := HA.out (f, k, s, m, z, g) (by rw [List.take_of_length_le (by omega)]; exact hx)
      exact absurd rfl this
theorem contains_any {w : World} {v : Value} {n : Nat} {L : List Pr} (hown : OwnG pvV 59 6 w 0 v n L) (hn : n ≤ 1000) (f k s m z g : Int) :
    Calls Try.prog 22 #[v, .agg #[.int .u64 f, .int .i64 k, .int .i64 s, .int .i64 m, .int .i64 z, .int .u32 g]] w fun e w' => e = .returned (.bool (decide ((f, k, s, m, z, g) ∈ L))) ∧ Below w.heap.size w w' := by
  have HI := Lib.hid (index_any (hown.later ((Below.refl _ _).alloc (Nat.le_refl _) (.cells #[.int .u64 f, .int .i64 k, .int .i64 s, .int .i64 m, .int .i64 z, .int .u32 g] 59))) hn f k s m z g)
  clear hown
  go_enter Try.func22, Try.ntmps22
  go_wp2_with (go_at_call 29; refine HI.out.mono ?_; rintro e w' ⟨⟨i, rfl, hi⟩, hb⟩; have HQ := Lib.hid hi; have HB := Lib.hid hb; clear hi hb)
  go_ret
  refine ⟨?_, ((Below.refl _ _).alloc (Nat.le_refl _) _).trans (HB.out.mono (by simp))⟩
  have : decide (0 ≤ i) = decide ((f, k, s, m, z, g) ∈ L) := by
    rw [Bool.eq_iff_iff]
    simpa using HQ.out
  simp [this]
set_option maxRecDepth 100000 in
/-- slices.Clone of pairs. -/
theorem pclone_any (w : World) (a : Option Addr) (n c : Nat) (l : List Pr) (hB : Reads pvV w a n l) (hnil : a = none → c = 0) (hn : n ≤ 1000000) :
    Calls Try.prog 27 #[.slice a n c] w fun e w' => ∃ a' c', e = .returned (.slice a' n c') ∧ OwnG pvV 59 6 w' w.heap.size (.slice a' n c') n l ∧ Below w.heap.size w w' := by
  have HB := Lib.hid hB
  have q22 : ∀ (w : World) (a : Option Addr) (n c n' c' : Nat), (binOp .eql 47 (.slice a n c) (.slice none n' c')).run Try.prog w = .ok (.bool a.isNone) w := fun w a n c n' c' => Lib.run_eql_slice_nil w _ _ a n c n' c' Try.underlying47
  obtain ⟨N, hN⟩ := named w.heap.size
  rw [hN.out]
  cases a with
  | none =>
    obtain rfl := hnil rfl
    have h0 : n = 0 := by
      rcases hB.2.2 with h | ⟨b, off, e, _⟩
      · exact h
      · cases e
    subst h0
    obtain rfl : l = [] := List.eq_nil_of_length_eq_zero hB.1
    clear hB
    go_enter Try.func27, Try.ntmps27
    go_wp2
    go_ret
    exact ⟨none, 0, rfl, OwnG.none _ _ _ _ _, Below.refl _ _⟩
  | some ad =>
    clear hB
    go_enter Try.func27, Try.ntmps27
    go_wp2_with (at_builtin; refine append_gg pr_rowed rfl (.tmp 5) (.tmp 6) rfl N (.slice (some ⟨N, 0, none⟩) 0 0) 0 [] (by rw [← hN.out]; rfl) (by rw [← hN.out]; exact OwnG.made _ _ _ w w.heap.size (Nat.le_refl _)) (some ad) n c l rfl hnil (HB.out.later ((Below.refl _ w).alloc (Nat.le_refl _) _)) (by omega) (by rw [World.size_alloc]; have := hN.out; omega) ?_; intro a' c' w' h1 hb0 h2)
    go_wp2
    go_ret
    rw [Nat.zero_add, List.nil_append] at h1
    exact ⟨a', c', rfl, h1, hN.out ▸ (((Below.refl w.heap.size w).alloc (Nat.le_refl _) _).grown h2 (by rw [World.size_alloc]; omega) fun k e => by have := hN.out; have : N = k := (by simpa [Value.ownBlock] using e); omega)⟩
/-- Add of one. -/
theorem atomic_any (w : World) (B : Nat) (x : Int) (hc : w.cell? ⟨B, 1, none⟩ = some (.int .u64 x)) (hz : w.frozen? ⟨B, 1, none⟩ = false) :
    Calls Try.prog 25 #[.pointer (some ⟨B, 1, none⟩), .int .u64 1] w fun e w' => ∃ y : Int, e = .returned (.int .u64 y) ∧ w' = w.setCell ⟨B, 1, none⟩ (.int .u64 y) := by
  have hl : (callFunc 31 #[.pointer (some ⟨B, 1, none⟩), .int .u64 1]).run Try.prog w = .ok (.value (.int .u64 (IntKind.u64.wrap (x + 1)))) (w.setCell ⟨B, 1, none⟩ (.int .u64 (IntKind.u64.wrap (x + 1)))) :=
    run_call_add Try.func31 (by kernel_rfl) (by kernel_rfl) (by kernel_rfl) .u64 (by kernel_rfl) hc hz (by simp [Op.intArith])
  obtain ⟨Y, hY⟩ := named (IntKind.u64.wrap (x + 1))
  rw [hY.out] at hl
  go_enter Try.func25, Try.ntmps25
  go_wp2
  go_ret
  exact ⟨Y, rfl, rfl⟩
/-- remove. -/
def RemQ (B : Nat) (v : Value) (fd : Int) (L' : List Pr) (S : Nat → Prop) (w : World) (e : Ending) (w' : World) : Prop :=
  e = .returned (.tuple #[]) ∧ ∃ v', Blk w' B 55 #[v', .int .u64 fd] ∧ OwnG pvV 59 6 w' 0 v' L'.length L' ∧ (∀ k, v'.ownBlock = some k → v.ownBlock = some k) ∧ Away S w S w'
theorem removeA_any {w : World} {B qb : Nat} {v : Value} {fd : Int} {L : List Pr} {S : Nat → Prop} {ty : TypeId} {cs : Array Value} {q : Pr → Bool} (hb : Blk w B 55 #[v, .int .u64 fd]) (ho : OwnG pvV 59 6 w 0 v L.length L) (hn : L.length ≤ 1000) (hS : ∀ k, S k ↔ (k = B ∨ v.ownBlock = some k))
    (hq : Blk w qb ty cs) (hty : ty ≠ 59 ∨ v.ownBlock ≠ some qb) (ht : TellsX 24 qb q ty cs) :
    Calls Try.prog 23 #[.pointer (some ⟨B, 0, none⟩), .func (.func 24) #[] #[.pointer (some ⟨qb, 0, none⟩)]] w (RemQ B v fd (L.filter fun x => !q x) S w) := by
  have c0 : w.cell? ⟨B, 0, none⟩ = some v := hb.cell 0
  have hnb : v.ownBlock ≠ some B := fun e => Blk.not_row hb (by decide) ho e.symm
  obtain ⟨a, c, rfl, _, hnil, _⟩ := ho.shape pr_rowed
  obtain ⟨n, hN⟩ := named L.length
  rw [hN.out] at ho c0
  unfold RemQ
  by_cases h0 : a = none
  · subst h0
    obtain rfl := hnil rfl
    obtain rfl : n = 0 := by
      rcases ho.1.2 with ⟨e, e'⟩ | ⟨g, cap, cur, e, _⟩
      · exact e'
      · cases e
    obtain rfl : L = [] := List.eq_nil_of_length_eq_zero hN.out
    have HI := Lib.hid (deletef_noneA (w := w) (.func (.func 24) #[] #[.pointer (some ⟨qb, 0, none⟩)]))
    have f0 := hb.free 0
    have HB := Lib.hid hb
    have HS := Lib.hid hS
    clear hb ho hq hS
    go_enter Try.func23, Try.ntmps23
    go_wp2_with (go_at_call 30; refine HI.out.mono ?_; rintro e w' ⟨rfl, rfl⟩)
    go_end0
    refine ⟨rfl, .slice none 0 0, HB.out.set 0 _, OwnG.none _ _ _ _ _, fun k hk => hk, (Away.refl _ _).set ((HS.out B).2 (Or.inl rfl)) 0 _⟩
  · obtain ⟨b, rfl⟩ : ∃ b, a = some ⟨b, 0, none⟩ := by
      rcases ho.1.2 with ⟨e, e'⟩ | ⟨g, cap, cur, e, _⟩
      · cases e; exact absurd rfl h0
      · cases e
        exact ⟨_, rfl⟩
    have hqb : qb ≠ b := fun e => by
      subst e
      rcases hty with h | h
      · exact Blk.not_row hq h ho rfl
      · exact h rfl
    have HD := Lib.hid (deletef_anyA ho (by have := hN.out; omega) hq ht hqb)
    unfold DelQA at HD
    obtain ⟨L', hL'⟩ := named (L.filter fun x => !q x)
    rw [hL'.out] at HD ⊢
    have hBb : B ≠ b := fun e => hnb (by rw [e]; rfl)
    have HB := Lib.hid hb
    have HS := Lib.hid hS
    obtain ⟨n', hn'⟩ := named L'.length
    rw [hn'.out] at HD ⊢
    clear hb ho hq hS
    go_enter Try.func23, Try.ntmps23
    go_wp2_with (go_at_call 30; refine HD.out.mono ?_; rintro e w' ⟨rfl, g1, g2⟩; have HB1 := Lib.hid (HB.out.kept g2 (fun e => hBb (Option.some.inj e))); have f0 := HB1.out.free 0; have c1 := HB1.out.cell 0; have G1 := Lib.hid g1; have G2 := Lib.hid g2; clear g1 g2)
    go_end0
    refine ⟨rfl, .slice (some ⟨b, 0, none⟩) n' c, HB1.out.set 0 _, ?_, fun k hk => hk, ((Away.refl _ w).grown G2.out (fun k e => Or.inl ((HS.out k).2 (Or.inr e)))).set ((HS.out B).2 (Or.inl rfl)) 0 _⟩
    exact G1.out.frame fun k hk => Below.heap_setCell w' ⟨B, 0, none⟩ _ k (fun e => by subst e; exact hBb (by simpa [Value.ownBlock] using hk.symm))
theorem removeF_any {w : World} {B qb : Nat} {v : Value} {fd : Int} {L : List Pr} {S : Nat → Prop} {ty : TypeId} {cs : Array Value} {q : Pr → Bool} (hb : Blk w B 55 #[v, .int .u64 fd]) (ho : OwnG pvV 59 6 w 0 v L.length L) (hn : L.length ≤ 1000) (hS : ∀ k, S k ↔ (k = B ∨ v.ownBlock = some k))
    (hq : Blk w qb ty cs) (hty : ty ≠ 59 ∨ v.ownBlock ≠ some qb) (ht : TellsX 26 qb q ty cs) :
    Calls Try.prog 23 #[.pointer (some ⟨B, 0, none⟩), .func (.func 26) #[] #[.pointer (some ⟨qb, 0, none⟩)]] w (RemQ B v fd (L.filter fun x => !q x) S w) := by
  have c0 : w.cell? ⟨B, 0, none⟩ = some v := hb.cell 0
  have hnb : v.ownBlock ≠ some B := fun e => Blk.not_row hb (by decide) ho e.symm
  obtain ⟨a, c, rfl, _, hnil, _⟩ := ho.shape pr_rowed
  obtain ⟨n, hN⟩ := named L.length
  rw [hN.out] at ho c0
  unfold RemQ
  by_cases h0 : a = none
  · subst h0
    obtain rfl := hnil rfl
    obtain rfl : n = 0 := by
      rcases ho.1.2 with ⟨e, e'⟩ | ⟨g, cap, cur, e, _⟩
      · exact e'
      · cases e
    obtain rfl : L = [] := List.eq_nil_of_length_eq_zero hN.out
    have HI := Lib.hid (deletef_noneF (w := w) (.func (.func 26) #[] #[.pointer (some ⟨qb, 0, none⟩)]))
    have f0 := hb.free 0
    have HB := Lib.hid hb
    have HS := Lib.hid hS
    clear hb ho hq hS
    go_enter Try.func23, Try.ntmps23
    go_wp2_with (go_at_call 30; refine HI.out.mono ?_; rintro e w' ⟨rfl, rfl⟩)
    go_end0
    refine ⟨rfl, .slice none 0 0, HB.out.set 0 _, OwnG.none _ _ _ _ _, fun k hk => hk, (Away.refl _ _).set ((HS.out B).2 (Or.inl rfl)) 0 _⟩
  · obtain ⟨b, rfl⟩ : ∃ b, a = some ⟨b, 0, none⟩ := by
      rcases ho.1.2 with ⟨e, e'⟩ | ⟨g, cap, cur, e, _⟩
      · cases e; exact absurd rfl h0
      · cases e
        exact ⟨_, rfl⟩
    have hqb : qb ≠ b := fun e => by
      subst e
      rcases hty with h | h
      · exact Blk.not_row hq h ho rfl
      · exact h rfl
    have HD := Lib.hid (deletef_anyF ho (by have := hN.out; omega) hq ht hqb)
    unfold DelQF at HD
    obtain ⟨L', hL'⟩ := named (L.filter fun x => !q x)
    rw [hL'.out] at HD ⊢
    have hBb : B ≠ b := fun e => hnb (by rw [e]; rfl)
    have HB := Lib.hid hb
    have HS := Lib.hid hS
    obtain ⟨n', hn'⟩ := named L'.length
    rw [hn'.out] at HD ⊢
    clear hb ho hq hS
    go_enter Try.func23, Try.ntmps23
    go_wp2_with (go_at_call 30; refine HD.out.mono ?_; rintro e w' ⟨rfl, g1, g2⟩; have HB1 := Lib.hid (HB.out.kept g2 (fun e => hBb (Option.some.inj e))); have f0 := HB1.out.free 0; have c1 := HB1.out.cell 0; have G1 := Lib.hid g1; have G2 := Lib.hid g2; clear g1 g2)
    go_end0
    refine ⟨rfl, .slice (some ⟨b, 0, none⟩) n' c, HB1.out.set 0 _, ?_, fun k hk => hk, ((Away.refl _ w).grown G2.out (fun k e => Or.inl ((HS.out k).2 (Or.inr e)))).set ((HS.out B).2 (Or.inl rfl)) 0 _⟩
    exact G1.out.frame fun k hk => Below.heap_setCell w' ⟨B, 0, none⟩ _ k (fun e => by subst e; exact hBb (by simpa [Value.ownBlock] using hk.symm))
end Go.Proofs.Ytobnmdjpcmegiaa
