/-
  A meta of one cluster in the file of the statements: what it is mended to, its faults when a count is turned (15.2). Conditions: stated at each.
-/
import Derived.Test.YtlljcdmblmkblaaGreatCk
import Derived.Test.YtlljcdmblmkblaaGreatT9
namespace Go.Proofs.YtlljcdmblmkblaaGreat
open Go.RowKit
set_option linter.unusedVariables false

/-- A leaf of one entry alone. -/
def tE (e : En) : Tb := [[e, enZ, enZ, enZ, enZ, enZ, enZ, enZ]]
theorem setT_one {e : En} {c : Int} (h2 : e.1 = 2) (hm : MayE e c) : setT [] 0 e = tE e := by
  have hne : e.1 ≠ 0 := by rw [h2]; decide
  have hf : fitsT [] e := ⟨c, right_nil hm.1, hm⟩
  unfold setT
  rw [if_pos ⟨by omega, hf⟩]
  have hn : ¬ (e.1 = 0 ∧ ([] : Tb).length ≤ (0 : Int).toNat / 8) := fun h => hne h.1
  unfold setN
  rw [if_neg hn]
  have hp : putT [] (0 : Int).toNat e = tE e := by
    unfold putT
    have hs : setL (tbAt [] ((0 : Int).toNat / 8)) ((0 : Int).toNat % 8) e = [e, enZ, enZ, enZ, enZ, enZ, enZ, enZ] := by
      unfold setL
      have e1 : (full (tbAt [] ((0 : Int).toNat / 8))).set ((0 : Int).toNat % 8) e = [e, enZ, enZ, enZ, enZ, enZ, enZ, enZ] := by
        unfold full
        rw [if_pos (show tbAt [] ((0 : Int).toNat / 8) = [] from rfl)]
        rfl
      rw [e1, if_pos ⟨0, by decide, hne⟩]
    rw [hs]
    rfl
  rw [hp]
  show trimN (tE e) 1 = tE e
  unfold trimN
  rw [if_neg (fun h => by cases h)]
  rfl
/-- An entry of four sectors, raw. -/
def eC (x : Nat) (m : Nat) : En := (2, (x : Int), 4, 0, (m : Int))
theorem eC_may {x m : Nat} (hx : 2 ≤ x ∧ x ≤ 31) : MayE (eC x m) 2 := ⟨by omega, Or.inr (Or.inl ⟨rfl, by show (2 : Int) ≤ (x : Int); omega, by show (4 : Int) = 2 ^ (2 : Int).toNat; decide, by show (x : Int) ≤ 65536 - 4; omega, rfl⟩)⟩
theorem eC_ok {x m : Nat} (hx : 2 ≤ x ∧ x ≤ 31) (hm : m < 4294967296) : EnOk (eC x m) := by unfold EnOk eC I64; dsimp only; omega
theorem right_tE {x m : Nat} (hx : 2 ≤ x ∧ x ≤ 31) : rightT (tE (eC x m)) 1 2 := by
  refine ⟨by omega, by omega, fun _ h => (by cases h), (by decide : 1 ≤ 512), fun i hi _ => ?_⟩
  have : i = 0 := by
    have h1 : i < 1 := hi
    omega
  subst this
  refine ⟨rfl, fun k hk => ?_, 0, by decide, (by decide : (2 : Int) ≠ 0)⟩
  rcases k with _ | k
  · exact ⟨eC_may hx, fun _ => by decide⟩
  · have e : lfAt (tbAt (tE (eC x m)) 0) (k + 1) = enZ := by
      show lfAt [eC x m, enZ, enZ, enZ, enZ, enZ, enZ, enZ] (k + 1) = enZ
      have : k = 0 ∨ k = 1 ∨ k = 2 ∨ k = 3 ∨ k = 4 ∨ k = 5 ∨ k = 6 := by omega
      rcases this with rfl | rfl | rfl | rfl | rfl | rfl | rfl <;> rfl
    rw [e]
    exact ⟨⟨by omega, Or.inl ⟨Or.inl rfl, rfl, rfl, rfl, rfl⟩⟩, fun h => absurd rfl h⟩
theorem right_C {x m : Nat} (hx : 2 ≤ x ∧ x ≤ 31) {K : List Int} (hl : K.length ≤ 65536) (hK : ∀ k ∈ K, 0 ≤ k ∧ k ≤ 65535) : RightMt ⟨2, 4, ⟨#[]⟩, tE (eC x m), [], [], K⟩ :=
  ⟨(by decide : (0 : Int) ≤ 2 ∧ (2 : Int) ≤ 6), (by decide : sizedM 4 2), fun h => absurd h (by decide : ¬ 0 < (⟨#[]⟩ : ByteArray).size), Nat.zero_le _, Nat.zero_le _, hl, (by show rightT _ ((4 : Int) / 2 ^ (2 : Int).toNat) 2; rw [show (4 : Int) / 2 ^ (2 : Int).toNat = 1 by decide]; exact right_tE hx), fun i d h => (by cases i <;> cases h), fun i d h => (by cases i <;> cases h), hK⟩
theorem lines_C (x m : Nat) : allLines (tE (eC x m)) [] = [(-1, 0, eC x m)] := by
  have h1 := linesTo_yes (shot := -1) (T := tE (eC x m)) (n := 0) (Or.inl rfl)
  have h2 := linesTo_none (shot := -1) (T := tE (eC x m)) 1 7 (fun k hk1 hk2 => by
    have : k = 1 ∨ k = 2 ∨ k = 3 ∨ k = 4 ∨ k = 5 ∨ k = 6 ∨ k = 7 := by omega
    have e : atN (tE (eC x m)) k = enZ := by rcases this with rfl | rfl | rfl | rfl | rfl | rfl | rfl <;> rfl
    rw [e]
    unfold secE enZ
    decide)
  rw [linesTo_zero, List.nil_append] at h1
  show tabLines (-1) (tE (eC x m)) ++ shotsTo [] 0 = _
  unfold tabLines
  show linesTo (-1) (tE (eC x m)) (1 + 7) ++ [] = _
  rw [List.append_nil, h2]
  exact h1
/-- The bytes of four sectors of the file. -/
def contC (x : Nat) : List Int := ((fileL 40).drop (x * 16)).take 64
theorem contC_len {x : Nat} (hx : x ≤ 31) : (contC x).length = 64 := by
  unfold contC
  rw [List.length_take, List.length_drop, fileL_len]
  omega
theorem bytes_C {x : Nat} (hx : 2 ≤ x ∧ x ≤ 31) : (bytesE (eC x (moreOf 0 (contC x))) (fileL 40) 2).2 = 0 := by
  have hl := contC_len hx.2
  have hcc : contE (eC x (moreOf 0 (contC x))) (fileL 40) ((16 * 2 ^ (2 : Int).toNat : Nat) : Int) = contC x := by
    unfold contE
    rw [if_pos (show (eC x (moreOf 0 (contC x))).1 = 2 from rfl)]
    rfl
  unfold bytesE
  rw [if_neg (fun h => h (eC_may hx)), if_neg (fun h => h (Or.inl rfl)), if_neg (by rw [fileL_len]; unfold wholeN eC; dsimp only; omega), hcc, if_neg (fun h => h.elim (fun h => h hl) (fun h => h rfl))]
theorem bad_C {x : Nat} (hx : 2 ≤ x ∧ x ≤ 31) : badT (fileL 40) 2 (tE (eC x (moreOf 0 (contC x)))) = [] := by
  unfold badT badL badRun
  rw [lines_C, List.foldl_cons, List.foldl_nil, stepB_good (p := x) (q := 4) (bytes_C hx) rfl rfl (fun ⟨i, _, _, _, h⟩ => h rfl)]
theorem cfL_same {f g : Nat → Int} {n : Nat} : ∀ k, k ≤ n → (∀ i, i < n → f i = g i) → cfL f n g n k = []
  | 0, _, _ => rfl
  | k + 1, hk, h => by
    show cfL f n g n k ++ cfAt (valF f n k) (valF g n k) k = []
    rw [cfL_same k (by omega) h]
    unfold valF
    rw [if_pos (by omega), if_pos (by omega), h k (by omega)]
    unfold cfAt
    rw [if_neg (by omega), if_neg (by omega)]
    rfl
theorem valF_in {f : Nat → Int} {n k : Nat} (h : k < n) : valF f n k = f k := by unfold valF; rw [if_pos h]
theorem cfL_one {f g : Nat → Int} {n p : Nat} (hp : p < n) (h : ∀ i, i < n → i ≠ p → f i = g i) : ∀ k, k ≤ n → cfL f n g n k = if p < k then cfAt (f p) (g p) p else []
  | 0, _ => by rw [if_neg (by omega)]; rfl
  | k + 1, hk => by
    show cfL f n g n k ++ cfAt (valF f n k) (valF g n k) k = _
    rw [cfL_one hp h k (by omega), valF_in (by omega), valF_in (by omega)]
    by_cases e : p = k
    · subst e
      rw [if_neg (Nat.lt_irrefl p), if_pos (Nat.lt_succ_self p), List.nil_append]
    · have e2 : cfAt (f k) (g k) k = [] := by
        rw [h k (by omega) (fun q => e q.symm)]
        unfold cfAt
        rw [if_neg (Int.lt_irrefl _), if_neg (Int.lt_irrefl _)]
      rw [e2, List.append_nil]
      by_cases e3 : p < k
      · rw [if_pos e3, if_pos (by omega)]
      · rw [if_neg e3, if_neg (by omega)]
theorem cntT_at {T : Tb} {n i : Nat} (hi : i < n) : (cntT T n).getD i 0 = ofL (allLines T []) i := by
  unfold cntT
  rw [List.getD_eq_getElem?_getD, List.getElem?_map, List.getElem?_range hi]
  rfl
theorem cntT_len (T : Tb) (n : Nat) : (cntT T n).length = n := by unfold cntT; rw [List.length_map, List.length_range]
theorem zerosT_nil (T : Tb) : zerosT T [] = T := rfl
theorem bfL_nil : bfL [] = [] := rfl
theorem faults_C {x : Nat} (hx : 2 ≤ x ∧ x ≤ 31) : faultsM (fileL 40) 40 2 (tE (eC x (moreOf 0 (contC x)))) (cntT (tE (eC x (moreOf 0 (contC x)))) 40) = [] := by
  unfold faultsM
  rw [bad_C hx, cntT_len, zerosT_nil, bfL_nil, List.nil_append, Nat.max_self]
  generalize tE (eC x (moreOf 0 (contC x))) = T
  exact cfL_same 40 (Nat.le_refl _) (fun i hi => cntT_at hi)
theorem faults_C1 {x : Nat} (hx : 2 ≤ x ∧ x ≤ 31) {p : Nat} (hp : p < 40) {v u : Int} (hu : (cntT (tE (eC x (moreOf 0 (contC x)))) 40).getD p 0 = u) : faultsM (fileL 40) 40 2 (tE (eC x (moreOf 0 (contC x)))) ((cntT (tE (eC x (moreOf 0 (contC x)))) 40).set p v) = cfAt v u p := by
  unfold faultsM
  rw [bad_C hx, List.length_set, cntT_len, zerosT_nil, bfL_nil, List.nil_append, Nat.max_self]
  generalize tE (eC x (moreOf 0 (contC x))) = T at hu ⊢
  have e1 : ((cntT T 40).set p v).getD p 0 = v := by
    rw [List.getD_eq_getElem?_getD, List.getElem?_set, if_pos rfl, if_pos (by rw [cntT_len]; exact hp)]
    rfl
  have e2 : ofL (allLines T []) p = u := by rw [← hu]; exact (cntT_at hp).symm
  rw [cfL_one hp (fun i hi hne => ?_) 40 (Nat.le_refl _), if_pos hp]
  · rw [e1, e2]
  · rw [List.getD_eq_getElem?_getD, List.getElem?_set, if_neg (fun e => hne e.symm), ← List.getD_eq_getElem?_getD]
    exact cntT_at hi
theorem cntT_small {x m : Nat} (hx : 2 ≤ x ∧ x ≤ 31) : ∀ k ∈ cntT (tE (eC x m)) 40, 0 ≤ k ∧ k ≤ 2 := fun k hk => by
  unfold cntT at hk
  obtain ⟨i, _, rfl⟩ := List.mem_map.1 hk
  rw [lines_C]
  unfold ofL
  exact cnt_bound i _
theorem own_free15 {α : Type} {cv : α → List Value} {e : TypeId} {sz : Nat} {w : World} {base b c m n : Nat} {l : List α} (h : OwnG cv e sz w base (.slice (some ⟨b, 0, none⟩) m c) n l) (i : Nat) : w.frozen? ⟨b, i, none⟩ = false := by
  rcases h.1.2 with ⟨e1, _⟩ | ⟨g, cap, cur, e1, _, hg, _⟩
  · simp at e1
  · simp only [Value.slice.injEq, Option.some.injEq, Addr.mk.injEq] at e1
    obtain ⟨⟨rfl, _⟩, _⟩ := e1
    exact Blk.free (show Blk w b e cur from hg) i
theorem iv_setK : ∀ (l : List Int) (j : Nat) (v : Int), (l.set j v).flatMap ivV = (l.flatMap ivV).set j (.int .i64 v)
  | [], _, _ => rfl
  | x :: r, 0, v => rfl
  | x :: r, j + 1, v => by
    rw [List.set_cons_succ, List.flatMap_cons, List.flatMap_cons, iv_setK r j v]
    rfl
/-- A count of one's own meta is set. -/
theorem MetaN.setCount {w : World} {base : Nat} {F G : Nat → Prop} {x : Mt} {C Z : Int} {bk : ByteArray} {T : Tb} {S : List ShM} {B : List BmM} {K : List Int} (h : MetaN w base F G x ⟨C, Z, bk, T, S, B, K⟩) (i : Nat) (hi : i < x.cn) (v : Int) :
    ∃ b, x.ca = some ⟨b, 0, none⟩ ∧ w.cell? ⟨b, i, none⟩ = some (.int .i64 (K.getD i 0)) ∧ w.frozen? ⟨b, i, none⟩ = false ∧ base ≤ b ∧ (w.setCell ⟨b, i, none⟩ (.int .i64 v)).cell? ⟨b, i, none⟩ = some (.int .i64 v) ∧ MetaN (w.setCell ⟨b, i, none⟩ (.int .i64 v)) base F G x ⟨C, Z, bk, T, S, B, K.set i v⟩ ∧ (∀ (Y : Nat) (cs : Array Value), Blk w Y 41 cs → Blk (w.setCell ⟨b, i, none⟩ (.int .i64 v)) Y 41 cs) := by
  obtain ⟨h3, h4⟩ := h.K
  have hl : K.length = x.cn := h3.2.1
  obtain ⟨b, e, hb1, hb2⟩ : ∃ b, x.ca = some ⟨b, 0, Option.none⟩ ∧ base ≤ b ∧ b < w.heap.size := by
    rcases h3.1.2 with ⟨_, e⟩ | ⟨g, cap, cur, e, hb, hg, _⟩
    · omega
    · simp only [Value.slice.injEq] at e
      exact ⟨g, e.1, hb, (show Blk w g _ cur from hg).lt⟩
  have h3' := h3
  dsimp only at h3
  rw [e] at h3
  obtain ⟨g1, g2⟩ := h3.1.stored i (.int .i64 v)
  have hc : ∀ (u : Int), K[i]? = some u → w.cell? ⟨b, i, none⟩ = some (.int .i64 u) := fun u hu => by
    have := Reads.cellAt iv_rowed (h3.reads iv_rowed).1 i 0 u (.int .i64 u) hu rfl
    rwa [Nat.zero_add, Nat.mul_one, Nat.add_zero] at this
  have hu : K[i]? = some (K.getD i 0) := by rw [List.getD_eq_getElem?_getD, List.getElem?_eq_getElem (by omega)]; rfl
  have hown : OwnG ivV 3 1 (w.setCell ⟨b, i, none⟩ (.int .i64 v)) base (.slice (some ⟨b, 0, none⟩) x.cn x.cc) x.cn (K.set i v) := by
    refine ⟨?_, by rw [List.length_set]; exact h3.2.1, h3.2.2⟩
    rw [iv_setK]
    exact g1
  have hcv : (w.setCell ⟨b, i, none⟩ (.int .i64 v)).cell? ⟨b, i, none⟩ = some (.int .i64 v) := by
    have := Reads.cellAt iv_rowed (hown.reads iv_rowed).1 i 0 v (.int .i64 v) (by rw [List.getElem?_set, if_pos rfl, if_pos (by omega)]) rfl
    rwa [Nat.zero_add, Nat.mul_one, Nat.add_zero] at this
  have hof : ∀ {t : TypeId}, 3 ≠ t → Off w (some b) t := fun ht => h3.off ht
  refine ⟨b, e, hc _ hu, own_free15 h3 i, hb1, hcv, ⟨h.hc, h.hs, h.hbk, (hof (by decide)).tabF (hof (by decide)) h.T g2, h.S.off (hof (by decide)) (hof (by decide)) (hof (by decide)) g2, h.B.off (hof (by decide)) (hof (by decide)) g2, ⟨by dsimp only; rw [e]; exact hown, h4⟩⟩, fun Y cs hY => hY.kept g2 (hY.not_row (by decide) h3)⟩
theorem eql_flt (a b c a' b' c' : Int) (w : World) : (binOp .eql 53 (.agg #[.int .i64 a, .int .i64 b, .int .i64 c]) (.agg #[.int .i64 a', .int .i64 b', .int .i64 c'])).run Tryz.prog w = .ok (.bool (decide (a = a' ∧ b = b' ∧ c = c'))) w := by
  have hf : Tryz.prog.underlying 53 = some (.struct (Tryz.prog.fieldsOf 53)) := by kernel_rfl
  have hp : Tryz.prog.stoodInHeld 53 = false := by kernel_rfl
  have h1 : ∀ n : Nat, (Op.equalIn (n + 2) 53 (.agg #[.int .i64 a, .int .i64 b, .int .i64 c]) (.agg #[.int .i64 a', .int .i64 b', .int .i64 c'])).run Tryz.prog w = .ok (decide (a = a' ∧ b = b' ∧ c = c')) w := fun n => by
    rw [run_equalIn_struct w (n + 1) 53 _ _ hf hp]
    unfold Program.fieldsOf
    rw [Tryz.underlying53]
    have i3 := fun (w : World) (a b : Int) => run_equalIn_int (P := Tryz.prog) w n 3 .i64 .i64 a b Tryz.underlying3
    have s3 : (Tryz.prog.info? 3).map (·.size) = some 1 := by kernel_rfl
    simp [Op.eqFields, go_sem, i3]
    by_cases h1 : a = a' <;> by_cases h2 : b = b' <;> by_cases h3 : c = c' <;> simp [h1, h2, h3]
  rw [run_eql_struct, h1 9998]
  rfl
theorem getD_small {K : List Int} (h : ∀ k ∈ K, 0 ≤ k ∧ k ≤ 2) (p : Nat) : 0 ≤ K.getD p 0 ∧ K.getD p 0 ≤ 2 := by
  rw [List.getD_eq_getElem?_getD]
  cases e : K[p]? with
  | none => exact ⟨Int.le_refl _, by decide⟩
  | some k => exact h k (List.mem_of_getElem? e)
theorem set_small {K : List Int} (h : ∀ k ∈ K, 0 ≤ k ∧ k ≤ 2) {v : Int} (hv : 0 ≤ v ∧ v ≤ 129) (p : Nat) : ∀ k ∈ K.set p v, 0 ≤ k ∧ k ≤ 65535 := fun k hk => by
  rcases List.mem_or_eq_of_mem_set hk with hk | rfl
  · have := h k hk
    omega
  · omega
theorem max_run (s : Int) (w : World) : (Builtin.max_ #[3, 3] 3 #[.int .i64 0, .int .i64 s]).run Tryz.prog w = .ok (.int .i64 (if (0 : Int) < s then s else 0)) w := by
  simp [Builtin.max_, Builtin.max2]
theorem max_bd {u a : Int} (hu : 0 ≤ u ∧ u ≤ 2) (ha : -128 ≤ a ∧ a ≤ 127) : 0 ≤ (if (0 : Int) < u + a then u + a else 0) ∧ (if (0 : Int) < u + a then u + a else 0) ≤ 129 := by
  split <;> omega
theorem cfAt_lt {v u : Int} (h : v < u) (p : Nat) : cfAt v u p = [(2, (p : Int), 0)] := by unfold cfAt; rw [if_pos h]
theorem cfAt_eq {v u : Int} (h : v = u) (p : Nat) : cfAt v u p = [] := by unfold cfAt; rw [if_neg (by omega), if_neg (by omega)]
theorem cfAt_gt {v u : Int} (h : u < v) (p : Nat) : cfAt v u p = [(3, (p : Int), 0)] := by unfold cfAt; rw [if_neg (by omega), if_pos h]
theorem eql_flt_same (a b c : Int) (w : World) : (binOp .eql 53 (.agg #[.int .i64 a, .int .i64 b, .int .i64 c]) (.agg #[.int .i64 a, .int .i64 b, .int .i64 c])).run Tryz.prog w = .ok (.bool true) w := by
  rw [eql_flt, decide_eq_true ⟨rfl, rfl, rfl⟩]
/-- One fault reads. -/
theorem one_fault {w : World} {base : Nat} {a : Option Addr} {N c : Nat} {k p s : Int} (h : OwnG flV 53 3 w base (.slice a N c) N [(k, p, s)]) : N = 1 ∧ ∃ b o, a = some ⟨b, o, none⟩ ∧ w.cell? ⟨b, o, none⟩ = some (.int .i64 k) ∧ w.cell? ⟨b, o + 1, none⟩ = some (.int .i64 p) ∧ w.cell? ⟨b, o + 2, none⟩ = some (.int .i64 s) := by
  obtain rfl : N = 1 := h.2.1.symm
  have hr := (OwnG.reads fl_rowed h).1
  obtain ⟨b, o, rfl⟩ := hr.lies (by decide)
  have l0 := Reads.cellAt fl_rowed hr 0 0 (k, p, s) (.int .i64 k) rfl rfl
  have l1 := Reads.cellAt fl_rowed hr 0 1 (k, p, s) (.int .i64 p) rfl rfl
  have l2 := Reads.cellAt fl_rowed hr 0 2 (k, p, s) (.int .i64 s) rfl rfl
  rw [Nat.zero_mul, Nat.add_zero] at l0 l1 l2
  exact ⟨rfl, b, o, rfl, l0, l1, l2⟩
theorem i8_of_wf {n : Int} (h : (Lit.int .i8 n).wf = true) : -128 ≤ n ∧ n ≤ 127 := by
  simp [Lit.wf, IntKind.min, IntKind.max, IntKind.signed, IntKind.bits] at h
  omega
end Go.Proofs.YtlljcdmblmkblaaGreat
