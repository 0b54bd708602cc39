/-
  What the project's own Set answers (package table). Conditions: the table reads, no more than 6000 leaves; the place is an int, the entry's fields are numbers of their types.
-/
import Derived.Test.YtbdidgfbonkneaaDoorO9
import Derived.Test.YtbdidgfbonkneaaDoorQ9
namespace Go.Proofs.YtbdidgfbonkneaaDoor
open Go.RowKit
set_option linter.unusedVariables false

/-- A table that reads as T. -/
def Tab (w : World) (a : Option Addr) (len cap : Nat) (T : Tb) : Prop := ∃ ds, TabR w a len ds ∧ Caps a len cap ∧ tbOf ds = T ∧ len ≤ 6000 ∧ ∀ d ∈ ds, d.2.1 ≤ 1000000
theorem Tab.later {w w' : World} {a : Option Addr} {len cap : Nat} {T : Tb} (h : Tab w a len cap T) (hb : Below w.heap.size w w') : Tab w' a len cap T := by
  obtain ⟨ds, h1, h2⟩ := h
  exact ⟨ds, h1.later hb, h2⟩
/-- A table of the call's own that reads as T. -/
def TabN (w : World) (base : Nat) (a : Option Addr) (len cap : Nat) (T : Tb) : Prop := ∃ es, TabQ w base a len cap es es ∧ tbOf es = T ∧ len ≤ 6000 ∧ ∀ lf ∈ T, lf.length ≤ 1000000
theorem TabN.later {w w' : World} {base len cap : Nat} {a : Option Addr} {T : Tb} (h : TabN w base a len cap T) (hb : Below w.heap.size w w') : TabN w' base a len cap T := by
  obtain ⟨es, h1, h2⟩ := h
  exact ⟨es, h1.later hb, h2⟩
theorem TabN.low {w w' : World} {base len cap X : Nat} {a : Option Addr} {T : Tb} (h : TabN w base a len cap T) (hX : X < base) (hg : w.grownBy w' (some X)) : TabN w' base a len cap T := by
  obtain ⟨es, h1, h2⟩ := h
  exact ⟨es, h1.low hX hg, h2⟩
theorem TabN.mono {w : World} {base base' len cap : Nat} {a : Option Addr} {T : Tb} (h : TabN w base a len cap T) (hb : base' ≤ base) : TabN w base' a len cap T := by
  obtain ⟨es, h1, h2⟩ := h
  exact ⟨es, h1.mono hb, h2⟩
theorem TabN.first (w : World) (base : Nat) : TabN w base none 0 0 [] := ⟨[], TabQ.first _ _, rfl, Nat.zero_le _, by simp⟩
theorem TabQ.tabN {w : World} {base base' len cap : Nat} {a : Option Addr} {es : List LfD} (h : TabQ w base a len cap es es) {T : Tb} (hT : tbOf es = T) (hlen : len ≤ 6000) (hll : ∀ lf ∈ T, lf.length ≤ 1000000) (hb : base' ≤ base) : TabN w base' a len cap T := ⟨es, h.mono hb, hT, hlen, hll⟩
/-- The boxes of Set. -/
def BoxS (X Y : Nat) (s r o : Value) (cs : Array Value) (w0 W : World) : Prop := Blk W X 24 #[s] ∧ Blk W (X + 1) 47 cs ∧ Blk W (X + 2) 24 #[r] ∧ Blk W Y 24 #[o] ∧ Below X w0 W ∧ X + 3 ≤ Y
section
variable {X Y : Nat} {s r o : Value} {cs : Array Value} {w0 W W' : World}
theorem BoxS.later (h : BoxS X Y s r o cs w0 W) (hb : Below W.heap.size W W') : BoxS X Y s r o cs w0 W' := ⟨h.1.later hb, h.2.1.later hb, h.2.2.1.later hb, h.2.2.2.1.later hb, h.2.2.2.2.1.trans (hb.mono (Nat.le_of_lt h.1.lt)), h.2.2.2.2.2⟩
/-- A row of the table's turns. -/
theorem BoxS.row (h : BoxS X Y s r o cs w0 W) {g : Nat} (hg : X + 3 ≤ g) (hY : g ≠ Y) (hr : W.grownBy W' (some g)) : BoxS X Y s r o cs w0 W' :=
  ⟨h.1.kept hr (fun e => by simp at e; omega), h.2.1.kept hr (fun e => by simp at e; omega), h.2.2.1.kept hr (fun e => by simp at e; omega), h.2.2.2.1.kept hr (fun e => by simp at e; omega), h.2.2.2.2.1.grown hr (Nat.le_of_lt h.1.lt) (fun k hk => by cases hk; omega), h.2.2.2.2.2⟩
theorem BoxS.out (h : BoxS X Y s r o cs w0 W) (v : Value) : BoxS X Y s r v cs w0 (W.setCell ⟨Y, 0, none⟩ v) :=
  ⟨h.1.other (by have := h.2.2.2.2.2; omega) _, h.2.1.other (by have := h.2.2.2.2.2; omega) _, h.2.2.1.other (by have := h.2.2.2.2.2; omega) _, h.2.2.2.1.set 0 v, h.2.2.2.2.1.setCell (by show X ≤ Y; have := h.2.2.2.2.2; omega) _, h.2.2.2.2.2⟩
theorem BoxS.res (h : BoxS X Y s r o cs w0 W) (v : Value) : BoxS X Y s v o cs w0 (W.setCell ⟨X + 2, 0, none⟩ v) :=
  ⟨h.1.other (by omega) _, h.2.1.other (by omega) _, h.2.2.1.set 0 v, h.2.2.2.1.other (by have := h.2.2.2.2.2; omega) _, h.2.2.2.2.1.setCell (by show X ≤ X + 2; omega) _, h.2.2.2.2.2⟩
end
theorem BoxS.first {w w1 : World} {s r o : Value} {cs : Array Value} (hb : Below (((w.alloc (.cells #[s] 24)).alloc (.cells cs 47)).alloc (.cells #[r] 24)).heap.size (((w.alloc (.cells #[s] 24)).alloc (.cells cs 47)).alloc (.cells #[r] 24)) w1) :
    BoxS w.heap.size w1.heap.size s r o cs w (w1.alloc (.cells #[o] 24)) := by
  have hs := hb.size
  rw [World.size_alloc, World.size_alloc, World.size_alloc] at hs
  have h1 : Blk w1 w.heap.size 24 #[s] := (((Blk.new w _ _).alloc _).alloc _).later hb
  have h2 : Blk w1 (w.heap.size + 1) 47 cs := (Blk.alloc (blk_next9 _ _ _ _ _) _).later hb
  have h3 : Blk w1 (w.heap.size + 2) 24 #[r] := by
    have := Blk.new ((w.alloc (.cells #[s] 24)).alloc (.cells cs 47)) 24 #[r]
    rw [World.size_alloc, World.size_alloc] at this
    exact Blk.later this hb
  refine ⟨h1.alloc _, h2.alloc _, h3.alloc _, Blk.new _ _ _, ?_, by omega⟩
  refine Below.alloc (Below.trans ?_ (hb.mono (by rw [World.size_alloc, World.size_alloc, World.size_alloc]; omega))) (by omega) _
  exact (((Below.refl _ _).alloc (Nat.le_refl _) _).alloc (by simp) _).alloc (by simp; omega) _
theorem BoxS.cells {X Y : Nat} {s r o a b c d e : Value} {w0 W : World} (h : BoxS X Y s r o #[a, b, c, d, e] w0 W) : W.cell? ⟨X, 0, none⟩ = some s ∧ (W.cell? ⟨X + 1, 0, none⟩ = some a ∧ W.cell? ⟨X + 1, 1, none⟩ = some b ∧ W.cell? ⟨X + 1, 2, none⟩ = some c ∧ W.cell? ⟨X + 1, 3, none⟩ = some d ∧ W.cell? ⟨X + 1, 4, none⟩ = some e) ∧ W.cell? ⟨X + 1 + 1, 0, none⟩ = some r ∧ W.frozen? ⟨X + 1 + 1, 0, none⟩ = false ∧ W.cell? ⟨Y, 0, none⟩ = some o ∧ W.frozen? ⟨Y, 0, none⟩ = false :=
  ⟨one_cell9 h.1, cells5 h.2.1, one_cell9 h.2.2.1, h.2.2.1.free 0, one_cell9 h.2.2.2.1, h.2.2.2.1.free 0⟩
/-- The outer row grows. -/
theorem BoxS.app {X Y : Nat} {s r o : Value} {cs : Array Value} {w0 W W' : World} (h : BoxS X Y s r o cs w0 W) {base n : Nat} {v : Value} {l : List LfD} (hq : OwnG cvD 51 1 W base v n l) (hb : X ≤ base) (hg : W.grownBy W' v.ownBlock) : BoxS X Y s r o cs w0 W' :=
  ⟨h.1.kept hg (h.1.not_row (by decide) hq), h.2.1.kept hg (h.2.1.not_row (by decide) hq), h.2.2.1.kept hg (h.2.2.1.not_row (by decide) hq), h.2.2.2.1.kept hg (h.2.2.2.1.not_row (by decide) hq), h.2.2.2.2.1.grown hg (Nat.le_of_lt h.1.lt) (fun k hk => Nat.le_trans hb (hq.1.lt k hk).1), h.2.2.2.2.2⟩
/-- A boxed table turns. -/
theorem TabQ.box {w w' : World} {base len cap : Nat} {a : Option Addr} {ds es : List LfD} (h : TabQ w base a len cap ds es) {Y : Nat} {cs : Array Value} (hY : Blk w Y 24 cs) (hg : w.grownBy w' (some Y)) : TabQ w' base a len cap ds es :=
  h.kept hg (fun k hk e => by cases e; exact hY.not_row (by decide) h.out hk.symm) (fun d hd k hk e => by cases e; exact hY.not_row (by decide) (h.leaf d hd).1 hk.symm)
/-- An absent leaf more. -/
theorem TabQ.nilMore {w w' : World} {base len cap : Nat} {a : Option Addr} {es : List LfD} (h : TabQ w base a len cap es es) {a' : Option Addr} {c' : Nat} (hO : OwnG cvD 51 1 w' base (.slice a' (len + 1) c') (len + 1) (es ++ [(none, 0, 0, [])])) (hg : w.grownBy w' (Value.slice a len cap).ownBlock) : TabQ w' base a' (len + 1) c' (es ++ [(none, 0, 0, [])]) (es ++ [(none, 0, 0, [])]) :=
  (h.push hO hg).addEs _ (LfO.none _ _) (fun _ _ _ _ e => by cases e)
theorem tbOf_len (es : List LfD) : (tbOf es).length = es.length := by unfold tbOf; rw [List.length_map]
theorem tb_set (es : List LfD) (j : Nat) (d : LfD) : tbOf (es.set j d) = (tbOf es).set j d.2.2.2 := by
  unfold tbOf
  rw [List.map_set]
/-- An entry goes into a leaf of the table. -/
theorem TabQ.storeEn {w : World} {base len cap : Nat} {a : Option Addr} {es : List LfD} (h : TabQ w base a len cap es es) (j : Nat) (d : LfD) (hd : es[j]? = some d) {b : Nat} (hb : d.1 = some ⟨b, 0, none⟩) (k : Nat) (hk : k < d.2.1) (x : En) (hx : EnOk x) :
    ∃ cur, w.heap[b]? = some (.cells cur 47 (0, 0)) ∧ k * 5 + (enV x).length ≤ cur.size ∧
      TabQ (w.setRow b (cur.toList.take (k * 5) ++ enV x ++ cur.toList.drop (k * 5 + (enV x).length)).toArray) base a len cap (es.set j (d.1, d.2.1, d.2.2.1, d.2.2.2.set k x)) (es.set j (d.1, d.2.1, d.2.2.1, d.2.2.2.set k x)) ∧
      w.grownBy (w.setRow b (cur.toList.take (k * 5) ++ enV x ++ cur.toList.drop (k * 5 + (enV x).length)).toArray) (some b) ∧ base ≤ b := by
  have hl := h.leaf d (List.mem_of_getElem? hd)
  obtain ⟨cur, k1, k2, k3, k4⟩ := hl.store hb k hk x hx
  have hbk : blkD d = some b := by unfold blkD; rw [hb]; rfl
  refine ⟨cur, k1, k2, (h.setEs j d (d.1, d.2.1, d.2.2.1, d.2.2.2.set k x) hd (by rw [hbk]; exact k4) rfl k3).same ?_, k4, (hl.lt hbk).1⟩
  refine List.ext_getElem? fun i => ?_
  rw [List.getElem?_map, List.getElem?_map, List.getElem?_set]
  by_cases hi : j = i
  · subst hi
    rw [if_pos rfl, hd]
    have := (List.getElem?_eq_some_iff.1 hd).1
    rw [if_pos this]
    rfl
  · rw [if_neg hi]
/-- A leaf of one's own goes into the table. -/
theorem TabQ.newLeaf {w : World} {base len cap g : Nat} {es : List LfD} (h : TabQ w base (some ⟨g, 0, none⟩) len cap es es) (j : Nat) (d : LfD) (hl : LfO w base d) (hnew : ∀ x ∈ es, ∀ b, blkD x = some b → blkD d ≠ some b) :
    TabQ (w.setCell ⟨g, j, none⟩ (.slice d.1 d.2.1 d.2.2.1)) base (some ⟨g, 0, none⟩) len cap (es.set j d) (es.set j d) ∧ w.grownBy (w.setCell ⟨g, j, none⟩ (.slice d.1 d.2.1 d.2.2.1)) (some g) :=
  (h.putEs j d hl hnew).setOut g j rfl d
theorem set_is9 {T : Tb} {e : En} (hf : fitsT T e) {I J R : Nat} (hI : I < 4096) (hJ : I / 8 = J) (hR : I % 8 = R) {T' : Tb} (hT : T' = (padT T J).set J ((full (tbAt T J)).set R e)) : wbT T' = setT T I e := by
  obtain ⟨c, h1, h2⟩ := hf
  rw [hT, ← hJ, ← hR]
  show setG T I e = _
  rw [setG_is h1 h2 hI]
  unfold setT
  rw [if_pos ⟨by omega, c, h1, h2⟩, Int.toNat_natCast]
theorem set_in9 {T : Tb} {e : En} {i : Int} (hf : fitsT T e) (hi : 0 ≤ i ∧ i < 4096) : ∃ c, rightT (setT T i e) 4096 c := by
  obtain ⟨c, h1, h2⟩ := hf
  exact ⟨c, (setT_at h1 h2 hi).1⟩
theorem right_lens {T : Tb} {n c : Int} (h : rightT T n c) : T.length ≤ 512 ∧ ∀ lf ∈ T, lf.length ≤ 8 := by
  refine ⟨h.2.2.2.1, fun lf hlf => ?_⟩
  obtain ⟨i, hi, rfl⟩ := List.getElem_of_mem hlf
  rw [← tbAt_in hi]
  by_cases he : tbAt T i = []
  · rw [he]; exact Nat.zero_le _
  · rw [(h.2.2.2.2 i hi he).1]; exact Nat.le_refl _
theorem wp_store_in9 {P : Program} {op : Oper} {a : Act} {w : World} {K : Act → World → Prop} {Q : Exit → Act → World → Prop} {t e : TypeId} (x y : Operand) (ho : op.op = .store t x y) (g o : Nat) (cur c' : Array Value)
    (hx : a.eval x = .pointer (some ⟨g, o, none⟩)) (hy : a.eval y = .agg c') (hg : w.heap[g]? = some (.cells cur e (0, 0))) (hi : (P.info? t).map (·.size) = some c'.size) (hfit : o + c'.toList.length ≤ cur.size) (h1 : ∀ u ∈ c'.toList, u.oneCell' = true)
    (h : K (a.put op.dst undef) (w.setRow g (cur.toList.take o ++ c'.toList ++ cur.toList.drop (o + c'.toList.length)).toArray)) : op.wp P a w K Q := by
  unfold Oper.wp execOp
  simp only [ho, hx, hy, run_storeAt_in9 w t e g o cur c' hg hi hfit h1, Sem.run_bind, Result.andThen_ok]
  exact h
def lenOf9 (w : World) (Y : Nat) : Nat := match w.cell? ⟨Y, 0, none⟩ with | some (.slice _ l _) => l | _ => 0
theorem lenOf9_is {w : World} {Y l c : Nat} {a : Option Addr} (h : w.cell? ⟨Y, 0, none⟩ = some (.slice a l c)) : lenOf9 w Y = l := by unfold lenOf9; rw [h]
theorem standC {a : Option Addr} {len cap : Nat} {ds : List LfD} (hlen : len ≤ 6000) {k s n z m : Int} (ho : EnOk (k, s, n, z, m)) {R : Bool} (hR : decide (fitsT (tbOf ds) (k, s, n, z, m)) = R) (w : World) (h : TabR w a len ds) : Calls Tryd.prog 33 #[.agg #[.slice a len cap], .agg #[.int .i64 k, .int .i64 s, .int .i64 n, .int .i64 z, .int .u32 m]] w fun e w' => e = .returned (.bool R) ∧ Below w.heap.size w w' :=
  stand9 w a len cap ds hlen k s n z m ho h R hR
theorem TabQ.tab {w : World} {base len cap : Nat} {a : Option Addr} {es : List LfD} (h : TabQ w base a len cap es es) {T : Tb} (hT : tbOf es = T) (hlen : len ≤ 6000) (hll : ∀ lf ∈ T, lf.length ≤ 1000000) : Tab w a len cap T := by
  refine ⟨es, h.reads, h.caps, hT, hlen, fun d hd => ?_⟩
  have := (h.leaf d hd).reads.len
  rw [← this]
  refine hll d.2.2.2 ?_
  rw [← hT]
  exact List.mem_map.2 ⟨d, hd, rfl⟩
theorem TabN.tab {w : World} {base len cap : Nat} {a : Option Addr} {T : Tb} (h : TabN w base a len cap T) : Tab w a len cap T := by
  obtain ⟨es, h1, h2, h3, h4⟩ := h
  exact h1.tab h2 h3 h4
theorem Tab.lens {w : World} {a : Option Addr} {len cap : Nat} {T : Tb} (h : Tab w a len cap T) : T.length = len ∧ len ≤ 6000 ∧ (∀ lf ∈ T, lf.length ≤ 1000000) ∧ ∀ lf ∈ T, ∀ x ∈ lf, EnOk x := by
  obtain ⟨ds, h1, h2, rfl, h4, h5⟩ := h
  refine ⟨h1.tlen, h4, fun lf hlf => ?_, fun lf hlf => ?_⟩ <;> obtain ⟨d, hd, rfl⟩ := List.mem_map.1 hlf
  · rw [(h1.2 d hd).len]
    exact h5 d hd
  · exact (h1.2 d hd).2.2.2
set_option maxRecDepth 100000 in
set_option maxHeartbeats 3200000 in
theorem set9_any (w : World) (a : Option Addr) (len cap : Nat) (T : Tb) (i k s n z m0 : Int) (h : Tab w a len cap T) (hi : I64 i) (ho : EnOk (k, s, n, z, m0)) :
    Calls Tryd.prog 18 #[.agg #[.slice a len cap], .int .i64 i, .agg #[.int .i64 k, .int .i64 s, .int .i64 n, .int .i64 z, .int .u32 m0]] w fun e w' => ∃ (a' : Option Addr) (l' c' : Nat), e = .returned (.agg #[.slice a' l' c']) ∧ TabN w' w.heap.size a' l' c' (setT T i (k, s, n, z, m0)) ∧ Below w.heap.size w w' := by
  have hls := h.lens
  obtain ⟨ds, hT, hc, rfl, hlen, hll⟩ := h
  have HLS := Lib.hid hls
  have HTR := Lib.hid hT
  have HCP : Hid (∀ W, Below w.heap.size w W → _) := fun W hb => copy9 W a len cap ds (hT.later hb) hc hlen hll
  have hg0 : Below w.heap.size w (((w.alloc (.cells #[.slice a len cap] 24)).alloc (.cells #[.int .i64 k, .int .i64 s, .int .i64 n, .int .i64 z, .int .u32 m0] 47)).alloc (.cells #[.slice none 0 0] 24)) := (((Below.refl _ _).alloc (Nat.le_refl _) _).alloc (by simp) _).alloc (by simp; omega) _
  have HG0 := Lib.hid hg0
  have HFB : Hid (∀ w1 a1 c1, Below (((w.alloc (.cells #[.slice a len cap] 24)).alloc (.cells #[.int .i64 k, .int .i64 s, .int .i64 n, .int .i64 z, .int .u32 m0] 47)).alloc (.cells #[.slice none 0 0] 24)).heap.size (((w.alloc (.cells #[.slice a len cap] 24)).alloc (.cells #[.int .i64 k, .int .i64 s, .int .i64 n, .int .i64 z, .int .u32 m0] 47)).alloc (.cells #[.slice none 0 0] 24)) w1 → BoxS w.heap.size w1.heap.size (.slice a len cap) (.slice none 0 0) (.slice a1 len c1) #[.int .i64 k, .int .i64 s, .int .i64 n, .int .i64 z, .int .u32 m0] w (w1.alloc (.cells #[.slice a1 len c1] 24))) := fun w1 a1 c1 hb => BoxS.first hb
  have hsz : (((w.alloc (.cells #[.slice a len cap] 24)).alloc (.cells #[.int .i64 k, .int .i64 s, .int .i64 n, .int .i64 z, .int .u32 m0] 47)).alloc (.cells #[.slice none 0 0] 24)).heap.size = w.heap.size + 3 := by rw [World.size_alloc, World.size_alloc, World.size_alloc]
  have HSZ := Lib.hid hsz
  obtain ⟨X, hX⟩ := named w.heap.size
  have hXX := hX.out
  rw [hX.out] at HG0 HCP HFB HSZ ⊢
  clear hg0 hsz hls hc hll
  by_cases hw : 0 ≤ i ∧ i ≤ 4095
  · have HW := Lib.hid (fun w => within9_is (n := i) (a := 0) (b := 4095) (decide_eq_true hw) w)
    by_cases hf : fitsT (tbOf ds) (k, s, n, z, m0)
    · have HM := Lib.hid (fun w h => standC (a := a) (cap := cap) hlen ho (decide_eq_true hf) w h)
      have HO := Lib.hid ho
      clear hT ho
      obtain ⟨I, rfl⟩ : ∃ I : Nat, i = I := ⟨i.toNat, by omega⟩
      obtain ⟨J, hJ⟩ := named (I / 8)
      obtain ⟨R, hR⟩ := named (I % 8)
      have hq : (I : Int) / 8 = (J : Int) := by rw [← hJ.out]; omega
      have hr : (I : Int) % 8 = (R : Int) := by rw [← hR.out]; omega
      have hJ512 : J < 512 := by rw [← hJ.out]; omega
      have hR8 : R < 8 := by rw [← hR.out]; omega
      have htm : (I : Int).tmod 8 = (R : Int) := by rw [Int.tmod_eq_emod_of_nonneg (by omega)]; exact hr
      have hRi : 0 ≤ (R : Int) ∧ (R : Int) < 8 := by omega
      go_enter Tryd.func18, Tryd.ntmps18
      go_wp2_with (first
        | (go_at_call 32; refine (HCP.out _ HG0.out).mono ?_; rintro e w1 ⟨a1, c1, es, rfl, g1, g2, g3⟩; have hb1 := HFB.out w1 a1 c1 g3; rw [HSZ.out] at g2; have HQ1 := Lib.hid (g2.alloc (.cells #[.slice a1 len c1] 24)); have HE1 := Lib.hid g1; have HB1 := Lib.hid hb1; have HT1 := Lib.hid (HTR.out.later (hX.out.symm ▸ hb1.2.2.2.2.1)); obtain ⟨b1, ⟨y0, y1, y2, y3, y4⟩, _, _, _, _⟩ := hb1.cells; clear g1 g2 g3 hb1)
        | (go_at_call 27; (with_reducible refine (HW.out _).mono ?_); rintro e w2 ⟨rfl, rfl⟩)
        | (go_at_call 33; (with_reducible refine (HM.out _ HT1.out).mono ?_); rintro e w3 ⟨rfl, g⟩; have HB3 := Lib.hid (HB1.out.later g); have HQ3 := Lib.hid (HQ1.out.later g); obtain ⟨d1, ⟨z0, z1, z2, z3, z4⟩, d2, d3, d4, d5⟩ := (HB1.out.later g).cells; clear g))
      obtain ⟨Y, hY⟩ := named w1.heap.size
      have hYY := hY.out
      rw [hY.out] at HB3 ⊢
      go_loopw [] (fun wr => ∃ (m : Nat) (a' : Option Addr) (c' : Nat) (es' : List LfD), (len + m ≤ len ∨ len + m ≤ J + 1) ∧ Hid (tbOf es' = tbOf ds ++ List.replicate m []) ∧ Hid (BoxS X Y (.slice a len cap) (.slice none 0 0) (.slice a' (len + m) c') #[.int .i64 k, .int .i64 s, .int .i64 n, .int .i64 z, .int .u32 m0] w wr) ∧ Hid (TabQ wr (X + 3) a' (len + m) c' es' es')) (fun wr => J + 1 - lenOf9 wr Y)
      case atStart => exact ⟨0, a1, c1, es, Or.inl (Nat.le_refl _), (show tbOf es = tbOf ds ++ List.replicate 0 [] by rw [HE1.out]; simp), HB3.out, HQ3.out⟩
      case round =>
        obtain ⟨m, a', c', es', hm, HE, HB, HQ⟩ := hrel
        obtain ⟨x1, ⟨v0, v1, v2, v3, v4⟩, x2, x3, x4, x5⟩ := HB.out.cells
        obtain ⟨M, hM⟩ := named (len + m)
        rw [hM.out] at HB HQ x4 hm
        have hsz : X + 3 ≤ wr.heap.size := by
          have h1 := HB.out.2.2.2.1.lt
          have h2 := HB.out.2.2.2.2.2
          omega
        have hl1 := lenOf9_is x4
        by_cases hlt : M ≤ J
        · have HQA := Lib.hid (HQ.out.alloc (.cells #[.slice none 0 0] 51))
          have HBA := Lib.hid (HB.out.later ((Below.refl _ _).alloc (Nat.le_refl _) (.cells #[.slice none 0 0] 51)))
          have HRD := Lib.hid (one_reads (cv := cvD) wr (none, 0, 0, []) #[.slice none 0 0] 51 rfl)
          go_wp2_with (at_builtin; refine append_gg lf_rowed rfl _ _ rfl (X + 3) _ M es' rfl HQA.out.out (some ⟨wr.heap.size, 0, none⟩) 1 1 [(none, 0, 0, [])] rfl (fun e => by cases e) HRD.out (by omega) (by rw [World.size_alloc]; omega) ?_; intro a2 c2 w2 hO hB2 hg; have hb2 := HBA.out.app HQA.out.out (by omega) hg; have hq2 := HQA.out.nilMore hO hg; have HB3 := Lib.hid (hb2.out (.slice a2 (M + 1) c2)); have HQ3 := Lib.hid (hq2.box hb2.2.2.2.1 (grownBy_setCell4 w2 Y 0 (.slice a2 (M + 1) c2))); obtain ⟨_, _, _, _, t4, t5⟩ := hb2.cells; clear hb2 hq2 hO hB2 hg)
          go_roundw
          case rel =>
            refine ⟨m + 1, a2, c2, es' ++ [(none, 0, 0, [])], Or.inr (by have := hM.out; omega), ?_, ?_, ?_⟩
            · show tbOf (es' ++ [(none, 0, 0, [])]) = _
              rw [List.replicate_succ', ← List.append_assoc, ← HE.out]
              unfold tbOf
              rw [List.map_append]
              rfl
            · rw [← Nat.add_assoc, hM.out]
              exact HB3.out
            · rw [← Nat.add_assoc, hM.out]
              exact HQ3.out
          case measure =>
            have hl2 := lenOf9_is HB3.out.cells.2.2.2.2.1
            rw [hl1, hl2]
            omega
        · have HM1 : Hid (M = max len (J + 1)) := by show M = _; have := hM.out; omega
          have hE : tbOf es' = padT (tbOf ds) J := by
            rw [HE.out]
            unfold padT
            have h1 := HLS.out.1
            have h2 := hM.out
            rw [h1, show m = J + 1 - len by have := HM1.out; omega]
          have HE3 := Lib.hid hE
          obtain ⟨g, d, rfl, hg1, hg2, hd, hcell, hfz⟩ := HQ.out.at J (by omega)
          have hJM : J < M := by omega
          have hLO := HQ.out.leaf d (List.mem_of_getElem? hd)
          have hLl := hLO.reads.len
          have htb : tbAt (tbOf ds) J = d.2.2.2 := by
            rw [← tbAt_pad, ← hE]
            unfold tbAt tbOf
            rw [List.getD_eq_getElem?_getD, List.getElem?_map, hd]
            rfl
          obtain ⟨al, ll, cl, xs⟩ := d
          dsimp only at hcell hLl htb
          by_cases h0 : ll = 0
          · subst h0
            have HA := Lib.hid (fun w => absent9 al 0 cl true (by decide) w)
            have hdr : Below wr.heap.size wr wr.drew := (Below.refl _ _).drew
            have hbd := HB.out.later hdr
            have hqd := HQ.out.later hdr
            obtain ⟨cd, fd⟩ := cell_kept9 hdr hg2 hcell hfz
            obtain ⟨w4, hmk, hf1, hf2⟩ := make9 wr.drew (X + 3) hsz
            obtain ⟨c4, f4⟩ := cell_kept9 (below_of_grown hf2) hg2 cd fd
            have hb4 := hbd.later (below_of_grown hf2)
            have hq4 := hqd.later (below_of_grown hf2)
            obtain ⟨u1, ⟨v0, v1, v2, v3, v4⟩, u2, u3, u4, u5⟩ := hb4.cells
            obtain ⟨hq5, hg5⟩ := hq4.newLeaf J _ hf1 (fun x hx b hb hb' => by
              have h1 := hqd.lt x hx b hb
              simp only [blkD, Value.ownBlock, Option.some.injEq] at hb'
              omega)
            have hgY : g ≠ Y := fun e => by
              subst e
              exact hb4.2.2.2.1.not_row (by decide) hq4.out rfl
            have hb5 := hb4.row (by omega) hgY hg5
            have hd5 : (es'.set J (some ⟨wr.heap.size, 0, none⟩, 8, 8, List.replicate 8 enZ))[J]? = some (some ⟨wr.heap.size, 0, none⟩, 8, 8, List.replicate 8 enZ) := by
              rw [List.getElem?_set, if_pos rfl, if_pos (by have := HQ.out.size; omega)]
            have hxs : xs = [] := List.eq_nil_of_length_eq_zero hLl
            have hfull : full (tbAt (tbOf ds) J) = List.replicate 8 enZ := by
              rw [htb, hxs]
              rfl
            have hT5 : (tbOf (es'.set J (some ⟨wr.heap.size, 0, none⟩, 8, 8, List.replicate 8 enZ))).set J ((List.replicate 8 enZ).set R (k, s, n, z, m0)) = (padT (tbOf ds) J).set J ((full (tbAt (tbOf ds) J)).set R (k, s, n, z, m0)) := by
              rw [tb_set, List.set_set, HE3.out, hfull]
            have hR5 : R < 8 := hR8
            have s6 : (w4.setCell ⟨g, J, none⟩ (.slice (some ⟨wr.heap.size, 0, none⟩) 8 8)).cell? ⟨Y, 0, none⟩ = some (.slice (some ⟨g, 0, none⟩) M c') := hb5.cells.2.2.2.2.1
            have sd := hbd.cells.2.2.2.2.1
            go_wp2_with (go_at_call 19; (with_reducible refine (HA.out _).mono ?_); rintro e w2 ⟨rfl, rfl⟩)
            refine wp_region_held_drew (S := fun w' => w'.cell? ⟨Y, 0, none⟩ = some (.slice (some ⟨g, 0, none⟩) M c')) (by kernel_rfl) (by first | exact s6 | exact u4 | exact sd) (fun hHeld => ?_)
            refine wpAnyH_take (i := 0) (oi := _) (v := ?va0) rfl (by kernel_rfl) (by kernel_rfl) (by kernel_rfl) (fun _ _ _ h => h) (Or.inl ⟨by rfl, ?hya0⟩) (by assumption) ?resta0
            case hya0 => (intro wz hSw; (try dsimp only at hSw); go_simp; try with_reducible rfl)
            (try simp only [List.getElem_toArray, List.getElem_cons_zero, Act.put, List.setIfInBounds_toArray, List.set_cons_zero, List.set_cons_succ])
            refine wpAnyH_take (i := 1) (oi := _) (v := ?va1) rfl (by kernel_rfl) (by kernel_rfl) (by kernel_rfl) (fun _ _ _ h => h) (Or.inl ⟨by rfl, ?hya1⟩) (by assumption) ?resta1
            case hya1 => (intro wz hSw; (try dsimp only at hSw); go_simp; try with_reducible rfl)
            (try simp only [List.getElem_toArray, List.getElem_cons_zero, List.getElem_cons_succ, Act.put, List.setIfInBounds_toArray, List.set_cons_zero, List.set_cons_succ])
            refine wpAnyH_take (i := 2) (oi := _) (v := ?va2) rfl (by kernel_rfl) (by kernel_rfl) (by kernel_rfl) (fun _ _ _ h => h) (Or.inl ⟨by rfl, ?hya2⟩) (by assumption) ?resta2
            case hya2 => (intro wz hSw; (try dsimp only at hSw); go_simp; try with_reducible rfl)
            (try simp only [List.getElem_toArray, List.getElem_cons_zero, List.getElem_cons_succ, Act.put, List.setIfInBounds_toArray, List.set_cons_zero, List.set_cons_succ])
            refine wpAnyH_ready (rs := [3]) (by kernel_rfl) (by simp) ?_
            refine AllReadyH.cons (o := _) rfl (fun K hK => ?_) AllReadyH.nil
            rw [if_pos (by rfl)]
            go_simp
            refine hK.out _ _ (by first | exact s6 | exact u4 | exact sd) (fun hHeld => ?_)
            clear hK K
            (try simp only [List.getElem_toArray, List.getElem_cons_zero, List.getElem_cons_succ, Act.put, List.setIfInBounds_toArray, List.set_cons_zero, List.set_cons_succ])
            refine wpAnyH_take (i := 4) (oi := _) (v := ?va4) rfl (by kernel_rfl) (by kernel_rfl) (by kernel_rfl) (fun _ _ _ h => h) (Or.inl ⟨by rfl, ?hya4⟩) (by assumption) ?resta4
            case hya4 => (intro wz hSw; (try dsimp only at hSw); go_simp; try with_reducible rfl)
            (try simp only [List.getElem_toArray, List.getElem_cons_zero, List.getElem_cons_succ, Act.put, List.setIfInBounds_toArray, List.set_cons_zero, List.set_cons_succ])
            refine wpAnyH_ready (rs := [5]) (by kernel_rfl) (by simp) ?_
            refine AllReadyH.cons (o := _) rfl (fun K hK => ?_) AllReadyH.nil
            rw [if_pos (by rfl)]
            go_simp
            refine hK.out _ _ (by first | exact s6 | exact u4 | exact sd) (fun hHeld => ?_)
            clear hK K
            (try simp only [List.getElem_toArray, List.getElem_cons_zero, List.getElem_cons_succ, Act.put, List.setIfInBounds_toArray, List.set_cons_zero, List.set_cons_succ])
            refine wpAnyH_done (by kernel_rfl) ?_ _
            obtain ⟨w5, hw5⟩ := named (w4.setCell ⟨g, J, none⟩ (.slice (some ⟨wr.heap.size, 0, none⟩) 8 8))
            have hw55 : w4.setCell ⟨g, J, none⟩ (.slice (some ⟨wr.heap.size, 0, none⟩) 8 8) = w5 := hw5.out
            have hq5 : TabQ w5 _ _ _ _ _ _ := hw55 ▸ hq5
            have hb5 : BoxS _ _ _ _ _ _ _ w5 := hw55 ▸ hb5
            rw [hw55]
            clear hw5 hw55 s6 hb4 hq4 u1 v0 v1 v2 v3 v4 u2 u3 u4 u5 hg5 hmk hf1 hf2 c4 f4 cd fd
            go_wp2
            have hdr5 : Below w5.heap.size w5 w5.drew := (Below.refl _ _).drew
            have hq5d := hq5.later hdr5
            have hb5d := hb5.later hdr5
            obtain ⟨cur, k1, k2, k3, k4, k5⟩ := hq5d.storeEn J _ hd5 rfl R hR5 (k, s, n, z, m0) HO.out
            have hb6 := hb5d.row k5 (fun e => by
              have h9 := hb5d.2.2.2.1
              rw [← e] at h9
              have := (show w5.drew.heap[_]? = _ from h9).symm.trans k1
              simp at this) k4
            have hc5 : w5.drew.cell? ⟨g, J, none⟩ = some (.slice (some ⟨wr.heap.size, 0, none⟩) 8 8) := by
              obtain ⟨g', d', e1, _, _, e2, e3, _⟩ := hq5d.at J hJM
              cases e1
              rw [e3]
              obtain rfl := Option.some.inj (hd5.symm.trans e2)
              rfl
            obtain ⟨t1, ⟨q0, q1, q2, q3, q4⟩, t2, t3, t4, t5⟩ := hb5d.cells
            have hS5 : (w5.drew.cell? ⟨Y, 0, none⟩ = some (.slice (some ⟨g, 0, none⟩) M c') ∧ w5.drew.cell? ⟨g, J, none⟩ = some (.slice (some ⟨wr.heap.size, 0, none⟩) 8 8)) ∧ w5.drew.cell? ⟨X + 1, 0, none⟩ = some (.int .i64 k) ∧ w5.drew.cell? ⟨X + 1, 1, none⟩ = some (.int .i64 s) ∧ w5.drew.cell? ⟨X + 1, 2, none⟩ = some (.int .i64 n) ∧ w5.drew.cell? ⟨X + 1, 3, none⟩ = some (.int .i64 z) ∧ w5.drew.cell? ⟨X + 1, 4, none⟩ = some (.int .u32 m0) := ⟨⟨t4, hc5⟩, q0, q1, q2, q3, q4⟩
            have HS5 := Lib.hid hS5
            obtain ⟨w6, hw6⟩ := named (w5.drew.setRow wr.heap.size (cur.toList.take (R * 5) ++ enV (k, s, n, z, m0) ++ cur.toList.drop (R * 5 + (enV (k, s, n, z, m0)).length)).toArray)
            rw [hw6.out] at k3 hb6
            have hc6 : w6.cell? ⟨g, J, none⟩ = some (.slice (some ⟨wr.heap.size, 0, none⟩) 8 8) := by
              obtain ⟨g', d', e1, _, _, e2, e3, _⟩ := k3.at J hJM
              cases e1
              rw [e3]
              rw [List.getElem?_set, if_pos rfl] at e2
              split at e2
              · obtain rfl := Option.some.inj e2
                rfl
              · cases e2
            obtain ⟨_, ⟨r0, r1, r2, r3, r4⟩, _, _, r5, r6⟩ := hb6.cells
            have HS6 := Lib.hid (⟨⟨r5, hc6⟩, r0, r1, r2, r3, r4⟩ : (w6.cell? ⟨Y, 0, none⟩ = some (.slice (some ⟨g, 0, none⟩) M c') ∧ w6.cell? ⟨g, J, none⟩ = some (.slice (some ⟨wr.heap.size, 0, none⟩) 8 8)) ∧ w6.cell? ⟨X + 1, 0, none⟩ = some (.int .i64 k) ∧ w6.cell? ⟨X + 1, 1, none⟩ = some (.int .i64 s) ∧ w6.cell? ⟨X + 1, 2, none⟩ = some (.int .i64 n) ∧ w6.cell? ⟨X + 1, 3, none⟩ = some (.int .i64 z) ∧ w6.cell? ⟨X + 1, 4, none⟩ = some (.int .u32 m0))
            have HQ6 := Lib.hid k3
            have HB6 := Lib.hid hb6
            have HT6 : Hid (wbT (tbOf ((es'.set J (some ⟨wr.heap.size, 0, none⟩, 8, 8, List.replicate 8 enZ)).set J (some ⟨wr.heap.size, 0, none⟩, 8, 8, (List.replicate 8 enZ).set R (k, s, n, z, m0)))) = setT (tbOf ds) I (k, s, n, z, m0)) := set_is9 hf (by omega) hJ.out hR.out (by rw [tb_set]; exact hT5)
            have HBL := Lib.hid (blanks9 w6 (X + 3) _ M c' _ k3 (by have := hb6.2.2.2.1.lt; have := hb6.2.2.2.2.2; omega) (by omega))
            clear k3 hb6 r5 r6 r0 r1 r2 r3 r4 hc6 hb5 hq5 hb5d hq5d hdr5
            refine wp_region_held_drew (S := fun w' => (w'.cell? ⟨Y, 0, none⟩ = some (.slice (some ⟨g, 0, none⟩) M c') ∧ w'.cell? ⟨g, J, none⟩ = some (.slice (some ⟨wr.heap.size, 0, none⟩) 8 8)) ∧ w'.cell? ⟨X + 1, 0, none⟩ = some (.int .i64 k) ∧ w'.cell? ⟨X + 1, 1, none⟩ = some (.int .i64 s) ∧ w'.cell? ⟨X + 1, 2, none⟩ = some (.int .i64 n) ∧ w'.cell? ⟨X + 1, 3, none⟩ = some (.int .i64 z) ∧ w'.cell? ⟨X + 1, 4, none⟩ = some (.int .u32 m0)) (by kernel_rfl) (by first | exact HS6.out | exact HS5.out) (fun hHeld => ?_)
            refine wpAnyH_take (i := 0) (oi := _) (v := ?vb0) rfl (by kernel_rfl) (by kernel_rfl) (by kernel_rfl) (fun _ _ _ h => h) (Or.inl ⟨by rfl, ?hyb0⟩) (by assumption) ?restb0
            case hyb0 => (intro wz hSw; (try dsimp only at hSw); go_simp; try with_reducible rfl)
            (try simp only [List.getElem_toArray, List.getElem_cons_zero, Act.put, List.setIfInBounds_toArray, List.set_cons_zero, List.set_cons_succ])
            refine wpAnyH_take (i := 1) (oi := _) (v := ?vb1) rfl (by kernel_rfl) (by kernel_rfl) (by kernel_rfl) (fun _ _ _ h => h) (Or.inl ⟨by rfl, ?hyb1⟩) (by assumption) ?restb1
            case hyb1 => (intro wz hSw; (try dsimp only at hSw); go_simp; try with_reducible rfl)
            (try simp only [List.getElem_toArray, List.getElem_cons_zero, List.getElem_cons_succ, Act.put, List.setIfInBounds_toArray, List.set_cons_zero, List.set_cons_succ])
            refine wpAnyH_take (i := 2) (oi := _) (v := ?vb2) rfl (by kernel_rfl) (by kernel_rfl) (by kernel_rfl) (fun _ _ _ h => h) (Or.inl ⟨by rfl, ?hyb2⟩) (by assumption) ?restb2
            case hyb2 => (intro wz hSw; (try dsimp only at hSw); go_simp; try with_reducible rfl)
            (try simp only [List.getElem_toArray, List.getElem_cons_zero, List.getElem_cons_succ, Act.put, List.setIfInBounds_toArray, List.set_cons_zero, List.set_cons_succ])
            refine wpAnyH_take (i := 3) (oi := _) (v := ?vb3) rfl (by kernel_rfl) (by kernel_rfl) (by kernel_rfl) (fun _ _ _ h => h) (Or.inl ⟨by rfl, ?hyb3⟩) (by assumption) ?restb3
            case hyb3 => (intro wz hSw; (try dsimp only at hSw); go_simp; try with_reducible rfl)
            (try simp only [List.getElem_toArray, List.getElem_cons_zero, List.getElem_cons_succ, Act.put, List.setIfInBounds_toArray, List.set_cons_zero, List.set_cons_succ])
            refine wpAnyH_take (i := 4) (oi := _) (v := ?vb4) rfl (by kernel_rfl) (by kernel_rfl) (by kernel_rfl) (fun _ _ _ h => h) (Or.inl ⟨by rfl, ?hyb4⟩) (by assumption) ?restb4
            case hyb4 => (intro wz hSw; (try dsimp only at hSw); go_simp; try with_reducible rfl)
            (try simp only [List.getElem_toArray, List.getElem_cons_zero, List.getElem_cons_succ, Act.put, List.setIfInBounds_toArray, List.set_cons_zero, List.set_cons_succ])
            refine wpAnyH_take (i := 5) (oi := _) (v := ?vb5) rfl (by kernel_rfl) (by kernel_rfl) (by kernel_rfl) (fun _ _ _ h => h) (Or.inl ⟨by rfl, ?hyb5⟩) (by assumption) ?restb5
            case hyb5 => (intro wz hSw; (try dsimp only at hSw); go_simp; try with_reducible rfl)
            (try simp only [List.getElem_toArray, List.getElem_cons_zero, List.getElem_cons_succ, Act.put, List.setIfInBounds_toArray, List.set_cons_zero, List.set_cons_succ])
            refine wpAnyH_take (i := 6) (oi := _) (v := ?vb6) rfl (by kernel_rfl) (by kernel_rfl) (by kernel_rfl) (fun _ _ _ h => h) (Or.inl ⟨by rfl, ?hyb6⟩) (by assumption) ?restb6
            case hyb6 => (intro wz hSw; (try dsimp only at hSw); go_simp; try with_reducible rfl)
            (try simp only [List.getElem_toArray, List.getElem_cons_zero, List.getElem_cons_succ, Act.put, List.setIfInBounds_toArray, List.set_cons_zero, List.set_cons_succ])
            refine wpAnyH_take (i := 7) (oi := _) (v := ?vb7) rfl (by kernel_rfl) (by kernel_rfl) (by kernel_rfl) (fun _ _ _ h => h) (Or.inl ⟨by rfl, ?hyb7⟩) (by assumption) ?restb7
            case hyb7 => (intro wz hSw; (try dsimp only at hSw); go_simp; try with_reducible rfl)
            (try simp only [List.getElem_toArray, List.getElem_cons_zero, List.getElem_cons_succ, Act.put, List.setIfInBounds_toArray, List.set_cons_zero, List.set_cons_succ])
            refine wpAnyH_take (i := 8) (oi := _) (v := ?vb8) rfl (by kernel_rfl) (by kernel_rfl) (by kernel_rfl) (fun _ _ _ h => h) (Or.inl ⟨by rfl, ?hyb8⟩) (by assumption) ?restb8
            case hyb8 => (intro wz hSw; (try dsimp only at hSw); go_simp; try with_reducible rfl)
            (try simp only [List.getElem_toArray, List.getElem_cons_zero, List.getElem_cons_succ, Act.put, List.setIfInBounds_toArray, List.set_cons_zero, List.set_cons_succ])
            refine wpAnyH_ready (rs := [9]) (by kernel_rfl) (by simp) ?_
            refine AllReadyH.cons (o := _) rfl (fun K hK => ?_) AllReadyH.nil
            rw [if_pos (by rfl)]
            (refine wp_store_in9 (.tmp 52) (.tmp 51) rfl wr.heap.size (R * 5) cur (enV (k, s, n, z, m0)).toArray rfl rfl k1 entry_size k2 (enV_one _) ?_; rw [hw6.out])
            (try dsimp only)
            refine hK.out _ _ (by first | exact HS6.out | exact HS5.out) (fun hHeld => ?_)
            clear hK K
            (try simp only [List.getElem_toArray, List.getElem_cons_zero, List.getElem_cons_succ, Act.put])
            refine wpAnyH_done (by kernel_rfl) ?_ _
            go_wp2_with (go_at_call 35; refine HBL.out.mono ?_; rintro e w7 ⟨l7, es7, rfl, g1, g2, g3⟩; have HE7 := Lib.hid (g1.trans HT6.out); have h8 : Blk w7 (X + 2) 24 #[.slice none 0 0] := (g3.block (X + 2) (by omega)).trans HB6.out.2.2.1; have hbX : Below X w w7 := HB6.out.2.2.2.2.1.trans (g3.mono (by omega)); have o1 : w7.cell? ⟨X + 1 + 1, 0, none⟩ = some (.slice none 0 0) := one_cell9 h8; have o2 : w7.frozen? ⟨X + 1 + 1, 0, none⟩ = false := h8.free 0; have HB8 := Lib.hid (h8.set 0 (.slice (some ⟨g, 0, none⟩) l7 c')); have HQ8 := Lib.hid (g2.low (X := X + 2) (by omega) (grownBy_setCell4 w7 (X + 2) 0 (.slice (some ⟨g, 0, none⟩) l7 c'))); have HX8 := Lib.hid (hbX.setCell (p := ⟨X + 2, 0, none⟩) (by show X ≤ X + 2; omega) (.slice (some ⟨g, 0, none⟩) l7 c')); clear g1 g2 g3 h8 hbX)
            obtain ⟨c9, hc9⟩ := set_in9 hf (i := (I : Int)) (by omega)
            obtain ⟨n1, n2⟩ := right_lens hc9
            have hl7 : l7 ≤ 512 := by
              have h1 := HQ8.out.size
              have h2 := congrArg List.length HE7.out
              rw [tbOf_len] at h2
              omega
            refine bodyPost_ret (v := .agg #[.slice (some ⟨g, 0, none⟩) l7 c']) (results_cell_row rfl _ _ (X + 2) 24 #[.slice (some ⟨g, 0, none⟩) l7 c'] (0, 0) _ rfl HB8.out Tryd.underlying24 rfl tbl_size) rfl ⟨_, l7, c', rfl, HQ8.out.tabN HE7.out (by omega) (fun lf hlf => by have := n2 lf hlf; omega) (by omega), HX8.out⟩
          · have HA := Lib.hid (fun w => absent9 al ll cl false (by simp [h0]) w)
            have hfull : full (tbAt (tbOf ds) J) = xs := by
              rw [htb]
              unfold full
              rw [if_neg (fun e => h0 (by rw [← hLl, e]; rfl))]
            obtain ⟨c0, hf0, hm0⟩ := id hf
            have h8 : ll = 8 := by
              have := (full_ok hf0.2.1 (hf0.ok J)).1
              rw [hfull] at this
              omega
            subst h8
            obtain ⟨LB, hLB, hLB1, hLB2⟩ := hLO.form (by show 0 < 8; omega)
            dsimp only at hLB
            subst hLB
            have hq5 := HQ.out
            have hb5 := HB.out
            have hd5 := hd
            have hT5 : (tbOf es').set J (xs.set R (k, s, n, z, m0)) = (padT (tbOf ds) J).set J ((full (tbAt (tbOf ds) J)).set R (k, s, n, z, m0)) := by
              rw [HE3.out, hfull]
            have hR5 : R < 8 := hR8
            clear hf0 hm0 hfull hLO hd
            go_wp2_with (go_at_call 19; (with_reducible refine (HA.out _).mono ?_); rintro e w2 ⟨rfl, rfl⟩)
            have hdr5 : Below wr.heap.size wr wr.drew := (Below.refl _ _).drew
            have hq5d := hq5.later hdr5
            have hb5d := hb5.later hdr5
            obtain ⟨cur, k1, k2, k3, k4, k5⟩ := hq5d.storeEn J _ hd5 rfl R hR5 (k, s, n, z, m0) HO.out
            have hb6 := hb5d.row k5 (fun e => by
              have h9 := hb5d.2.2.2.1
              rw [← e] at h9
              have := (show wr.drew.heap[_]? = _ from h9).symm.trans k1
              simp at this) k4
            have hc5 : wr.drew.cell? ⟨g, J, none⟩ = some (.slice (some ⟨LB, 0, none⟩) 8 cl) := by
              obtain ⟨g', d', e1, _, _, e2, e3, _⟩ := hq5d.at J hJM
              cases e1
              rw [e3]
              obtain rfl := Option.some.inj (hd5.symm.trans e2)
              rfl
            obtain ⟨t1, ⟨q0, q1, q2, q3, q4⟩, t2, t3, t4, t5⟩ := hb5d.cells
            have hS5 : (wr.drew.cell? ⟨Y, 0, none⟩ = some (.slice (some ⟨g, 0, none⟩) M c') ∧ wr.drew.cell? ⟨g, J, none⟩ = some (.slice (some ⟨LB, 0, none⟩) 8 cl)) ∧ wr.drew.cell? ⟨X + 1, 0, none⟩ = some (.int .i64 k) ∧ wr.drew.cell? ⟨X + 1, 1, none⟩ = some (.int .i64 s) ∧ wr.drew.cell? ⟨X + 1, 2, none⟩ = some (.int .i64 n) ∧ wr.drew.cell? ⟨X + 1, 3, none⟩ = some (.int .i64 z) ∧ wr.drew.cell? ⟨X + 1, 4, none⟩ = some (.int .u32 m0) := ⟨⟨t4, hc5⟩, q0, q1, q2, q3, q4⟩
            have HS5 := Lib.hid hS5
            obtain ⟨w6, hw6⟩ := named (wr.drew.setRow LB (cur.toList.take (R * 5) ++ enV (k, s, n, z, m0) ++ cur.toList.drop (R * 5 + (enV (k, s, n, z, m0)).length)).toArray)
            rw [hw6.out] at k3 hb6
            have hc6 : w6.cell? ⟨g, J, none⟩ = some (.slice (some ⟨LB, 0, none⟩) 8 cl) := by
              obtain ⟨g', d', e1, _, _, e2, e3, _⟩ := k3.at J hJM
              cases e1
              rw [e3]
              rw [List.getElem?_set, if_pos rfl] at e2
              split at e2
              · obtain rfl := Option.some.inj e2
                rfl
              · cases e2
            obtain ⟨_, ⟨r0, r1, r2, r3, r4⟩, _, _, r5, r6⟩ := hb6.cells
            have HS6 := Lib.hid (⟨⟨r5, hc6⟩, r0, r1, r2, r3, r4⟩ : (w6.cell? ⟨Y, 0, none⟩ = some (.slice (some ⟨g, 0, none⟩) M c') ∧ w6.cell? ⟨g, J, none⟩ = some (.slice (some ⟨LB, 0, none⟩) 8 cl)) ∧ w6.cell? ⟨X + 1, 0, none⟩ = some (.int .i64 k) ∧ w6.cell? ⟨X + 1, 1, none⟩ = some (.int .i64 s) ∧ w6.cell? ⟨X + 1, 2, none⟩ = some (.int .i64 n) ∧ w6.cell? ⟨X + 1, 3, none⟩ = some (.int .i64 z) ∧ w6.cell? ⟨X + 1, 4, none⟩ = some (.int .u32 m0))
            have HQ6 := Lib.hid k3
            have HB6 := Lib.hid hb6
            have HT6 : Hid (wbT (tbOf (es'.set J (some ⟨LB, 0, none⟩, 8, cl, xs.set R (k, s, n, z, m0)))) = setT (tbOf ds) I (k, s, n, z, m0)) := set_is9 hf (by omega) hJ.out hR.out (by rw [tb_set]; exact hT5)
            have HBL := Lib.hid (blanks9 w6 (X + 3) _ M c' _ k3 (by have := hb6.2.2.2.1.lt; have := hb6.2.2.2.2.2; omega) (by omega))
            clear k3 hb6 r5 r6 r0 r1 r2 r3 r4 hc6 hb5 hq5 hb5d hq5d hdr5
            refine wp_region_held_drew (S := fun w' => (w'.cell? ⟨Y, 0, none⟩ = some (.slice (some ⟨g, 0, none⟩) M c') ∧ w'.cell? ⟨g, J, none⟩ = some (.slice (some ⟨LB, 0, none⟩) 8 cl)) ∧ w'.cell? ⟨X + 1, 0, none⟩ = some (.int .i64 k) ∧ w'.cell? ⟨X + 1, 1, none⟩ = some (.int .i64 s) ∧ w'.cell? ⟨X + 1, 2, none⟩ = some (.int .i64 n) ∧ w'.cell? ⟨X + 1, 3, none⟩ = some (.int .i64 z) ∧ w'.cell? ⟨X + 1, 4, none⟩ = some (.int .u32 m0)) (by kernel_rfl) (by first | exact HS6.out | exact HS5.out) (fun hHeld => ?_)
            refine wpAnyH_take (i := 0) (oi := _) (v := ?vc0) rfl (by kernel_rfl) (by kernel_rfl) (by kernel_rfl) (fun _ _ _ h => h) (Or.inl ⟨by rfl, ?hyc0⟩) (by assumption) ?restc0
            case hyc0 => (intro wz hSw; (try dsimp only at hSw); go_simp; try with_reducible rfl)
            (try simp only [List.getElem_toArray, List.getElem_cons_zero, Act.put, List.setIfInBounds_toArray, List.set_cons_zero, List.set_cons_succ])
            refine wpAnyH_take (i := 1) (oi := _) (v := ?vc1) rfl (by kernel_rfl) (by kernel_rfl) (by kernel_rfl) (fun _ _ _ h => h) (Or.inl ⟨by rfl, ?hyc1⟩) (by assumption) ?restc1
            case hyc1 => (intro wz hSw; (try dsimp only at hSw); go_simp; try with_reducible rfl)
            (try simp only [List.getElem_toArray, List.getElem_cons_zero, List.getElem_cons_succ, Act.put, List.setIfInBounds_toArray, List.set_cons_zero, List.set_cons_succ])
            refine wpAnyH_take (i := 2) (oi := _) (v := ?vc2) rfl (by kernel_rfl) (by kernel_rfl) (by kernel_rfl) (fun _ _ _ h => h) (Or.inl ⟨by rfl, ?hyc2⟩) (by assumption) ?restc2
            case hyc2 => (intro wz hSw; (try dsimp only at hSw); go_simp; try with_reducible rfl)
            (try simp only [List.getElem_toArray, List.getElem_cons_zero, List.getElem_cons_succ, Act.put, List.setIfInBounds_toArray, List.set_cons_zero, List.set_cons_succ])
            refine wpAnyH_take (i := 3) (oi := _) (v := ?vc3) rfl (by kernel_rfl) (by kernel_rfl) (by kernel_rfl) (fun _ _ _ h => h) (Or.inl ⟨by rfl, ?hyc3⟩) (by assumption) ?restc3
            case hyc3 => (intro wz hSw; (try dsimp only at hSw); go_simp; try with_reducible rfl)
            (try simp only [List.getElem_toArray, List.getElem_cons_zero, List.getElem_cons_succ, Act.put, List.setIfInBounds_toArray, List.set_cons_zero, List.set_cons_succ])
            refine wpAnyH_take (i := 4) (oi := _) (v := ?vc4) rfl (by kernel_rfl) (by kernel_rfl) (by kernel_rfl) (fun _ _ _ h => h) (Or.inl ⟨by rfl, ?hyc4⟩) (by assumption) ?restc4
            case hyc4 => (intro wz hSw; (try dsimp only at hSw); go_simp; try with_reducible rfl)
            (try simp only [List.getElem_toArray, List.getElem_cons_zero, List.getElem_cons_succ, Act.put, List.setIfInBounds_toArray, List.set_cons_zero, List.set_cons_succ])
            refine wpAnyH_take (i := 5) (oi := _) (v := ?vc5) rfl (by kernel_rfl) (by kernel_rfl) (by kernel_rfl) (fun _ _ _ h => h) (Or.inl ⟨by rfl, ?hyc5⟩) (by assumption) ?restc5
            case hyc5 => (intro wz hSw; (try dsimp only at hSw); go_simp; try with_reducible rfl)
            (try simp only [List.getElem_toArray, List.getElem_cons_zero, List.getElem_cons_succ, Act.put, List.setIfInBounds_toArray, List.set_cons_zero, List.set_cons_succ])
            refine wpAnyH_take (i := 6) (oi := _) (v := ?vc6) rfl (by kernel_rfl) (by kernel_rfl) (by kernel_rfl) (fun _ _ _ h => h) (Or.inl ⟨by rfl, ?hyc6⟩) (by assumption) ?restc6
            case hyc6 => (intro wz hSw; (try dsimp only at hSw); go_simp; try with_reducible rfl)
            (try simp only [List.getElem_toArray, List.getElem_cons_zero, List.getElem_cons_succ, Act.put, List.setIfInBounds_toArray, List.set_cons_zero, List.set_cons_succ])
            refine wpAnyH_take (i := 7) (oi := _) (v := ?vc7) rfl (by kernel_rfl) (by kernel_rfl) (by kernel_rfl) (fun _ _ _ h => h) (Or.inl ⟨by rfl, ?hyc7⟩) (by assumption) ?restc7
            case hyc7 => (intro wz hSw; (try dsimp only at hSw); go_simp; try with_reducible rfl)
            (try simp only [List.getElem_toArray, List.getElem_cons_zero, List.getElem_cons_succ, Act.put, List.setIfInBounds_toArray, List.set_cons_zero, List.set_cons_succ])
            refine wpAnyH_take (i := 8) (oi := _) (v := ?vc8) rfl (by kernel_rfl) (by kernel_rfl) (by kernel_rfl) (fun _ _ _ h => h) (Or.inl ⟨by rfl, ?hyc8⟩) (by assumption) ?restc8
            case hyc8 => (intro wz hSw; (try dsimp only at hSw); go_simp; try with_reducible rfl)
            (try simp only [List.getElem_toArray, List.getElem_cons_zero, List.getElem_cons_succ, Act.put, List.setIfInBounds_toArray, List.set_cons_zero, List.set_cons_succ])
            refine wpAnyH_ready (rs := [9]) (by kernel_rfl) (by simp) ?_
            refine AllReadyH.cons (o := _) rfl (fun K hK => ?_) AllReadyH.nil
            rw [if_pos (by rfl)]
            (refine wp_store_in9 (.tmp 52) (.tmp 51) rfl LB (R * 5) cur (enV (k, s, n, z, m0)).toArray rfl rfl k1 entry_size k2 (enV_one _) ?_; rw [hw6.out])
            (try dsimp only)
            refine hK.out _ _ (by first | exact HS6.out | exact HS5.out) (fun hHeld => ?_)
            clear hK K
            (try simp only [List.getElem_toArray, List.getElem_cons_zero, List.getElem_cons_succ, Act.put])
            refine wpAnyH_done (by kernel_rfl) ?_ _
            go_wp2_with (go_at_call 35; refine HBL.out.mono ?_; rintro e w7 ⟨l7, es7, rfl, g1, g2, g3⟩; have HE7 := Lib.hid (g1.trans HT6.out); have h8 : Blk w7 (X + 2) 24 #[.slice none 0 0] := (g3.block (X + 2) (by omega)).trans HB6.out.2.2.1; have hbX : Below X w w7 := HB6.out.2.2.2.2.1.trans (g3.mono (by omega)); have o1 : w7.cell? ⟨X + 1 + 1, 0, none⟩ = some (.slice none 0 0) := one_cell9 h8; have o2 : w7.frozen? ⟨X + 1 + 1, 0, none⟩ = false := h8.free 0; have HB8 := Lib.hid (h8.set 0 (.slice (some ⟨g, 0, none⟩) l7 c')); have HQ8 := Lib.hid (g2.low (X := X + 2) (by omega) (grownBy_setCell4 w7 (X + 2) 0 (.slice (some ⟨g, 0, none⟩) l7 c'))); have HX8 := Lib.hid (hbX.setCell (p := ⟨X + 2, 0, none⟩) (by show X ≤ X + 2; omega) (.slice (some ⟨g, 0, none⟩) l7 c')); clear g1 g2 g3 h8 hbX)
            obtain ⟨c9, hc9⟩ := set_in9 hf (i := (I : Int)) (by omega)
            obtain ⟨n1, n2⟩ := right_lens hc9
            have hl7 : l7 ≤ 512 := by
              have h1 := HQ8.out.size
              have h2 := congrArg List.length HE7.out
              rw [tbOf_len] at h2
              omega
            refine bodyPost_ret (v := .agg #[.slice (some ⟨g, 0, none⟩) l7 c']) (results_cell_row rfl _ _ (X + 2) 24 #[.slice (some ⟨g, 0, none⟩) l7 c'] (0, 0) _ rfl HB8.out Tryd.underlying24 rfl tbl_size) rfl ⟨_, l7, c', rfl, HQ8.out.tabN HE7.out (by omega) (fun lf hlf => by have := n2 lf hlf; omega) (by omega), HX8.out⟩
    · have HM := Lib.hid (fun w h => standC (a := a) (cap := cap) hlen ho (decide_eq_false hf) w h)
      have he : setT (tbOf ds) i (k, s, n, z, m0) = tbOf ds := by unfold setT; rw [if_neg (fun h => hf h.2)]
      rw [he]
      clear hT ho he hf
      go_enter Tryd.func18, Tryd.ntmps18
      go_wp2_with (first
        | (go_at_call 32; refine (HCP.out _ HG0.out).mono ?_; rintro e w1 ⟨a1, c1, es, rfl, g1, g2, g3⟩; have hb1 := HFB.out w1 a1 c1 g3; rw [HSZ.out] at g2; have HQ1 := Lib.hid (g2.alloc (.cells #[.slice a1 len c1] 24)); have HE1 := Lib.hid g1; have HB1 := Lib.hid hb1; have HT1 := Lib.hid (HTR.out.later (hX.out.symm ▸ hb1.2.2.2.2.1)); obtain ⟨b1, ⟨y0, y1, y2, y3, y4⟩, _, _, _, _⟩ := hb1.cells; clear g1 g2 g3 hb1)
        | (go_at_call 27; (with_reducible refine (HW.out _).mono ?_); rintro e w2 ⟨rfl, rfl⟩)
        | (go_at_call 33; (with_reducible refine (HM.out _ HT1.out).mono ?_); rintro e w3 ⟨rfl, g⟩; have HB3 := Lib.hid ((HB1.out.later g).res (.slice a1 len c1)); have HQ3 := Lib.hid ((HQ1.out.later g).low (X := X + 2) (by omega) (grownBy_setCell4 w3 (X + 2) 0 (.slice a1 len c1))); obtain ⟨d1, ⟨z0, z1, z2, z3, z4⟩, d2, d3, d4, d5⟩ := (HB1.out.later g).cells; clear g))
      refine bodyPost_ret (v := .agg #[.slice a1 len c1]) (results_cell_row rfl _ _ (X + 2) 24 #[.slice a1 len c1] (0, 0) _ rfl HB3.out.2.2.1 Tryd.underlying24 rfl tbl_size) rfl ⟨a1, len, c1, rfl, HQ3.out.tabN HE1.out HLS.out.2.1 HLS.out.2.2.1 (by omega), HB3.out.2.2.2.2.1⟩
  · have HW := Lib.hid (fun w => within9_is (n := i) (a := 0) (b := 4095) (decide_eq_false hw) w)
    have he : setT (tbOf ds) i (k, s, n, z, m0) = tbOf ds := by unfold setT; rw [if_neg (fun h => hw ⟨h.1.1, by have := h.1.2; omega⟩)]
    rw [he]
    clear hT ho he
    go_enter Tryd.func18, Tryd.ntmps18
    go_wp2_with (first
      | (go_at_call 32; refine (HCP.out _ HG0.out).mono ?_; rintro e w1 ⟨a1, c1, es, rfl, g1, g2, g3⟩; have hb1 := HFB.out w1 a1 c1 g3; rw [HSZ.out] at g2; have HQ3 := Lib.hid ((g2.alloc (.cells #[.slice a1 len c1] 24)).low (X := X + 2) (by omega) (grownBy_setCell4 (w1.alloc (.cells #[.slice a1 len c1] 24)) (X + 2) 0 (.slice a1 len c1))); have HE1 := Lib.hid g1; have HB3 := Lib.hid (hb1.res (.slice a1 len c1)); obtain ⟨_, _, d2, d3, _, _⟩ := hb1.cells; clear g1 g2 g3 hb1)
      | (go_at_call 27; (with_reducible refine (HW.out _).mono ?_); rintro e w2 ⟨rfl, rfl⟩))
    refine bodyPost_ret (v := .agg #[.slice a1 len c1]) (results_cell_row rfl _ _ (X + 2) 24 #[.slice a1 len c1] (0, 0) _ rfl HB3.out.2.2.1 Tryd.underlying24 rfl tbl_size) rfl ⟨a1, len, c1, rfl, HQ3.out.tabN HE1.out HLS.out.2.1 HLS.out.2.2.1 (by omega), HB3.out.2.2.2.2.1⟩
end Go.Proofs.YtbdidgfbonkneaaDoor
