/-
  What the reference's AddShot answers (layer 9). Conditions: the meta is small.
-/
import Derived.Test.YtidknkhkblloaaaU0
namespace Go.Proofs.Ytidknkhkblloaaa
open Go.RowKit Go.ChangeShapes Go.WideShapes Go.Deep
set_option linter.unusedVariables false

theorem results_cell_tmp {P : Program} {fn : Func} {p q : Tmp} {ty : TypeId} (h : fn.results = #[.cell p ty, .tmp q]) (tmps : Array Value) (w : World) (g : Nat) (t : TypeId) (cs : Array Value) (fr : Nat × Nat) (d : TypeDesc)
    (hp : tmps.getD p undef = .pointer (some ⟨g, 0, none⟩)) (v : Value) (hv : tmps.getD q undef = v) (hg : w.heap[g]? = some (.cells cs t fr))
    (hu : P.underlying ty = some d) (hd : (match d with | .struct _ | .array _ _ => true | _ => false) = true) (hi : (P.info? ty).map (·.size) = some cs.size) :
    (results fn tmps).run P w = .ok (.tuple #[.agg cs, v]) w := by
  have hp' : tmps[p]?.getD undef = .pointer (some ⟨g, 0, none⟩) := by simpa using hp
  have hv' : tmps[q]?.getD undef = v := by simpa using hv
  simp [results, h, hp', hv', asAddr, run_loadVar_row w g t ty cs fr d hg hu hd hi]
/-- The meta's box and the result's. -/
structure AP (X : Nat) (w0 W : World) (csM csR : Array Value) : Prop where
  m : Blk W X 29 csM
  r : Blk W (X + 1) 29 csR
  dat : Below X w0 W
section
variable {X : Nat} {w0 W W' : World} {csM csR : Array Value}
theorem AP.size (h : AP X w0 W csM csR) : X + 2 ≤ W.heap.size := h.r.lt
theorem AP.later (h : AP X w0 W csM csR) (hb : Below W.heap.size W W') : AP X w0 W' csM csR := ⟨h.m.later hb, h.r.later hb, h.dat.trans (hb.mono (by have := h.size; omega))⟩
theorem AP.res (h : AP X w0 W csM csR) (i : Nat) (v : Value) : AP X w0 (W.setCell ⟨X + 1, i, none⟩ v) csM (csR.setIfInBounds i v) :=
  ⟨h.m.other (by omega) _, h.r.set i v, h.dat.setCell (by show X ≤ X + 1; omega) v⟩
theorem AP.kept (h : AP X w0 W csM csR) {k : Nat} (hk : X + 2 ≤ k) (hg : W.grownBy W' (some k)) : AP X w0 W' csM csR :=
  ⟨h.m.kept hg (fun e => by cases e; omega), h.r.kept hg (fun e => by cases e; omega), h.dat.grown hg (by have := h.size; omega) (fun j hj => by cases hj; omega)⟩
end
theorem AP.first (w : World) (csM csR : Array Value) : AP w.heap.size w ((w.alloc (.cells csM 29)).alloc (.cells csR 29)) csM csR := by
  have h1 : Blk ((w.alloc (.cells csM 29)).alloc (.cells csR 29)) (w.heap.size + 1) 29 csR := by
    have := Blk.new (w.alloc (.cells csM 29)) 29 csR
    rwa [World.size_alloc] at this
  exact ⟨(Blk.new w _ _).alloc _, h1, ((Below.refl _ _).alloc (Nat.le_refl _) _).alloc (by simp) _⟩
/-- ... and a third box, a table and shots of one's own. -/
structure AS (X Y B : Nat) (w0 W : World) (csM csR csO : Array Value) (a : Option Addr) (n c : Nat) (T : Tb) (sv : Value) (j : Nat) (S : List Sh) : Prop where
  ap : AP X w0 W csM csR
  o : Blk W Y 29 csO
  hY : X + 2 ≤ Y
  hB : X + 2 ≤ B
  hW : B ≤ W.heap.size
  tab : TabN W B a n c T
  own : OwnG shV 53 3 W B sv j S
  tabs : ∀ d ∈ S, TabN W B d.2.2.1 d.2.2.2.1 d.2.2.2.2.1 (shT d)
section
variable {X Y B : Nat} {w0 W W' : World} {csM csR csO : Array Value} {a : Option Addr} {n c : Nat} {T : Tb} {sv : Value} {j : Nat} {S : List Sh}
theorem AS.later (h : AS X Y B w0 W csM csR csO a n c T sv j S) (hb : Below W.heap.size W W') : AS X Y B w0 W' csM csR csO a n c T sv j S :=
  ⟨h.ap.later hb, h.o.later hb, h.hY, h.hB, Nat.le_trans h.hW hb.size, h.tab.later hb, h.own.kept' (grown_of_below hb) (fun k hk e => by cases e), fun d hd => (h.tabs d hd).later hb⟩
theorem AS.alloc (h : AS X Y B w0 W csM csR csO a n c T sv j S) (o : Obj) : AS X Y B w0 (W.alloc o) csM csR csO a n c T sv j S := h.later ((Below.refl _ _).alloc (Nat.le_refl _) o)
theorem AS.drew (h : AS X Y B w0 W csM csR csO a n c T sv j S) : AS X Y B w0 W.drew csM csR csO a n c T sv j S := h.later (Below.refl _ _).drew
theorem AS.out (h : AS X Y B w0 W csM csR csO a n c T sv j S) (i : Nat) (v : Value) : AS X Y B w0 (W.setCell ⟨Y, i, none⟩ v) csM csR (csO.setIfInBounds i v) a n c T sv j S :=
  have hg := grownBy_setCell4 W Y i v
  ⟨h.ap.kept h.hY hg, h.o.set i v, h.hY, h.hB, by rw [World.size_setCell]; exact h.hW, h.tab.typed h.o (by decide) (by decide) hg, h.own.kept' hg (fun k hk e => by cases e; exact h.o.not_row (by decide) h.own hk.symm), fun d hd => (h.tabs d hd).typed h.o (by decide) (by decide) hg⟩
theorem AS.res (h : AS X Y B w0 W csM csR csO a n c T sv j S) (i : Nat) (v : Value) : AS X Y B w0 (W.setCell ⟨X + 1, i, none⟩ v) csM (csR.setIfInBounds i v) csO a n c T sv j S :=
  have hg := grownBy_setCell4 W (X + 1) i v
  have hB := h.hB
  have hY := h.hY
  ⟨h.ap.res i v, h.o.other (by omega) _, h.hY, h.hB, by rw [World.size_setCell]; exact h.hW, h.tab.low (by omega) hg, h.own.kept' hg (fun k hk e => by cases e; have := (h.own.1.lt _ hk).1; omega), fun d hd => (h.tabs d hd).low (by omega) hg⟩
theorem AS.push (h : AS X Y B w0 W csM csR csO a n c T sv j S) {d : Sh} (hd : TabN W B d.2.2.1 d.2.2.2.1 d.2.2.2.2.1 (shT d)) {sv' : Value} (hO : OwnG shV 53 3 W' B sv' (j + 1) (S ++ [d])) (hg : W.grownBy W' sv.ownBlock) : AS X Y B w0 W' csM csR csO a n c T sv' (j + 1) (S ++ [d]) := by
  have hb : Below B W W' := low_new hg (fun k e => (h.own.1.lt k e).1) h.hW
  have hB := h.hB
  refine ⟨⟨h.ap.m.kept hg ?_, h.ap.r.kept hg ?_, h.ap.dat.trans (hb.mono (by omega))⟩, h.o.kept hg (h.o.not_row (by decide) h.own), h.hY, h.hB, Nat.le_trans h.hW hb.size, h.tab.row h.own (by decide) (by decide) hg, hO, fun x hx => ?_⟩
  · exact fun e => by have := (h.own.1.lt _ e.symm).1; omega
  · exact fun e => by have := (h.own.1.lt _ e.symm).1; omega
  · rcases List.mem_append.1 hx with hx | hx
    · exact (h.tabs x hx).row h.own (by decide) (by decide) hg
    · obtain rfl : x = d := by simpa using hx
      exact hd.row h.own (by decide) (by decide) hg
theorem AS.first (h : AP X w0 W csM csR) {B : Nat} (hB : X + 2 ≤ B) (hBW : B ≤ W.heap.size) (ht : TabN W B a n c T) (ho : OwnG shV 53 3 W B sv j S) (hs : ∀ d ∈ S, TabN W B d.2.2.1 d.2.2.2.1 d.2.2.2.2.1 (shT d)) (csO : Array Value) :
    AS X W.heap.size B w0 (W.alloc (.cells csO 29)) csM csR csO a n c T sv j S :=
  have hb : Below W.heap.size W (W.alloc (.cells csO 29)) := (Below.refl _ _).alloc (Nat.le_refl _) _
  ⟨h.later hb, Blk.new _ _ _, h.size, hB, Nat.le_trans hBW hb.size, ht.later hb, ho.kept' (grown_of_below hb) (fun k hk e => by cases e), fun d hd => (hs d hd).later hb⟩
end
theorem as_keep {X Y B : Nat} {w0 W : World} {c s : Int} {bk : ByteArray} {a0 : Option Addr} {n0 c0 : Nat} {sa : Option Addr} {sn sc : Nat} {v5 v6 : Value} {csR csO : Array Value} {a : Option Addr} {n c' : Nat} {T : Tb} {sv : Value} {j : Nat} {S : List Sh} (h : AS X Y B w0 W (mtC c s bk a0 n0 c0 sa sn sc v5 v6) csR csO a n c' T sv j S) :
    W.cell? ⟨X, 1, none⟩ = some (.int .i64 s) ∧ W.cell? ⟨X, 3, none⟩ = some (.slice a0 n0 c0) := by
  obtain ⟨_, m1, _, m3, _⟩ := mt_cells h.ap.m
  exact ⟨m1, m3⟩
/-- A meta that came in: a nil list of counts has no room. -/
def MetaArgC (w : World) (c s : Int) (bk : ByteArray) (a0 : Option Addr) (n0 c0 : Nat) (sa : Option Addr) (sn sc : Nat) (ma : Option Addr) (mn mc : Nat) (ca : Option Addr) (cn cc : Nat) : Prop := MetaArg w c s bk a0 n0 c0 sa sn sc ma mn mc ca cn cc ∧ (ca = none → cc = 0)
theorem meta_openC {H : Type} {enc : TypeId × Value → H} {W : World} {base : Nat} {held : Bool} {r : Reach} {b0 : Nat} {v : Value} {d : DataW H} {p : List MemPlace} (hv : Value.okWide Try.prog W r b0 29 v) (h : DataW.Trod enc Try.prog W base (fun _ => true) held 29 v d p) :
    ∃ (c s : Int) (bk : ByteArray) (a0 : Option Addr) (n0 c0 : Nat) (sa : Option Addr) (sn sc : Nat) (ma : Option Addr) (mn mc : Nat) (ca : Option Addr) (cn cc : Nat),
      v = .agg #[.int .i64 c, .int .i64 s, .string bk, .slice a0 n0 c0, .slice sa sn sc, .slice ma mn mc, .slice ca cn cc] ∧ MetaArgC W c s bk a0 n0 c0 sa sn sc ma mn mc ca cn cc := by
  obtain ⟨c, s, bk, a0, n0, c0, sa, sn, sc, ma, mn, mc, ca, cn, cc, rfl, hw⟩ := meta_open hv h
  refine ⟨c, s, bk, a0, n0, c0, sa, sn, sc, ma, mn, mc, ca, cn, cc, rfl, hw, ?_⟩
  obtain ⟨fuel, hf⟩ := h
  obtain ⟨xs, q, _, _, _, hxl, hx⟩ := DataW.trod_struct Try.underlying29 hf
  have hl : xs.length = 7 := hxl
  have k1 : Try.prog.cellsOf 3 = 1 := by kernel_rfl
  have k2 : Try.prog.cellsOf 9 = 1 := by kernel_rfl
  have k3 : Try.prog.cellsOf 24 = 1 := by kernel_rfl
  have k4 : Try.prog.cellsOf 25 = 1 := by kernel_rfl
  have k5 : Try.prog.cellsOf 26 = 1 := by kernel_rfl
  have k6 : Try.prog.cellsOf 27 = 1 := by kernel_rfl
  obtain ⟨y6, g6⟩ := some_at (xs := xs) 6 (by omega)
  have t6 := (hx 6 _ rfl).trans g6
  have t6' : DataW.trod enc Try.prog W base (fun _ => true) held q 27 [.slice ca cn cc] = some y6 := by simpa [k6, Value.cells] using t6
  rcases open_slice1 Try.underlying27 (by kernel_rfl) t6' with ⟨hc, _⟩ | ⟨a, len, cap, m, n, V, D, Pl, hc, hb, hle, hm, hmm, _, hi⟩
  · intro _
    simp at hc
    exact hc.2.2
  · intro h0
    simp at hc
    rw [h0] at hc
    cases hc.1
/-- What it answers: an error, or a meta with a shot more. -/
def AddQ (w : World) (c s : Int) (bk : ByteArray) (sn : Nat) (T : Tb) (S : List Sh) (e : Ending) (w' : World) : Prop :=
  ∃ (z : Int) (c' s' : Int) (bk' : ByteArray) (a1 : Option Addr) (n1 c1 : Nat) (pa : Option Addr) (pn pc : Nat) (ma1 : Option Addr) (mn1 mc1 : Nat) (ca1 : Option Addr) (cn1 cc1 : Nat), e = .returned (.tuple #[.agg #[.int .i64 c', .int .i64 s', .string bk', .slice a1 n1 c1, .slice pa pn pc, .slice ma1 mn1 mc1, .slice ca1 cn1 cc1], .int .i64 z]) ∧ Below w.heap.size w w' ∧ (z = 0 → (c' = c ∧ s' = s ∧ bk' = bk ∧ pn = sn + 1) ∧ ∃ S1 : List Sh, S1.map shT = S.map shT ++ [T] ∧ Tab w' a1 n1 c1 T ∧ ShsR w' pa (sn + 1) S1)
set_option maxRecDepth 100000 in
set_option maxHeartbeats 2000000 in
theorem addShot0 {w : World} {c s : Int} {bk : ByteArray} {a0 : Option Addr} {n0 c0 : Nat} {sa : Option Addr} {sn sc : Nat} {ma : Option Addr} {mn mc : Nat} {ca : Option Addr} {cn cc : Nat} {T : Tb} {S : List Sh} {gm : Nat → MpA} {f : Nat → Int} (h : MetaS w c s bk a0 n0 c0 sa sn ma mn ca cn T S gm f) (hcc : ca = none → cc = 0) (gs : Nat → ShA) (hgs : Row3 w sa sn (fun i => .string (gs i).1) (fun i => .int .i64 (gs i).2.1) (fun i => .slice (gs i).2.2.1 (gs i).2.2.2.1 (gs i).2.2.2.2)) (nm : ByteArray) (hnm : nm.size ≤ 1000) :
    Calls Try.prog 21 #[.agg #[.int .i64 c, .int .i64 s, .string bk, .slice a0 n0 c0, .slice sa sn sc, .slice ma mn mc, .slice ca cn cc], .string nm] w (AddQ w c s bk sn T S) := by
  have HM := Lib.hid h
  have HGS := Lib.hid hgs
  have HSN := Lib.hid (fun (w : World) => name0 nm (by omega) w)
  have HCC := Lib.hid hcc
  have HS20 : Hid (sn ≤ 20) := h.hsn
  have HA := Lib.hid (AP.first w (mtC c s bk a0 n0 c0 sa sn sc (.slice ma mn mc) (.slice ca cn cc)) (mtC 0 0 ByteArray.empty none 0 0 none 0 0 (.slice none 0 0) (.slice none 0 0)))
  obtain ⟨m0, m1, m2, m3, m4, m5, m6⟩ := mt_cells HA.out.m
  have hs20 := h.hsn
  clear h hgs hcc
  go_enter Try.func21, Try.ntmps21
  go_wp2_with (first
    | (go_at_call 24; refine (HSN.out _).mono ?_; rintro e w1 ⟨B, rfl, g⟩; have HA := Lib.hid (HA.out.later g); obtain ⟨m0, m1, m2, m3, m4, m5, m6⟩ := mt_cells HA.out.m; obtain ⟨r0, r1, r2, r3, r4, r5, r6⟩ := mt_cells HA.out.r; have f0 := HA.out.r.free 0; have f1 := HA.out.r.free 1; have f2 := HA.out.r.free 2; have f3 := HA.out.r.free 3; have f4 := HA.out.r.free 4; have f5 := HA.out.r.free 5; have f6 := HA.out.r.free 6; clear g; cases B)
    | (go_at_call 26; refine (shot0 _ _ _ _ _ _ _ _ _ _ _ _ _ _ _ _ nm gs (HGS.out.later HA.out.dat)).mono ?_; rintro e w2 ⟨k, rfl, g⟩; have HA := Lib.hid (HA.out.later g); obtain ⟨m0, m1, m2, m3, m4, m5, m6⟩ := mt_cells HA.out.m; obtain ⟨r0, r1, r2, r3, r4, r5, r6⟩ := mt_cells HA.out.r; have f0 := HA.out.r.free 0; have f1 := HA.out.r.free 1; have f2 := HA.out.r.free 2; have f3 := HA.out.r.free 3; have f4 := HA.out.r.free 4; have f5 := HA.out.r.free 5; have f6 := HA.out.r.free 6; clear g; rcases Int.lt_or_le k 0 with hk | hk; rcases Nat.lt_or_ge sn 8 with h8 | h8)
    | (go_at_call 35; refine (copyM (HM.out.later HA.out.dat) HCC.out).mono ?_; rintro e w3 ⟨a1, n1, c1, pa, pc, ma1, mn1, mc1, ca1, cn1, cc1, S1, rfl, hS1, hT1, hO1, hts, hb⟩; have HS1 := Lib.hid hS1; have HS3 := Lib.hid (AS.first (HA.out.later hb) HA.out.size hb.size hT1 hO1 hts (mtC c s bk a1 n1 c1 pa sn pc (.slice ma1 mn1 mc1) (.slice ca1 cn1 cc1))); clear hS1 hT1 hO1 hts hb))
  all_goals first
    | (have HF := Lib.hid (((((((HA.out.res 0 (.int .i64 0)).res 1 (.int .i64 0)).res 2 (.string ⟨#[]⟩)).res 3 (.slice none 0 0)).res 4 (.slice none 0 0)).res 5 (.slice none 0 0)).res 6 (.slice none 0 0)); exact bodyPost_ret (results_cell_tmp rfl _ _ (w.heap.size + 1) 29 #[.int .i64 0, .int .i64 0, .string ⟨#[]⟩, .slice none 0 0, .slice none 0 0, .slice none 0 0, .slice none 0 0] (0, 0) _ rfl _ rfl HF.out.r Try.underlying29 rfl meta_size) rfl ⟨_, _, _, _, _, _, _, _, _, _, _, _, _, _, _, _, rfl, HF.out.dat, fun h => absurd h (by decide)⟩)
    | skip
  have HSd := Lib.hid HS3.out.drew
  obtain ⟨y0, y1, y2, y3, y4, y5, y6⟩ := mt_cells HSd.out.o
  refine wp_region_held_drew (S := fun w' => w'.cell? ⟨w.heap.size, 1, none⟩ = some (.int .i64 s) ∧ w'.cell? ⟨w.heap.size, 3, none⟩ = some (.slice a0 n0 c0)) (by kernel_rfl) (by first | exact as_keep HS12.out | exact as_keep HS10.out | exact as_keep HS9.out | exact as_keep HS7.out | exact as_keep HSd.out) (fun hHeld => ?_)
  refine wpAnyH_take (i := 0) (oi := _) (v := ?vz6) rfl (by kernel_rfl) (by kernel_rfl) (by kernel_rfl) (fun _ _ _ h => h) (Or.inl ⟨by rfl, ?hyz6⟩) (by assumption) ?restz6
  case hyz6 => (intro wz hSw; (try dsimp only at hSw); go_simp; try with_reducible rfl)
  (try simp only [List.getElem_toArray, List.getElem_cons_zero, Act.put, List.setIfInBounds_toArray, List.set_cons_zero, List.set_cons_succ])
  refine wpAnyH_take (i := 2) (oi := _) (v := ?vz7) rfl (by kernel_rfl) (by kernel_rfl) (by kernel_rfl) (fun _ _ _ h => h) (Or.inl ⟨by rfl, ?hyz7⟩) (by assumption) ?restz7
  case hyz7 => (intro wz hSw; (try dsimp only at hSw); go_simp; try with_reducible rfl)
  (try simp only [List.getElem_toArray, List.getElem_cons_zero, List.getElem_cons_succ, Act.put, List.setIfInBounds_toArray, List.set_cons_zero, List.set_cons_succ])
  refine wpAnyH_take (i := 3) (oi := _) (v := ?vz8) rfl (by kernel_rfl) (by kernel_rfl) (by kernel_rfl) (fun _ _ _ h => h) (Or.inl ⟨by rfl, ?hyz8⟩) (by assumption) ?restz8
  case hyz8 => (intro wz hSw; (try dsimp only at hSw); go_simp; try with_reducible rfl)
  (try simp only [List.getElem_toArray, List.getElem_cons_zero, List.getElem_cons_succ, Act.put, List.setIfInBounds_toArray, List.set_cons_zero, List.set_cons_succ])
  refine wpAnyH_take (i := 4) (oi := _) (v := ?vz9) rfl (by kernel_rfl) (by kernel_rfl) (by kernel_rfl) (fun _ _ _ h => h) (Or.inl ⟨by rfl, ?hyz9⟩) (by assumption) ?restz9
  case hyz9 => (intro wz hSw; (try dsimp only at hSw); go_simp; try with_reducible rfl)
  (try simp only [List.getElem_toArray, List.getElem_cons_zero, List.getElem_cons_succ, Act.put, List.setIfInBounds_toArray, List.set_cons_zero, List.set_cons_succ])
  refine wpAnyH_take (i := 5) (oi := _) (v := ?vz10) rfl (by kernel_rfl) (by kernel_rfl) (by kernel_rfl) (fun _ _ _ h => h) (Or.inl ⟨by rfl, ?hyz10⟩) (by assumption) ?restz10
  case hyz10 => (intro wz hSw; (try dsimp only at hSw); go_simp; try with_reducible rfl)
  (try simp only [List.getElem_toArray, List.getElem_cons_zero, List.getElem_cons_succ, Act.put, List.setIfInBounds_toArray, List.set_cons_zero, List.set_cons_succ])
  refine wpAnyH_take (i := 6) (oi := _) (v := ?vz11) rfl (by kernel_rfl) (by kernel_rfl) (by kernel_rfl) (fun _ _ _ h => h) (Or.inl ⟨by rfl, ?hyz11⟩) (by assumption) ?restz11
  case hyz11 => (intro wz hSw; (try dsimp only at hSw); go_simp; try with_reducible rfl)
  (try simp only [List.getElem_toArray, List.getElem_cons_zero, List.getElem_cons_succ, Act.put, List.setIfInBounds_toArray, List.set_cons_zero, List.set_cons_succ])
  refine wpAnyH_ready (rs := [1, 7]) (by kernel_rfl) (by simp) ?_
  refine AllReadyH.cons (o := _) rfl (fun K hK => ?_) (AllReadyH.cons (o := _) rfl (fun K hK => ?_) AllReadyH.nil)
  · rw [if_pos (by rfl)]
    go_simp
    refine hK.out _ _ (by first | exact as_keep HS12.out | exact as_keep HS10.out | exact as_keep HS9.out | exact as_keep HS7.out | exact as_keep HSd.out) (fun hHeld => ?_)
    clear hK K
    (try simp only [List.getElem_toArray, List.getElem_cons_zero, List.getElem_cons_succ, Act.put, List.setIfInBounds_toArray, List.set_cons_zero, List.set_cons_succ])
    refine wpAnyH_ready (rs := [7]) (by kernel_rfl) (by simp) ?_
    refine AllReadyH.cons (o := _) rfl (fun K hK => ?_) AllReadyH.nil
    rw [if_pos (by rfl)]
    go_simp
    (go_at_call 36; refine (copyT _ (HM.out.hT.later HSd.out.ap.dat)).mono ?_; rintro e w7 ⟨al, cl, rfl, ht, hb⟩; have HS7 := Lib.hid (HSd.out.later hb); have HT7 := Lib.hid (ht.mono HSd.out.hW); obtain ⟨y0, y1, y2, y3, y4, y5, y6⟩ := mt_cells HS7.out.o; clear ht hb)
    (try dsimp only)
    refine hK.out _ _ (by first | exact as_keep HS12.out | exact as_keep HS10.out | exact as_keep HS9.out | exact as_keep HS7.out | exact as_keep HSd.out) (fun hHeld => ?_)
    clear hK K
    (try simp only [List.getElem_toArray, List.getElem_cons_zero, List.getElem_cons_succ, Act.put, List.setIfInBounds_toArray, List.set_cons_zero, List.set_cons_succ])
    refine wpAnyH_take (i := 8) (oi := _) (v := ?vz1) rfl (by kernel_rfl) (by kernel_rfl) (by kernel_rfl) (fun _ _ _ h => h) (Or.inl ⟨by rfl, ?hyz1⟩) (by assumption) ?restz1
    case hyz1 => (intro wz hSw; (try dsimp only at hSw); go_simp; try with_reducible rfl)
    (try simp only [List.getElem_toArray, List.getElem_cons_zero, List.getElem_cons_succ, Act.put, List.setIfInBounds_toArray, List.set_cons_zero, List.set_cons_succ])
    refine wpAnyH_ready (rs := [9]) (by kernel_rfl) (by simp) ?_
    refine AllReadyH.cons (o := _) rfl (fun K hK => ?_) AllReadyH.nil
    rw [if_pos (by rfl)]
    go_simp
    have HS9 := Lib.hid (HS7.out.alloc (.cells #[.string nm, .int .i64 s, .slice al n0 cl] 53))
    obtain ⟨y0, y1, y2, y3, y4, y5, y6⟩ := mt_cells HS9.out.o
    refine hK.out _ _ (by first | exact as_keep HS12.out | exact as_keep HS10.out | exact as_keep HS9.out | exact as_keep HS7.out | exact as_keep HSd.out) (fun hHeld => ?_)
    clear hK K
    (try simp only [List.getElem_toArray, List.getElem_cons_zero, List.getElem_cons_succ, Act.put, List.setIfInBounds_toArray, List.set_cons_zero, List.set_cons_succ])
    refine wpAnyH_ready (rs := [10]) (by kernel_rfl) (by simp) ?_
    refine AllReadyH.cons (o := _) rfl (fun K hK => ?_) AllReadyH.nil
    rw [if_pos (by rfl)]
    refine wp_append_lg sh_rowed (.tmp 24) (.tmp 32) rfl w2.heap.size _ sn S1 rfl HS9.out.own (some ⟨w7.heap.size, 0, none⟩) 1 1 [(nm, s, al, n0, cl, T)] rfl (fun e => by cases e) (one_reads w7 (nm, s, al, n0, cl, T) #[.string nm, .int .i64 s, .slice al n0 cl] 53 rfl) (by omega) HS9.out.hW ?_
    intro pa8 pc8 w10 g1 g2 g3
    have HS10 := Lib.hid (HS9.out.push (d := (nm, s, al, n0, cl, T)) (HT7.out.later ((Below.refl _ _).alloc (Nat.le_refl _) _)) g1 g2)
    obtain ⟨y0, y1, y2, y3, y4, y5, y6⟩ := mt_cells HS10.out.o
    have yf4 := HS10.out.o.free 4
    clear g1 g2 g3
    (try dsimp only)
    refine hK.out _ _ (by first | exact as_keep HS12.out | exact as_keep HS10.out | exact as_keep HS9.out | exact as_keep HS7.out | exact as_keep HSd.out) (fun hHeld => ?_)
    clear hK K
    (try simp only [List.getElem_toArray, List.getElem_cons_zero, List.getElem_cons_succ, Act.put, List.setIfInBounds_toArray, List.set_cons_zero, List.set_cons_succ])
    refine wpAnyH_take (i := 11) (oi := _) (v := ?vz2) rfl (by kernel_rfl) (by kernel_rfl) (by kernel_rfl) (fun _ _ _ h => h) (Or.inl ⟨by rfl, ?hyz2⟩) (by assumption) ?restz2
    case hyz2 => (intro wz hSw; (try dsimp only at hSw); go_simp; try with_reducible rfl)
    (try simp only [List.getElem_toArray, List.getElem_cons_zero, List.getElem_cons_succ, Act.put, List.setIfInBounds_toArray, List.set_cons_zero, List.set_cons_succ])
    refine wpAnyH_ready (rs := [12]) (by kernel_rfl) (by simp) ?_
    refine AllReadyH.cons (o := _) rfl (fun K hK => ?_) AllReadyH.nil
    rw [if_pos (by rfl)]
    go_simp
    have HS12 : Hid (AS w.heap.size w3.heap.size w2.heap.size w (w10.setCell ⟨w3.heap.size, 4, none⟩ (.slice pa8 (sn + 1) pc8)) (mtC c s bk a0 n0 c0 sa sn sc (.slice ma mn mc) (.slice ca cn cc)) (mtC 0 0 ByteArray.empty none 0 0 none 0 0 (.slice none 0 0) (.slice none 0 0)) (mtC c s bk a1 n1 c1 pa8 (sn + 1) pc8 (.slice ma1 mn1 mc1) (.slice ca1 cn1 cc1)) a1 n1 c1 T (.slice pa8 (sn + 1) pc8) (sn + 1) (S1 ++ [(nm, s, al, n0, cl, T)])) := HS10.out.out 4 (.slice pa8 (sn + 1) pc8)
    refine hK.out _ _ (by first | exact as_keep HS12.out | exact as_keep HS10.out | exact as_keep HS9.out | exact as_keep HS7.out | exact as_keep HSd.out) (fun hHeld => ?_)
    clear hK K
    (try simp only [List.getElem_toArray, List.getElem_cons_zero, List.getElem_cons_succ, Act.put, List.setIfInBounds_toArray, List.set_cons_zero, List.set_cons_succ])
    refine wpAnyH_done (by kernel_rfl) ?_ _
    obtain ⟨u0, u1, u2, u3, u4, u5, u6⟩ := mt_cells HS12.out.o
    obtain ⟨r0, r1, r2, r3, r4, r5, r6⟩ := mt_cells HS12.out.ap.r
    have f0 := HS12.out.ap.r.free 0
    have f1 := HS12.out.ap.r.free 1
    have f2 := HS12.out.ap.r.free 2
    have f3 := HS12.out.ap.r.free 3
    have f4 := HS12.out.ap.r.free 4
    have f5 := HS12.out.ap.r.free 5
    have f6 := HS12.out.ap.r.free 6
    go_wp2
    have HF := Lib.hid (((((((HS12.out.res 0 (.int .i64 c)).res 1 (.int .i64 s)).res 2 (.string bk)).res 3 (.slice a1 n1 c1)).res 4 (.slice pa8 (sn + 1) pc8)).res 5 (.slice ma1 mn1 mc1)).res 6 (.slice ca1 cn1 cc1))
    refine bodyPost_ret (results_cell_tmp rfl _ _ (w.heap.size + 1) 29 #[.int .i64 c, .int .i64 s, .string bk, .slice a1 n1 c1, .slice pa8 (sn + 1) pc8, .slice ma1 mn1 mc1, .slice ca1 cn1 cc1] (0, 0) _ rfl _ rfl HF.out.ap.r Try.underlying29 rfl meta_size) rfl ⟨0, _, _, _, _, _, _, _, _, _, _, _, _, _, _, _, rfl, HF.out.ap.dat, fun _ => ⟨⟨rfl, rfl, rfl, rfl⟩, _, by rw [List.map_append, HS1.out]; rfl, HF.out.tab.tab, (HF.out.own.reads sh_rowed).1, fun d hd => (HF.out.tabs d hd).tab⟩⟩
  · rw [if_pos (by rfl)]
    go_simp
    (go_at_call 36; refine (copyT _ (HM.out.hT.later HSd.out.ap.dat)).mono ?_; rintro e w7 ⟨al, cl, rfl, ht, hb⟩; have HS7 := Lib.hid (HSd.out.later hb); have HT7 := Lib.hid (ht.mono HSd.out.hW); obtain ⟨y0, y1, y2, y3, y4, y5, y6⟩ := mt_cells HS7.out.o; clear ht hb)
    (try dsimp only)
    refine hK.out _ _ (by first | exact as_keep HS12.out | exact as_keep HS10.out | exact as_keep HS9.out | exact as_keep HS7.out | exact as_keep HSd.out) (fun hHeld => ?_)
    clear hK K
    (try simp only [List.getElem_toArray, List.getElem_cons_zero, List.getElem_cons_succ, Act.put, List.setIfInBounds_toArray, List.set_cons_zero, List.set_cons_succ])
    refine wpAnyH_take (i := 8) (oi := _) (v := ?vz3) rfl (by kernel_rfl) (by kernel_rfl) (by kernel_rfl) (fun _ _ _ h => h) (Or.inl ⟨by rfl, ?hyz3⟩) (by assumption) ?restz3
    case hyz3 => (intro wz hSw; (try dsimp only at hSw); go_simp; try with_reducible rfl)
    (try simp only [List.getElem_toArray, List.getElem_cons_zero, List.getElem_cons_succ, Act.put, List.setIfInBounds_toArray, List.set_cons_zero, List.set_cons_succ])
    refine wpAnyH_ready (rs := [1, 9]) (by kernel_rfl) (by simp) ?_
    refine AllReadyH.cons (o := _) rfl (fun K hK => ?_) (AllReadyH.cons (o := _) rfl (fun K hK => ?_) AllReadyH.nil)
    · rw [if_pos (by rfl)]
      go_simp
      refine hK.out _ _ (by first | exact as_keep HS12.out | exact as_keep HS10.out | exact as_keep HS9.out | exact as_keep HS7.out | exact as_keep HSd.out) (fun hHeld => ?_)
      clear hK K
      (try simp only [List.getElem_toArray, List.getElem_cons_zero, List.getElem_cons_succ, Act.put, List.setIfInBounds_toArray, List.set_cons_zero, List.set_cons_succ])
      refine wpAnyH_ready (rs := [9]) (by kernel_rfl) (by simp) ?_
      refine AllReadyH.cons (o := _) rfl (fun K hK => ?_) AllReadyH.nil
      rw [if_pos (by rfl)]
      go_simp
      have HS9 := Lib.hid (HS7.out.alloc (.cells #[.string nm, .int .i64 s, .slice al n0 cl] 53))
      obtain ⟨y0, y1, y2, y3, y4, y5, y6⟩ := mt_cells HS9.out.o
      refine hK.out _ _ (by first | exact as_keep HS12.out | exact as_keep HS10.out | exact as_keep HS9.out | exact as_keep HS7.out | exact as_keep HSd.out) (fun hHeld => ?_)
      clear hK K
      (try simp only [List.getElem_toArray, List.getElem_cons_zero, List.getElem_cons_succ, Act.put, List.setIfInBounds_toArray, List.set_cons_zero, List.set_cons_succ])
      refine wpAnyH_ready (rs := [10]) (by kernel_rfl) (by simp) ?_
      refine AllReadyH.cons (o := _) rfl (fun K hK => ?_) AllReadyH.nil
      rw [if_pos (by rfl)]
      refine wp_append_lg sh_rowed (.tmp 24) (.tmp 32) rfl w2.heap.size _ sn S1 rfl HS9.out.own (some ⟨w7.heap.size, 0, none⟩) 1 1 [(nm, s, al, n0, cl, T)] rfl (fun e => by cases e) (one_reads w7 (nm, s, al, n0, cl, T) #[.string nm, .int .i64 s, .slice al n0 cl] 53 rfl) (by omega) HS9.out.hW ?_
      intro pa8 pc8 w10 g1 g2 g3
      have HS10 := Lib.hid (HS9.out.push (d := (nm, s, al, n0, cl, T)) (HT7.out.later ((Below.refl _ _).alloc (Nat.le_refl _) _)) g1 g2)
      obtain ⟨y0, y1, y2, y3, y4, y5, y6⟩ := mt_cells HS10.out.o
      have yf4 := HS10.out.o.free 4
      clear g1 g2 g3
      (try dsimp only)
      refine hK.out _ _ (by first | exact as_keep HS12.out | exact as_keep HS10.out | exact as_keep HS9.out | exact as_keep HS7.out | exact as_keep HSd.out) (fun hHeld => ?_)
      clear hK K
      (try simp only [List.getElem_toArray, List.getElem_cons_zero, List.getElem_cons_succ, Act.put, List.setIfInBounds_toArray, List.set_cons_zero, List.set_cons_succ])
      refine wpAnyH_take (i := 11) (oi := _) (v := ?vz4) rfl (by kernel_rfl) (by kernel_rfl) (by kernel_rfl) (fun _ _ _ h => h) (Or.inl ⟨by rfl, ?hyz4⟩) (by assumption) ?restz4
      case hyz4 => (intro wz hSw; (try dsimp only at hSw); go_simp; try with_reducible rfl)
      (try simp only [List.getElem_toArray, List.getElem_cons_zero, List.getElem_cons_succ, Act.put, List.setIfInBounds_toArray, List.set_cons_zero, List.set_cons_succ])
      refine wpAnyH_ready (rs := [12]) (by kernel_rfl) (by simp) ?_
      refine AllReadyH.cons (o := _) rfl (fun K hK => ?_) AllReadyH.nil
      rw [if_pos (by rfl)]
      go_simp
      have HS12 : Hid (AS w.heap.size w3.heap.size w2.heap.size w (w10.setCell ⟨w3.heap.size, 4, none⟩ (.slice pa8 (sn + 1) pc8)) (mtC c s bk a0 n0 c0 sa sn sc (.slice ma mn mc) (.slice ca cn cc)) (mtC 0 0 ByteArray.empty none 0 0 none 0 0 (.slice none 0 0) (.slice none 0 0)) (mtC c s bk a1 n1 c1 pa8 (sn + 1) pc8 (.slice ma1 mn1 mc1) (.slice ca1 cn1 cc1)) a1 n1 c1 T (.slice pa8 (sn + 1) pc8) (sn + 1) (S1 ++ [(nm, s, al, n0, cl, T)])) := HS10.out.out 4 (.slice pa8 (sn + 1) pc8)
      refine hK.out _ _ (by first | exact as_keep HS12.out | exact as_keep HS10.out | exact as_keep HS9.out | exact as_keep HS7.out | exact as_keep HSd.out) (fun hHeld => ?_)
      clear hK K
      (try simp only [List.getElem_toArray, List.getElem_cons_zero, List.getElem_cons_succ, Act.put, List.setIfInBounds_toArray, List.set_cons_zero, List.set_cons_succ])
      refine wpAnyH_done (by kernel_rfl) ?_ _
      obtain ⟨u0, u1, u2, u3, u4, u5, u6⟩ := mt_cells HS12.out.o
      obtain ⟨r0, r1, r2, r3, r4, r5, r6⟩ := mt_cells HS12.out.ap.r
      have f0 := HS12.out.ap.r.free 0
      have f1 := HS12.out.ap.r.free 1
      have f2 := HS12.out.ap.r.free 2
      have f3 := HS12.out.ap.r.free 3
      have f4 := HS12.out.ap.r.free 4
      have f5 := HS12.out.ap.r.free 5
      have f6 := HS12.out.ap.r.free 6
      go_wp2
      have HF := Lib.hid (((((((HS12.out.res 0 (.int .i64 c)).res 1 (.int .i64 s)).res 2 (.string bk)).res 3 (.slice a1 n1 c1)).res 4 (.slice pa8 (sn + 1) pc8)).res 5 (.slice ma1 mn1 mc1)).res 6 (.slice ca1 cn1 cc1))
      refine bodyPost_ret (results_cell_tmp rfl _ _ (w.heap.size + 1) 29 #[.int .i64 c, .int .i64 s, .string bk, .slice a1 n1 c1, .slice pa8 (sn + 1) pc8, .slice ma1 mn1 mc1, .slice ca1 cn1 cc1] (0, 0) _ rfl _ rfl HF.out.ap.r Try.underlying29 rfl meta_size) rfl ⟨0, _, _, _, _, _, _, _, _, _, _, _, _, _, _, _, rfl, HF.out.ap.dat, fun _ => ⟨⟨rfl, rfl, rfl, rfl⟩, _, by rw [List.map_append, HS1.out]; rfl, HF.out.tab.tab, (HF.out.own.reads sh_rowed).1, fun d hd => (HF.out.tabs d hd).tab⟩⟩
    · rw [if_pos (by rfl)]
      go_simp
      have HS9 := Lib.hid (HS7.out.alloc (.cells #[.string nm, .int .i64 s, .slice al n0 cl] 53))
      obtain ⟨y0, y1, y2, y3, y4, y5, y6⟩ := mt_cells HS9.out.o
      refine hK.out _ _ (by first | exact as_keep HS12.out | exact as_keep HS10.out | exact as_keep HS9.out | exact as_keep HS7.out | exact as_keep HSd.out) (fun hHeld => ?_)
      clear hK K
      (try simp only [List.getElem_toArray, List.getElem_cons_zero, List.getElem_cons_succ, Act.put, List.setIfInBounds_toArray, List.set_cons_zero, List.set_cons_succ])
      refine wpAnyH_ready (rs := [1]) (by kernel_rfl) (by simp) ?_
      refine AllReadyH.cons (o := _) rfl (fun K hK => ?_) AllReadyH.nil
      rw [if_pos (by rfl)]
      go_simp
      refine hK.out _ _ (by first | exact as_keep HS12.out | exact as_keep HS10.out | exact as_keep HS9.out | exact as_keep HS7.out | exact as_keep HSd.out) (fun hHeld => ?_)
      clear hK K
      (try simp only [List.getElem_toArray, List.getElem_cons_zero, List.getElem_cons_succ, Act.put, List.setIfInBounds_toArray, List.set_cons_zero, List.set_cons_succ])
      refine wpAnyH_ready (rs := [10]) (by kernel_rfl) (by simp) ?_
      refine AllReadyH.cons (o := _) rfl (fun K hK => ?_) AllReadyH.nil
      rw [if_pos (by rfl)]
      refine wp_append_lg sh_rowed (.tmp 24) (.tmp 32) rfl w2.heap.size _ sn S1 rfl HS9.out.own (some ⟨w7.heap.size, 0, none⟩) 1 1 [(nm, s, al, n0, cl, T)] rfl (fun e => by cases e) (one_reads w7 (nm, s, al, n0, cl, T) #[.string nm, .int .i64 s, .slice al n0 cl] 53 rfl) (by omega) HS9.out.hW ?_
      intro pa8 pc8 w10 g1 g2 g3
      have HS10 := Lib.hid (HS9.out.push (d := (nm, s, al, n0, cl, T)) (HT7.out.later ((Below.refl _ _).alloc (Nat.le_refl _) _)) g1 g2)
      obtain ⟨y0, y1, y2, y3, y4, y5, y6⟩ := mt_cells HS10.out.o
      have yf4 := HS10.out.o.free 4
      clear g1 g2 g3
      (try dsimp only)
      refine hK.out _ _ (by first | exact as_keep HS12.out | exact as_keep HS10.out | exact as_keep HS9.out | exact as_keep HS7.out | exact as_keep HSd.out) (fun hHeld => ?_)
      clear hK K
      (try simp only [List.getElem_toArray, List.getElem_cons_zero, List.getElem_cons_succ, Act.put, List.setIfInBounds_toArray, List.set_cons_zero, List.set_cons_succ])
      refine wpAnyH_take (i := 11) (oi := _) (v := ?vz5) rfl (by kernel_rfl) (by kernel_rfl) (by kernel_rfl) (fun _ _ _ h => h) (Or.inl ⟨by rfl, ?hyz5⟩) (by assumption) ?restz5
      case hyz5 => (intro wz hSw; (try dsimp only at hSw); go_simp; try with_reducible rfl)
      (try simp only [List.getElem_toArray, List.getElem_cons_zero, List.getElem_cons_succ, Act.put, List.setIfInBounds_toArray, List.set_cons_zero, List.set_cons_succ])
      refine wpAnyH_ready (rs := [12]) (by kernel_rfl) (by simp) ?_
      refine AllReadyH.cons (o := _) rfl (fun K hK => ?_) AllReadyH.nil
      rw [if_pos (by rfl)]
      go_simp
      have HS12 : Hid (AS w.heap.size w3.heap.size w2.heap.size w (w10.setCell ⟨w3.heap.size, 4, none⟩ (.slice pa8 (sn + 1) pc8)) (mtC c s bk a0 n0 c0 sa sn sc (.slice ma mn mc) (.slice ca cn cc)) (mtC 0 0 ByteArray.empty none 0 0 none 0 0 (.slice none 0 0) (.slice none 0 0)) (mtC c s bk a1 n1 c1 pa8 (sn + 1) pc8 (.slice ma1 mn1 mc1) (.slice ca1 cn1 cc1)) a1 n1 c1 T (.slice pa8 (sn + 1) pc8) (sn + 1) (S1 ++ [(nm, s, al, n0, cl, T)])) := HS10.out.out 4 (.slice pa8 (sn + 1) pc8)
      refine hK.out _ _ (by first | exact as_keep HS12.out | exact as_keep HS10.out | exact as_keep HS9.out | exact as_keep HS7.out | exact as_keep HSd.out) (fun hHeld => ?_)
      clear hK K
      (try simp only [List.getElem_toArray, List.getElem_cons_zero, List.getElem_cons_succ, Act.put, List.setIfInBounds_toArray, List.set_cons_zero, List.set_cons_succ])
      refine wpAnyH_done (by kernel_rfl) ?_ _
      obtain ⟨u0, u1, u2, u3, u4, u5, u6⟩ := mt_cells HS12.out.o
      obtain ⟨r0, r1, r2, r3, r4, r5, r6⟩ := mt_cells HS12.out.ap.r
      have f0 := HS12.out.ap.r.free 0
      have f1 := HS12.out.ap.r.free 1
      have f2 := HS12.out.ap.r.free 2
      have f3 := HS12.out.ap.r.free 3
      have f4 := HS12.out.ap.r.free 4
      have f5 := HS12.out.ap.r.free 5
      have f6 := HS12.out.ap.r.free 6
      go_wp2
      have HF := Lib.hid (((((((HS12.out.res 0 (.int .i64 c)).res 1 (.int .i64 s)).res 2 (.string bk)).res 3 (.slice a1 n1 c1)).res 4 (.slice pa8 (sn + 1) pc8)).res 5 (.slice ma1 mn1 mc1)).res 6 (.slice ca1 cn1 cc1))
      refine bodyPost_ret (results_cell_tmp rfl _ _ (w.heap.size + 1) 29 #[.int .i64 c, .int .i64 s, .string bk, .slice a1 n1 c1, .slice pa8 (sn + 1) pc8, .slice ma1 mn1 mc1, .slice ca1 cn1 cc1] (0, 0) _ rfl _ rfl HF.out.ap.r Try.underlying29 rfl meta_size) rfl ⟨0, _, _, _, _, _, _, _, _, _, _, _, _, _, _, _, rfl, HF.out.ap.dat, fun _ => ⟨⟨rfl, rfl, rfl, rfl⟩, _, by rw [List.map_append, HS1.out]; rfl, HF.out.tab.tab, (HF.out.own.reads sh_rowed).1, fun d hd => (HF.out.tabs d hd).tab⟩⟩
end Go.Proofs.Ytidknkhkblloaaa
