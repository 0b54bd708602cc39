/-
  What the reference's Copy of a meta answers (layer 9). Conditions: the meta is small.
-/
import Derived.Test.YtidknkhkblloaaaV0
import Derived.Test.YtidknkhkblloaaaK0
namespace Go.Proofs.Ytidknkhkblloaaa
open Go.RowKit
set_option linter.unusedVariables false

theorem TabN.typed {w w' : World} {base len cap : Nat} {a : Option Addr} {T : Tb} (h : TabN w base a len cap T) {Y : Nat} {ty : TypeId} {cs : Array Value} (hY : Blk w Y ty cs) (h1 : ty ≠ 76) (h2 : ty ≠ 39) (hg : w.grownBy w' (some Y)) : TabN w' base a len cap T := by
  obtain ⟨es, hq, hr⟩ := h
  exact ⟨es, hq.kept hg (fun k hk e => by cases e; exact hY.not_row h1 hq.out hk.symm) (fun d hd k hk e => by cases e; exact hY.not_row h2 (hq.leaf d hd).1 hk.symm), hr⟩
theorem TabN.row {w w' : World} {base len cap : Nat} {a : Option Addr} {T : Tb} (h : TabN w base a len cap T) {α : Type} {cv : α → List Value} {e : TypeId} {sz base' n : Nat} {v : Value} {l : List α} (hv : OwnG cv e sz w base' v n l) (h1 : e ≠ 76) (h2 : e ≠ 39) (hg : w.grownBy w' v.ownBlock) : TabN w' base a len cap T := by
  obtain ⟨es, hq, hr⟩ := h
  exact ⟨es, hq.kept hg (fun k hk e => row_apart hv hq.out h1 k e hk) (fun d hd k hk e => row_apart hv (hq.leaf d hd).1 h2 k e hk), hr⟩
/-- Three boxes, a table and shots of one's own. -/
structure CP (X : Nat) (w0 W : World) (csM csR csO : Array Value) (a : Option Addr) (n c : Nat) (T : Tb) (sv : Value) (j : Nat) (S : List Sh) : Prop where
  m : Blk W X 29 csM
  r : Blk W (X + 1) 29 csR
  o : Blk W (X + 2) 29 csO
  dat : Below X w0 W
  tab : TabN W (X + 3) a n c T
  own : OwnG shV 53 3 W (X + 3) sv j S
  tabs : ∀ d ∈ S, TabN W (X + 3) d.2.2.1 d.2.2.2.1 d.2.2.2.2.1 (shT d)
section
variable {X : Nat} {w0 W W' : World} {csM csR csO : Array Value} {a : Option Addr} {n c : Nat} {T : Tb} {sv : Value} {j : Nat} {S : List Sh}
theorem CP.size (h : CP X w0 W csM csR csO a n c T sv j S) : X + 3 ≤ W.heap.size := h.o.lt
theorem CP.later (h : CP X w0 W csM csR csO a n c T sv j S) (hb : Below W.heap.size W W') : CP X w0 W' csM csR csO a n c T sv j S :=
  ⟨h.m.later hb, h.r.later hb, h.o.later hb, h.dat.trans (hb.mono (by have := h.size; omega)), h.tab.later hb, h.own.kept' (grown_of_below hb) (fun k hk e => by cases e), fun d hd => (h.tabs d hd).later hb⟩
theorem CP.alloc (h : CP X w0 W csM csR csO a n c T sv j S) (o : Obj) : CP X w0 (W.alloc o) csM csR csO a n c T sv j S := h.later ((Below.refl _ _).alloc (Nat.le_refl _) o)
theorem CP.drew (h : CP X w0 W csM csR csO a n c T sv j S) : CP X w0 W.drew csM csR csO a n c T sv j S := h.later (Below.refl _ _).drew
theorem CP.out (h : CP X w0 W csM csR csO a n c T sv j S) (i : Nat) (v : Value) : CP X w0 (W.setCell ⟨X + 2, i, none⟩ v) csM csR (csO.setIfInBounds i v) a n c T sv j S :=
  have hg := grownBy_setCell4 W (X + 2) i v
  ⟨h.m.other (by omega) _, h.r.other (by omega) _, h.o.set i v, h.dat.setCell (by show X ≤ X + 2; omega) v, h.tab.low (by omega) hg, h.own.kept' hg (fun k hk e => by cases e; have := (h.own.1.lt _ hk).1; omega), fun d hd => (h.tabs d hd).low (by omega) hg⟩
theorem CP.res (h : CP X w0 W csM csR csO a n c T sv j S) (i : Nat) (v : Value) : CP X w0 (W.setCell ⟨X + 1, i, none⟩ v) csM (csR.setIfInBounds i v) csO a n c T sv j S :=
  have hg := grownBy_setCell4 W (X + 1) i v
  ⟨h.m.other (by omega) _, h.r.set i v, h.o.other (by omega) _, h.dat.setCell (by show X ≤ X + 1; omega) v, h.tab.low (by omega) hg, h.own.kept' hg (fun k hk e => by cases e; have := (h.own.1.lt _ hk).1; omega), fun d hd => (h.tabs d hd).low (by omega) hg⟩
theorem CP.tabbed (h : CP X w0 W csM csR csO a n c T sv j S) (hb : Below W.heap.size W W') {a' : Option Addr} {n' c' : Nat} {T' : Tb} (ht : TabN W' W.heap.size a' n' c' T') : CP X w0 W' csM csR csO a' n' c' T' sv j S :=
  have h' := h.later hb
  ⟨h'.m, h'.r, h'.o, h'.dat, ht.mono h.size, h'.own, h'.tabs⟩
end
/-- ... and the box of a shot, its own table in it. -/
structure CS (X : Nat) (w0 W : World) (csM csR csO : Array Value) (a : Option Addr) (n c : Nat) (T : Tb) (sv : Value) (j : Nat) (S : List Sh) (Y : Nat) (cs : Array Value) : Prop where
  cp : CP X w0 W csM csR csO a n c T sv j S
  box : Blk W Y 53 cs
  hY : X + 3 ≤ Y
  far : sv.ownBlock ≠ some Y
section
variable {X Y : Nat} {w0 W W' : World} {csM csR csO cs : Array Value} {a : Option Addr} {n c : Nat} {T : Tb} {sv : Value} {j : Nat} {S : List Sh}
theorem CS.first (h : CP X w0 W csM csR csO a n c T sv j S) (cs : Array Value) : CS X w0 (W.alloc (.cells cs 53)) csM csR csO a n c T sv j S W.heap.size cs :=
  ⟨h.alloc _, Blk.new _ _ _, h.size, fun e => absurd (h.own.1.lt _ e).2 (Nat.lt_irrefl _)⟩
theorem CS.later (h : CS X w0 W csM csR csO a n c T sv j S Y cs) (hb : Below W.heap.size W W') : CS X w0 W' csM csR csO a n c T sv j S Y cs := ⟨h.cp.later hb, h.box.later hb, h.hY, h.far⟩
theorem CS.stored (h : CS X w0 W csM csR csO a n c T sv j S Y cs) (i : Nat) (v : Value) : CS X w0 (W.setCell ⟨Y, i, none⟩ v) csM csR csO a n c T sv j S Y (cs.setIfInBounds i v) :=
  have hg := grownBy_setCell4 W Y i v
  have hY := h.hY
  ⟨⟨h.cp.m.other (by omega) _, h.cp.r.other (by omega) _, h.cp.o.other (by omega) _, h.cp.dat.setCell (by show X ≤ Y; omega) v, h.cp.tab.typed h.box (by decide) (by decide) hg, h.cp.own.kept' hg (fun k hk e => by cases e; exact h.far hk), fun d hd => (h.cp.tabs d hd).typed h.box (by decide) (by decide) hg⟩, h.box.set i v, hY, h.far⟩
/-- The append of a shot whose table is one's own. -/
theorem CP.push (h : CP X w0 W csM csR csO a n c T sv j S) (o : Obj) {d : Sh} (hd : TabN W (X + 3) d.2.2.1 d.2.2.2.1 d.2.2.2.2.1 (shT d)) {sv' : Value} (hO : OwnG shV 53 3 W' (X + 3) sv' (j + 1) (S ++ [d])) (hg : (W.alloc o).grownBy W' sv.ownBlock) : CP X w0 W' csM csR csO a n c T sv' (j + 1) (S ++ [d]) := by
  have ha := h.alloc o
  have hb : Below (X + 3) (W.alloc o) W' := low_new hg (fun k e => (h.own.1.lt k e).1) ha.size
  have hda : TabN (W.alloc o) (X + 3) d.2.2.1 d.2.2.2.1 d.2.2.2.2.1 (shT d) := hd.later ((Below.refl _ _).alloc (Nat.le_refl _) o)
  refine ⟨ha.m.kept hg ?_, ha.r.kept hg ?_, ha.o.kept hg ?_, ha.dat.trans (hb.mono (by omega)), ha.tab.row ha.own (by decide) (by decide) hg, hO, fun x hx => ?_⟩
  · exact fun e => by have := (h.own.1.lt _ e.symm).1; omega
  · exact fun e => by have := (h.own.1.lt _ e.symm).1; omega
  · exact fun e => by have := (h.own.1.lt _ e.symm).1; omega
  · rcases List.mem_append.1 hx with hx | hx
    · exact (ha.tabs x hx).row ha.own (by decide) (by decide) hg
    · obtain rfl : x = d := by simpa using hx
      exact hda.row ha.own (by decide) (by decide) hg
end
theorem CP.first (w : World) (csM csR csO : Array Value) : CP w.heap.size w (((w.alloc (.cells csM 29)).alloc (.cells csR 29)).alloc (.cells csO 29)) csM csR csO none 0 0 [] (.slice none 0 0) 0 [] := by
  have h1 : Blk ((w.alloc (.cells csM 29)).alloc (.cells csR 29)) (w.heap.size + 1) 29 csR := by
    have := Blk.new (w.alloc (.cells csM 29)) 29 csR
    rwa [World.size_alloc] at this
  have h2 : Blk (((w.alloc (.cells csM 29)).alloc (.cells csR 29)).alloc (.cells csO 29)) (w.heap.size + 2) 29 csO := by
    have := Blk.new ((w.alloc (.cells csM 29)).alloc (.cells csR 29)) 29 csO
    rwa [World.size_alloc, World.size_alloc] at this
  exact ⟨((Blk.new w _ _).alloc _).alloc _, h1.alloc _, h2, (((Below.refl _ _).alloc (Nat.le_refl _) _).alloc (by simp) _).alloc (by simp; omega) _, TabN.first _ _, OwnG.none _ _ _ _ _, fun d hd => by cases hd⟩
theorem CS.tab {X Y : Nat} {w0 W : World} {csM csR csO cs : Array Value} {a : Option Addr} {n c : Nat} {T : Tb} {sv : Value} {j : Nat} {S : List Sh} (h : CS X w0 W csM csR csO a n c T sv j S Y cs) {B : Nat} {a' : Option Addr} {n' c' : Nat} {T' : Tb} (ht : TabN W B a' n' c' T') (hB : X + 3 ≤ B) (i : Nat) (v : Value) : TabN (W.setCell ⟨Y, i, none⟩ v) (X + 3) a' n' c' T' :=
  (ht.mono hB).typed h.box (by decide) (by decide) (grownBy_setCell4 W Y i v)
def ivV (z : Int) : List Value := [.int .i64 z]
theorem iv_rowed : Rowed Try.prog 27 3 1 8 ivV where
  under := Try.underlying27
  info := by
    have h : (Try.prog.info? 3).map (fun i => (i.zero.map (fun z => z.cells.size), i.size, i.bytes)) = some (some 1, 1, 8) := by kernel_rfl
    obtain ⟨i, hi, he⟩ := Option.map_eq_some_iff.1 h
    simp only [Prod.mk.injEq] at he
    obtain ⟨z, hz, hzs⟩ := Option.map_eq_some_iff.1 he.1
    exact ⟨i, z, hi, hz, he.2.1, he.2.2, hzs⟩
  pos := by decide
  small := by decide
  len := fun _ => rfl
  one := fun d u hu => by
    simp only [ivV, List.mem_cons, List.not_mem_nil, or_false] at hu
    subst hu
    rfl
theorem flat_iv : ∀ l : List Int, l.flatMap ivV = l.map fun z => Value.int .i64 z
  | [] => rfl
  | z :: l => by
    rw [List.flatMap_cons, flat_iv l]
    rfl
theorem ints_reads {w : World} {a : Option Addr} {n : Nat} {f : Nat → Int} (h : IntsR w a n f) (hn : n ≤ 100000000) : Reads ivV w a n ((List.range n).map f) := by
  have e : ((List.range n).map f).flatMap ivV = (List.range n).map fun i => Value.int .i64 (f i) := by
    rw [flat_iv, List.map_map]
    rfl
  refine ⟨by simp, hn, ?_⟩
  by_cases h0 : n = 0
  · exact Or.inl h0
  · obtain ⟨b, off, e', hb, hc⟩ := h.2 (by omega)
    refine Or.inr ⟨b, off, e', hb, fun j u hu => ?_⟩
    rw [e, List.getElem?_map] at hu
    have hlt : j < n := by
      rcases Nat.lt_or_ge j n with h' | h'
      · exact h'
      · rw [List.getElem?_eq_none (by simpa using h')] at hu
        cases hu
    rw [List.getElem?_range hlt] at hu
    rw [hc j hlt]
    exact hu
theorem meta_size : (Try.prog.info? 29).map (·.size) = some 7 := by kernel_rfl
/-- What the copy is. -/
def CopyQ (w : World) (c s : Int) (bk : ByteArray) (sn : Nat) (T : Tb) (S : List Sh) (e : Ending) (w' : World) : Prop :=
  ∃ (a1 : Option Addr) (n1 c1 : Nat) (pa : Option Addr) (pc : Nat) (ma1 : Option Addr) (mn1 mc1 : Nat) (ca1 : Option Addr) (cn1 cc1 : Nat) (S1 : List Sh),
    e = .returned (.agg #[.int .i64 c, .int .i64 s, .string bk, .slice a1 n1 c1, .slice pa sn pc, .slice ma1 mn1 mc1, .slice ca1 cn1 cc1]) ∧ S1.map shT = S.map shT ∧ TabN w' w.heap.size a1 n1 c1 T ∧
    OwnG shV 53 3 w' w.heap.size (.slice pa sn pc) sn S1 ∧ (∀ d ∈ S1, TabN w' w.heap.size d.2.2.1 d.2.2.2.1 d.2.2.2.2.1 (shT d)) ∧ Below w.heap.size w w'
set_option maxRecDepth 100000 in
set_option maxHeartbeats 2000000 in
theorem copyM {w : World} {c s : Int} {bk : ByteArray} {a0 : Option Addr} {n0 c0 : Nat} {sa : Option Addr} {sn sc : Nat} {ma : Option Addr} {mn mc : Nat} {ca : Option Addr} {cn cc : Nat} {T : Tb} {S : List Sh} {gm : Nat → MpA} {f : Nat → Int} (h : MetaS w c s bk a0 n0 c0 sa sn ma mn ca cn T S gm f) (hcc : ca = none → cc = 0) :
    Calls Try.prog 35 #[.agg #[.int .i64 c, .int .i64 s, .string bk, .slice a0 n0 c0, .slice sa sn sc, .slice ma mn mc, .slice ca cn cc]] w (CopyQ w c s bk sn T S) := by
  have HM := Lib.hid h
  have HC0 := Lib.hid (CP.first w (mtC c s bk a0 n0 c0 sa sn sc (.slice ma mn mc) (.slice ca cn cc)) (mtC 0 0 ByteArray.empty none 0 0 none 0 0 (.slice none 0 0) (.slice none 0 0)) (mtC c s bk a0 n0 c0 sa sn sc (.slice ma mn mc) (.slice ca cn cc)))
  have HTC : Hid (∀ W, Below w.heap.size w W → Calls Try.prog 36 #[.agg #[.slice a0 n0 c0]] W fun e w' => ∃ (a' : Option Addr) (c' : Nat), e = .returned (.agg #[.slice a' n0 c']) ∧ TabN w' W.heap.size a' n0 c' T ∧ Below W.heap.size W w') := fun W hb => copyT W (h.hT.later hb)
  obtain ⟨m0, m1, m2, m3, m4, m5, m6⟩ := mt_cells HC0.out.m
  clear h
  go_enter Try.func35, Try.ntmps35
  go_wp2_with (go_at_call 36; refine (HTC.out _ HC0.out.dat).mono ?_; rintro e w1 ⟨a1, c1, rfl, ht, hb⟩; have HC1 := Lib.hid (HC0.out.tabbed hb ht); have HC2 : Hid (CP w.heap.size w (w1.setCell ⟨w.heap.size + 2, 3, none⟩ (.slice a1 n0 c1)) (mtC c s bk a0 n0 c0 sa sn sc (.slice ma mn mc) (.slice ca cn cc)) (mtC 0 0 ByteArray.empty none 0 0 none 0 0 (.slice none 0 0) (.slice none 0 0)) (mtC c s bk a1 n0 c1 sa sn sc (.slice ma mn mc) (.slice ca cn cc)) a1 n0 c1 T (.slice none 0 0) 0 []) := HC1.out.out 3 (.slice a1 n0 c1); obtain ⟨o0, o1, o2, o3, o4, o5, o6⟩ := mt_cells HC1.out.o; have of3 := HC1.out.o.free 3; have of4 := HC2.out.o.free 4; have o4' := HC2.out.o.cell 4; clear ht hb)
  have HC3 : Hid (CP w.heap.size w ((w1.setCell ⟨w.heap.size + 2, 3, none⟩ (.slice a1 n0 c1)).setCell ⟨w.heap.size + 2, 4, none⟩ (.slice none 0 0)) (mtC c s bk a0 n0 c0 sa sn sc (.slice ma mn mc) (.slice ca cn cc)) (mtC 0 0 ByteArray.empty none 0 0 none 0 0 (.slice none 0 0) (.slice none 0 0)) (mtC c s bk a1 n0 c1 none 0 0 (.slice ma mn mc) (.slice ca cn cc)) a1 n0 c1 T (.slice none 0 0) 0 []) := HC2.out.out 4 (.slice none 0 0)
  have HSR := Lib.hid HM.out.hS
  have HSN := Lib.hid HM.out.hS.len
  have HS20 : Hid (sn ≤ 20) := HM.out.hsn
  go_loopw [4] (fun i wr => ∃ (j : Nat) (pa : Option Addr) (pc : Nat) (S1 : List Sh), j ≤ sn ∧ i = .int .i64 j ∧ Hid (S1.map shT = (S.map shT).take j) ∧ Hid (CP w.heap.size w wr (mtC c s bk a0 n0 c0 sa sn sc (.slice ma mn mc) (.slice ca cn cc)) (mtC 0 0 ByteArray.empty none 0 0 none 0 0 (.slice none 0 0) (.slice none 0 0)) (mtC c s bk a1 n0 c1 pa j pc (.slice ma mn mc) (.slice ca cn cc)) a1 n0 c1 T (.slice pa j pc) j S1)) (fun i _ => sn - (intOf i).toNat)
  case atStart => exact ⟨0, none, 0, [], Nat.zero_le _, rfl, rfl, HC3.out⟩
  case round =>
    obtain ⟨j, pa, pc, S1, hj, rfl, HE, HC⟩ := hrel
    have hs20 := HS20.out
    obtain ⟨q0, q1, q2, q3, q4, q5, q6⟩ := mt_cells HC.out.m
    by_cases hlt : j < sn
    · obtain ⟨b, off, nm, sz, al, ll, cl, T', rfl, hSj, x1, x2, x3, hT⟩ := (HSR.out.later HC.out.dat).at j hlt
      have HSB := Lib.hid (CS.first HC.out #[.string nm, .int .i64 sz, .slice al ll cl])
      have HTB := Lib.hid (hT.later ((Below.refl _ _).alloc (Nat.le_refl _) (.cells #[.string nm, .int .i64 sz, .slice al ll cl] 53)))
      have HSJ := Lib.hid hSj
      have hb2 : (wr.alloc (.cells #[.string nm, .int .i64 sz, .slice al ll cl] 53)).cell? ⟨wr.heap.size, 2, none⟩ = some (.slice al ll cl) := HSB.out.box.cell 2
      clear hSj hT
      go_wp2_with (first
        | (go_at_call 36; refine (copyT _ HTB.out).mono ?_; rintro e w5 ⟨al5, cl5, rfl, ht, hb⟩; have HS5 := Lib.hid (HSB.out.later hb); have HS6 := Lib.hid (HS5.out.stored 2 (.slice al5 ll cl5)); have HT6 := Lib.hid (HS5.out.tab ht (by rw [World.size_alloc]; have := HC.out.size; omega) 2 (.slice al5 ll cl5)); have y2 : w5.cell? ⟨wr.heap.size, 2, none⟩ = some (.slice al ll cl) := HS5.out.box.cell 2; have yf := HS5.out.box.free 2; have z0 : (w5.setCell ⟨wr.heap.size, 2, none⟩ (.slice al5 ll cl5)).cell? ⟨wr.heap.size, 0, none⟩ = some (.string nm) := HS6.out.box.cell 0; have z1 : (w5.setCell ⟨wr.heap.size, 2, none⟩ (.slice al5 ll cl5)).cell? ⟨wr.heap.size, 1, none⟩ = some (.int .i64 sz) := HS6.out.box.cell 1; have z2 : (w5.setCell ⟨wr.heap.size, 2, none⟩ (.slice al5 ll cl5)).cell? ⟨wr.heap.size, 2, none⟩ = some (.slice al5 ll cl5) := HS6.out.box.cell 2; obtain ⟨_, _, _, _, z4, _, _⟩ := mt_cells HS6.out.cp.o; clear ht hb)
        | (at_builtin; refine append_lg sh_rowed rfl (.tmp 29) (.tmp 31) rfl (w.heap.size + 3) _ j S1 rfl (HS6.out.cp.own.alloc _) (some ⟨w5.heap.size, 0, none⟩) 1 1 [(nm, sz, al5, ll, cl5, T')] rfl (fun e => by cases e) (by have h9 := one_reads (cv := shV) (w5.setCell ⟨wr.heap.size, 2, none⟩ (.slice al5 ll cl5)) (nm, sz, al5, ll, cl5, T') #[.string nm, .int .i64 sz, .slice al5 ll cl5] 53 rfl; rwa [World.size_setCell] at h9) (by have := HS20.out; omega) (by rw [World.size_alloc]; have := HS6.out.cp.size; omega) ?_; intro pa8 pc8 w8 g1 g2 g3; have HC8 := Lib.hid (HS6.out.cp.push _ (d := (nm, sz, al5, ll, cl5, T')) HT6.out g1 g2); have HC9 := Lib.hid (HC8.out.out 4 (.slice pa8 (j + 1) pc8)); have of8 := HC8.out.o.free 4; obtain ⟨_, _, _, _, z8, _, _⟩ := mt_cells HC8.out.o; clear g1 g2 g3))
      go_roundw
      case rel => exact ⟨j + 1, pa8, pc8, _, by omega, by go_num, (by
        rw [List.map_append, HE.out, List.take_add_one, List.getElem?_map, HSJ.out]
        rfl), HC9.out⟩
      case measure => simp [intOf]; omega
    · obtain rfl : j = sn := by omega
      have HE2 : Hid (S1.map shT = S.map shT) := Lib.hid (by rw [HE.out, List.take_of_length_le]; rw [List.length_map]; exact Nat.le_of_eq HSN.out)
      have HMC := Lib.hid (copyMaps0 (mc := mc) wr ma mn gm (HM.out.hM.later HC.out.dat) (fun i hi => by obtain ⟨h1, h2, h3, l, h4⟩ := HM.out.hMs i hi; exact ⟨h1, h2, h3, l, h4.later HC.out.dat⟩) HM.out.hmn)
      go_wp2_with (first
        | (go_at_call 44; refine HMC.out.mono ?_; rintro e w5 ⟨ma1, mn1, mc1, rfl, hb⟩; have HC5 := Lib.hid (HC.out.later hb); have HC6 := Lib.hid (HC5.out.out 5 (.slice ma1 mn1 mc1)); have of5 := HC5.out.o.free 5; have o5 : w5.cell? ⟨w.heap.size + 2, 5, none⟩ = some (.slice ma mn mc) := HC5.out.o.cell 5; have m6b : ((w5.setCell ⟨w.heap.size + 1 + 1, 5, none⟩ (.slice ma1 mn1 mc1)).alloc (.cells #[] 3)).cell? ⟨w.heap.size, 6, none⟩ = some (.slice ca cn cc) := (HC6.out.alloc _).m.cell 6; have HI6 := Lib.hid (ints_reads (HM.out.hC.later HC6.out.dat) (by have := HM.out.hcn; omega)); clear hb)
        | (at_builtin; refine copy_lg iv_rowed (w5.setCell ⟨w.heap.size + 2, 5, none⟩ (.slice ma1 mn1 mc1)) rfl (.tmp 38) (.tmp 40) rfl w5.heap.size (World.size_setCell ..).symm rfl ca cn cc _ rfl hcc HI6.out (by have := HM.out.hcn; omega) ?_; intro ca7 cc7 w7 hb; have HC7 := Lib.hid (HC6.out.later hb); have HC8 := Lib.hid (HC7.out.out 6 (.slice ca7 cn cc7)); have of7 : w7.frozen? ⟨w.heap.size + 1 + 1, 6, none⟩ = false := HC7.out.o.free 6; have o7 : w7.cell? ⟨w.heap.size + 1 + 1, 6, none⟩ = some (.slice ca cn cc) := HC7.out.o.cell 6;
           have n0' : (w7.setCell ⟨w.heap.size + 1 + 1, 6, none⟩ (.slice ca7 cn cc7)).cell? ⟨w.heap.size + 1 + 1, 0, none⟩ = some (.int .i64 c) := HC8.out.o.cell 0;
           have n1' : (w7.setCell ⟨w.heap.size + 1 + 1, 6, none⟩ (.slice ca7 cn cc7)).cell? ⟨w.heap.size + 1 + 1, 1, none⟩ = some (.int .i64 s) := HC8.out.o.cell 1;
           have n2' : (w7.setCell ⟨w.heap.size + 1 + 1, 6, none⟩ (.slice ca7 cn cc7)).cell? ⟨w.heap.size + 1 + 1, 2, none⟩ = some (.string bk) := HC8.out.o.cell 2;
           have n3' : (w7.setCell ⟨w.heap.size + 1 + 1, 6, none⟩ (.slice ca7 cn cc7)).cell? ⟨w.heap.size + 1 + 1, 3, none⟩ = some (.slice a1 n0 c1) := HC8.out.o.cell 3;
           have n4' : (w7.setCell ⟨w.heap.size + 1 + 1, 6, none⟩ (.slice ca7 cn cc7)).cell? ⟨w.heap.size + 1 + 1, 4, none⟩ = some (.slice pa j pc) := HC8.out.o.cell 4;
           have n5' : (w7.setCell ⟨w.heap.size + 1 + 1, 6, none⟩ (.slice ca7 cn cc7)).cell? ⟨w.heap.size + 1 + 1, 5, none⟩ = some (.slice ma1 mn1 mc1) := HC8.out.o.cell 5;
           have n6' : (w7.setCell ⟨w.heap.size + 1 + 1, 6, none⟩ (.slice ca7 cn cc7)).cell? ⟨w.heap.size + 1 + 1, 6, none⟩ = some (.slice ca7 cn cc7) := HC8.out.o.cell 6;
           have r0 : (w7.setCell ⟨w.heap.size + 1 + 1, 6, none⟩ (.slice ca7 cn cc7)).cell? ⟨w.heap.size + 1, 0, none⟩ = some (.int .i64 0) := HC8.out.r.cell 0;
           have rf0 : (w7.setCell ⟨w.heap.size + 1 + 1, 6, none⟩ (.slice ca7 cn cc7)).frozen? ⟨w.heap.size + 1, 0, none⟩ = false := HC8.out.r.free 0;
           have r1 : (w7.setCell ⟨w.heap.size + 1 + 1, 6, none⟩ (.slice ca7 cn cc7)).cell? ⟨w.heap.size + 1, 1, none⟩ = some (.int .i64 0) := HC8.out.r.cell 1;
           have rf1 : (w7.setCell ⟨w.heap.size + 1 + 1, 6, none⟩ (.slice ca7 cn cc7)).frozen? ⟨w.heap.size + 1, 1, none⟩ = false := HC8.out.r.free 1;
           have r2 : (w7.setCell ⟨w.heap.size + 1 + 1, 6, none⟩ (.slice ca7 cn cc7)).cell? ⟨w.heap.size + 1, 2, none⟩ = some (.string ByteArray.empty) := HC8.out.r.cell 2;
           have rf2 : (w7.setCell ⟨w.heap.size + 1 + 1, 6, none⟩ (.slice ca7 cn cc7)).frozen? ⟨w.heap.size + 1, 2, none⟩ = false := HC8.out.r.free 2;
           have r3 : (w7.setCell ⟨w.heap.size + 1 + 1, 6, none⟩ (.slice ca7 cn cc7)).cell? ⟨w.heap.size + 1, 3, none⟩ = some (.slice none 0 0) := HC8.out.r.cell 3;
           have rf3 : (w7.setCell ⟨w.heap.size + 1 + 1, 6, none⟩ (.slice ca7 cn cc7)).frozen? ⟨w.heap.size + 1, 3, none⟩ = false := HC8.out.r.free 3;
           have r4 : (w7.setCell ⟨w.heap.size + 1 + 1, 6, none⟩ (.slice ca7 cn cc7)).cell? ⟨w.heap.size + 1, 4, none⟩ = some (.slice none 0 0) := HC8.out.r.cell 4;
           have rf4 : (w7.setCell ⟨w.heap.size + 1 + 1, 6, none⟩ (.slice ca7 cn cc7)).frozen? ⟨w.heap.size + 1, 4, none⟩ = false := HC8.out.r.free 4;
           have r5 : (w7.setCell ⟨w.heap.size + 1 + 1, 6, none⟩ (.slice ca7 cn cc7)).cell? ⟨w.heap.size + 1, 5, none⟩ = some (.slice none 0 0) := HC8.out.r.cell 5;
           have rf5 : (w7.setCell ⟨w.heap.size + 1 + 1, 6, none⟩ (.slice ca7 cn cc7)).frozen? ⟨w.heap.size + 1, 5, none⟩ = false := HC8.out.r.free 5;
           have r6 : (w7.setCell ⟨w.heap.size + 1 + 1, 6, none⟩ (.slice ca7 cn cc7)).cell? ⟨w.heap.size + 1, 6, none⟩ = some (.slice none 0 0) := HC8.out.r.cell 6;
           have rf6 : (w7.setCell ⟨w.heap.size + 1 + 1, 6, none⟩ (.slice ca7 cn cc7)).frozen? ⟨w.heap.size + 1, 6, none⟩ = false := HC8.out.r.free 6;
           clear hb))
      have HF := Lib.hid (((((((HC8.out.res 0 (.int .i64 c)).res 1 (.int .i64 s)).res 2 (.string bk)).res 3 (.slice a1 n0 c1)).res 4 (.slice pa j pc)).res 5 (.slice ma1 mn1 mc1)).res 6 (.slice ca7 cn cc7))
      refine bodyPost_ret (v := .agg #[.int .i64 c, .int .i64 s, .string bk, .slice a1 n0 c1, .slice pa j pc, .slice ma1 mn1 mc1, .slice ca7 cn cc7]) (results_cell_row rfl _ _ (w.heap.size + 1) 29 #[.int .i64 c, .int .i64 s, .string bk, .slice a1 n0 c1, .slice pa j pc, .slice ma1 mn1 mc1, .slice ca7 cn cc7] (0, 0) _ rfl HF.out.r Try.underlying29 rfl meta_size) rfl ⟨a1, n0, c1, pa, pc, ma1, mn1, mc1, ca7, cn, cc7, S1, rfl, HE2.out, HF.out.tab.mono (by omega), HF.out.own.mono9 (by omega), fun d hd => (HF.out.tabs d hd).mono (by omega), HF.out.dat⟩
end Go.Proofs.Ytidknkhkblloaaa
