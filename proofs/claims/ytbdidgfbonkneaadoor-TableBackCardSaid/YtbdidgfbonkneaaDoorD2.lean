/-
  What the project's own Read answers (layer 8). Conditions: the slice reads as bytes; the table of widths reads.
-/
import Derived.Test.YtbdidgfbonkneaaDoorD1
import Derived.Test.YtbdidgfbonkneaaDoorW9
namespace Go.Proofs.YtbdidgfbonkneaaDoor
open Go.RowKit
set_option linter.unusedVariables false

/-- What is read at a place that is there. -/
noncomputable def readU (l : List Int) (p : Nat) (n c : Int) : Option (Tb × Nat) := match readI l (p + 2) c (getTo false 2 p l 2) with
  | none => none
  | some (T, k) => if rightT T n c then some (T, k) else none
theorem readT_in {l : List Int} {p : Nat} {n c : Int} (h : p + 2 ≤ l.length) : readT l p n c = readU l p n c := by
  unfold readT
  rw [if_neg (by omega), Int.toNat_natCast]
  rfl
theorem readT_out {l : List Int} {p n c : Int} (h : p < 0 ∨ (l.length : Int) < p + 2) : readT l p n c = none := by
  unfold readT
  rw [if_pos h]
theorem readI_more {l : List Int} {k0 : Nat} {c : Int} {i : Nat} {T : Tb} {k : Nat} (h : readI l k0 c i = some (T, k)) {g : Nat} (hg : getTo false 2 k l 2 = g) (h1 : ¬ l.length < k + 130) (h2 : T.length ≤ g) (h3 : g < 512) {xs : List En} (h4 : entsB l (k + 2) c 8 = some xs) : readI l k0 c (i + 1) = some (padTo T g ++ [xs], k + 130) := by
  unfold readI
  rw [h]
  dsimp only
  rw [hg, if_neg (by omega), h4]
theorem readI_stop {l : List Int} {k0 : Nat} {c : Int} {i : Nat} {T : Tb} {k : Nat} (h : readI l k0 c i = some (T, k)) {v : Nat} (hv : i < v) (h1 : (if l.length < k + 130 then none else entsB l (k + 2) c 8) = none ∨ getTo false 2 k l 2 < T.length ∨ 512 ≤ getTo false 2 k l 2) : readI l k0 c v = none := by
  have h2 : readI l k0 c (i + 1) = none := by
    unfold readI
    rw [h]
    dsimp only
    by_cases hc : l.length < k + 130 ∨ getTo false 2 k l 2 < T.length ∨ 512 ≤ getTo false 2 k l 2
    · rw [if_pos hc]
    · rw [if_neg hc]
      rcases h1 with h1 | h1
      · rw [if_neg (fun h => hc (Or.inl h))] at h1
        rw [h1]
      · exact absurd (Or.inr h1) hc
  have := readI_none h2 (v - (i + 1))
  rwa [show i + 1 + (v - (i + 1)) = v by omega] at this
theorem readU_no {l : List Int} {p : Nat} {n c : Int} {k0 v : Nat} (hk : p + 2 = k0) (hv : getTo false 2 p l 2 = v) (h : readI l k0 c v = none) : readU l p n c = none := by
  unfold readU
  rw [hk, hv, h]
theorem readU_is {l : List Int} {p : Nat} {n c : Int} {k0 v : Nat} (hk : p + 2 = k0) (hv : getTo false 2 p l 2 = v) {T : Tb} {k : Nat} (h : readI l k0 c v = some (T, k)) : readU l p n c = if rightT T n c then some (T, k) else none := by
  unfold readU
  rw [hk, hv, h]
/-- What Read hands back. -/
def ReadP (o : Option (Tb × Nat)) (w0 : World) (e : Ending) (w : World) : Prop := match o with
  | none => e = .returned (.tuple #[.agg #[.slice none 0 0], .int .i64 0, .int .i64 3]) ∧ Below w0.heap.size w0 w
  | some (T, k) => ∃ (a' : Option Addr) (l' c' : Nat), e = .returned (.tuple #[.agg #[.slice a' l' c'], .int .i64 k, .int .i64 0]) ∧ TabN w w0.heap.size a' l' c' T ∧ Below w0.heap.size w0 w
theorem leafP_no {o : Option (List En)} (h : o = none) {v : Nat} {w0 w : World} {e : Ending} (hl : LeafP o v w0 e w) : e = .returned (.tuple #[.int .i64 0, .slice none 0 0, .int .i64 3]) ∧ Below w0.heap.size w0 w := by
  subst h
  exact hl
theorem leafP_yes {o : Option (List En)} {xs : List En} (h : o = some xs) {v : Nat} {w0 w : World} {e : Ending} (hl : LeafP o v w0 e w) : ∃ g, e = .returned (.tuple #[.int .i64 v, .slice (some ⟨g, 0, none⟩) 8 8, .int .i64 0]) ∧ LfO w w0.heap.size (some ⟨g, 0, none⟩, 8, 8, xs) ∧ Below w0.heap.size w0 w := by
  subst h
  exact hl
theorem results_cell_two {P : Program} {fn : Func} {p q r : Tmp} {ty : TypeId} (h : fn.results = #[.cell p ty, .tmp q, .tmp r]) (tmps : Array Value) (w : World) (g : Nat) (t : TypeId) (cs : Array Value) (fr : Nat × Nat) (d : TypeDesc)
    (hp : tmps.getD p undef = .pointer (some ⟨g, 0, none⟩)) (v u : Value) (hv : tmps.getD q undef = v) (hr : tmps.getD r undef = u) (hg : w.heap[g]? = some (.cells cs t fr))
    (hu : P.underlying ty = some d) (hd : (match d with | .struct _ | .array _ _ => true | _ => false) = true) (hi : (P.info? ty).map (·.size) = some cs.size) :
    (results fn tmps).run P w = .ok (.tuple #[.agg cs, v, u]) w := by
  have hp' : tmps[p]?.getD undef = .pointer (some ⟨g, 0, none⟩) := by simpa using hp
  have hv' : tmps[q]?.getD undef = v := by simpa using hv
  have hr' : tmps[r]?.getD undef = u := by simpa using hr
  simp [results, h, hp', hv', hr', asAddr, run_loadVar_row w g t ty cs fr d hg hu hd hi]
/-- The two boxes of Read. -/
def RdB (X Y : Nat) (r o : Value) (w0 W : World) : Prop := Blk W X 24 #[r] ∧ Blk W Y 24 #[o] ∧ Below X w0 W ∧ X < Y
section
variable {X Y : Nat} {r o : Value} {w0 W W' : World}
theorem RdB.later (h : RdB X Y r o w0 W) (hb : Below W.heap.size W W') : RdB X Y r o w0 W' := ⟨h.1.later hb, h.2.1.later hb, h.2.2.1.trans (hb.mono (Nat.le_of_lt h.1.lt)), h.2.2.2⟩
theorem RdB.alloc (h : RdB X Y r o w0 W) (x : Obj) : RdB X Y r o w0 (W.alloc x) := h.later ((Below.refl _ _).alloc (Nat.le_refl _) _)
theorem RdB.out (h : RdB X Y r o w0 W) (v : Value) : RdB X Y r v w0 (W.setCell ⟨Y, 0, none⟩ v) := ⟨h.1.other (by have := h.2.2.2; omega) _, h.2.1.set 0 v, h.2.2.1.setCell (by show X ≤ Y; have := h.2.2.2; omega) _, h.2.2.2⟩
theorem RdB.res (h : RdB X Y r o w0 W) (v : Value) : RdB X Y v o w0 (W.setCell ⟨X, 0, none⟩ v) := ⟨h.1.set 0 v, h.2.1.other (by have := h.2.2.2; omega) _, h.2.2.1.setCell (Nat.le_refl _) _, h.2.2.2⟩
theorem RdB.app (h : RdB X Y r o w0 W) {base n : Nat} {v : Value} {l : List LfD} (hq : OwnG cvD 51 1 W base v n l) (hb : X ≤ base) (hg : W.grownBy W' v.ownBlock) : RdB X Y r o w0 W' :=
  ⟨h.1.kept hg (h.1.not_row (by decide) hq), h.2.1.kept hg (h.2.1.not_row (by decide) hq), h.2.2.1.grown hg (Nat.le_of_lt h.1.lt) (fun k hk => Nat.le_trans hb (hq.1.lt k hk).1), h.2.2.2⟩
theorem RdB.cells (h : RdB X Y r o w0 W) : W.cell? ⟨X, 0, none⟩ = some r ∧ W.frozen? ⟨X, 0, none⟩ = false ∧ W.cell? ⟨Y, 0, none⟩ = some o ∧ W.frozen? ⟨Y, 0, none⟩ = false := ⟨one_cell9 h.1, h.1.free 0, one_cell9 h.2.1, h.2.1.free 0⟩
theorem RdB.size (h : RdB X Y r o w0 W) : X ≤ W.heap.size := Nat.le_of_lt h.1.lt
end
theorem RdB.first {w w1 : World} {r o : Value} (hb : Below (w.alloc (.cells #[r] 24)).heap.size (w.alloc (.cells #[r] 24)) w1) : RdB w.heap.size w1.heap.size r o w (w1.alloc (.cells #[o] 24)) := by
  have hs := hb.size
  rw [World.size_alloc] at hs
  refine ⟨((Blk.new w _ _).later hb).alloc _, Blk.new _ _ _, ?_, by omega⟩
  refine Below.alloc (Below.trans ((Below.refl _ _).alloc (Nat.le_refl _) _) (hb.mono (by rw [World.size_alloc]; omega))) (by omega) _
theorem LfO.box {w w' : World} {base : Nat} {d : LfD} (h : LfO w base d) {Y : Nat} {cs : Array Value} (hY : Blk w Y 24 cs) (hg : w.grownBy w' (some Y)) : LfO w' base d := h.kept hg fun k hk e => by
  cases e
  exact hY.not_row (by decide) h.1 hk.symm
theorem LfO.push {w w' : World} {base base' n : Nat} {d : LfD} {v : Value} {l : List LfD} (h : LfO w base d) (hq : OwnG cvD 51 1 w base' v n l) (hg : w.grownBy w' v.ownBlock) : LfO w' base d := h.kept hg fun k hk e => row_apart hq h.1 (by decide) k e hk
theorem tb_snoc (es : List LfD) (d : LfD) : tbOf (es ++ [d]) = tbOf es ++ [d.2.2.2] := by
  unfold tbOf
  rw [List.map_append]
  rfl
set_option maxRecDepth 100000 in
set_option maxHeartbeats 3200000 in
theorem read_any (w : World) (a : Option Addr) (len cap p : Nat) (l : List Int) (n c : Int) (hB : Bytes w a len l) (hcap : len ≤ cap) (hp : p + 2 ≤ len) (hw : Wid w) :
    Calls Tryd.prog 11 #[.slice a len cap, .int .i64 p, .int .i64 n, .int .i64 c] w (ReadP (readU l p n c) w) := by
  have hsm : len ≤ 140737488351232 := by rw [← hB.1]; exact hB.2.1.1
  have hb0 : ∀ x ∈ l, 0 ≤ x ∧ x < 256 := hB.2.1.2
  have hll := hB.1
  have hv : getTo false 2 p l 2 < 65536 := getTo_lt hb0 false 2 p 2
  have hal : Below w.heap.size w (w.alloc (.cells #[.slice none 0 0] 24)) := (Below.refl _ _).alloc (Nat.le_refl _) _
  have HF : Hid (Calls Tryd.prog 25 #[.slice a len cap, .int .i64 p, .int .i64 2, .bool false] (w.alloc (.cells #[.slice none 0 0] 24)) (GetPost (w.alloc (.cells #[.slice none 0 0] 24)) (getTo false 2 p l 2) 0)) := Lib.hid (fieldGet_ok a len cap 2 p l false (w.alloc (.cells #[.slice none 0 0] 24)) (hB.later hal) hcap (by omega) (by omega) (by omega))
  have HB := Lib.hid hB
  have HWD := Lib.hid hw
  have HU := Lib.hid (fun (k0 v : Nat) => @readU_no l p n c k0 v)
  have HUS := Lib.hid (fun (k0 v : Nat) => @readU_is l p n c k0 v)
  have HFI : Hid (∀ w1 : World, Below (w.alloc (.cells #[.slice none 0 0] 24)).heap.size (w.alloc (.cells #[.slice none 0 0] 24)) w1 → RdB w.heap.size w1.heap.size (.slice none 0 0) (.slice none 0 0) w (w1.alloc (.cells #[.slice none 0 0] 24))) := fun w1 hb => RdB.first hb
  obtain ⟨v, hvv⟩ := named (getTo false 2 p l 2)
  rw [hvv.out] at hv HF
  have HVV := Lib.hid hvv.out
  obtain ⟨k0, hk0⟩ := named (p + 2)
  have hpk : (p : Int) + 2 = (k0 : Int) := by rw [← hk0.out]; omega
  have HK0 := Lib.hid hk0.out
  have hkl : k0 ≤ len := by rw [← hk0.out]; omega
  have HUN : Hid (readI l k0 c v = none → readU l p n c = none) := HU.out k0 v HK0.out HVV.out
  have HUY : Hid (∀ {T k}, readI l k0 c v = some (T, k) → readU l p n c = if rightT T n c then some (T, k) else none) := fun h => HUS.out k0 v HK0.out HVV.out h
  obtain ⟨X, hX⟩ := named w.heap.size
  have hXX := hX.out
  clear hB hw hvv hal HU HUS
  go_enter Tryd.func11, Tryd.ntmps11
  go_wp2_with (go_at_call 25; (with_reducible refine HF.out.mono ?_); rintro e w1 ⟨rfl, g⟩; have HB1 := Lib.hid (HFI.out w1 g); obtain ⟨Y, hY⟩ := named w1.heap.size; have hYY := hY.out; rw [hY.out, hX.out] at HB1; clear g)
  go_loopw [13, 30] (fun b i wr => ∃ (m k : Nat) (T : Tb) (a' : Option Addr) (c' : Nat) (es : List LfD), m ≤ v ∧ b = .int .i64 k ∧ i = .int .u64 m ∧ Hid (readI l k0 c m = some (T, k)) ∧ Hid (tbOf es = T) ∧ Hid (RdB X Y (.slice none 0 0) (.slice a' T.length c') w wr) ∧ Hid (TabQ wr X a' T.length c' es es)) (fun _ i _ => v - (intOf i).toNat)
  case atStart => exact ⟨0, k0, [], none, 0, [], Nat.zero_le _, rfl, rfl, rfl, rfl, HB1.out, TabQ.first _ _⟩
  case round =>
    obtain ⟨m, k, T, a', c', es, hm, rfl, rfl, HR, HE, HB2, HQ⟩ := hrel
    obtain ⟨x1, x2, x3, x4⟩ := HB2.out.cells
    obtain ⟨-, hk5, hM5, hlens⟩ := readI_at hb0 (by omega) HR.out
    have HLE := Lib.hid hlens
    obtain ⟨M, hM⟩ := named T.length
    rw [hM.out] at HB2 HQ x3 hM5
    clear hlens
    by_cases hlt : m < v
    · have hm2 : (m : Int) < (v : Int) := by omega
      have HLF := Lib.hid (readLeaf_any wr a len cap k l c (HB.out.later (hX.out.symm ▸ HB2.out.2.2.1)) hcap (by omega) (HWD.out.later (hX.out.symm ▸ HB2.out.2.2.1)))
      have hgl : getTo false 2 k l 2 < 65536 := getTo_lt hb0 false 2 k 2
      have HST := Lib.hid (readI_stop HR.out hlt)
      have HMR := Lib.hid (fun g hg => @readI_more l k0 c m T k HR.out g hg)
      rw [hll] at HST
      obtain ⟨g, hg⟩ := named (getTo false 2 k l 2)
      rw [hg.out] at HLF HST hgl
      rw [hM.out] at HST
      cases ho : (if len < k + 130 then none else entsB l (k + 2) c 8) with
      | none =>
        have HO := Lib.hid ho
        have HRU := Lib.hid (HUN.out (HST.out (Or.inl ho)))
        clear ho HST HMR
        go_wp2_with (go_at_call 26; (with_reducible refine HLF.out.mono ?_); intro e w4 h; obtain ⟨rfl, g4⟩ := leafP_no HO.out h; have HB4 := Lib.hid (HB2.out.later g4); obtain ⟨y1, y2, y3, y4⟩ := (HB2.out.later g4).cells; have HB5 := Lib.hid ((HB2.out.later g4).res (.slice none 0 0)); clear h g4 HLF)
        refine bodyPost_ret (results_cell_two rfl _ _ X 24 #[.slice none 0 0] (0, 0) _ rfl _ _ rfl rfl HB5.out.1 Tryd.underlying24 rfl tbl_size) rfl ?_
        rw [HRU.out]
        exact ⟨rfl, hX.out.symm ▸ HB5.out.2.2.1⟩
      | some xs =>
        have HO := Lib.hid ho
        have h1 : ¬ len < k + 130 ∧ entsB l (k + 2) c 8 = some xs := by
          by_cases hc : len < k + 130
          · rw [if_pos hc] at ho
            cases ho
          · rw [if_neg hc] at ho
            exact ⟨hc, ho⟩
        by_cases hgd : M ≤ g ∧ g < 512
        · have hgd2 : (M : Int) ≤ (g : Int) ∧ (g : Int) ≤ 511 := by omega
          have HW := Lib.hid (fun w => within9_is (n := (g : Int)) (a := (M : Int)) (b := 511) (decide_eq_true hgd2) w)
          have HRI := Lib.hid (HMR.out g hg.out (by rw [hll]; exact h1.1) (by rw [hM.out]; exact hgd.1) hgd.2 h1.2)
          have hk1 := h1.1
          have hgd1 := hgd.1
          clear ho HST HMR h1 hgd hgd2
          go_wp2_with (first
            | (go_at_call 26; (with_reducible refine HLF.out.mono ?_); intro e w4 h; obtain ⟨G, rfl, g5, g4⟩ := leafP_yes HO.out h; have HB4 := Lib.hid (HB2.out.later g4); have HQ4 := Lib.hid (HQ.out.later g4); have HL4 := Lib.hid (g5.mono HB2.out.size); have HN4 : Hid (∀ x ∈ es, blkD x ≠ some G) := (fun x hx hb => by have := HQ.out.lt x hx G hb; have := (g5.lt (b := G) rfl).1; omega); obtain ⟨y1, y2, y3, y4⟩ := (HB2.out.later g4).cells; clear h g4 g5 HLF)
            | (go_at_call 27; (with_reducible refine (HW.out _).mono ?_); rintro e w5 ⟨rfl, rfl⟩))
          go_loopw [] (fun wq => ∃ (q : Nat) (a2 : Option Addr) (c2 : Nat) (es2 : List LfD), M + q ≤ g ∧ Hid (tbOf es2 = T ++ List.replicate q []) ∧ Hid (RdB X Y (.slice none 0 0) (.slice a2 (M + q) c2) w wq) ∧ Hid (TabQ wq X a2 (M + q) c2 es2 es2) ∧ Hid (LfO wq X (some ⟨G, 0, none⟩, 8, 8, xs)) ∧ Hid (∀ x ∈ es2, blkD x ≠ some G)) (fun wq => g - lenOf9 wq Y)
          case atStart => exact ⟨0, a', c', es, hgd1, (show tbOf es = T ++ List.replicate 0 [] by rw [HE.out]; simp), HB4.out, HQ4.out, HL4.out, HN4.out⟩
          case round =>
            obtain ⟨q, a2, c2, es2, hq, HE2, HB5, HQ5, HL5, HN5⟩ := hrel
            obtain ⟨z1, z2, z3, z4⟩ := HB5.out.cells
            obtain ⟨S, hS⟩ := named (M + q)
            rw [hS.out] at HB5 HQ5 z3 hq
            have hl1 := lenOf9_is z3
            have hXs := HB5.out.size
            by_cases hlq : S < g
            · have hlq2 : (S : Int) < (g : Int) := by omega
              have HQA := Lib.hid (HQ5.out.alloc (.cells #[.slice none 0 0] 51))
              have HBA := Lib.hid (HB5.out.alloc (.cells #[.slice none 0 0] 51))
              have HLA := Lib.hid (HL5.out.later ((Below.refl _ _).alloc (Nat.le_refl _) (.cells #[.slice none 0 0] 51)))
              have HRD := Lib.hid (one_reads (cv := cvD) wr (none, 0, 0, []) #[.slice none 0 0] 51 rfl)
              go_wp2_with (at_builtin; refine append_gg lf_rowed rfl _ _ rfl X _ S es2 rfl HQA.out.out (some ⟨wr.heap.size, 0, none⟩) 1 1 [(none, 0, 0, [])] rfl (fun e => by cases e) HRD.out (by omega) (by rw [World.size_alloc]; omega) ?_; intro a3 c3 w6 hO hB6 hg6; have hb6 := HBA.out.app HQA.out.out (Nat.le_refl _) hg6; have hq6 := HQA.out.nilMore hO hg6; have hl6 := HLA.out.push HQA.out.out hg6; have HB6 := Lib.hid (hb6.out (.slice a3 (S + 1) c3)); have HQ6 := Lib.hid (hq6.box hb6.2.1 (grownBy_setCell4 w6 Y 0 (.slice a3 (S + 1) c3))); have HL6 := Lib.hid (hl6.box hb6.2.1 (grownBy_setCell4 w6 Y 0 (.slice a3 (S + 1) c3))); obtain ⟨t1, t2, t3, t4⟩ := hb6.cells; clear hb6 hq6 hl6 hO hB6 hg6)
              go_roundw
              case rel =>
                refine ⟨q + 1, a3, c3, es2 ++ [(none, 0, 0, [])], by have := hS.out; omega, ?_, ?_, ?_, HL6.out, ?_⟩
                · show tbOf (es2 ++ [(none, 0, 0, [])]) = _
                  rw [tb_snoc, HE2.out, List.replicate_succ', List.append_assoc]
                · rw [← Nat.add_assoc, hS.out]
                  exact HB6.out
                · rw [← Nat.add_assoc, hS.out]
                  exact HQ6.out
                · exact fun x hx => by
                    rcases List.mem_append.1 hx with hx | hx
                    · exact HN5.out x hx
                    · rw [List.mem_singleton] at hx
                      subst hx
                      exact fun e => by cases e
              case measure =>
                have hl2 := lenOf9_is HB6.out.cells.2.2.1
                rw [hl1, hl2]
                omega
            · have hSg : S = g := by omega
              subst hSg
              have hlq2 : ¬ (S : Int) < (S : Int) := by omega
              have HP : Hid (tbOf es2 = padTo T S) := by
                show tbOf es2 = _
                rw [HE2.out]
                unfold padTo
                rw [hM.out, show q = S - M by have := hS.out; omega]
              have HQA := Lib.hid (HQ5.out.alloc (.cells #[.slice (some ⟨G, 0, none⟩) 8 8] 51))
              have HBA := Lib.hid (HB5.out.alloc (.cells #[.slice (some ⟨G, 0, none⟩) 8 8] 51))
              have HLA := Lib.hid (HL5.out.later ((Below.refl _ _).alloc (Nat.le_refl _) (.cells #[.slice (some ⟨G, 0, none⟩) 8 8] 51)))
              have HRD := Lib.hid (one_reads (cv := cvD) wr (some ⟨G, 0, none⟩, 8, 8, xs) #[.slice (some ⟨G, 0, none⟩) 8 8] 51 rfl)
              go_wp2_with (at_builtin; refine append_gg lf_rowed rfl _ _ rfl X _ S es2 rfl HQA.out.out (some ⟨wr.heap.size, 0, none⟩) 1 1 [(some ⟨G, 0, none⟩, 8, 8, xs)] rfl (fun e => by cases e) HRD.out (by omega) (by rw [World.size_alloc]; omega) ?_; intro a3 c3 w6 hO hB6 hg6; have hb6 := HBA.out.app HQA.out.out (Nat.le_refl _) hg6; have hq6 := (HQA.out.push hO hg6).addEs _ (HLA.out.push HQA.out.out hg6) (fun x hx b hb hb' => by simp only [blkD, Value.ownBlock, Option.some.injEq] at hb'; exact HN5.out x hx (hb'.symm ▸ hb)); have HB6 := Lib.hid (hb6.out (.slice a3 (S + 1) c3)); have HQ6 := Lib.hid (hq6.box hb6.2.1 (grownBy_setCell4 w6 Y 0 (.slice a3 (S + 1) c3))); obtain ⟨t1, t2, t3, t4⟩ := hb6.cells; clear hb6 hq6 hO hB6 hg6)
              go_roundw
              case rel =>
                have hTl : (padTo T S ++ [xs]).length = S + 1 := by rw [List.length_append, padTo_len _ _ (by rw [hM.out]; exact hgd1)]; rfl
                refine ⟨m + 1, k + 130, padTo T S ++ [xs], a3, c3, es2 ++ [(some ⟨G, 0, none⟩, 8, 8, xs)], by omega, by go_num, by go_num, HRI.out, ?_, ?_, ?_⟩
                · show tbOf (es2 ++ [(some ⟨G, 0, none⟩, 8, 8, xs)]) = _
                  rw [tb_snoc, HP.out]
                · rw [hTl]
                  exact HB6.out
                · rw [hTl]
                  exact HQ6.out
              case measure => simp [intOf]; omega
        · have hgd2 : ¬ ((M : Int) ≤ (g : Int) ∧ (g : Int) ≤ 511) := by omega
          have HW := Lib.hid (fun w => within9_is (n := (g : Int)) (a := (M : Int)) (b := 511) (decide_eq_false hgd2) w)
          have HRU := Lib.hid (HUN.out (HST.out (Or.inr (by omega))))
          clear ho HST HMR h1 hgd hgd2
          go_wp2_with (first
            | (go_at_call 26; (with_reducible refine HLF.out.mono ?_); intro e w4 h; obtain ⟨G, rfl, g5, g4⟩ := leafP_yes HO.out h; obtain ⟨y1, y2, y3, y4⟩ := (HB2.out.later g4).cells; have HB5 := Lib.hid ((HB2.out.later g4).res (.slice none 0 0)); clear h g4 g5 HLF)
            | (go_at_call 27; (with_reducible refine (HW.out _).mono ?_); rintro e w5 ⟨rfl, rfl⟩))
          refine bodyPost_ret (results_cell_two rfl _ _ X 24 #[.slice none 0 0] (0, 0) _ rfl _ _ rfl rfl HB5.out.1 Tryd.underlying24 rfl tbl_size) rfl ?_
          rw [HRU.out]
          exact ⟨rfl, hX.out.symm ▸ HB5.out.2.2.1⟩
    · have hmv : m = v := by omega
      subst hmv
      have hm2 : ¬ (m : Int) < (m : Int) := by omega
      have HUI := Lib.hid (HUY.out HR.out)
      have htab := HQ.out.tab (cap := c') HE.out (by omega) (fun lf hlf => by have := (HLE.out lf hlf).1; omega)
      by_cases hR : rightT T n c
      · have HRT := Lib.hid (rightTT (decide_eq_true hR) wr htab)
        have HUV : Hid (readU l p n c = some (T, k)) := by
          show readU l p n c = _
          rw [HUI.out, if_pos hR]
        have HLN : Hid (M ≤ 6000 ∧ ∀ lf ∈ T, lf.length ≤ 1000000) := ⟨by omega, fun lf hlf => by have := (HLE.out lf hlf).1; omega⟩
        clear hR htab
        go_wp2_with (go_at_call 17; (with_reducible refine HRT.out.mono ?_); rintro e w4 ⟨rfl, g4⟩; obtain ⟨y1, y2, y3, y4⟩ := (HB2.out.later g4).cells; have HB5 := Lib.hid ((HB2.out.later g4).res (.slice a' M c')); have HQ5 := Lib.hid ((HQ.out.later g4).box (HB2.out.later g4).1 (grownBy_setCell4 w4 X 0 (.slice a' M c'))); clear g4 HRT)
        refine bodyPost_ret (results_cell_two rfl _ _ X 24 #[.slice a' M c'] (0, 0) _ rfl _ _ rfl rfl HB5.out.1 Tryd.underlying24 rfl tbl_size) rfl ?_
        rw [HUV.out]
        exact ⟨a', M, c', rfl, HQ5.out.tabN HE.out HLN.out.1 HLN.out.2 (Nat.le_of_eq hX.out), hX.out.symm ▸ HB5.out.2.2.1⟩
      · have HRT := Lib.hid (rightTT (decide_eq_false hR) wr htab)
        have HRU : Hid (readU l p n c = none) := by
          show readU l p n c = _
          rw [HUI.out, if_neg hR]
        clear hR htab
        go_wp2_with (go_at_call 17; (with_reducible refine HRT.out.mono ?_); rintro e w4 ⟨rfl, g4⟩; obtain ⟨y1, y2, y3, y4⟩ := (HB2.out.later g4).cells; have HB5 := Lib.hid ((HB2.out.later g4).res (.slice none 0 0)); clear g4 HRT)
        refine bodyPost_ret (results_cell_two rfl _ _ X 24 #[.slice none 0 0] (0, 0) _ rfl _ _ rfl rfl HB5.out.1 Tryd.underlying24 rfl tbl_size) rfl ?_
        rw [HRU.out]
        exact ⟨rfl, hX.out.symm ▸ HB5.out.2.2.1⟩
end Go.Proofs.YtbdidgfbonkneaaDoor
