/-
  What the reference's Copy answers (layer 8). Conditions: the table reads, no more than 6000 leaves.
-/
import Derived.Test.YtlljcdmblmkblaaGreatR9
namespace Go.Proofs.YtlljcdmblmkblaaGreat
open Go.RowKit
set_option linter.unusedVariables false

/-- The boxes of Copy. -/
def BoxK (X : Nat) (s r o : Value) (w0 W : World) : Prop := Blk W X 36 #[s] ∧ Blk W (X + 1) 36 #[r] ∧ Blk W (X + 2) 36 #[o] ∧ Below X w0 W
section
variable {X : Nat} {s r o : Value} {w0 W W' : World}
theorem BoxK.later (h : BoxK X s r o w0 W) (hb : Below W.heap.size W W') : BoxK X s r o w0 W' := ⟨h.1.later hb, h.2.1.later hb, h.2.2.1.later hb, h.2.2.2.trans (hb.mono (Nat.le_of_lt h.1.lt))⟩
theorem BoxK.app (h : BoxK X s r o w0 W) {base n : Nat} {v : Value} {l : List LfD} (hq : OwnG cvD 68 1 W base v n l) (hb : X ≤ base) (hg : W.grownBy W' v.ownBlock) : BoxK X s r o w0 W' :=
  ⟨h.1.kept hg (h.1.not_row (by decide) hq), h.2.1.kept hg (h.2.1.not_row (by decide) hq), h.2.2.1.kept hg (h.2.2.1.not_row (by decide) hq), h.2.2.2.grown hg (Nat.le_of_lt h.1.lt) (fun k hk => Nat.le_trans hb (hq.1.lt k hk).1)⟩
theorem BoxK.out (h : BoxK X s r o w0 W) (v : Value) : BoxK X s r v w0 (W.setCell ⟨X + 2, 0, none⟩ v) :=
  ⟨h.1.other (by omega) _, h.2.1.other (by omega) _, h.2.2.1.set 0 v, h.2.2.2.setCell (by show X ≤ X + 2; omega) _⟩
theorem BoxK.res (h : BoxK X s r o w0 W) (v : Value) : BoxK X s v o w0 (W.setCell ⟨X + 1, 0, none⟩ v) :=
  ⟨h.1.other (by omega) _, h.2.1.set 0 v, h.2.2.1.other (by omega) _, h.2.2.2.setCell (by show X ≤ X + 1; omega) _⟩
theorem BoxK.cells (h : BoxK X s r o w0 W) : W.cell? ⟨X, 0, none⟩ = some s ∧ W.cell? ⟨X + 1, 0, none⟩ = some r ∧ W.frozen? ⟨X + 1, 0, none⟩ = false ∧ W.cell? ⟨X + 1 + 1, 0, none⟩ = some o ∧ W.frozen? ⟨X + 1 + 1, 0, none⟩ = false :=
  ⟨one_cell9 h.1, one_cell9 h.2.1, h.2.1.free 0, one_cell9 h.2.2.1, h.2.2.1.free 0⟩
theorem BoxK.first (w : World) (s r o : Value) : BoxK w.heap.size s r o w (((w.alloc (.cells #[s] 36)).alloc (.cells #[r] 36)).alloc (.cells #[o] 36)) := by
  refine ⟨((Blk.new w _ _).alloc _).alloc _, Blk.alloc (blk_next9 _ _ _ _ _) _, ?_, (((Below.refl _ _).alloc (Nat.le_refl _) _).alloc (by simp) _).alloc (by simp; omega) _⟩
  have := Blk.new ((w.alloc (.cells #[s] 36)).alloc (.cells #[r] 36)) 36 #[o]
  rwa [World.size_alloc, World.size_alloc] at this
end
theorem BoxK.alloc {X : Nat} {s r o : Value} {w0 W : World} (h : BoxK X s r o w0 W) (x : Obj) : BoxK X s r o w0 (W.alloc x) := h.later ((Below.refl _ _).alloc (Nat.le_refl _) _)
/-- 'append([]api.Entry{}, x...)', at one operation. -/
theorem wp_copyleaf9 {o : Oper} {a : Act} {w0 : World} {K : Act → World → Prop} {Q : Exit → Act → World → Prop} (s x : Operand)
    (ho : o.op = .call { callee := .builtin .append, args := #[s, x], argTypes := #[68, 68] }) (base : Nat) (hbase : base ≤ w0.heap.size) (d : LfD) (hd : LfR w0 d) (hl : d.2.1 ≤ 1000000)
    (hs : a.eval s = .slice (some ⟨w0.heap.size, 0, none⟩) 0 0) (hx : a.eval x = .slice d.1 d.2.1 d.2.2.1)
    (h : ∀ (d' : LfD) w', d'.2.1 = d.2.1 ∧ d'.2.2.2 = d.2.2.2 → LfO w' w0.heap.size d' → Below w0.heap.size w0 w' → K (a.put o.dst (.slice d'.1 d.2.1 d'.2.2.1)) w') : o.wp Tryz.prog a (w0.alloc (.cells #[] 24)) K Q := by
  refine wp_append_lg en_rowed s x ho w0.heap.size _ 0 [] hs (OwnG.made _ _ _ _ _ (Nat.le_refl _)) d.1 d.2.1 d.2.2.1 d.2.2.2 hx hd.2.2.1 (hd.1.later ((Below.refl _ _).alloc (Nat.le_refl _) _)) (by omega) (by simp) ?_
  intro a' c' w' h1 h2 h3
  rw [Nat.zero_add, List.nil_append] at h1
  rw [Nat.zero_add]
  refine h (a', d.2.1, c', d.2.2.2) w' ⟨rfl, rfl⟩ ⟨h1, hd.2.2.2⟩ ?_
  exact ((Below.refl _ _).alloc (Nat.le_refl _) _).grown h2 (by simp) (fun k hk => by simp [Value.ownBlock] at hk; omega)
/-- 'append(t.L, leaf)', at one operation. -/
theorem wp_push9 {o : Oper} {a : Act} {w0 : World} {K : Act → World → Prop} {Q : Exit → Act → World → Prop} (s x : Operand)
    (ho : o.op = .call { callee := .builtin .append, args := #[s, x], argTypes := #[34, 34] }) (base : Nat) {ao : Option Addr} {len c : Nat} {es : List LfD} (hq : TabQ w0 base ao len c es es) {d : LfD} (hd : LfO w0 base d)
    (hnew : ∀ x ∈ es, ∀ b, blkD x = some b → blkD d ≠ some b) (hbase : base ≤ w0.heap.size) (hl : len ≤ 1000000) {l : Nat} (hdl : d.2.1 = l)
    (hs : a.eval s = .slice ao len c) (hx : a.eval x = .slice (some ⟨w0.heap.size, 0, none⟩) 1 1)
    (h : ∀ a' c' w', TabQ w' base a' (len + 1) c' (es ++ [d]) (es ++ [d]) → (w0.alloc (.cells #[.slice d.1 l d.2.2.1] 68)).grownBy w' (Value.slice ao len c).ownBlock → K (a.put o.dst (.slice a' (len + 1) c')) w') : o.wp Tryz.prog a (w0.alloc (.cells #[.slice d.1 l d.2.2.1] 68)) K Q := by
  subst hdl
  have hqa := hq.alloc (.cells #[.slice d.1 d.2.1 d.2.2.1] 68)
  refine wp_append_lg lf_rowed s x ho base _ len es hs hqa.out (some ⟨w0.heap.size, 0, none⟩) 1 1 [d] hx (fun e => by cases e) (one_reads (cv := cvD) w0 d _ _ rfl) (by omega) (by rw [World.size_alloc]; omega) ?_
  intro a' c' w' h1 h2 h3
  refine h a' c' w' ?_ h2
  have hdk : LfO w' base d := (hd.later ((Below.refl _ _).alloc (Nat.le_refl _) _)).kept h2 fun k hk e => row_apart hqa.out (hd.later ((Below.refl _ _).alloc (Nat.le_refl _) (.cells #[.slice d.1 d.2.1 d.2.2.1] 68))).1 (by decide) k e hk
  exact (hqa.push h1 h2).addEs d hdk hnew
set_option maxRecDepth 100000 in
set_option maxHeartbeats 3200000 in
theorem refCopy9 (w : World) (a : Option Addr) (len cap : Nat) (ds : List LfD) (h : TabR w a len ds) (hlen : len ≤ 6000) (hll : ∀ d ∈ ds, d.2.1 ≤ 1000000) :
    Calls Tryz.prog 36 #[.agg #[.slice a len cap]] w fun e w' => ∃ (a' : Option Addr) (c' : Nat) (es : List LfD), e = .returned (.agg #[.slice a' len c']) ∧ tbOf es = tbOf ds ∧ TabQ w' w.heap.size a' len c' es es ∧ Below w.heap.size w w' := by
  have HB0 := Lib.hid (BoxK.first w (.slice a len cap) (.slice none 0 0) (.slice none 0 0))
  have HT := Lib.hid h
  have HLL := Lib.hid hll
  have hdl := h.len
  obtain ⟨X, hX⟩ := named w.heap.size
  have hXX := hX.out
  rw [hX.out] at HB0 ⊢
  clear h hll
  go_enter Tryz.func36, Tryz.ntmps36
  go_wp2
  go_loopw [4] (fun i wr => ∃ (j : Nat) (a' : Option Addr) (c' : Nat) (es : List LfD), j ≤ len ∧ i = .int .i64 j ∧ Hid (tbOf es = (tbOf ds).take j) ∧ Hid (BoxK X (.slice a len cap) (.slice none 0 0) (.slice a' j c') w wr) ∧ Hid (TabQ wr (X + 3) a' j c' es es)) (fun i _ => len - (intOf i).toNat)
  case atStart => exact ⟨0, none, 0, [], Nat.zero_le _, rfl, rfl, HB0.out, TabQ.first _ _⟩
  case round =>
    obtain ⟨j, a', c', es, hj, rfl, HE, HB, HQ⟩ := hrel
    obtain ⟨x1, x2, x3, x4, x5⟩ := HB.out.cells
    by_cases hlt : j < len
    · obtain ⟨b, off, al, ll, cl, xs, rfl, hcell, hL, _, hget⟩ := (HT.out.later (hX.out.symm ▸ HB.out.2.2.2)).at j hlt
      have HSO : Hid (∀ o W, BoxK X (.slice (some ⟨b, off, none⟩) len cap) (.slice none 0 0) o w W → W.cell? ⟨X, 0, none⟩ = some (.slice (some ⟨b, off, none⟩) len cap) ∧ W.cell? ⟨b, off + j, none⟩ = some (.slice al ll cl)) := fun o W hb => by
        refine ⟨one_cell9 hb.1, ?_⟩
        obtain ⟨b0, off0, al0, ll0, cl0, xs0, e0, hc0, _, _, hg0⟩ := (HT.out.later (hX.out.symm ▸ hb.2.2.2)).at j hlt
        cases e0
        have := hget.symm.trans hg0
        simp only [Option.some.injEq, Prod.mk.injEq] at this
        obtain ⟨rfl, rfl, rfl, rfl⟩ := this
        exact hc0
      have HLL9 : Hid (ll ≤ 1000000) := HLL.out _ (List.mem_of_getElem? hget)
      have HE2 : Hid (∀ d' : LfD, d'.2.1 = ll ∧ d'.2.2.2 = xs → tbOf (es ++ [d']) = (tbOf ds).take (j + 1)) := fun d' h => by
        rw [tb_take_succ hget, ← HE.out]
        unfold tbOf
        rw [List.map_append]
        simp [h.2]
      have HBd := Lib.hid (HB.out.later (Below.refl _ _).drew)
      have HQd := Lib.hid HQ.out.drew
      have HLd := Lib.hid (hL.later (Below.refl _ _).drew)
      have HSZd : Hid (X + 3 ≤ wr.drew.heap.size) := by
        have := HBd.out.2.2.1.lt
        show X + 3 ≤ _
        omega
      obtain ⟨_, _, _, ocd, _⟩ := HBd.out.cells
      clear hL hget hcell
      go_wp2
      refine wp_region_held_drew (S := fun w' => w'.cell? ⟨X, 0, none⟩ = some (.slice (some ⟨b, off, none⟩) len cap) ∧ w'.cell? ⟨b, off + j, none⟩ = some (.slice al ll cl)) (by kernel_rfl) (by first | exact HSO.out _ _ HB12.out | exact HSO.out _ _ HB10.out | exact HSO.out _ _ HB9.out | exact HSO.out _ _ HB8.out | exact HSO.out _ _ HB2.out | exact HSO.out _ _ HBd.out) (fun hHeld => ?_)
      refine wpAnyH_take (i := 0) (oi := _) (v := ?va0) rfl (by kernel_rfl) (by kernel_rfl) (by kernel_rfl) (fun _ _ _ h => h) (Or.inl ⟨by rfl, ?hya0⟩) (by assumption) ?resta0
      case hya0 => (intro wz hSw; (try dsimp only at hSw); go_simp; try with_reducible rfl)
      (try simp only [List.getElem_toArray, List.getElem_cons_zero, Act.put, List.setIfInBounds_toArray, List.set_cons_zero, List.set_cons_succ])
      refine wpAnyH_take (i := 3) (oi := _) (v := ?va3) rfl (by kernel_rfl) (by kernel_rfl) (by kernel_rfl) (fun _ _ _ h => h) (Or.inl ⟨by rfl, ?hya3⟩) (by assumption) ?resta3
      case hya3 => (intro wz hSw; (try dsimp only at hSw); go_simp; try with_reducible rfl)
      (try simp only [List.getElem_toArray, List.getElem_cons_zero, List.getElem_cons_succ, Act.put, List.setIfInBounds_toArray, List.set_cons_zero, List.set_cons_succ])
      refine wpAnyH_take (i := 4) (oi := _) (v := ?va4) rfl (by kernel_rfl) (by kernel_rfl) (by kernel_rfl) (fun _ _ _ h => h) (Or.inl ⟨by rfl, ?hya4⟩) (by assumption) ?resta4
      case hya4 => (intro wz hSw; (try dsimp only at hSw); go_simp; try with_reducible rfl)
      (try simp only [List.getElem_toArray, List.getElem_cons_zero, List.getElem_cons_succ, Act.put, List.setIfInBounds_toArray, List.set_cons_zero, List.set_cons_succ])
      refine wpAnyH_take (i := 5) (oi := _) (v := ?va5) rfl (by kernel_rfl) (by kernel_rfl) (by kernel_rfl) (fun _ _ _ h => h) (Or.inl ⟨by rfl, ?hya5⟩) (by assumption) ?resta5
      case hya5 => (intro wz hSw; (try dsimp only at hSw); go_simp; try with_reducible rfl)
      (try simp only [List.getElem_toArray, List.getElem_cons_zero, List.getElem_cons_succ, Act.put, List.setIfInBounds_toArray, List.set_cons_zero, List.set_cons_succ])
      refine wpAnyH_take (i := 6) (oi := _) (v := ?va6) rfl (by kernel_rfl) (by kernel_rfl) (by kernel_rfl) (fun _ _ _ h => h) (Or.inl ⟨by rfl, ?hya6⟩) (by assumption) ?resta6
      case hya6 => (intro wz hSw; (try dsimp only at hSw); go_simp; try with_reducible rfl)
      (try simp only [List.getElem_toArray, List.getElem_cons_zero, List.getElem_cons_succ, Act.put, List.setIfInBounds_toArray, List.set_cons_zero, List.set_cons_succ])
      refine wpAnyH_take (i := 7) (oi := _) (v := ?va7) rfl (by kernel_rfl) (by kernel_rfl) (by kernel_rfl) (fun _ _ _ h => h) (Or.inl ⟨by rfl, ?hya7⟩) (by assumption) ?resta7
      case hya7 => (intro wz hSw; (try dsimp only at hSw); go_simp; try with_reducible rfl)
      (try simp only [List.getElem_toArray, List.getElem_cons_zero, List.getElem_cons_succ, Act.put, List.setIfInBounds_toArray, List.set_cons_zero, List.set_cons_succ])
      refine wpAnyH_ready (rs := [1, 2]) (by kernel_rfl) (by simp) ?_
      refine AllReadyH.cons (o := _) rfl (fun K hK => ?_) (AllReadyH.cons (o := _) rfl (fun K hK => ?_) AllReadyH.nil)
      · rw [if_pos (by rfl)]
        go_simp
        refine hK.out _ _ (by first | exact HSO.out _ _ HB12.out | exact HSO.out _ _ HB10.out | exact HSO.out _ _ HB9.out | exact HSO.out _ _ HB8.out | exact HSO.out _ _ HB2.out | exact HSO.out _ _ HBd.out) (fun hHeld => ?_)
        clear hK K
        (try simp only [List.getElem_toArray, List.getElem_cons_zero, List.getElem_cons_succ, Act.put, List.setIfInBounds_toArray, List.set_cons_zero, List.set_cons_succ])
        refine wpAnyH_ready (rs := [2]) (by kernel_rfl) (by simp) ?_
        refine AllReadyH.cons (o := _) rfl (fun K hK => ?_) AllReadyH.nil
        rw [if_pos (by rfl)]
        go_simp
        have HB2 := Lib.hid (HBd.out.alloc (.cells #[] 24))
        have HQ2 := Lib.hid (HQd.out.alloc (.cells #[] 24))
        obtain ⟨_, _, _, oc2, _⟩ := HB2.out.cells
        have oc2b : (wr.alloc (.cells #[] 24)).cell? ⟨X + 1 + 1, 0, none⟩ = some (.slice a' j c') := oc2
        refine hK.out _ _ (by first | exact HSO.out _ _ HB12.out | exact HSO.out _ _ HB10.out | exact HSO.out _ _ HB9.out | exact HSO.out _ _ HB8.out | exact HSO.out _ _ HB2.out | exact HSO.out _ _ HBd.out) (fun hHeld => ?_)
        clear hK K
        (try simp only [List.getElem_toArray, List.getElem_cons_zero, List.getElem_cons_succ, Act.put, List.setIfInBounds_toArray, List.set_cons_zero, List.set_cons_succ])
        refine wpAnyH_ready (rs := [8]) (by kernel_rfl) (by simp) ?_
        refine AllReadyH.cons (o := _) rfl (fun K hK => ?_) AllReadyH.nil
        rw [if_pos (by rfl)]
        refine wp_copyleaf9 (.tmp 14) (.tmp 19) rfl (X + 3) HSZd.out (al, ll, cl, xs) HLd.out HLL9.out rfl rfl ?_
        intro d8 w8 g1 g2 g3
        have HD8 := Lib.hid g1
        have HL8 := Lib.hid g2
        have HN8 : Hid (∀ x ∈ es, ∀ b, blkD x = some b → blkD d8 ≠ some b) := fun x hx b hb hb' => by
          have h1 := HQd.out.lt x hx b hb
          have h2 := (g2.lt hb').1
          omega
        have HB8 := Lib.hid (HBd.out.later g3)
        have HSZ8 : Hid (X + 3 ≤ w8.heap.size) := Nat.le_trans HSZd.out g3.size
        have HQ8 := Lib.hid (HQd.out.later g3)
        have HL8' := Lib.hid (g2.mono (by have := HSZd.out; omega))
        obtain ⟨_, _, _, oc8, _⟩ := HB8.out.cells
        clear g1 g2 g3
        (try dsimp only)
        refine hK.out _ _ (by first | exact HSO.out _ _ HB12.out | exact HSO.out _ _ HB10.out | exact HSO.out _ _ HB9.out | exact HSO.out _ _ HB8.out | exact HSO.out _ _ HB2.out | exact HSO.out _ _ HBd.out) (fun hHeld => ?_)
        clear hK K
        (try simp only [List.getElem_toArray, List.getElem_cons_zero, List.getElem_cons_succ, Act.put, List.setIfInBounds_toArray, List.set_cons_zero, List.set_cons_succ])
        refine wpAnyH_ready (rs := [9]) (by kernel_rfl) (by simp) ?_
        refine AllReadyH.cons (o := _) rfl (fun K hK => ?_) AllReadyH.nil
        rw [if_pos (by rfl)]
        go_simp
        have HB9 := Lib.hid (HB8.out.alloc (.cells #[.slice d8.1 ll d8.2.2.1] 68))
        obtain ⟨_, _, _, oc9, _⟩ := HB9.out.cells
        refine hK.out _ _ (by first | exact HSO.out _ _ HB12.out | exact HSO.out _ _ HB10.out | exact HSO.out _ _ HB9.out | exact HSO.out _ _ HB8.out | exact HSO.out _ _ HB2.out | exact HSO.out _ _ HBd.out) (fun hHeld => ?_)
        clear hK K
        (try simp only [List.getElem_toArray, List.getElem_cons_zero, List.getElem_cons_succ, Act.put, List.setIfInBounds_toArray, List.set_cons_zero, List.set_cons_succ])
        refine wpAnyH_ready (rs := [10]) (by kernel_rfl) (by simp) ?_
        refine AllReadyH.cons (o := _) rfl (fun K hK => ?_) AllReadyH.nil
        rw [if_pos (by rfl)]
        refine wp_push9 (.tmp 13) (.tmp 21) rfl (X + 3) HQ8.out HL8'.out HN8.out HSZ8.out (by omega) HD8.out.1 rfl rfl ?_
        intro a2 c2 w10 hq hg
        have HQ10 := Lib.hid hq
        have HB10 := Lib.hid (HB9.out.app (HQ8.out.alloc _).out (by omega) hg)
        obtain ⟨_, _, _, oc10, of10⟩ := HB10.out.cells
        clear hq hg
        (try dsimp only)
        refine hK.out _ _ (by first | exact HSO.out _ _ HB12.out | exact HSO.out _ _ HB10.out | exact HSO.out _ _ HB9.out | exact HSO.out _ _ HB8.out | exact HSO.out _ _ HB2.out | exact HSO.out _ _ HBd.out) (fun hHeld => ?_)
        clear hK K
        (try simp only [List.getElem_toArray, List.getElem_cons_zero, List.getElem_cons_succ, Act.put, List.setIfInBounds_toArray, List.set_cons_zero, List.set_cons_succ])
        refine wpAnyH_take (i := 11) (oi := _) (v := ?vz111) rfl (by kernel_rfl) (by kernel_rfl) (by kernel_rfl) (fun _ _ _ h => h) (Or.inl ⟨by rfl, ?hyz111⟩) (by assumption) ?restz111
        case hyz111 => (intro wz hSw; (try dsimp only at hSw); go_simp; try with_reducible rfl)
        (try simp only [List.getElem_toArray, List.getElem_cons_zero, List.getElem_cons_succ, Act.put, List.setIfInBounds_toArray, List.set_cons_zero, List.set_cons_succ])
        refine wpAnyH_ready (rs := [12]) (by kernel_rfl) (by simp) ?_
        refine AllReadyH.cons (o := _) rfl (fun K hK => ?_) AllReadyH.nil
        rw [if_pos (by rfl)]
        go_simp
        have HB12 := Lib.hid (HB10.out.out (.slice a2 (j + 1) c2))
        have HQ12 := Lib.hid (HQ10.out.box HB10.out.2.2.1 (grownBy_setCell4 w10 (X + 2) 0 (.slice a2 (j + 1) c2)))
        refine hK.out _ _ (by first | exact HSO.out _ _ HB12.out | exact HSO.out _ _ HB10.out | exact HSO.out _ _ HB9.out | exact HSO.out _ _ HB8.out | exact HSO.out _ _ HB2.out | exact HSO.out _ _ HBd.out) (fun hHeld => ?_)
        clear hK K
        (try simp only [List.getElem_toArray, List.getElem_cons_zero, List.getElem_cons_succ, Act.put, List.setIfInBounds_toArray, List.set_cons_zero, List.set_cons_succ])
        refine wpAnyH_done (by kernel_rfl) ?_ _
        go_wp2
        go_roundw
        case rel => exact ⟨j + 1, a2, c2, es ++ [d8], by omega, by go_num, HE2.out d8 HD8.out, HB12.out, HQ12.out⟩
        case measure => simp [intOf]; omega
      · rw [if_pos (by rfl)]
        go_simp
        have HB2 := Lib.hid (HBd.out.alloc (.cells #[] 24))
        have HQ2 := Lib.hid (HQd.out.alloc (.cells #[] 24))
        obtain ⟨_, _, _, oc2, _⟩ := HB2.out.cells
        have oc2b : (wr.alloc (.cells #[] 24)).cell? ⟨X + 1 + 1, 0, none⟩ = some (.slice a' j c') := oc2
        refine hK.out _ _ (by first | exact HSO.out _ _ HB12.out | exact HSO.out _ _ HB10.out | exact HSO.out _ _ HB9.out | exact HSO.out _ _ HB8.out | exact HSO.out _ _ HB2.out | exact HSO.out _ _ HBd.out) (fun hHeld => ?_)
        clear hK K
        (try simp only [List.getElem_toArray, List.getElem_cons_zero, List.getElem_cons_succ, Act.put, List.setIfInBounds_toArray, List.set_cons_zero, List.set_cons_succ])
        refine wpAnyH_ready (rs := [1, 8]) (by kernel_rfl) (by simp) ?_
        refine AllReadyH.cons (o := _) rfl (fun K hK => ?_) (AllReadyH.cons (o := _) rfl (fun K hK => ?_) AllReadyH.nil)
        · rw [if_pos (by rfl)]
          go_simp
          refine hK.out _ _ (by first | exact HSO.out _ _ HB12.out | exact HSO.out _ _ HB10.out | exact HSO.out _ _ HB9.out | exact HSO.out _ _ HB8.out | exact HSO.out _ _ HB2.out | exact HSO.out _ _ HBd.out) (fun hHeld => ?_)
          clear hK K
          (try simp only [List.getElem_toArray, List.getElem_cons_zero, List.getElem_cons_succ, Act.put, List.setIfInBounds_toArray, List.set_cons_zero, List.set_cons_succ])
          refine wpAnyH_ready (rs := [8]) (by kernel_rfl) (by simp) ?_
          refine AllReadyH.cons (o := _) rfl (fun K hK => ?_) AllReadyH.nil
          rw [if_pos (by rfl)]
          refine wp_copyleaf9 (.tmp 14) (.tmp 19) rfl (X + 3) HSZd.out (al, ll, cl, xs) HLd.out HLL9.out rfl rfl ?_
          intro d8 w8 g1 g2 g3
          have HD8 := Lib.hid g1
          have HL8 := Lib.hid g2
          have HN8 : Hid (∀ x ∈ es, ∀ b, blkD x = some b → blkD d8 ≠ some b) := fun x hx b hb hb' => by
            have h1 := HQd.out.lt x hx b hb
            have h2 := (g2.lt hb').1
            omega
          have HB8 := Lib.hid (HBd.out.later g3)
          have HSZ8 : Hid (X + 3 ≤ w8.heap.size) := Nat.le_trans HSZd.out g3.size
          have HQ8 := Lib.hid (HQd.out.later g3)
          have HL8' := Lib.hid (g2.mono (by have := HSZd.out; omega))
          obtain ⟨_, _, _, oc8, _⟩ := HB8.out.cells
          clear g1 g2 g3
          (try dsimp only)
          refine hK.out _ _ (by first | exact HSO.out _ _ HB12.out | exact HSO.out _ _ HB10.out | exact HSO.out _ _ HB9.out | exact HSO.out _ _ HB8.out | exact HSO.out _ _ HB2.out | exact HSO.out _ _ HBd.out) (fun hHeld => ?_)
          clear hK K
          (try simp only [List.getElem_toArray, List.getElem_cons_zero, List.getElem_cons_succ, Act.put, List.setIfInBounds_toArray, List.set_cons_zero, List.set_cons_succ])
          refine wpAnyH_ready (rs := [9]) (by kernel_rfl) (by simp) ?_
          refine AllReadyH.cons (o := _) rfl (fun K hK => ?_) AllReadyH.nil
          rw [if_pos (by rfl)]
          go_simp
          have HB9 := Lib.hid (HB8.out.alloc (.cells #[.slice d8.1 ll d8.2.2.1] 68))
          obtain ⟨_, _, _, oc9, _⟩ := HB9.out.cells
          refine hK.out _ _ (by first | exact HSO.out _ _ HB12.out | exact HSO.out _ _ HB10.out | exact HSO.out _ _ HB9.out | exact HSO.out _ _ HB8.out | exact HSO.out _ _ HB2.out | exact HSO.out _ _ HBd.out) (fun hHeld => ?_)
          clear hK K
          (try simp only [List.getElem_toArray, List.getElem_cons_zero, List.getElem_cons_succ, Act.put, List.setIfInBounds_toArray, List.set_cons_zero, List.set_cons_succ])
          refine wpAnyH_ready (rs := [10]) (by kernel_rfl) (by simp) ?_
          refine AllReadyH.cons (o := _) rfl (fun K hK => ?_) AllReadyH.nil
          rw [if_pos (by rfl)]
          refine wp_push9 (.tmp 13) (.tmp 21) rfl (X + 3) HQ8.out HL8'.out HN8.out HSZ8.out (by omega) HD8.out.1 rfl rfl ?_
          intro a2 c2 w10 hq hg
          have HQ10 := Lib.hid hq
          have HB10 := Lib.hid (HB9.out.app (HQ8.out.alloc _).out (by omega) hg)
          obtain ⟨_, _, _, oc10, of10⟩ := HB10.out.cells
          clear hq hg
          (try dsimp only)
          refine hK.out _ _ (by first | exact HSO.out _ _ HB12.out | exact HSO.out _ _ HB10.out | exact HSO.out _ _ HB9.out | exact HSO.out _ _ HB8.out | exact HSO.out _ _ HB2.out | exact HSO.out _ _ HBd.out) (fun hHeld => ?_)
          clear hK K
          (try simp only [List.getElem_toArray, List.getElem_cons_zero, List.getElem_cons_succ, Act.put, List.setIfInBounds_toArray, List.set_cons_zero, List.set_cons_succ])
          refine wpAnyH_take (i := 11) (oi := _) (v := ?vz211) rfl (by kernel_rfl) (by kernel_rfl) (by kernel_rfl) (fun _ _ _ h => h) (Or.inl ⟨by rfl, ?hyz211⟩) (by assumption) ?restz211
          case hyz211 => (intro wz hSw; (try dsimp only at hSw); go_simp; try with_reducible rfl)
          (try simp only [List.getElem_toArray, List.getElem_cons_zero, List.getElem_cons_succ, Act.put, List.setIfInBounds_toArray, List.set_cons_zero, List.set_cons_succ])
          refine wpAnyH_ready (rs := [12]) (by kernel_rfl) (by simp) ?_
          refine AllReadyH.cons (o := _) rfl (fun K hK => ?_) AllReadyH.nil
          rw [if_pos (by rfl)]
          go_simp
          have HB12 := Lib.hid (HB10.out.out (.slice a2 (j + 1) c2))
          have HQ12 := Lib.hid (HQ10.out.box HB10.out.2.2.1 (grownBy_setCell4 w10 (X + 2) 0 (.slice a2 (j + 1) c2)))
          refine hK.out _ _ (by first | exact HSO.out _ _ HB12.out | exact HSO.out _ _ HB10.out | exact HSO.out _ _ HB9.out | exact HSO.out _ _ HB8.out | exact HSO.out _ _ HB2.out | exact HSO.out _ _ HBd.out) (fun hHeld => ?_)
          clear hK K
          (try simp only [List.getElem_toArray, List.getElem_cons_zero, List.getElem_cons_succ, Act.put, List.setIfInBounds_toArray, List.set_cons_zero, List.set_cons_succ])
          refine wpAnyH_done (by kernel_rfl) ?_ _
          go_wp2
          go_roundw
          case rel => exact ⟨j + 1, a2, c2, es ++ [d8], by omega, by go_num, HE2.out d8 HD8.out, HB12.out, HQ12.out⟩
          case measure => simp [intOf]; omega
        · rw [if_pos (by rfl)]
          refine wp_copyleaf9 (.tmp 14) (.tmp 19) rfl (X + 3) HSZd.out (al, ll, cl, xs) HLd.out HLL9.out rfl rfl ?_
          intro d8 w8 g1 g2 g3
          have HD8 := Lib.hid g1
          have HL8 := Lib.hid g2
          have HN8 : Hid (∀ x ∈ es, ∀ b, blkD x = some b → blkD d8 ≠ some b) := fun x hx b hb hb' => by
            have h1 := HQd.out.lt x hx b hb
            have h2 := (g2.lt hb').1
            omega
          have HB8 := Lib.hid (HBd.out.later g3)
          have HSZ8 : Hid (X + 3 ≤ w8.heap.size) := Nat.le_trans HSZd.out g3.size
          have HQ8 := Lib.hid (HQd.out.later g3)
          have HL8' := Lib.hid (g2.mono (by have := HSZd.out; omega))
          obtain ⟨_, _, _, oc8, _⟩ := HB8.out.cells
          clear g1 g2 g3
          (try dsimp only)
          refine hK.out _ _ (by first | exact HSO.out _ _ HB12.out | exact HSO.out _ _ HB10.out | exact HSO.out _ _ HB9.out | exact HSO.out _ _ HB8.out | exact HSO.out _ _ HB2.out | exact HSO.out _ _ HBd.out) (fun hHeld => ?_)
          clear hK K
          (try simp only [List.getElem_toArray, List.getElem_cons_zero, List.getElem_cons_succ, Act.put, List.setIfInBounds_toArray, List.set_cons_zero, List.set_cons_succ])
          refine wpAnyH_ready (rs := [1, 9]) (by kernel_rfl) (by simp) ?_
          refine AllReadyH.cons (o := _) rfl (fun K hK => ?_) (AllReadyH.cons (o := _) rfl (fun K hK => ?_) AllReadyH.nil)
          · rw [if_pos (by rfl)]
            go_simp
            refine hK.out _ _ (by first | exact HSO.out _ _ HB12.out | exact HSO.out _ _ HB10.out | exact HSO.out _ _ HB9.out | exact HSO.out _ _ HB8.out | exact HSO.out _ _ HB2.out | exact HSO.out _ _ HBd.out) (fun hHeld => ?_)
            clear hK K
            (try simp only [List.getElem_toArray, List.getElem_cons_zero, List.getElem_cons_succ, Act.put, List.setIfInBounds_toArray, List.set_cons_zero, List.set_cons_succ])
            refine wpAnyH_ready (rs := [9]) (by kernel_rfl) (by simp) ?_
            refine AllReadyH.cons (o := _) rfl (fun K hK => ?_) AllReadyH.nil
            rw [if_pos (by rfl)]
            go_simp
            have HB9 := Lib.hid (HB8.out.alloc (.cells #[.slice d8.1 ll d8.2.2.1] 68))
            obtain ⟨_, _, _, oc9, _⟩ := HB9.out.cells
            refine hK.out _ _ (by first | exact HSO.out _ _ HB12.out | exact HSO.out _ _ HB10.out | exact HSO.out _ _ HB9.out | exact HSO.out _ _ HB8.out | exact HSO.out _ _ HB2.out | exact HSO.out _ _ HBd.out) (fun hHeld => ?_)
            clear hK K
            (try simp only [List.getElem_toArray, List.getElem_cons_zero, List.getElem_cons_succ, Act.put, List.setIfInBounds_toArray, List.set_cons_zero, List.set_cons_succ])
            refine wpAnyH_ready (rs := [10]) (by kernel_rfl) (by simp) ?_
            refine AllReadyH.cons (o := _) rfl (fun K hK => ?_) AllReadyH.nil
            rw [if_pos (by rfl)]
            refine wp_push9 (.tmp 13) (.tmp 21) rfl (X + 3) HQ8.out HL8'.out HN8.out HSZ8.out (by omega) HD8.out.1 rfl rfl ?_
            intro a2 c2 w10 hq hg
            have HQ10 := Lib.hid hq
            have HB10 := Lib.hid (HB9.out.app (HQ8.out.alloc _).out (by omega) hg)
            obtain ⟨_, _, _, oc10, of10⟩ := HB10.out.cells
            clear hq hg
            (try dsimp only)
            refine hK.out _ _ (by first | exact HSO.out _ _ HB12.out | exact HSO.out _ _ HB10.out | exact HSO.out _ _ HB9.out | exact HSO.out _ _ HB8.out | exact HSO.out _ _ HB2.out | exact HSO.out _ _ HBd.out) (fun hHeld => ?_)
            clear hK K
            (try simp only [List.getElem_toArray, List.getElem_cons_zero, List.getElem_cons_succ, Act.put, List.setIfInBounds_toArray, List.set_cons_zero, List.set_cons_succ])
            refine wpAnyH_take (i := 11) (oi := _) (v := ?vz311) rfl (by kernel_rfl) (by kernel_rfl) (by kernel_rfl) (fun _ _ _ h => h) (Or.inl ⟨by rfl, ?hyz311⟩) (by assumption) ?restz311
            case hyz311 => (intro wz hSw; (try dsimp only at hSw); go_simp; try with_reducible rfl)
            (try simp only [List.getElem_toArray, List.getElem_cons_zero, List.getElem_cons_succ, Act.put, List.setIfInBounds_toArray, List.set_cons_zero, List.set_cons_succ])
            refine wpAnyH_ready (rs := [12]) (by kernel_rfl) (by simp) ?_
            refine AllReadyH.cons (o := _) rfl (fun K hK => ?_) AllReadyH.nil
            rw [if_pos (by rfl)]
            go_simp
            have HB12 := Lib.hid (HB10.out.out (.slice a2 (j + 1) c2))
            have HQ12 := Lib.hid (HQ10.out.box HB10.out.2.2.1 (grownBy_setCell4 w10 (X + 2) 0 (.slice a2 (j + 1) c2)))
            refine hK.out _ _ (by first | exact HSO.out _ _ HB12.out | exact HSO.out _ _ HB10.out | exact HSO.out _ _ HB9.out | exact HSO.out _ _ HB8.out | exact HSO.out _ _ HB2.out | exact HSO.out _ _ HBd.out) (fun hHeld => ?_)
            clear hK K
            (try simp only [List.getElem_toArray, List.getElem_cons_zero, List.getElem_cons_succ, Act.put, List.setIfInBounds_toArray, List.set_cons_zero, List.set_cons_succ])
            refine wpAnyH_done (by kernel_rfl) ?_ _
            go_wp2
            go_roundw
            case rel => exact ⟨j + 1, a2, c2, es ++ [d8], by omega, by go_num, HE2.out d8 HD8.out, HB12.out, HQ12.out⟩
            case measure => simp [intOf]; omega
          · rw [if_pos (by rfl)]
            go_simp
            have HB9 := Lib.hid (HB8.out.alloc (.cells #[.slice d8.1 ll d8.2.2.1] 68))
            obtain ⟨_, _, _, oc9, _⟩ := HB9.out.cells
            refine hK.out _ _ (by first | exact HSO.out _ _ HB12.out | exact HSO.out _ _ HB10.out | exact HSO.out _ _ HB9.out | exact HSO.out _ _ HB8.out | exact HSO.out _ _ HB2.out | exact HSO.out _ _ HBd.out) (fun hHeld => ?_)
            clear hK K
            (try simp only [List.getElem_toArray, List.getElem_cons_zero, List.getElem_cons_succ, Act.put, List.setIfInBounds_toArray, List.set_cons_zero, List.set_cons_succ])
            refine wpAnyH_ready (rs := [1]) (by kernel_rfl) (by simp) ?_
            refine AllReadyH.cons (o := _) rfl (fun K hK => ?_) AllReadyH.nil
            rw [if_pos (by rfl)]
            go_simp
            refine hK.out _ _ (by first | exact HSO.out _ _ HB12.out | exact HSO.out _ _ HB10.out | exact HSO.out _ _ HB9.out | exact HSO.out _ _ HB8.out | exact HSO.out _ _ HB2.out | exact HSO.out _ _ HBd.out) (fun hHeld => ?_)
            clear hK K
            (try simp only [List.getElem_toArray, List.getElem_cons_zero, List.getElem_cons_succ, Act.put, List.setIfInBounds_toArray, List.set_cons_zero, List.set_cons_succ])
            refine wpAnyH_ready (rs := [10]) (by kernel_rfl) (by simp) ?_
            refine AllReadyH.cons (o := _) rfl (fun K hK => ?_) AllReadyH.nil
            rw [if_pos (by rfl)]
            refine wp_push9 (.tmp 13) (.tmp 21) rfl (X + 3) HQ8.out HL8'.out HN8.out HSZ8.out (by omega) HD8.out.1 rfl rfl ?_
            intro a2 c2 w10 hq hg
            have HQ10 := Lib.hid hq
            have HB10 := Lib.hid (HB9.out.app (HQ8.out.alloc _).out (by omega) hg)
            obtain ⟨_, _, _, oc10, of10⟩ := HB10.out.cells
            clear hq hg
            (try dsimp only)
            refine hK.out _ _ (by first | exact HSO.out _ _ HB12.out | exact HSO.out _ _ HB10.out | exact HSO.out _ _ HB9.out | exact HSO.out _ _ HB8.out | exact HSO.out _ _ HB2.out | exact HSO.out _ _ HBd.out) (fun hHeld => ?_)
            clear hK K
            (try simp only [List.getElem_toArray, List.getElem_cons_zero, List.getElem_cons_succ, Act.put, List.setIfInBounds_toArray, List.set_cons_zero, List.set_cons_succ])
            refine wpAnyH_take (i := 11) (oi := _) (v := ?vz411) rfl (by kernel_rfl) (by kernel_rfl) (by kernel_rfl) (fun _ _ _ h => h) (Or.inl ⟨by rfl, ?hyz411⟩) (by assumption) ?restz411
            case hyz411 => (intro wz hSw; (try dsimp only at hSw); go_simp; try with_reducible rfl)
            (try simp only [List.getElem_toArray, List.getElem_cons_zero, List.getElem_cons_succ, Act.put, List.setIfInBounds_toArray, List.set_cons_zero, List.set_cons_succ])
            refine wpAnyH_ready (rs := [12]) (by kernel_rfl) (by simp) ?_
            refine AllReadyH.cons (o := _) rfl (fun K hK => ?_) AllReadyH.nil
            rw [if_pos (by rfl)]
            go_simp
            have HB12 := Lib.hid (HB10.out.out (.slice a2 (j + 1) c2))
            have HQ12 := Lib.hid (HQ10.out.box HB10.out.2.2.1 (grownBy_setCell4 w10 (X + 2) 0 (.slice a2 (j + 1) c2)))
            refine hK.out _ _ (by first | exact HSO.out _ _ HB12.out | exact HSO.out _ _ HB10.out | exact HSO.out _ _ HB9.out | exact HSO.out _ _ HB8.out | exact HSO.out _ _ HB2.out | exact HSO.out _ _ HBd.out) (fun hHeld => ?_)
            clear hK K
            (try simp only [List.getElem_toArray, List.getElem_cons_zero, List.getElem_cons_succ, Act.put, List.setIfInBounds_toArray, List.set_cons_zero, List.set_cons_succ])
            refine wpAnyH_done (by kernel_rfl) ?_ _
            go_wp2
            go_roundw
            case rel => exact ⟨j + 1, a2, c2, es ++ [d8], by omega, by go_num, HE2.out d8 HD8.out, HB12.out, HQ12.out⟩
            case measure => simp [intOf]; omega
    · have hjl : j = len := by omega
      subst hjl
      have hq := HQ.out.low (X := X + 1) (by omega) (grownBy_setCell4 wr (X + 1) 0 (.slice a' j c'))
      have HQ2 := Lib.hid hq
      have HB2 := Lib.hid (HB.out.res (.slice a' j c'))
      have HE2 : Hid (tbOf es = tbOf ds) := Lib.hid (by
        rw [HE.out, List.take_of_length_le]
        rw [tbOf_len]
        exact Nat.le_of_eq hdl)
      clear hq
      go_wp2
      refine bodyPost_ret (v := .agg #[.slice a' j c']) (results_cell_row rfl _ _ (X + 1) 36 #[.slice a' j c'] (0, 0) _ rfl HB2.out.2.1 Tryz.underlying36 rfl tbl_size) rfl ⟨a', c', es, rfl, HE2.out, HQ2.out.mono (by omega), HB2.out.2.2.2⟩
end Go.Proofs.YtlljcdmblmkblaaGreat
