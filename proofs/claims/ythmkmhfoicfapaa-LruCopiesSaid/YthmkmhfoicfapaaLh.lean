/-
  Records ended (package lru). Conditions: the keys rise.
-/
import Derived.Test.YthmkmhfoicfapaaLg
namespace Go.Proofs.Ythmkmhfoicfapaa
open Go.RowKit
set_option linter.unusedVariables false

def withF (it : It) (M : List Int) : It := ⟨it.key, it.bs, it.used, it.dirty, M⟩
def endIt (its : List It) (it : It) : It := withF it (it.firsts.filter (isD its))
def endTo (its : List It) (j : Nat) : List It := (its.take j).map (endIt its) ++ its.drop j
theorem endTo_all (its : List It) : endTo its its.length = endR its := by
  unfold endTo
  rw [List.take_length, List.drop_length, List.append_nil]
  rfl
theorem isD_congr {a b : List It} (h : a.map (fun it => (it.key, it.dirty)) = b.map (fun it => (it.key, it.dirty))) (k : Int) : isD a k = isD b k := by
  have e : ∀ l : List It, isD l k = (l.map (fun it => (it.key, it.dirty))).any fun p => decide (p.1 = k) && p.2 := fun l => by
    unfold isD
    rw [List.any_map]
    rfl
  rw [e, e, h]
theorem endTo_kd (its : List It) (j : Nat) : (endTo its j).map (fun it => (it.key, it.dirty)) = its.map (fun it => (it.key, it.dirty)) := by
  unfold endTo
  rw [List.map_append, List.map_map]
  have : (fun it : It => (it.key, it.dirty)) ∘ endIt its = fun it => (it.key, it.dirty) := rfl
  rw [this, ← List.map_append, List.take_append_drop]
theorem keys_of_kd {a b : List It} (h : a.map (fun it => (it.key, it.dirty)) = b.map (fun it => (it.key, it.dirty))) : a.map It.key = b.map It.key := by
  have := congrArg (List.map Prod.fst) h
  rw [List.map_map, List.map_map] at this
  exact this
theorem endTo_step {its : List It} {j : Nat} {I1 I2 : List It} {a : It} (h : I1 ++ a :: I2 = endTo its j) (hl : I1.length = j) : I1 ++ endIt its a :: I2 = endTo its (j + 1) := by
  have hj : j < its.length := by
    have := congrArg List.length h
    unfold endTo at this
    simp at this
    omega
  have hlen : ((its.take j).map (endIt its)).length = j := by simp; omega
  unfold endTo at h
  obtain ⟨h1, h2⟩ := List.append_inj h (by rw [hl, hlen])
  rw [List.drop_eq_getElem_cons hj] at h2
  injection h2 with h3 h4
  unfold endTo
  rw [List.take_succ_eq_append_getElem hj, List.map_append, ← h1, ← h4, h3]
  simp
/-- What endRecords hands on. -/
theorem rec1_any {w : World} {B room uses bx : Nat} {vI : Value} {L : List IR} (h : CacheIn w B room vI L uses) (hs : Rises L) (hm : L.length ≤ 2000) (hc : w.cell? ⟨bx, 0, none⟩ = some (.pointer (some ⟨B, 0, none⟩))) (x : Int) :
    Calls Try.prog 70 #[.int .i64 x, .pointer (some ⟨bx, 0, none⟩)] w fun e w' => e = .returned (.bool !(isD (L.map IR.it) x)) ∧ w' = w := by
  have HD := Lib.hid (isDirty_any h hs hm x)
  obtain ⟨D, hD⟩ := named (isD (L.map IR.it) x)
  rw [hD.out] at HD ⊢
  clear h hs
  go_enter Try.func70, Try.ntmps70
  go_wp2_with (go_at_call 38; refine HD.out.mono ?_; rintro e w' ⟨rfl, rfl⟩)
  go_ret
  exact ⟨rfl, rfl⟩
def EndQ (B room uses : Nat) (vI : Value) (L : List IR) (w : World) (e : Ending) (w' : World) : Prop :=
  e = .returned (.tuple #[]) ∧ ∃ L', CacheIn w' B room vI L' uses ∧ L'.map IR.it = endR (L.map IR.it) ∧ Away (ownS B vI L) w (ownS B vI L') w' ∧ L'.map IR.G = L.map IR.G
/-- Between rounds. -/
structure Ending1 (w1 : World) (B room uses : Nat) (vI : Value) (L : List IR) (j : Nat) (wr : World) (L' : List IR) : Prop where
  c : CacheIn wr B room vI L' uses
  its : L'.map IR.it = endTo (L.map IR.it) j
  away : Away (ownS B vI L) w1 (ownS B vI L') wr
  gs : L'.map IR.G = L.map IR.G
theorem Ending1.rises {w1 wr : World} {B room uses j : Nat} {vI : Value} {L L' : List IR} (h : Ending1 w1 B room uses vI L j wr L') (hs : Rises L) : Rises L' := rises_keys hs (by rw [h.its]; exact keys_of_kd (endTo_kd _ _))
theorem Ending1.len {w1 wr : World} {B room uses j : Nat} {vI : Value} {L L' : List IR} (h : Ending1 w1 B room uses vI L j wr L') : L'.length = L.length := by
  have := congrArg List.length (endTo_kd (L.map IR.it) j)
  rw [← h.its] at this
  simpa using this
set_option maxHeartbeats 1000000 in
set_option maxRecDepth 100000 in
theorem endRecords_any {w : World} {B room uses : Nat} {vI : Value} {L : List IR} (h : CacheIn w B room vI L uses) (hs : Rises L) (hm : L.length ≤ 2000) :
    Calls Try.prog 49 #[.pointer (some ⟨B, 0, none⟩)] w (EndQ B room uses vI L w) := by
  obtain ⟨aI, cI, rfl, _, hnil, hcap⟩ := h.row.shape ptr_rowed
  have c1 : (w.alloc (.cells #[.pointer (some ⟨B, 0, none⟩)] 25)).cell? ⟨B, 1, none⟩ = some (.slice aI L.length cI) := ((h.blk.alloc _).cell 1).trans rfl
  have hb : ¬ ownS B (.slice aI L.length cI) L w.heap.size := fun hk => by have := h.ltS hk; omega
  have HB := Lib.hid (Blk.new w 25 #[.pointer (some ⟨B, 0, none⟩)])
  have HE0 : Hid (Ending1 (w.alloc (.cells #[.pointer (some ⟨B, 0, none⟩)] 25)) B room uses (.slice aI L.length cI) L 0 (w.alloc (.cells #[.pointer (some ⟨B, 0, none⟩)] 25)) L) :=
    ⟨h.later ((Below.refl _ _).alloc (Nat.le_refl _) _), by unfold endTo; simp, Away.refl _ _, rfl⟩
  have HA : Hid (Away (ownS B (.slice aI L.length cI) L) w (ownS B (.slice aI L.length cI) L) (w.alloc (.cells #[.pointer (some ⟨B, 0, none⟩)] 25))) := Lib.hid (Away.of_below ((Below.refl _ _).alloc (Nat.le_refl _) _))
  have HS := Lib.hid hs
  have HNB := Lib.hid hb
  obtain ⟨n, hN⟩ := named L.length
  rw [hN.out] at c1 HE0 HA hm hcap HNB ⊢
  clear h hs hb
  go_enter Try.func49, Try.ntmps49
  go_wp2
  go_loopw [9] (fun s9 wr => ∃ (j : Nat) (L' : List IR), j ≤ n ∧ s9 = .int .i64 j ∧ Hid (Ending1 (w.alloc (.cells #[.pointer (some ⟨B, 0, none⟩)] 25)) B room uses (.slice aI n cI) L j wr L')) (fun s9 _ => n - (intOf s9).toNat)
  case atStart => exact ⟨0, L, Nat.zero_le _, rfl, HE0.out⟩
  case round =>
    obtain ⟨j, L', hj, rfl, HE⟩ := hrel
    clear HE0
    have hLn : L'.length = n := HE.out.len.trans hN.out
    by_cases hlt : j < n
    · obtain ⟨f, hf⟩ : ∃ f, L'[j]? = some f := ⟨_, List.getElem?_eq_getElem (by omega)⟩
      obtain ⟨b, rfl⟩ : ∃ b, aI = some ⟨b, 0, none⟩ := by
        rcases HE.out.c.row.1.2 with ⟨e, e'⟩ | ⟨g, cap, cur, e, _⟩
        · omega
        · cases e
          exact ⟨_, rfl⟩
      have cj := ptr_cell (by have := HE.out.c.row; rwa [hLn] at this) j f hf
      obtain ⟨vb, vf, hfi⟩ := HE.out.c.item f (List.mem_of_getElem? hf)
      have c4 : wr.cell? ⟨f.G, 4, none⟩ = some vf := by rw [hfi.blk.cell]; rfl
      have f4 := hfi.blk.free 4
      have hL' : L' = L'.take j ++ f :: L'.drop (j + 1) := by
        obtain ⟨hlt', he⟩ := List.getElem?_eq_some_iff.1 hf
        rw [← he, ← List.drop_eq_getElem_cons hlt', List.take_append_drop]
      have hl1 : (L'.take j).length = j := by rw [List.length_take]; omega
      obtain ⟨L1, h1⟩ := named (L'.take j)
      obtain ⟨L2, h2⟩ := named (L'.drop (j + 1))
      rw [h1.out, h2.out] at hL'
      rw [h1.out] at hl1
      subst hL'
      have HL1 := Lib.hid hl1
      have HRIS := Lib.hid (HE.out.rises HS.out)
      have HCX : Hid (wr.cell? ⟨w.heap.size, 0, none⟩ = some (.pointer (some ⟨B, 0, none⟩))) := by
        have := (HB.out.away HNB.out HE.out.away).cell 0
        exact this
      have HLN := Lib.hid hLn
      have hisD : ∀ x, isD ((L1 ++ f :: L2).map IR.it) x = isD (L.map IR.it) x := fun x => by rw [HE.out.its]; exact isD_congr (endTo_kd _ _) x
      have HIS := Lib.hid hisD
      obtain ⟨af, cf, rfl, _, hnf, hcf⟩ := hfi.fs.shape iv_rowed
      have HFI := Lib.hid hfi
      have HDONE : Hid (∀ (w3 : World) (a' : Option Addr) (M : List Int) (S' : Nat → Prop), M = f.it.firsts.filter (isD (L.map IR.it)) → CacheIn w3 B room (.slice (some ⟨b, 0, none⟩) n cI) (L1 ++ ⟨withF f.it M, f.G, S'⟩ :: L2) uses →
          Away (ownS B (.slice (some ⟨b, 0, none⟩) n cI) (L1 ++ f :: L2)) wr (ownS B (.slice (some ⟨b, 0, none⟩) n cI) (L1 ++ ⟨withF f.it M, f.G, S'⟩ :: L2)) w3 →
          Ending1 (w.alloc (.cells #[.pointer (some ⟨B, 0, none⟩)] 25)) B room uses (.slice (some ⟨b, 0, none⟩) n cI) L (j + 1) w3 (L1 ++ ⟨withF f.it M, f.G, S'⟩ :: L2)) := Lib.hid fun w3 a' M S' hM hc ha =>
        ⟨hc, by
          have := HE.out.its
          rw [List.map_append, List.map_cons] at this ⊢
          subst hM
          exact endTo_step this (by rw [List.length_map]; exact HL1.out), HE.out.away.trans ha, by rw [← HE.out.gs]; simp⟩
      clear hf hfi hl1 hLn hisD h1 h2
      cases af with
      | none =>
        obtain rfl := hnf rfl
        have HF0 : Hid (f.it.firsts = []) := List.eq_nil_of_length_eq_zero (by omega)
        obtain ⟨m, hm0⟩ := named f.it.firsts.length
        have hm1 : m = 0 := by rw [← hm0.out, HF0.out]; rfl
        rw [hm0.out] at c4 HFI
        subst hm1
        clear hcf hnf
        go_wp2_with (go_at_call 69; refine (deletef_none _ _).mono ?_; rintro e w2 ⟨rfl, rfl⟩)
        go_roundw
        case rel =>
          obtain ⟨S', q1, q2⟩ := item_set HE.out.c HFI.out (World.grownBy.refl _ none) (fun k e => by cases e) 4 (.slice none 0 0) (withF f.it []) rfl HFI.out.bs (by exact OwnG.none _ _ _ _ _) (fun k hk => Or.inl (HFI.out.sB hk)) (fun k hk => by cases hk)
          exact ⟨j + 1, _, by omega, by go_num, HDONE.out _ none [] S' (by rw [HF0.out]; rfl) q1 q2⟩
        case measure => simp [intOf]; omega
      | some ad =>
        obtain ⟨fb, rfl⟩ : ∃ fb, ad = ⟨fb, 0, none⟩ := by
          rcases HFI.out.fs.1.2 with ⟨e, e'⟩ | ⟨g, cap, cur, e, _⟩
          · cases e
          · cases e
            exact ⟨_, rfl⟩
        have HDEL : Hid (Calls Try.prog 69 #[.slice (some ⟨fb, 0, none⟩) f.it.firsts.length cf, .func (.func 70) #[] #[.pointer (some ⟨w.heap.size, 0, none⟩)]] wr (DelQ fb cf (f.it.firsts.filter fun x => !!(isD (L.map IR.it) x)) wr)) := by
          refine Lib.hid (deletef_any HFI.out.fs (.pointer (some ⟨w.heap.size, 0, none⟩)) (fun x => !(isD (L.map IR.it) x)) ?_)
          rintro w' hg ⟨M, hM⟩ x
          have hML : M.length = f.it.firsts.length := hM.2.1
          obtain ⟨S', hf', ha'⟩ := HFI.out.done (withF f.it M) vb (.slice (some ⟨fb, 0, none⟩) f.it.firsts.length cf) ((Away.refl f.S wr).grown hg fun k e => by cases e; exact Or.inl (HFI.out.sF rfl)) (HFI.out.blk.kept hg (fun e => Blk.not_row HFI.out.blk (by decide) HFI.out.fs (by rw [e]; rfl)))
            (HFI.out.bs.frame fun k hk => hg.block k (HFI.out.bs.lt hk) (fun e => by
              cases e
              exact OwnG.not_own HFI.out.fs (by decide) HFI.out.bs hk rfl)) (by show OwnG ivV 3 1 w' 0 _ M.length M; rw [hML]; exact hM) (fun k hk => Or.inl (HFI.out.sB hk)) (fun k hk => Or.inl (HFI.out.sF hk))
          obtain ⟨q1, q2⟩ := item_step HE.out.c ha' hf' rfl
          have hcx : w'.cell? ⟨w.heap.size, 0, none⟩ = some (.pointer (some ⟨B, 0, none⟩)) := ((HB.out.away HNB.out (HE.out.away.trans q2)).cell 0).trans rfl
          have := rec1_any q1 (rises_keys HRIS.out (by simp [withF])) (by have := HLN.out; simp only [List.length_append, List.length_cons] at this ⊢; omega) hcx x
          rw [show isD (List.map IR.it (L1 ++ ⟨withF f.it M, f.G, S'⟩ :: L2)) x = isD (L.map IR.it) x from by
            rw [← HIS.out x, List.map_append, List.map_append, List.map_cons, List.map_cons]
            exact isD_mid (a := withF f.it M) (b := f.it) rfl rfl x] at this
          exact this
        simp only [Bool.not_not] at HDEL
        clear hcf hnf
        go_wp2_with (go_at_call 69; refine HDEL.out.mono ?_; rintro e w2 ⟨rfl, hown2, hg2⟩; have HO2 := Lib.hid hown2; have HG2 := Lib.hid hg2
                     have f42 : w2.frozen? ⟨f.G, 4, none⟩ = false := (HFI.out.blk.kept hg2 (fun e => Blk.not_row HFI.out.blk (by decide) HFI.out.fs (by rw [e]; rfl))).free 4
                     have c42 : w2.cell? ⟨f.G, 4, none⟩ = some (.slice (some ⟨fb, 0, none⟩) f.it.firsts.length cf) := ((HFI.out.blk.kept hg2 (fun e => Blk.not_row HFI.out.blk (by decide) HFI.out.fs (by rw [e]; rfl))).cell 4).trans rfl
                     clear hown2 hg2)
        go_roundw
        case rel =>
          obtain ⟨S', q1, q2⟩ := item_set HE.out.c HFI.out HG2.out (fun k e => by
            cases e
            exact ⟨HFI.out.sF rfl, fun e => Blk.not_row HFI.out.blk (by decide) HFI.out.fs (by rw [← e]; rfl)⟩) 4 (.slice (some ⟨fb, 0, none⟩) (f.it.firsts.filter (isD (L.map IR.it))).length cf) (withF f.it (f.it.firsts.filter (isD (L.map IR.it)))) rfl
            (HFI.out.bs.frame fun k hk => HG2.out.block k (HFI.out.bs.lt hk) (fun e => by
              cases e
              exact OwnG.not_own HFI.out.fs (by decide) HFI.out.bs hk rfl)) HO2.out (fun k hk => Or.inl (HFI.out.sB hk)) (fun k hk => Or.inl (HFI.out.sF hk))
          exact ⟨j + 1, _, by omega, by go_num, HDONE.out _ none _ S' rfl q1 q2⟩
        case measure => simp [intOf]; omega
    · obtain rfl : j = n := by omega
      go_wp2
      go_end0
      refine ⟨rfl, L', HE.out.c, ?_, HA.out.trans HE.out.away, HE.out.gs⟩
      rw [HE.out.its, ← endTo_all, List.length_map, hN.out]
end Go.Proofs.Ythmkmhfoicfapaa
