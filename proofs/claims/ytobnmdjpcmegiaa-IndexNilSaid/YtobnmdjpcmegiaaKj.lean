/-
  What the reference's Index answers: Of, Forget (layer 11). Conditions: the index as it lies, short bytes.
-/
import Derived.Test.YtobnmdjpcmegiaaKh
namespace Go.Proofs.Ytobnmdjpcmegiaa
open Go.RowKit
set_option linter.unusedVariables false

def OfQ (w0 : World) (L : List Pr) (F : Int) (w : World) (e : Ending) (w' : World) : Prop :=
  ∃ (a : Option Addr) (c : Nat), e = .returned (.slice a (findP L F).length c) ∧ OwnG enV 35 5 w' w.heap.size (.slice a (findP L F).length c) (findP L F).length (findP L F) ∧ Below w.heap.size w w'
set_option maxHeartbeats 1600000 in
set_option maxRecDepth 100000 in
/-- Of. -/
theorem of_any {w0 w : World} {B : Nat} {L : List Pr} {S : Nat → Prop} (h : IxR w0 B L S w) (ab : Option Addr) (len cap : Nat) (l : List Int) (hl : Bytes w ab len l) :
    Calls Try.prog 19 #[.pointer (some ⟨B, 0, none⟩), .slice ab len cap] w (OfQ w0 L ((fingerOf l : Nat) : Int) w) := by
  obtain ⟨v, fd, hb, ho, hs⟩ := h.at'
  obtain ⟨ai, ci, rfl, hrd, hnil, _⟩ := ho.shape se_rowed
  have hmany := h.ok.many
  have HF := Lib.hid (refFinger_any ab len cap l w hl)
  obtain ⟨F, hF⟩ := named ((fingerOf l : Nat) : Int)
  rw [hF.out] at HF ⊢
  obtain ⟨n, hN⟩ := named L.length
  have HN := Lib.hid hN.out
  rw [hN.out] at hmany
  have HO : Hid (OwnG pvV 66 6 w 0 (.slice ai n ci) n L) := by rw [← hN.out]; exact ho
  have HB : Hid (Blk w B 30 #[.slice ai n ci]) := by rw [← hN.out]; exact hb
  obtain ⟨G, hG⟩ := named (fun j => findP (L.take j) F)
  have hGj : ∀ j, findP (L.take j) F = G j := fun j => congrFun hG.out j
  have HSN : Hid (∀ (j : Nat) (p : Pr), L[j]? = some p → G (j + 1) = G j ++ if p.1 = F then [p.2] else []) := fun j p hj => by
    rw [← hGj, ← hGj]
    exact findP_snoc L F j p hj
  have HGL : Hid (∀ j, (G j).length ≤ j) := fun j => by
    rw [← hGj]
    refine Nat.le_trans (findP_len _ _) ?_
    rw [List.length_take]
    exact Nat.min_le_left _ _
  have HG0 : Hid (G 0 = []) := by rw [Hid, ← hGj]; rfl
  have HGn : Hid (findP L F = G n) := by rw [Hid, ← hGj, ← HN.out, List.take_length]
  unfold OfQ
  rw [HGn.out]
  clear h hrd hb ho hs hGj hG
  go_enter Try.func19, Try.ntmps19
  go_wp2_with (go_at_call 28; refine HF.out.mono ?_; rintro e w1 ⟨rfl, rfl⟩)
  go_loopw [6, 7] (fun s6 s7 wr => ∃ (j m : Nat) (a : Option Addr) (c : Nat), j ≤ n ∧ s7 = .int .i64 j ∧ s6 = .slice a m c ∧ Hid (OwnG enV 35 5 wr w.heap.size (.slice a m c) m (G j)) ∧ Hid (Below w.heap.size w wr)) (fun _ s7 _ => n - (intOf s7).toNat)
  case atStart => exact ⟨0, 0, none, 0, Nat.zero_le _, rfl, rfl, by rw [HG0.out]; exact OwnG.none _ _ _ _ _, Below.refl _ _⟩
  case round =>
    obtain ⟨j, m, a, c, hj, rfl, rfl, HE, HBW⟩ := hrel
    have c0 : wr.cell? ⟨B, 0, none⟩ = some (.slice ai n ci) := (HB.out.later HBW.out).cell 0
    by_cases hlt : j < n
    · obtain ⟨p, hp⟩ : ∃ p, L[j]? = some p := ⟨_, List.getElem?_eq_getElem (by have := hN.out; omega)⟩
      obtain ⟨b, rfl⟩ := HO.out.at0 (by omega)
      obtain ⟨f', k', s', m', z', g'⟩ := p
      obtain ⟨e0, e1, e2, e3, e4, e5⟩ := pr_cells (HO.out.later HBW.out) j _ hp
      dsimp only at e0 e1 e2 e3 e4 e5
      have hs := HSN.out j _ hp
      have hm2 : m ≤ j := by have h1 := HE.out.2.1; have h2 := HGL.out j; omega
      dsimp only at hs
      clear hp
      by_cases hd : f' = F
      · subst hd
        rw [if_pos rfl] at hs
        have HSS := Lib.hid hs
        clear hs
        go_wp2_with (at_builtin; refine append_gg en_rowed rfl (.tmp 29) (.tmp 38) rfl w.heap.size (.slice a m c) m (G j) rfl (HE.out.alloc _) (some ⟨wr.heap.size, 0, none⟩) 1 1 [(k', s', m', z', g')] rfl (fun e => by cases e) (one_reads wr _ _ _ rfl) (by omega) (by rw [World.size_alloc]; have := HBW.out.size; omega) ?_; intro a2 c2 w2 h1 hb2 h2; have HO2 := Lib.hid h1; have HB2 := Lib.hid ((HBW.out.alloc HBW.out.size _).grown h2 (by rw [World.size_alloc]; have := HBW.out.size; omega) fun k e => (HE.out.1.lt k e).1); clear h1 hb2 h2)
        go_roundw
        case rel => exact ⟨j + 1, m + 1, a2, c2, by omega, by go_num, rfl, by rw [HSS.out]; exact HO2.out, HB2.out⟩
        case measure => simp [intOf]; omega
      · rw [if_neg hd, List.append_nil] at hs
        have HSS := Lib.hid hs
        clear hs
        go_wp2
        go_roundw
        case rel => exact ⟨j + 1, m, a, c, by omega, by go_num, rfl, by rw [HSS.out]; exact HE.out, HBW.out⟩
        case measure => simp [intOf]; omega
    · obtain rfl : j = n := by omega
      have hml : (G j).length = m := HE.out.2.1
      have HML := Lib.hid hml
      clear hml
      go_wp2
      go_ret
      exact ⟨a, c, by rw [HML.out]; rfl, by rw [HML.out]; exact HE.out, HBW.out⟩
set_option maxHeartbeats 1600000 in
set_option maxRecDepth 100000 in
/-- Forget. -/
theorem refForget_any {w0 w : World} {B : Nat} {L : List Pr} {S : Nat → Prop} (h : IxR w0 B L S w) (k s m z g : Int) :
    Calls Try.prog 20 #[.pointer (some ⟨B, 0, none⟩), .agg #[.int .i64 k, .int .i64 s, .int .i64 m, .int .i64 z, .int .u32 g]] w (GivesR w0 B (forgetP L (k, s, m, z, g)) (.bool (decide ((forgetP L (k, s, m, z, g)).length < L.length))) S w) := by
  obtain ⟨v, fd, hb, ho, hs⟩ := h.at'
  obtain ⟨ai, ci, rfl, hrd, hnil, _⟩ := ho.shape se_rowed
  have hmany := h.ok.many
  have HH := Lib.hid h
  have HS := Lib.hid hs
  have HOK := Lib.hid (h.ok.forget (k, s, m, z, g))
  have hg := guard_en
  obtain ⟨n, hN⟩ := named L.length
  have HN := Lib.hid hN.out
  rw [hN.out] at hmany ⊢
  obtain ⟨N, hNW⟩ := named w.heap.size
  have hNN := hNW.out
  obtain ⟨W1, hW1⟩ := named (w.alloc (.cells #[.int .i64 k, .int .i64 s, .int .i64 m, .int .i64 z, .int .u32 g] 35))
  have hW := hW1.out
  have HX0 : Hid (Blk W1 N 35 #[.int .i64 k, .int .i64 s, .int .i64 m, .int .i64 z, .int .u32 g]) := by rw [← hW, ← hNN]; exact Blk.new w _ _
  have HS1 : Hid (W1.heap.size = N + 1) := by rw [← hW, ← hNN]; exact World.size_alloc _ _
  have HBW1 : Hid (Below w.heap.size w W1) := by rw [← hW]; exact (Below.refl _ _).alloc (Nat.le_refl _) _
  have HO : Hid (OwnG pvV 66 6 W1 0 (.slice ai n ci) n L) := by rw [← hN.out]; exact ho.later HBW1.out
  have HB : Hid (Blk W1 B 30 #[.slice ai n ci]) := by rw [← hN.out]; exact hb.later HBW1.out
  obtain ⟨G, hG⟩ := named (fun j => forgetP (L.take j) (k, s, m, z, g))
  have hGj : ∀ j, forgetP (L.take j) (k, s, m, z, g) = G j := fun j => congrFun hG.out j
  have HSN : Hid (∀ (j : Nat) (p : Pr), L[j]? = some p → G (j + 1) = G j ++ if p.2 = (k, s, m, z, g) then [] else [p]) := fun j p hj => by
    rw [← hGj, ← hGj]
    exact forgetP_snoc L _ j p hj
  have HGL : Hid (∀ j, (G j).length ≤ j) := fun j => by
    rw [← hGj]
    refine Nat.le_trans (List.length_filter_le _ _) ?_
    rw [List.length_take]
    exact Nat.min_le_left _ _
  have HG0 : Hid (G 0 = []) := by rw [Hid, ← hGj]; rfl
  have HGn : Hid (forgetP L (k, s, m, z, g) = G n) := by rw [Hid, ← hGj, ← HN.out, List.take_length]
  rw [HGn.out] at HOK ⊢
  clear h hrd hb ho hs hGj hG
  go_enter Try.func20, Try.ntmps20
  go_wp2
  try rw [hW]
  go_loopw [5, 6] (fun s5 s6 wr => ∃ (j q : Nat) (a : Option Addr) (c : Nat), j ≤ n ∧ s6 = .int .i64 j ∧ s5 = .slice a q c ∧ Hid (OwnG pvV 66 6 wr (N + 1) (.slice a q c) q (G j)) ∧ Hid (Below (N + 1) W1 wr)) (fun _ s6 _ => n - (intOf s6).toNat)
  case atStart => exact ⟨0, 0, none, 0, Nat.zero_le _, rfl, rfl, by rw [HG0.out]; exact OwnG.none _ _ _ _ _, Below.refl _ _⟩
  case round =>
    obtain ⟨j, q, a, c, hj, rfl, rfl, HE, HBW⟩ := hrel
    have HBk := Lib.hid (HS1.out ▸ HBW.out : Below W1.heap.size W1 wr)
    have hBr := HB.out.later HBk.out
    have c0 : wr.cell? ⟨B, 0, none⟩ = some (.slice ai n ci) := hBr.cell 0
    have HBr := Lib.hid hBr
    have hsz : N + 1 ≤ wr.heap.size := by have h1 := HBk.out.size; have h2 := HS1.out; omega
    clear hBr
    by_cases hlt : j < n
    · obtain ⟨p, hp⟩ : ∃ p, L[j]? = some p := ⟨_, List.getElem?_eq_getElem (by have := hN.out; omega)⟩
      obtain ⟨b, rfl⟩ := HO.out.at0 (by omega)
      obtain ⟨f', k', s', m', z', g'⟩ := p
      obtain ⟨e0, e1, e2, e3, e4, e5⟩ := pr_cells (HO.out.later HBk.out) j _ hp
      obtain ⟨d0, d1, d2, d3, d4⟩ := cells5 (HX0.out.later HBk.out)
      dsimp only at e0 e1 e2 e3 e4 e5
      have hs := HSN.out j _ hp
      have hm2 : q ≤ j := by have h1 := HE.out.2.1; have h2 := HGL.out j; omega
      dsimp only at hs
      have hq : ∀ w : World, (binOp .neq 35 (.agg #[.int .i64 k', .int .i64 s', .int .i64 m', .int .i64 z', .int .u32 g']) (.agg #[.int .i64 k, .int .i64 s, .int .i64 m, .int .i64 z, .int .u32 g])).run Try.prog w = .ok (.bool (!decide (((k', s', m', z', g') : En) = (k, s, m, z, g)))) w := fun w => neq_en (k', s', m', z', g') (k, s, m, z, g) w
      clear hp
      by_cases hd : ((k', s', m', z', g') : En) = (k, s, m, z, g)
      · rw [if_pos hd, List.append_nil] at hs
        rw [decide_eq_true hd] at hq
        simp only [Bool.not_true] at hq
        have HSS := Lib.hid hs
        clear hs hd
        go_wp2
        go_quiet (fail)
        go_wp2
        go_roundw
        case rel => exact ⟨j + 1, q, a, c, by omega, by go_num, rfl, by rw [HSS.out]; exact HE.out.later (below_dN _ _), HBW.out.trans ((below_dN _ _).mono hsz)⟩
        case measure => simp [intOf]; omega
      · rw [if_neg hd] at hs
        rw [decide_eq_false hd] at hq
        simp only [Bool.not_false] at hq
        have HSS := Lib.hid hs
        have HE2 := Lib.hid (fun i => HE.out.later (below_dN wr i))
        have HBW2 := Lib.hid (fun i => HBW.out.trans ((below_dN wr i).mono hsz))
        clear hs hd
        go_wp2
        go_quiet (fail)
        go_wp2_with (at_builtin; refine append_gg se_rowed rfl (.tmp 27) (.tmp 35) rfl (N + 1) (.slice a q c) q (G j) rfl ((HE2.out _).alloc _) (some ⟨wr.heap.size, 0, none⟩) 1 1 [(f', k', s', m', z', g')] rfl (fun e => by cases e) (one_reads _ _ _ _ rfl) (by omega) (by rw [World.size_alloc]; exact Nat.le_trans hsz (Nat.le_succ _)) ?_; intro a2 c2 w2 h1 hb2 h2; have HO2 := Lib.hid h1; have HB2 := Lib.hid (((HBW2.out _).alloc hsz _).grown h2 (by rw [World.size_alloc]; exact Nat.le_trans hsz (Nat.le_succ _)) fun k e => (HE.out.1.lt k e).1); clear h1 hb2 h2)
        go_roundw
        case rel => exact ⟨j + 1, q + 1, a2, c2, by omega, by go_num, rfl, by rw [HSS.out]; exact HO2.out, HB2.out⟩
        case measure => simp [intOf]; omega
    · obtain rfl : j = n := by omega
      have hml : (G j).length = q := HE.out.2.1
      have HML := Lib.hid hml
      have f0 := HBr.out.free 0
      clear hml
      go_wp2
      go_ret
      have hA : Away S w S (wr.setCell ⟨B, 0, none⟩ (.slice a q c)) := ((Away.refl S w).later (HBW1.out.trans (HBk.out.mono HBW1.out.size))).set ((HS.out B).2 (Or.inl rfl)) 0 _
      refine ⟨by rw [HML.out]; simp, HH.out.next (fd' := 0) hA HS.out (HBr.out.set 0 _) ?_ HOK.out fun i hi => Or.inr ?_⟩
      · rw [HML.out]
        refine (HE.out.rebase (Nat.zero_le _)).frame fun i hi => Below.heap_setCell wr ⟨B, 0, none⟩ _ i fun e => ?_
        subst e
        have h1 := (HE.out.1.lt _ hi).1
        have h2 := HB.out.lt
        have h3 := HS1.out
        omega
      · have h1 := (HE.out.1.lt i hi).1
        omega
end Go.Proofs.Ytobnmdjpcmegiaa
