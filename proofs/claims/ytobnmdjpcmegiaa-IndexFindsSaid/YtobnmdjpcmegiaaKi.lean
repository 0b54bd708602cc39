/-
  What an index's own calls answer, second part (package index): Find, Forget. Conditions: the index as it lies, short bytes.
-/
import Derived.Test.YtobnmdjpcmegiaaKh
namespace Go.Proofs.Ytobnmdjpcmegiaa
open Go.RowKit
set_option linter.unusedVariables false

def FindQ (w0 : World) (B : Nat) (L : List Pr) (F : Int) (S : Nat → Prop) (w : World) (e : Ending) (w' : World) : Prop :=
  ∃ (a : Option Addr) (c : Nat), e = .returned (.slice a (findP L F).length c) ∧ OwnG enV 35 5 w' w.heap.size (.slice a (findP L F).length c) (findP L F).length (findP L F) ∧ IxP w0 B L S w' ∧ Away S w S w'
set_option maxHeartbeats 1600000 in
set_option maxRecDepth 100000 in
/-- Find. -/
theorem find_any {w0 w : World} {B : Nat} {L : List Pr} {S : Nat → Prop} (h : IxP w0 B L S w) (ab : Option Addr) (len cap : Nat) (l : List Int) (hl : Bytes w ab len l) :
    Calls Try.prog 13 #[.pointer (some ⟨B, 0, none⟩), .slice ab len cap] w (FindQ w0 B L ((fingerOf l : Nat) : Int) S w) := by
  obtain ⟨v, fd, hb, ho, hs⟩ := h.at'
  obtain ⟨ai, ci, rfl, hrd, hnil, _⟩ := ho.shape pr_rowed
  have hmany := h.ok.many
  have HH := Lib.hid h
  have HF := Lib.hid (finger_any ab len cap l w hl)
  obtain ⟨F, hF⟩ := named ((fingerOf l : Nat) : Int)
  rw [hF.out] at HF ⊢
  obtain ⟨n, hN⟩ := named L.length
  have HN := Lib.hid hN.out
  rw [hN.out] at hmany
  have c0 : w.cell? ⟨B, 0, none⟩ = some (.slice ai n ci) := by have := hb.cell 0; rw [← hN.out]; exact this
  have HO : Hid (OwnG pvV 59 6 w 0 (.slice ai n ci) n L) := by rw [← hN.out]; exact ho
  have HB := Lib.hid hb
  have HS := Lib.hid hs
  obtain ⟨G, hG⟩ := named (fun j => findP (L.take j) F)
  have hGj : ∀ j, findP (L.take j) F = G j := fun j => congrFun hG.out j
  have HSN : Hid (∀ (j : Nat) (p : Pr), L[j]? = some p → G (j + 1) = G j ++ if p.1 = F then [p.2] else []) := fun j p hj => by
    rw [← hGj, ← hGj]
    exact findP_snoc L F j p hj
  have HGL : Hid (∀ j, (G j).length ≤ j) := fun j => by
    rw [← hGj]
    refine Nat.le_trans (findP_len _ _) ?_
    rw [List.length_take]
    exact Nat.min_le_left _ _
  have HG0 : Hid (G 0 = []) := by rw [Hid, ← hGj]; rfl
  have HGn : Hid (findP L F = G n) := by rw [Hid, ← hGj, ← HN.out, List.take_length]
  unfold FindQ
  rw [HGn.out]
  clear h hrd hb ho hs hGj hG
  go_enter Try.func13, Try.ntmps13
  go_wp2_with (go_at_call 21; refine HF.out.mono ?_; rintro e w1 ⟨rfl, rfl⟩)
  go_loopw [6, 18] (fun s6 s18 wr => ∃ (j m : Nat) (a : Option Addr) (c : Nat), j ≤ n ∧ s18 = .int .i64 j ∧ s6 = .slice a m c ∧ Hid (OwnG enV 35 5 wr w.heap.size (.slice a m c) m (G j)) ∧ Hid (Below w.heap.size w wr)) (fun _ s18 _ => n - (intOf s18).toNat)
  case atStart => exact ⟨0, 0, none, 0, Nat.zero_le _, rfl, rfl, by rw [HG0.out]; exact OwnG.none _ _ _ _ _, Below.refl _ _⟩
  case round =>
    obtain ⟨j, m, a, c, hj, rfl, rfl, HE, HBW⟩ := hrel
    by_cases hlt : j < n
    · obtain ⟨p, hp⟩ : ∃ p, L[j]? = some p := ⟨_, List.getElem?_eq_getElem (by have := hN.out; omega)⟩
      obtain ⟨b, rfl⟩ := HO.out.at0 (by omega)
      obtain ⟨f', k', s', m', z', g'⟩ := p
      obtain ⟨e0, e1, e2, e3, e4, e5⟩ := pr_cells (HO.out.later HBW.out) j _ hp
      dsimp only at e0 e1 e2 e3 e4 e5
      have hs := HSN.out j _ hp
      have hm2 : m ≤ j := by have h1 := HE.out.2.1; have h2 := HGL.out j; omega
      dsimp only at hs
      clear hp
      by_cases hd : f' = F
      · subst hd
        rw [if_pos rfl] at hs
        have HSS := Lib.hid hs
        clear hs
        go_wp2_with (at_builtin; refine append_gg en_rowed rfl (.tmp 26) (.tmp 29) rfl w.heap.size (.slice a m c) m (G j) rfl ((HE.out.alloc _).alloc _) (some ⟨wr.heap.size + 1, 0, none⟩) 1 1 [(k', s', m', z', g')] rfl (fun e => by cases e) (one_reads2 wr _ _ _ _ rfl) (by omega) (by rw [World.size_alloc, World.size_alloc]; have := HBW.out.size; omega) ?_; intro a2 c2 w2 h1 hb2 h2; have HO2 := Lib.hid h1; have HB2 := Lib.hid (((HBW.out.alloc HBW.out.size _).alloc (by rw [World.size_alloc]; have := HBW.out.size; omega) _).grown h2 (by rw [World.size_alloc, World.size_alloc]; have := HBW.out.size; omega) fun k e => (HE.out.1.lt k e).1); clear h1 hb2 h2)
        go_roundw
        case rel => exact ⟨j + 1, m + 1, a2, c2, by omega, by go_num, rfl, by rw [HSS.out]; exact HO2.out, HB2.out⟩
        case measure => simp [intOf]; omega
      · rw [if_neg hd, List.append_nil] at hs
        have HSS := Lib.hid hs
        clear hs
        go_wp2
        go_roundw
        case rel => exact ⟨j + 1, m, a, c, by omega, by go_num, rfl, by rw [HSS.out]; exact HE.out.alloc _, HBW.out.alloc HBW.out.size _⟩
        case measure => simp [intOf]; omega
    · obtain rfl : j = n := by omega
      have hml : (G j).length = m := HE.out.2.1
      have HML := Lib.hid hml
      have hBw := HB.out.later HBW.out
      have q1 : wr.cell? ⟨B, 1, none⟩ = some (.int .u64 fd) := hBw.cell 1
      have z1 := hBw.free 1
      have HBw := Lib.hid hBw
      have HAT := Lib.hid (atomic_any wr B fd q1 z1)
      clear hml hBw
      by_cases h0 : 0 < m
      · go_wp2_with (go_at_call 25; refine HAT.out.mono ?_; rintro e w2 ⟨y, rfl, rfl⟩)
        go_ret
        have hA : Away S w S (wr.setCell ⟨B, 1, none⟩ (.int .u64 y)) := ((Away.refl S w).later HBW.out).set ((HS.out B).2 (Or.inl rfl)) 1 _
        have hBo : ∀ k, (Value.slice a m c).ownBlock = some k → k ≠ B := fun k hk e => by
          have h1 := (HE.out.1.lt k hk).1
          have h2 := HB.out.lt
          omega
        refine ⟨a, c, by rw [HML.out]; rfl, ?_, ⟨⟨_, y, HBw.out.set 1 _, ?_, HS.out⟩, HH.out.ok, HH.out.low, hA.below HH.out.low HH.out.below⟩, hA⟩
        · rw [HML.out]
          exact HE.out.frame fun k hk => Below.heap_setCell wr ⟨B, 1, none⟩ _ k (hBo k hk)
        · rw [HN.out]
          refine (HO.out.later HBW.out).frame fun k hk => Below.heap_setCell wr ⟨B, 1, none⟩ _ k fun e => ?_
          subst e
          exact Blk.not_row HBw.out (by decide) (HO.out.later HBW.out) hk.symm
      · go_wp2
        go_ret
        have hA : Away S w S wr := (Away.refl S w).later HBW.out
        exact ⟨a, c, by rw [HML.out]; rfl, by rw [HML.out]; exact HE.out, HH.out.later HBW.out, hA⟩
set_option maxHeartbeats 1600000 in
/-- Forget. -/
theorem forget_any {w0 w : World} {B : Nat} {L : List Pr} {S : Nat → Prop} (h : IxP w0 B L S w) (k s m z g : Int) :
    Calls Try.prog 15 #[.pointer (some ⟨B, 0, none⟩), .agg #[.int .i64 k, .int .i64 s, .int .i64 m, .int .i64 z, .int .u32 g]] w (GivesP w0 B (forgetP L (k, s, m, z, g)) (.bool (decide ((forgetP L (k, s, m, z, g)).length < L.length))) S w) := by
  obtain ⟨v, fd, hb, ho, hs⟩ := h.at'
  have hmany := h.ok.many
  have hrow : v.ownBlock ≠ some w.heap.size := fun e => by have := (ho.1.lt _ e).2; omega
  have HRM := Lib.hid (removeF_any (q := fun p => decide (p.2 = (k, s, m, z, g))) (S := S) (hb.alloc (.cells #[.int .i64 k, .int .i64 s, .int .i64 m, .int .i64 z, .int .u32 g] 35)) (ho.alloc _) (by omega) hs (Blk.new w 35 #[.int .i64 k, .int .i64 s, .int .i64 m, .int .i64 z, .int .u32 g]) (Or.inr hrow) (fun w' r hB => isOf_any w' r (k, s, m, z, g) w.heap.size hB))
  have hfg : L.filter (fun p => !decide (p.2 = (k, s, m, z, g))) = forgetP L (k, s, m, z, g) := rfl
  rw [hfg] at HRM
  have HOK := Lib.hid (h.ok.forget (k, s, m, z, g))
  have HLE : Hid ((forgetP L (k, s, m, z, g)).length ≤ L.length) := List.length_filter_le _ _
  obtain ⟨a, c, rfl, _, _, _⟩ := ho.shape pr_rowed
  have HH := Lib.hid h
  have HS := Lib.hid hs
  have HB := Lib.hid hb
  obtain ⟨L', hL'⟩ := named (forgetP L (k, s, m, z, g))
  rw [hL'.out] at HRM HOK HLE ⊢
  obtain ⟨n, hN⟩ := named L.length
  have HN := Lib.hid hN.out
  rw [hN.out] at hmany HRM HLE ⊢
  have c0 : (w.alloc (.cells #[.int .i64 k, .int .i64 s, .int .i64 m, .int .i64 z, .int .u32 g] 35)).cell? ⟨B, 0, none⟩ = some (.slice a n c) := by have := (hb.alloc (.cells #[.int .i64 k, .int .i64 s, .int .i64 m, .int .i64 z, .int .u32 g] 35)).cell 0; rw [← hN.out]; exact this
  unfold RemQ at HRM
  clear h hb ho hs hfg
  obtain ⟨n2, hN2⟩ := named L'.length
  have HN2 := Lib.hid hN2.out
  rw [hN2.out] at HRM HLE ⊢
  have hle2 := HLE.out
  go_enter Try.func15, Try.ntmps15
  go_wp2_with (go_at_call 23; refine HRM.out.mono ?_; rintro e w5 ⟨rfl, v5, q1, q2, q3, q4⟩; obtain ⟨a5, c5, rfl, _, _, _⟩ := q2.shape pr_rowed; have d0 : w5.cell? ⟨B, 0, none⟩ = some (.slice a5 n2 c5) := q1.cell 0; have Q1 := Lib.hid q1; have Q2 := Lib.hid q2; have Q3 := Lib.hid q3; have Q4 := Lib.hid q4; clear q1 q2 q3 q4)
  go_ret
  have hA : Away S w S w5 := ((Away.refl S w).later ((Below.refl _ _).alloc (Nat.le_refl _) _)).trans Q4.out
  refine ⟨by simp, HH.out.next hA HS.out Q1.out (by rw [HN2.out]; exact Q2.out) HOK.out fun j hj => Or.inl ((HS.out j).2 (Or.inr (by have := Q3.out j hj; rw [← HN.out] at this; exact this)))⟩
end Go.Proofs.Ytobnmdjpcmegiaa
