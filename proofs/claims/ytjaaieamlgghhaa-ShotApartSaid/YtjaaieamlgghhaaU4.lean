/-
  What the reference's Sub answers. Conditions: the slice reads as spans, no more than 100000 of them.
-/
import Derived.Test.YtjaaieamlgghhaaT4
import Derived.Lib.MinMax
namespace Go.Proofs.Ytjaaieamlgghhaa
open Go.RowKit

theorem subs_snoc (l : List Sp) (s : Sp) (j : Nat) (h : j < l.length) : subs (l.take (j + 1)) s = subs (l.take j) s ++ piece s (spAt l j) := by
  unfold subs
  have e : spAt l j = l[j] := by
    have := spAt_some l j h
    rw [List.getElem?_eq_getElem h] at this
    injection this with this
    exact this.symm
  rw [List.take_succ_eq_append_getElem h, List.flatMap_append, e]
  simp
theorem piece_len (s x : Sp) : (piece s x).length ≤ 2 := by
  unfold piece
  split <;> split <;> simp
theorem subs_len (s : Sp) : ∀ l : List Sp, (subs l s).length ≤ 2 * l.length
  | [] => by simp [subs]
  | x :: r => by
    have h1 := piece_len s x
    have h2 := subs_len s r
    show (piece s x ++ subs r s).length ≤ _
    rw [List.length_append, List.length_cons]
    omega

set_option maxRecDepth 100000 in
set_option maxHeartbeats 8000000 in
theorem refSub_any (a : Option Addr) (len cap : Nat) (l : List Sp) (sf st : Int) (w : World) (hB : Spans w a len l) (hnil : a = none → cap = 0) (hlen : len ≤ 100000) :
    Calls Try.prog 76 #[.slice a len cap, .agg #[.int .i64 sf, .int .i64 st]] w (SpPost w (subL l (sf, st))) := by
  have HA0 : Hid (Below w.heap.size w (w.alloc (.cells #[.int .i64 sf, .int .i64 st] 50))) := (Below.refl _ _).alloc (Nat.le_refl _) _
  have HR := Lib.hid (refNorm_any a len cap l (w.alloc (.cells #[.int .i64 sf, .int .i64 st] 50)) (hB.later HA0.out) hnil hlen)
  have hk := norm_len l
  rw [hB.1] at hk
  unfold subL
  obtain ⟨L, HL⟩ := named (norm l)
  rw [HL.out] at HR hk ⊢
  obtain ⟨K, HK⟩ := named L.length
  rw [HK.out] at hk
  have HM := Lib.hid (fun w => may_any sf st w)
  obtain ⟨M, HMM⟩ := named (mayB (sf, st))
  rw [HMM.out] at HM ⊢
  clear hB hnil
  cases M with
  | false =>
    rw [if_neg Bool.false_ne_true]
    have c1 : Hid (∀ w1, Below (w.alloc (.cells #[.int .i64 sf, .int .i64 st] 50)).heap.size (w.alloc (.cells #[.int .i64 sf, .int .i64 st] 50)) w1 → w1.cell? ⟨w.heap.size, 0, none⟩ = some (.int .i64 sf) ∧ w1.cell? ⟨w.heap.size, 1, none⟩ = some (.int .i64 st)) := fun w1 hb => ⟨(hb.cell (by simp)).trans (by simp), (hb.cell (by simp)).trans (by simp)⟩
    go_enter Try.func76, Try.ntmps76
    go_wp2_with (first
      | (go_at_call 77; refine HR.out.mono ?_; rintro e w1 hp; obtain ⟨a1, k1, rfl, hS, hn, hb⟩ := hp.namedO HK.out; obtain ⟨d1, d2⟩ := c1.out w1 hb; have HS := Lib.hid hS; have HN := Lib.hid hn; have HG := Lib.hid (HA0.out.trans (hb.mono HA0.out.size)); clear hp hS hn hb)
      | (go_at_call 78; refine (HM.out _).mono ?_; rintro e w2 ⟨rfl, hb⟩; have HS2 := Lib.hid (HS.out.laterB hb); have HG2 := Lib.hid (HG.out.trans (hb.mono HG.out.size)); clear hb))
    go_ret
    have h2 := HS2.out
    have hk2 := HK.out
    subst hk2
    exact ⟨a1, k1, rfl, h2.monoB HA0.out.size, HN.out, HG2.out⟩
  | true =>
    rw [if_pos rfl]
    have c1 : Hid (∀ w1, Below (w.alloc (.cells #[.int .i64 sf, .int .i64 st] 50)).heap.size (w.alloc (.cells #[.int .i64 sf, .int .i64 st] 50)) w1 → w1.cell? ⟨w.heap.size, 0, none⟩ = some (.int .i64 sf) ∧ w1.cell? ⟨w.heap.size, 1, none⟩ = some (.int .i64 st)) := fun w1 hb => ⟨(hb.cell (by simp)).trans (by simp), (hb.cell (by simp)).trans (by simp)⟩
    go_enter Try.func76, Try.ntmps76
    go_wp2_with (first
      | (go_at_call 77; refine HR.out.mono ?_; rintro e w1 hp; obtain ⟨a1, k1, rfl, hS, hn, hb⟩ := hp.named HK.out; obtain ⟨d1, d2⟩ := c1.out w1 hb; have HS := Lib.hid hS; have HI := Lib.hid hb; have HG := Lib.hid (HA0.out.trans (hb.mono HA0.out.size)); clear hp hS hn hb)
      | (go_at_call 78; refine (HM.out _).mono ?_; rintro e w2 ⟨rfl, hb⟩; have HS2 := Lib.hid (HS.out.later hb); have HI2 := Lib.hid (HI.out.trans (hb.mono HI.out.size)); have HG2 := Lib.hid (HG.out.trans (hb.mono HG.out.size)); clear hb d1 d2))
    have HSN : Hid (∀ j, j < K → subs (L.take (j + 1)) (sf, st) = subs (L.take j) (sf, st) ++ piece (sf, st) (spAt L j)) := fun j hj => subs_snoc L _ j (by rw [HK.out]; exact hj)
    have HSL : Hid (∀ j, (subs (L.take j) (sf, st)).length ≤ 2 * K) := fun j => by
      have h1 := subs_len (sf, st) (L.take j)
      rw [List.length_take, HK.out] at h1
      omega
    go_loopw [6, 7] (fun o i wr => ∃ (j n : Nat) (x : Option Addr) (c : Nat), j ≤ K ∧ i = .int .i64 j ∧ o = .slice x n c ∧ Hid (OwnSp wr w2.heap.size (.slice x n c) n (subs (L.take j) (sf, st))) ∧ Hid (Below w2.heap.size w2 wr)) (fun _ i _ => K - (intOf i).toNat)
    case atStart => exact ⟨0, 0, none, 0, Nat.zero_le _, rfl, rfl, OwnG.none _ _ _ _ _, Below.refl _ _⟩
    case round =>
      obtain ⟨j, n, x, c, hj, rfl, rfl, HO, HGr⟩ := hrel
      by_cases hlt : j < K
      · obtain ⟨b, off, rfl⟩ := HS2.out.lies (by omega)
        obtain ⟨d1, d2⟩ := c1.out wr (HI2.out.trans (HGr.out.mono HI2.out.size))
        obtain ⟨e1, e2⟩ := span_cells (HS2.out.later HGr.out) j hlt
        have hbl : w.heap.size < wr.heap.size := block_lt_of_cell d1
        have hbb : b < wr.heap.size := block_lt_of_cell e1
        have hbw : w.heap.size < w2.heap.size := block_lt_of_cell (c1.out w2 HI2.out).1
        have hnn : n ≤ 200000 := by
          have h1 := HSL.out j
          have h2 := HO.out.2.1
          omega
        have hsn := HSN.out j hlt
        obtain ⟨⟨f, t⟩, HF⟩ := named (spAt L j)
        rw [HF.out] at e1 e2 hsn
        have HSNJ := Lib.hid hsn
        clear hsn
        have HOA : Hid (∀ X Y : Obj, OwnSp ((wr.alloc X).alloc Y) w2.heap.size (.slice x n c) n (subs (L.take j) (sf, st))) := fun X Y => (HO.out.alloc X).alloc Y
        have HWS := Lib.hid HGr.out.size
        have HGX : Hid (∀ X : Obj, Below w2.heap.size w2 (wr.alloc X)) := fun X => HGr.out.alloc HGr.out.size X
        have HGY : Hid (∀ X Y : Obj, Below w2.heap.size w2 ((wr.alloc X).alloc Y)) := fun X Y => (HGX.out X).alloc (HGX.out X).size Y
        by_cases h1 : f < sf
        · by_cases h2 : st < t
          · have hpc : piece (sf, st) (f, t) = [(f, min t sf)] ++ [(max f st, t)] := by
              unfold piece
              rw [if_pos h1, if_pos h2]
            have HP := Lib.hid hpc
            clear hpc
            go_wp2_with (first
              | (at_builtin; refine append_gg sp_rowed rfl (.tmp 30) (.tmp 39) rfl w2.heap.size _ n _ rfl (HOA.out _ _) _ 1 1 [(f, min t sf)] rfl (fun e => by cases e) (one_reads2 _ _ _ _ _ rfl) (by omega) (HGY.out _ _).size ?_; intro x2 k2 w3 g1 g2 g3; have HO2 := Lib.hid g1; have HG3 := Lib.hid ((HGY.out _ _).trans g2); have q1 := HO.out.far g3 (p := ⟨w.heap.size, 0, none⟩) (v := .int .i64 sf) (by simp [go_sem, d1, hbl]) (Or.inl hbw); have q2 := HO.out.far g3 (p := ⟨w.heap.size, 1, none⟩) (v := .int .i64 st) (by simp [go_sem, d2, hbl]) (Or.inl hbw); have q3 := HO.out.far g3 (p := ⟨wr.heap.size, 0, none⟩) (v := .int .i64 f) (by simp [go_sem]) (Or.inr (Nat.le_refl _)); have q4 := HO.out.far g3 (p := ⟨wr.heap.size, 1, none⟩) (v := .int .i64 t) (by simp [go_sem]) (Or.inr (Nat.le_refl _)); clear g1 g2 g3)
              | (at_builtin; refine append_g sp_rowed rfl (.tmp 46) (.tmp 55) rfl w2.heap.size _ (n + 1) _ rfl (HO2.out.alloc _) _ 1 1 [(max f st, t)] rfl (fun e => by cases e) (one_reads _ _ _ _ rfl) (by omega) (Nat.le_trans HG3.out.size (by simp)) ?_; intro x3 k3 w4 g1 g2; have HO3 := Lib.hid g1; have HG4 := Lib.hid ((HG3.out.alloc HG3.out.size _).trans g2); clear g1 g2))
            go_roundw
            case rel => exact ⟨j + 1, n + 1 + 1, x3, k3, by omega, by go_num, rfl, by rw [HSNJ.out, HP.out, ← List.append_assoc]; exact HO3.out, HG4.out⟩
            case measure => simp [intOf]; omega
          · have hpc : piece (sf, st) (f, t) = [(f, min t sf)] ++ [] := by
              unfold piece
              rw [if_pos h1, if_neg h2]
            have HP := Lib.hid hpc
            clear hpc
            go_wp2_with (first
              | (at_builtin; refine append_gg sp_rowed rfl (.tmp 30) (.tmp 39) rfl w2.heap.size _ n _ rfl (HOA.out _ _) _ 1 1 [(f, min t sf)] rfl (fun e => by cases e) (one_reads2 _ _ _ _ _ rfl) (by omega) (HGY.out _ _).size ?_; intro x2 k2 w3 g1 g2 g3; have HO2 := Lib.hid g1; have HG3 := Lib.hid ((HGY.out _ _).trans g2); have q1 := HO.out.far g3 (p := ⟨w.heap.size, 0, none⟩) (v := .int .i64 sf) (by simp [go_sem, d1, hbl]) (Or.inl hbw); have q2 := HO.out.far g3 (p := ⟨w.heap.size, 1, none⟩) (v := .int .i64 st) (by simp [go_sem, d2, hbl]) (Or.inl hbw); have q3 := HO.out.far g3 (p := ⟨wr.heap.size, 0, none⟩) (v := .int .i64 f) (by simp [go_sem]) (Or.inr (Nat.le_refl _)); have q4 := HO.out.far g3 (p := ⟨wr.heap.size, 1, none⟩) (v := .int .i64 t) (by simp [go_sem]) (Or.inr (Nat.le_refl _)); clear g1 g2 g3))
            go_roundw
            case rel => exact ⟨j + 1, n + 1, x2, k2, by omega, by go_num, rfl, by rw [HSNJ.out, HP.out, List.append_nil]; exact HO2.out, HG3.out⟩
            case measure => simp [intOf]; omega
        · by_cases h2 : st < t
          · have hpc : piece (sf, st) (f, t) = [] ++ [(max f st, t)] := by
              unfold piece
              rw [if_neg h1, if_pos h2]
            have HP := Lib.hid hpc
            clear hpc
            go_wp2_with (first
              | (at_builtin; refine append_g sp_rowed rfl (.tmp 46) (.tmp 55) rfl w2.heap.size _ n _ rfl (HOA.out _ _) _ 1 1 [(max f st, t)] rfl (fun e => by cases e) (one_reads2 _ _ _ _ _ rfl) (by omega) (HGY.out _ _).size ?_; intro x3 k3 w4 g1 g2; have HO3 := Lib.hid g1; have HG4 := Lib.hid ((HGY.out _ _).trans g2); clear g1 g2))
            go_roundw
            case rel => exact ⟨j + 1, n + 1, x3, k3, by omega, by go_num, rfl, by rw [HSNJ.out, HP.out]; exact HO3.out, HG4.out⟩
            case measure => simp [intOf]; omega
          · have hpc : piece (sf, st) (f, t) = [] ++ [] := by
              unfold piece
              rw [if_neg h1, if_neg h2]
            have HP := Lib.hid hpc
            clear hpc
            go_wp2
            go_roundw
            case rel => exact ⟨j + 1, n, x, c, by omega, by go_num, rfl, by rw [HSNJ.out, HP.out, List.append_nil, List.append_nil]; exact HO.out.alloc _, HGX.out _⟩
            case measure => simp [intOf]; omega
      · obtain rfl : j = K := by omega
        have HE : Hid (L.take j = L) := by rw [Hid]; exact List.take_of_length_le (by rw [HK.out]; exact Nat.le_refl _)
        go_wp2
        go_ret
        have h := HO.out
        rw [HE.out] at h
        exact SpPost.own h (HG2.out.trans (HGr.out.mono HG2.out.size)) HG2.out.size
end Go.Proofs.Ytjaaieamlgghhaa
