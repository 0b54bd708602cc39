/-
  What the reference's Right of a meta answers (layer 12). Conditions: the meta reads; its numbers of clusters, shots, bitmaps and counts are as many as may be.
-/
import Derived.Test.YtdffgnpldapciaaGreatDoorSx
namespace Go.Proofs.YtdffgnpldapciaaGreatDoor
open Go.RowKit
set_option linter.unusedVariables false

def RightE (P : Prop) (w : World) (e : Ending) (w' : World) : Prop := ∃ G : Bool, e = .returned (.bool G) ∧ Below w.heap.size w w' ∧ (G = true ↔ P)
theorem RightE.no {P : Prop} {w w' : World} {e : Ending} (h : e = .returned (.bool false)) (hb : Below w.heap.size w w') (hp : P → false = true) : RightE P w e w' := ⟨false, h, hb, fun h => Bool.noConfusion h, fun h => hp h⟩
theorem RightE.yes {P : Prop} {w w' : World} {e : Ending} (h : e = .returned (.bool true)) (hb : Below w.heap.size w w') (hp : P) : RightE P w e w' := ⟨true, h, hb, fun _ => hp, fun _ => rfl⟩
/-- A box of a meta, all else below it as it was. -/
structure RtS (w V : World) (cs : Array Value) : Prop where
  box : Blk V w.heap.size 31 cs
  below : Below w.heap.size w V
theorem RtS.later {w V V' : World} {cs : Array Value} (h : RtS w V cs) (hb : Below V.heap.size V V') : RtS w V' cs := ⟨h.box.later hb, h.below.trans (hb.mono h.below.size)⟩
theorem RtS.alloc {w V : World} {cs : Array Value} (h : RtS w V cs) (o : Obj) : RtS w (V.alloc o) cs := h.later ((Below.refl _ _).alloc (Nat.le_refl _) _)
theorem RtS.first (w : World) (cs : Array Value) : RtS w (w.alloc (.cells cs 31)) cs := ⟨Blk.new _ _ _, (Below.refl _ _).alloc (Nat.le_refl _) _⟩
def BQ (P : Prop) (w : World) (e : Ending) (w' : World) : Prop := ∃ B : Bool, e = .returned (.bool B) ∧ Below w.heap.size w w' ∧ (B = true ↔ P)
theorem szQ (n c : Int) (hn : I64 n) (hc : 0 ≤ c ∧ c ≤ 6) (w : World) : Calls Tryz.prog 59 #[.int .i64 n, .int .i64 c] w (BQ (sizedM n c) w) :=
  (refSized n c hn hc rfl w).mono fun e w' h => ⟨_, h.1, h.2, decide_eq_true_iff⟩
theorem nmQ (s : ByteArray) (hs : s.size ≤ 9223372036854775807) (w : World) : Calls Tryz.prog 60 #[.string s] w (BQ (nameOk s) w) :=
  (refName s hs rfl w).mono fun e w' ⟨h1, h2⟩ => ⟨_, h1, h2 ▸ Below.refl _ _, decide_eq_true_iff⟩
theorem tbQ {a : Option Addr} {len cap : Nat} {T : Tb} (n c : Int) (w : World) (h : Tab w a len cap T) : Calls Tryz.prog 58 #[.agg #[.slice a len cap], .int .i64 n, .int .i64 c] w (BQ (rightT T n c) w) :=
  (refRightT rfl w h).mono fun e w' h => ⟨_, h.1, h.2, decide_eq_true_iff⟩
theorem spQ {w : World} {a : Option Addr} {len cap : Nat} {l : List Sp} (h : SpD w a len cap l) : Calls Tryz.prog 63 #[.slice a len cap] w (BQ (Rt (-1) l) w) :=
  (refRight_any a len cap l w h.1 h.2.2.1 _ rfl).mono fun e w' h => ⟨_, h.1, h.2, decide_eq_true_iff⟩
theorem bne_cases (a b : Int) : ((a == b) = true ∧ (a != b) = false) ∨ ((a == b) = false ∧ (a != b) = true) := by
  cases h : (a == b) with
  | true => exact Or.inl ⟨rfl, by simp [bne, h]⟩
  | false => exact Or.inr ⟨rfl, by simp [bne, h]⟩
set_option maxRecDepth 20000 in
set_option maxHeartbeats 8000000 in
theorem refRight_main (w : World) (x : Mt) (M : MM) (h : MetaD w x M) (hcr : 0 ≤ M.c ∧ M.c ≤ 6) (hS8 : M.S.length ≤ 8) (hB8 : M.B.length ≤ 8) (hK6 : M.K.length ≤ 65536) : Calls Tryz.prog 38 #[.agg (mtA M x)] w (RightE (RightMt M) w) := by
  obtain ⟨a0, n0, c0, sa, sn, sc, ma, mn, mc, ca, cn, cc⟩ := x
  obtain ⟨c, s, bk, T, S, B, K⟩ := M
  have HMD := Lib.hid h
  obtain ⟨hc, hs, hbk, hT, hS, hB, hK⟩ := h
  dsimp only [mtA] at hc hs hbk hT hS hB hK hcr hS8 hB8 hK6 ⊢
  have hsl := hS.lens
  have hml := hB.lens
  have hkl := hK.1.1
  obtain ⟨P, hP⟩ := named (RightMt ⟨c, s, bk, T, S, B, K⟩)
  have hP1 : P → RightMt ⟨c, s, bk, T, S, B, K⟩ := fun h => by rw [hP.out]; exact h
  have hP2 : RightMt ⟨c, s, bk, T, S, B, K⟩ → P := fun h => by rw [← hP.out]; exact h
  rw [hP.out]
  clear hP
  have HPb : Hid (bk.toList.isEmpty = false → P → nameOk bk) := fun e h => (hP1 h).bk (by
    dsimp only
    rcases Nat.eq_zero_or_pos bk.size with h | h
    · rw [empty_size.2 h] at e
      cases e
    · exact h)
  have HP1 := Lib.hid hP1
  have HP2 : Hid (sizedM s c → (bk.toList.isEmpty = true ∨ nameOk bk) → rightT T (s / 2 ^ c.toNat) c → (∀ i d, S[i]? = some d → shOk c S i d) → (∀ i b, B[i]? = some b → bmOk B i b) → (∀ k ∈ K, 0 ≤ k ∧ k ≤ 65535) → P) := fun e1 e2 e3 e4 e5 e6 => hP2 ⟨hcr, e1, fun h0 => by
    rcases e2 with e2 | e2
    · have := empty_size.1 e2
      dsimp only at h0
      omega
    · exact e2, hS8, hB8, hK6, e3, e4, e5, e6⟩
  have HSZ := Lib.hid (fun (n : Int) (hn : I64 n) (w : World) => szQ n c hn hcr w)
  have HNB := Lib.hid (fun (w : World) => nmQ bk hbk w)
  have HTR := Lib.hid (fun (w1 : World) (n : Int) (h : Below w.heap.size w w1) => tbQ n c w1 (hT.later h))
  have HS := Lib.hid hS
  have HMM := Lib.hid hB
  have HCC := Lib.hid hK.1
  have HRT := Lib.hid (RtS.first w #[.int .i64 c, .int .i64 s, .string bk, .slice a0 n0 c0, .slice sa sn sc, .slice ma mn mc, .slice ca cn cc])
  have dc1 : decide (c < 0) = false := decide_eq_false (by omega)
  have dc2 : decide (6 < c) = false := decide_eq_false (by omega)
  have dc3 : decide ((65536 : Int) < cn) = false := decide_eq_false (by omega)
  have dc4 : decide ((8 : Int) < sn) = false := decide_eq_false (by omega)
  have dc5 : decide ((8 : Int) < mn) = false := decide_eq_false (by omega)
  have HSH2 : Hid (min (IntKind.u64.wrap c).toNat 64 = c.toNat) := by
    rw [show IntKind.u64.wrap c = c from by simp [IntKind.wrap, IntKind.signed, IntKind.bits]; omega]
    show min c.toNat 64 = c.toNat
    omega
  have HSH3 : Hid ((IntKind.u64.wrap c).toNat = c.toNat) := by
    rw [show IntKind.u64.wrap c = c from by simp [IntKind.wrap, IntKind.signed, IntKind.bits]; omega]
    exact Lib.hid rfl
  have HI := Lib.hid hs
  have HSL := Lib.hid hsl
  have HML := Lib.hid hml
  have HKL := Lib.hid hkl
  have hcn : cn ≤ 65536 := by omega
  have hsn : sn ≤ 8 := by omega
  have hmn : mn ≤ 8 := by omega
  clear hc hs hbk hT hS hB hK hP1 hP2 hsl hml hkl hS8 hB8 hK6 hcr
  go_enter Tryz.func38, Tryz.ntmps38
  cases he : bk.toList.isEmpty
  all_goals
    go_wp2_with (first
      | (go_at_call 59; refine (HSZ.out _ HI.out _).mono ?_; rintro e w1 ⟨B, rfl, h, hr⟩; have HA := Lib.hid hr; have HRT := Lib.hid (HRT.out.later h); obtain ⟨m0, m1, m2, m3, m4, m5, m6⟩ := cells7 HRT.out.box; clear h hr; cases B)
      | (go_at_call 60; refine (HNB.out _).mono ?_; rintro e w2 ⟨B, rfl, h, hr⟩; have HBk := Lib.hid hr; have HRT := Lib.hid (HRT.out.later h); obtain ⟨m0, m1, m2, m3, m4, m5, m6⟩ := cells7 HRT.out.box; clear h hr; cases B)
      | (go_at_call 58; refine (HTR.out _ _ HRT.out.below).mono ?_; rintro e w3 ⟨B, rfl, h, hr⟩; have HT0 := Lib.hid hr; have HRT := Lib.hid (HRT.out.later h); obtain ⟨m0, m1, m2, m3, m4, m5, m6⟩ := cells7 HRT.out.box; clear h hr; cases B))
  all_goals first
    | (go_ret; exact RightE.no rfl HRT.out.below fun hp => HA.out.2 (HP1.out hp).s)
    | (go_ret; exact RightE.no rfl HRT.out.below fun hp => HBk.out.2 (HPb.out he hp))
    | (go_ret; exact RightE.no rfl HRT.out.below fun hp => HT0.out.2 (by first | (rw [HSH2.out]; exact (HP1.out hp).T) | (rw [HSH3.out]; exact (HP1.out hp).T)))
    | skip
  all_goals
    have HQ : Hid ((∀ i d, S[i]? = some d → shOk c S i d) → (∀ i b, B[i]? = some b → bmOk B i b) → (∀ k ∈ K, 0 ≤ k ∧ k ≤ 65535) → P) := HP2.out (HA.out.1 (by first | rfl | trivial)) (by first | exact Or.inl he | exact Or.inr (HBk.out.1 (by first | rfl | trivial))) (by have := HT0.out.1 (by first | rfl | trivial); first | (rw [HSH2.out] at this; exact this) | (rw [HSH3.out] at this; exact this))
    clear HT0 HA HP2 HPb
    go_loopw [3] (fun i wr => ∃ j : Nat, j ≤ sn ∧ i = .int .i64 j ∧ Hid (∀ i d, i < j → S[i]? = some d → shOk c S i d) ∧ Hid (RtS w wr #[.int .i64 c, .int .i64 s, .string bk, .slice a0 n0 c0, .slice sa sn sc, .slice ma mn mc, .slice ca cn cc])) (fun i _ => sn - (intOf i).toNat)
    case atStart => exact ⟨0, Nat.zero_le _, rfl, (fun i d hd => by omega), HRT.out⟩
    case round =>
      obtain ⟨j, hj, rfl, HJ, HRT⟩ := hrel
      obtain ⟨m0, m1, m2, m3, m4, m5, m6⟩ := cells7 HRT.out.box
      have hlm := HRT.out.box.lt
      by_cases hlt : j < sn
      · obtain ⟨b, off, nm, sz, al, ll, cl, T', rfl, hSj, hb, hok, x1, x2, x3, hT'⟩ := (HS.out.later HRT.out.below).at j hlt
        have hT0 : ∀ w1, Below wr.heap.size wr w1 → Tab w1 al ll cl T' := fun w1 h => hT'.later h
        obtain ⟨hz, hnl⟩ := hok
        dsimp only at hz hnl
        obtain ⟨k, hk⟩ := named (fndS nm S)
        have hkr : I64 k := by
          rw [← hk.out]
          rcases fndS_cases nm S with ⟨h1, _⟩ | ⟨i, d, h1, _, _, h4, _⟩ <;> rw [h1] <;> (have := HSL.out; unfold I64; omega)
        have HNJ := Lib.hid (fun (w : World) => nmQ nm hnl w)
        have HZJ := Lib.hid hz
        have HTJ := Lib.hid (fun (w1 : World) (n : Int) (h : Below wr.heap.size wr w1) => tbQ n c w1 (hT0 w1 h))
        have HSH := Lib.hid (fun (w1 : World) (h : Below w.heap.size w w1) => refShot w1 _ _ (HMD.out.later h) nm hk.out)
        have HPJ : Hid (P → shOk c S j (nm, sz, T')) := fun h => (HP1.out h).S j _ hSj
        have HKK : Hid ((k == (j : Int)) = false → P → false = true) := fun e h => by
          have := (HPJ.out h).2.1
          try dsimp only at this
          rw [hk.out] at this
          subst this
          simp at e
        have HTK : Hid (nameOk nm → (k == (j : Int)) = true → sizedM sz c → rightT T' (sz / 2 ^ c.toNat) c → ∀ i d, i < j + 1 → S[i]? = some d → shOk c S i d) := fun e1 e2 e3 e4 i d hi hd => by
          by_cases e : i = j
          · subst e
            have := hSj.symm.trans hd
            cases this
            exact ⟨e1, hk.out.trans (by simpa using e2), e3, e4⟩
          · exact HJ.out i d (by omega) hd
        obtain ⟨E, hE⟩ : ∃ E, wr.heap.size = E := ⟨_, rfl⟩
        have HEE : Hid (Blk (wr.alloc (.cells #[.string nm, .int .i64 sz, .slice al ll cl] 54)) E 54 #[.string nm, .int .i64 sz, .slice al ll cl]) := by
          have := Blk.new wr 54 #[.string nm, .int .i64 sz, .slice al ll cl]
          rw [hE] at this
          exact this
        have HRT := Lib.hid (HRT.out.alloc (.cells #[.string nm, .int .i64 sz, .slice al ll cl] 54))
        have HWR : Hid (Below wr.heap.size wr (wr.alloc (.cells #[.string nm, .int .i64 sz, .slice al ll cl] 54))) := (Below.refl _ _).alloc (Nat.le_refl _) _
        clear hT' hT0 hSj hz hnl hk HJ
        go_wp2_with (first
          | (go_at_call 60; refine (HNJ.out _).mono ?_; rintro e w1 ⟨B, rfl, h, hr⟩; have HNm := Lib.hid hr; have HRT := Lib.hid (HRT.out.later h); obtain ⟨m0, m1, m2, m3, m4, m5, m6⟩ := cells7 HRT.out.box; have HEE := Lib.hid (HEE.out.later h); have HWR : Hid (Below wr.heap.size wr w1) := HWR.out.trans (h.mono HWR.out.size); obtain ⟨e0, e1, e2⟩ := cells3 HEE.out; clear h hr; cases B)
          | (go_at_call 61; refine (HSH.out _ HRT.out.below).mono ?_; rintro e w2 ⟨rfl, h⟩; have HRT := Lib.hid (HRT.out.later h); obtain ⟨m0, m1, m2, m3, m4, m5, m6⟩ := cells7 HRT.out.box; have HEE := Lib.hid (HEE.out.later h); have HWR : Hid (Below wr.heap.size wr w2) := HWR.out.trans (h.mono HWR.out.size); obtain ⟨e0, e1, e2⟩ := cells3 HEE.out; clear h; rcases bne_cases k (j : Int) with ⟨hkj, hkn⟩ | ⟨hkj, hkn⟩)
          | (go_at_call 59; refine (HSZ.out _ HZJ.out _).mono ?_; rintro e w3 ⟨B, rfl, h, hr⟩; have HSz := Lib.hid hr; have HRT := Lib.hid (HRT.out.later h); obtain ⟨m0, m1, m2, m3, m4, m5, m6⟩ := cells7 HRT.out.box; have HEE := Lib.hid (HEE.out.later h); have HWR : Hid (Below wr.heap.size wr w3) := HWR.out.trans (h.mono HWR.out.size); obtain ⟨e0, e1, e2⟩ := cells3 HEE.out; clear h hr; cases B)
          | (go_at_call 58; refine (HTJ.out _ _ HWR.out).mono ?_; rintro e w4 ⟨B, rfl, h, hr⟩; have HTb := Lib.hid hr; have HRT := Lib.hid (HRT.out.later h); obtain ⟨m0, m1, m2, m3, m4, m5, m6⟩ := cells7 HRT.out.box; clear h hr; cases B))
        all_goals first
          | (go_ret; exact RightE.no rfl HRT.out.below fun hp => HNm.out.2 (HPJ.out hp).1)
          | (go_ret; exact RightE.no rfl HRT.out.below (HKK.out hkj))
          | (go_ret; exact RightE.no rfl HRT.out.below fun hp => HSz.out.2 (HPJ.out hp).2.2.1)
          | (go_ret; exact RightE.no rfl HRT.out.below fun hp => HTb.out.2 (by first | (rw [HSH2.out]; exact (HPJ.out hp).2.2.2) | (rw [HSH3.out]; exact (HPJ.out hp).2.2.2)))
          | (go_roundw
             case rel => exact ⟨j + 1, by omega, by go_num, HTK.out (HNm.out.1 (by first | rfl | trivial)) hkj (HSz.out.1 (by first | rfl | trivial)) (by have := HTb.out.1 (by first | rfl | trivial); first | (rw [HSH2.out] at this; exact this) | (rw [HSH3.out] at this; exact this)), HRT.out⟩
             case measure => simp [intOf]; omega)

      · have HQ : Hid ((∀ i b, B[i]? = some b → bmOk B i b) → (∀ k ∈ K, 0 ≤ k ∧ k ≤ 65535) → P) := HQ.out fun i d hd => HJ.out i d (by have := (List.getElem?_eq_some_iff.1 hd).1; have := HSL.out.1; omega) hd
        have hjn : decide ((j : Int) < sn) = false := decide_eq_false (by omega)
        clear HJ HSZ HTR HS HNB
        go_wp2
        go_loopw [5] (fun i wr => ∃ p : Nat, p ≤ mn ∧ i = .int .i64 p ∧ Hid (∀ i b, i < p → B[i]? = some b → bmOk B i b) ∧ Hid (RtS w wr #[.int .i64 c, .int .i64 s, .string bk, .slice a0 n0 c0, .slice sa sn sc, .slice ma mn mc, .slice ca cn cc])) (fun i _ => mn - (intOf i).toNat)
        case atStart => exact ⟨0, Nat.zero_le _, rfl, (fun i d hd => by omega), HRT.out⟩
        case round =>
          obtain ⟨p, hp, rfl, HJ, HRT⟩ := hrel
          obtain ⟨m0, m1, m2, m3, m4, m5, m6⟩ := cells7 HRT.out.box
          have hlm := HRT.out.box.lt
          by_cases hlt : p < mn
          · obtain ⟨b, off, nm, on, al, ll, cl, l, rfl, hSj, hb, hnl, x1, x2, x3, hL⟩ := (HMM.out.later HRT.out.below).at p hlt
            obtain ⟨k, hk⟩ := named (fndB nm B)
            have hkr : I64 k := by
              rw [← hk.out]
              rcases fndB_cases nm B with ⟨h1, _⟩ | ⟨i, d, h1, _, _, h4, _⟩ <;> rw [h1] <;> (have := HML.out; unfold I64; omega)
            have HBM := Lib.hid (fun (w1 : World) (h : Below w.heap.size w w1) => refBitmap w1 _ mn mc B (HMM.out.later h) nm hk.out)
            have HNJ := Lib.hid (fun (w : World) => nmQ nm hnl w)
            have HSP := Lib.hid (fun (w1 : World) (h : Below wr.heap.size wr w1) => spQ (hL.later h))
            have hLl : l.length = ll := hL.1.1
            have h100 : ll ≤ 100000 := hL.2.2.1
            have HSC : Hid (∀ (w1 : World) (K : Nat), K < ll → Below wr.heap.size wr w1 → ∃ b off, al = some ⟨b, off, none⟩ ∧ w1.cell? ⟨b, off + K * 2 + 1, none⟩ = some (.int .i64 (spAt l K).2)) := fun w1 K hK h => by
              obtain ⟨b, off, rfl⟩ := hL.1.lies (by omega)
              exact ⟨b, off, rfl, (span_cells (hL.1.later h) K hK).2⟩
            have HPJ : Hid (P → bmOk B p (nm, on, l)) := fun h => (HP1.out h).B p _ hSj
            have HKK : Hid ((k == (p : Int)) = false → P → false = true) := fun e h => by
              have := (HPJ.out h).2.1
              try dsimp only at this
              rw [hk.out] at this
              subst this
              simp at e
            have HTK : Hid (nameOk nm → (k == (p : Int)) = true → Rt (-1) l → (0 < l.length → (spAt l (l.length - 1)).2 ≤ 4096) → ∀ i d, i < p + 1 → B[i]? = some d → bmOk B i d) := fun e1 e2 e3 e4 i d hi hd => by
              by_cases e : i = p
              · subst e
                have := hSj.symm.trans hd
                cases this
                exact ⟨e1, hk.out.trans (by simpa using e2), e3, e4⟩
              · exact HJ.out i d (by omega) hd
            obtain ⟨E, hE⟩ : ∃ E, wr.heap.size = E := ⟨_, rfl⟩
            have HEE : Hid (Blk (wr.alloc (.cells #[.string nm, .bool on, .slice al ll cl] 57)) E 57 #[.string nm, .bool on, .slice al ll cl]) := by
              have := Blk.new wr 57 #[.string nm, .bool on, .slice al ll cl]
              rw [hE] at this
              exact this
            have HRT := Lib.hid (HRT.out.alloc (.cells #[.string nm, .bool on, .slice al ll cl] 57))
            have HWR : Hid (Below wr.heap.size wr (wr.alloc (.cells #[.string nm, .bool on, .slice al ll cl] 57))) := (Below.refl _ _).alloc (Nat.le_refl _) _
            clear hSj hnl hL hk HJ
            by_cases h0 : ll = 0
            · subst h0
              have HE0 : Hid (0 < l.length → (spAt l (l.length - 1)).2 ≤ 4096) := fun h => by omega
              clear hLl HSC
              go_wp2_with (first
                | (go_at_call 60; refine (HNJ.out _).mono ?_; rintro e w1 ⟨B, rfl, h, hr⟩; have HNm := Lib.hid hr; have HRT := Lib.hid (HRT.out.later h); obtain ⟨m0, m1, m2, m3, m4, m5, m6⟩ := cells7 HRT.out.box; have HEE := Lib.hid (HEE.out.later h); have HWR : Hid (Below wr.heap.size wr w1) := HWR.out.trans (h.mono HWR.out.size); obtain ⟨e0, e1, e2⟩ := cells3 HEE.out; clear h hr; cases B)
                | (go_at_call 62; refine (HBM.out _ HRT.out.below).mono ?_; rintro e w2 ⟨rfl, h⟩; have HRT := Lib.hid (HRT.out.later h); obtain ⟨m0, m1, m2, m3, m4, m5, m6⟩ := cells7 HRT.out.box; have HEE := Lib.hid (HEE.out.later h); have HWR : Hid (Below wr.heap.size wr w2) := HWR.out.trans (h.mono HWR.out.size); obtain ⟨e0, e1, e2⟩ := cells3 HEE.out; clear h; rcases bne_cases k (p : Int) with ⟨hkj, hkn⟩ | ⟨hkj, hkn⟩)
                | (go_at_call 63; refine (HSP.out _ HWR.out).mono ?_; rintro e w4 ⟨B, rfl, h, hr⟩; have HRr := Lib.hid hr; have HRT := Lib.hid (HRT.out.later h); obtain ⟨m0, m1, m2, m3, m4, m5, m6⟩ := cells7 HRT.out.box; have HEE := Lib.hid (HEE.out.later h); obtain ⟨e0, e1, e2⟩ := cells3 HEE.out; clear h hr; cases B))
              all_goals first
                | (go_ret; exact RightE.no rfl HRT.out.below fun hp => HNm.out.2 (HPJ.out hp).1)
                | (go_ret; exact RightE.no rfl HRT.out.below (HKK.out hkj))
                | (go_ret; exact RightE.no rfl HRT.out.below fun hp => HRr.out.2 (HPJ.out hp).2.2.1)
                | (go_roundw
                   case rel => exact ⟨p + 1, by omega, by go_num, HTK.out (HNm.out.1 (by first | rfl | trivial)) hkj (HRr.out.1 (by first | rfl | trivial)) HE0.out, HRT.out⟩
                   case measure => simp [intOf]; omega)

            · obtain ⟨K', hK⟩ : ∃ K', Hid (K' + 1 = ll) := ⟨ll - 1, by show ll - 1 + 1 = ll; omega⟩
              have hKl : K' < ll := by have := hK.out; omega
              have e1' : IntKind.i64.wrap ((ll : Int) - 1) = (K' : Int) := by have := hK.out; rw [IntKind.wrap_i64] <;> omega
              obtain ⟨v9, hv⟩ := named (spAt l K').2
              have HE0 : Hid (decide ((4096 : Int) < v9) = false → 0 < l.length → (spAt l (l.length - 1)).2 ≤ 4096) := fun e h => by
                rw [show l.length - 1 = K' from by have := hK.out; omega, hv.out]
                have := of_decide_eq_false e
                omega
              have HE1 : Hid (decide ((4096 : Int) < v9) = true → P → false = true) := fun e h => by
                have h1 := (HPJ.out h).2.2.2
                dsimp only at h1
                have h2 := h1 (by omega)
                rw [show l.length - 1 = K' from by have := hK.out; omega, hv.out] at h2
                have := of_decide_eq_true e
                omega
              have HSC : Hid (∀ (w1 : World), Below wr.heap.size wr w1 → ∃ b off, al = some ⟨b, off, none⟩ ∧ w1.cell? ⟨b, off + K' * 2 + 1, none⟩ = some (.int .i64 v9)) := fun w1 h => by rw [← hv.out]; exact HSC.out w1 K' hKl h
              obtain ⟨b', off', rfl, _⟩ := HSC.out wr (Below.refl _ _)
              clear hv hLl
              go_wp2_with (first
                | (go_at_call 60; refine (HNJ.out _).mono ?_; rintro e w1 ⟨B, rfl, h, hr⟩; have HNm := Lib.hid hr; have HRT := Lib.hid (HRT.out.later h); obtain ⟨m0, m1, m2, m3, m4, m5, m6⟩ := cells7 HRT.out.box; have HEE := Lib.hid (HEE.out.later h); have HWR : Hid (Below wr.heap.size wr w1) := HWR.out.trans (h.mono HWR.out.size); obtain ⟨e0, e1, e2⟩ := cells3 HEE.out; clear h hr; cases B)
                | (go_at_call 62; refine (HBM.out _ HRT.out.below).mono ?_; rintro e w2 ⟨rfl, h⟩; have HRT := Lib.hid (HRT.out.later h); obtain ⟨m0, m1, m2, m3, m4, m5, m6⟩ := cells7 HRT.out.box; have HEE := Lib.hid (HEE.out.later h); have HWR : Hid (Below wr.heap.size wr w2) := HWR.out.trans (h.mono HWR.out.size); obtain ⟨e0, e1, e2⟩ := cells3 HEE.out; clear h; rcases bne_cases k (p : Int) with ⟨hkj, hkn⟩ | ⟨hkj, hkn⟩)
                | (go_at_call 63; refine (HSP.out _ HWR.out).mono ?_; rintro e w4 ⟨B, rfl, h, hr⟩; have HRr := Lib.hid hr; have HRT := Lib.hid (HRT.out.later h); obtain ⟨m0, m1, m2, m3, m4, m5, m6⟩ := cells7 HRT.out.box; have HEE := Lib.hid (HEE.out.later h); have HWR : Hid (Below wr.heap.size wr w4) := HWR.out.trans (h.mono HWR.out.size); obtain ⟨e0, e1, e2⟩ := cells3 HEE.out; obtain ⟨b9, off9, q9, z9⟩ := HSC.out _ HWR.out; cases q9; clear h hr; cases B; rotate_left; cases hv9 : decide ((4096 : Int) < v9)))
              all_goals first
                | (go_ret; exact RightE.no rfl HRT.out.below fun hp => HNm.out.2 (HPJ.out hp).1)
                | (go_ret; exact RightE.no rfl HRT.out.below (HKK.out hkj))
                | (go_ret; exact RightE.no rfl HRT.out.below (HE1.out hv9))
                | (go_ret; exact RightE.no rfl HRT.out.below fun hp => HRr.out.2 (HPJ.out hp).2.2.1)
                | (go_roundw
                   case rel => exact ⟨p + 1, by omega, by go_num, HTK.out (HNm.out.1 (by first | rfl | trivial)) hkj (HRr.out.1 (by first | rfl | trivial)) (HE0.out hv9), HRT.out⟩
                   case measure => simp [intOf]; omega)

          · have HQ : Hid ((∀ k ∈ K, 0 ≤ k ∧ k ≤ 65535) → P) := HQ.out fun i d hd => HJ.out i d (by have := (List.getElem?_eq_some_iff.1 hd).1; have := HML.out.1; omega) hd
            have hpn : decide ((p : Int) < mn) = false := decide_eq_false (by omega)
            clear HJ HMM
            go_wp2
            go_loopw [7] (fun i wr => ∃ q : Nat, q ≤ cn ∧ i = .int .i64 q ∧ Hid (∀ i, i < q → ∀ k, K[i]? = some k → 0 ≤ k ∧ k ≤ 65535) ∧ Hid (RtS w wr #[.int .i64 c, .int .i64 s, .string bk, .slice a0 n0 c0, .slice sa sn sc, .slice ma mn mc, .slice ca cn cc])) (fun i _ => cn - (intOf i).toNat)
            case atStart => exact ⟨0, Nat.zero_le _, rfl, (fun i hi => by omega), HRT.out⟩
            case round =>
              obtain ⟨q, hq, rfl, HJ, HRT⟩ := hrel
              obtain ⟨m0, m1, m2, m3, m4, m5, m6⟩ := cells7 HRT.out.box
              have hlm := HRT.out.box.lt
              by_cases hlt : q < cn
              · obtain ⟨b, off, rfl, x1, y1⟩ := iv_cell (HCC.out.later HRT.out.below) q hlt
                obtain ⟨v, hv⟩ := named (ivAt K q)
                rw [hv.out] at x1 y1
                have HPJ : Hid (P → 0 ≤ v ∧ v ≤ 65535) := fun h => (HP1.out h).K v (List.mem_of_getElem? y1)
                have HTK : Hid (0 ≤ v → v ≤ 65535 → ∀ i, i < q + 1 → ∀ k, K[i]? = some k → 0 ≤ k ∧ k ≤ 65535) := fun e1 e2 i hi k hk => by
                  by_cases e : i = q
                  · subst e
                    have := y1.symm.trans hk
                    cases this
                    exact ⟨e1, e2⟩
                  · exact HJ.out i (by omega) k hk
                clear y1 hv HJ
                by_cases h1 : v < 0
                · have d1 : decide (v < 0) = true := decide_eq_true h1
                  go_wp2
                  go_ret
                  exact RightE.no rfl HRT.out.below fun hp => by have := (HPJ.out hp).1; omega
                · have d1 : decide (v < 0) = false := decide_eq_false h1
                  by_cases h2 : 65535 < v
                  · have d2 : decide ((65535 : Int) < v) = true := decide_eq_true h2
                    go_wp2
                    go_ret
                    exact RightE.no rfl HRT.out.below fun hp => by have := (HPJ.out hp).2; omega
                  · have d2 : decide ((65535 : Int) < v) = false := decide_eq_false h2
                    go_wp2
                    go_roundw
                    case rel => exact ⟨q + 1, by omega, by go_num, HTK.out (by omega) (by omega), HRT.out⟩
                    case measure => simp [intOf]; omega
              · have hqn : decide ((q : Int) < cn) = false := decide_eq_false (by omega)
                have HQ : Hid P := HQ.out fun k hk => by
                  obtain ⟨i, hi⟩ := List.getElem?_of_mem hk
                  exact HJ.out i (by have := (List.getElem?_eq_some_iff.1 hi).1; have := HKL.out; omega) k hi
                clear HJ
                go_wp2
                go_ret
                exact RightE.yes rfl HRT.out.below HQ.out
end Go.Proofs.YtdffgnpldapciaaGreatDoor
