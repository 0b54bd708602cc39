/-
  The reference's cache (layer 10): line, behind. Conditions: nothing is after itself, however far round; the lines are not too long.
-/
import Derived.Test.YthmkmhfoicfapaaRd
import Derived.Test.YthmkmhfoicfapaaLe
namespace Go.Proofs.Ythmkmhfoicfapaa
open Go.RowKit
set_option linter.unusedVariables false

theorem fold_pre {f : List Int → Int → List Int} (h : ∀ o k, o <+: f o k) : ∀ (ks : List Int) (o : List Int), o <+: ks.foldl f o
  | [], o => List.prefix_refl o
  | k :: r, o => (h o k).trans (fold_pre h r (f o k))
theorem lineR_pre (R : List (Int × Int)) : ∀ (n : Nat) (out : List Int) (k : Int), out <+: lineR R n out k
  | 0, out, _ => List.prefix_refl out
  | n + 1, out, k => by
    unfold lineR
    by_cases h : k ∈ out
    · rw [if_pos h]
      exact List.prefix_refl _
    · rw [if_neg h]
      exact (fold_pre (lineR_pre R n) _ _).trans (List.prefix_append _ _)
/-- What the second loop of line has. -/
def headL (R : List (Int × Int)) (n : Nat) (out : List Int) (k : Int) (j : Nat) : List Int := (rfirsts (R.take j) k).foldl (lineR R n) out
theorem headL_succ {R : List (Int × Int)} {n : Nat} {out : List Int} {k : Int} {j : Nat} {p : Int × Int} (h : R[j]? = some p) : headL R n out k (j + 1) = if p.1 = k then lineR R n (headL R n out k j) p.2 else headL R n out k j := by
  unfold headL rfirsts
  rw [List.take_add_one, h, Option.toList_some, List.filter_append, List.map_append, List.foldl_append]
  by_cases hp : p.1 = k <;> simp [hp]
theorem headL_pre {R : List (Int × Int)} {n : Nat} {out : List Int} {k : Int} (j : Nat) : headL R n out k j <+: (rfirsts R k).foldl (lineR R n) out := by
  unfold headL
  have h : rfirsts R k = rfirsts (R.take j) k ++ rfirsts (R.drop j) k := by
    conv => lhs; rw [← List.take_append_drop j R]
    unfold rfirsts
    rw [List.filter_append, List.map_append]
  rw [h, List.foldl_append]
  exact fold_pre (lineR_pre R n) _ _
def LineQ (base : Nat) (l : List Int) (w : World) (e : Ending) (w' : World) : Prop := ∃ a c, e = .returned (.slice a l.length c) ∧ OwnG ivV 3 1 w' base (.slice a l.length c) l.length l ∧ Below base w w'
set_option maxHeartbeats 3200000 in
set_option maxRecDepth 100000 in
/-- line. -/
theorem rLine_any {R : List (Int × Int)} {rank : Int → Nat} (hr : ∀ k, ∀ f ∈ rfirsts R k, rank f < rank k) : ∀ (n : Nat) (k : Int) (w : World) (B : Nat) (D : RC) (vL vR : Value) (LM : List RI) (base : Nat) (a : Option Addr) (m c : Nat) (out : List Int),
    rank k < n → RcIn w B D vL vR LM → D.rels = R → (∀ j, rcS B vL vR LM j → j < base) → base ≤ w.heap.size → OwnG ivV 3 1 w base (.slice a m c) m out → (lineR R n out k).length ≤ 100000 →
    Calls Try.prog 71 #[.pointer (some ⟨B, 0, none⟩), .slice a m c, .int .i64 k] w (LineQ base (lineR R n out k) w)
  | 0, k, w, B, D, vL, vR, LM, base, a, m, c, out, hn, _, _, _, _, _, _ => absurd hn (Nat.not_lt_zero _)
  | n + 1, k, w, B, D, vL, vR, LM, base, a, m, c, out, hn, h, hD, hS, hbase, ho, hlen => by
    have IH := Lib.hid (rLine_any hr n)
    have hfew := h.few.2
    have hrel := h.rel
    obtain ⟨aR, cR, rfl, _, _, _⟩ := hrel.shape rl_rowed
    rw [hD] at hfew hrel h hS
    obtain ⟨nR, hnR⟩ := named R.length
    have HNR := Lib.hid hnR.out
    rw [hnR.out] at hfew hrel h hS
    have HOR := Lib.hid hrel
    have HH := Lib.hid h
    have HS := Lib.hid hS
    have HO := Lib.hid ho
    have hm8 : m ≤ 100000 := by
      have h1 := (lineR_pre R (n + 1) out k).length_le
      have h2 := ho.2.1
      omega
    have HLEN := Lib.hid hlen
    have HDR := Lib.hid hD
    have hsize := hbase
    have c2 := h.c2
    clear hrel h hS ho hlen hD
    obtain ⟨F, hF⟩ := named (lineR R (n + 1) out k)
    have HFE := Lib.hid hF.out
    rw [hF.out] at HLEN ⊢
    unfold LineQ
    go_enter Try.func71, Try.ntmps71
    go_wp2
    go_loopw [7] (fun s wr => ∃ j : Nat, j ≤ m ∧ s = .int .i64 j ∧ wr = w ∧ Hid (∀ x ∈ out.take j, x ≠ k)) (fun s _ => m - (intOf s).toNat)
    case atStart => exact ⟨0, Nat.zero_le _, rfl, rfl, fun x hx => by simp at hx⟩
    case round =>
      obtain ⟨j, hj, rfl, rfl, HA⟩ := hrel
      by_cases hlt : j < m
      · obtain ⟨y, hy⟩ : ∃ y, out[j]? = some y := ⟨_, List.getElem?_eq_getElem (by have := HO.out.2.1; omega)⟩
        obtain ⟨b, rfl⟩ := HO.out.at0 (by omega)
        have cj := iv_cell (HO.out.rebase (Nat.zero_le _)) j y hy
        by_cases hyk : y = k
        · subst hyk
          have hin : y ∈ out := List.mem_of_getElem? hy
          have HE : Hid (F = out) := by rw [Hid, ← HFE.out]; unfold lineR; rw [if_pos hin]
          have hol : out.length = m := HO.out.2.1
          clear hy
          go_wp2
          go_ret
          rw [HE.out]
          exact ⟨_, c, by rw [hol]; rfl, by rw [hol]; exact HO.out, Below.refl _ _⟩
        · have HY := Lib.hid hy
          have HNE := Lib.hid hyk
          have t1 : (y == k) = false := by simpa using hyk
          clear hy
          go_wp2
          go_roundw
          case rel =>
            refine ⟨j + 1, by omega, by go_num, by first | trivial | rfl, fun x hx => ?_⟩
            rw [List.take_add_one, HY.out] at hx
            rcases List.mem_append.1 hx with hx | hx
            · exact HA.out x hx
            · simp at hx
              rw [hx]
              exact HNE.out
          case measure => simp [intOf]; omega
      · obtain rfl : j = m := by omega
        have hno : k ∉ out := fun hx => HA.out k (by rw [List.take_of_length_le (by have := HO.out.2.1; omega)]; exact hx) rfl
        have HE : Hid (F = headL R n out k nR ++ [k]) := by
          rw [Hid, ← HFE.out]
          unfold lineR headL
          rw [if_neg hno, ← HNR.out, List.take_length]
        rw [HE.out] at HLEN
        have HHL : Hid (∀ q, (headL R n out k q).length ≤ 99999) := fun q => by
          have h1 := (headL_pre (R := R) (n := n) (out := out) (k := k) q).length_le
          have h2 : headL R n out k nR = (rfirsts R k).foldl (lineR R n) out := by unfold headL; rw [← HNR.out, List.take_length]
          have h3 := HLEN.out
          rw [List.length_append, h2, List.length_singleton] at h3
          omega
        have HSUCC : Hid (∀ (q : Nat) (p : Int × Int), R[q]? = some p → headL R n out k (q + 1) = if p.1 = k then lineR R n (headL R n out k q) p.2 else headL R n out k q) := fun q p hq => headL_succ hq
        have HH0 : Hid (headL R n out k 0 = out) := rfl
        have HRK : Hid (∀ (q : Nat) (p : Int × Int), R[q]? = some p → p.1 = k → rank p.2 < n) := fun q p hq he => by
          have : p.2 ∈ rfirsts R k := rfirsts_mem.2 (by rw [← he]; exact List.mem_of_getElem? hq)
          have := hr k _ this
          omega
        obtain ⟨G, hG⟩ := named (headL R n out k)
        rw [hG.out] at HHL HSUCC HH0 HE HLEN
        clear hno
        go_wp2
        go_loopw [1, 8] (fun s1 s8 w2 => ∃ (q m2 : Nat) (a2 : Option Addr) (c2 : Nat), q ≤ nR ∧ s8 = .int .i64 q ∧ s1 = .slice a2 m2 c2 ∧ Hid (OwnG ivV 3 1 w2 base (.slice a2 m2 c2) m2 (G q)) ∧ Hid (Below base wr w2)) (fun _ s8 _ => nR - (intOf s8).toNat)
        case atStart => exact ⟨0, j, a, c, Nat.zero_le _, rfl, rfl, by rw [HH0.out]; exact HO.out, Below.refl _ _⟩
        case round =>
          obtain ⟨q, m2, a2, c3, hq, rfl, rfl, HO2, HB2⟩ := hrel
          have c4 : wr.cell? ⟨B, 2, none⟩ = some (.slice aR nR cR) := (HH.out.low HS.out HB2.out).c2
          by_cases hq2 : q < nR
          · obtain ⟨p, hp⟩ : ∃ p, R[q]? = some p := ⟨_, List.getElem?_eq_getElem (by have := HNR.out; omega)⟩
            obtain ⟨b, rfl⟩ := HOR.out.at0 (by omega)
            have hrl := (HH.out.low HS.out HB2.out).rel
            rw [HDR.out, HNR.out] at hrl
            obtain ⟨p1, p2⟩ := p
            obtain ⟨e0, e1⟩ := rl_cells hrl q _ hp
            dsimp only at e0 e1
            have hs := HSUCC.out q _ hp
            dsimp only at hs
            have hrk : p1 = k → rank p2 < n := fun he => HRK.out q _ hp he
            clear hp hrl
            by_cases hpk : p1 = k
            · rw [if_pos hpk] at hs
              have hIH := IH.out p2 wr B D vL (.slice (some ⟨b, 0, none⟩) nR cR) LM base a2 m2 c3 (G q) (hrk hpk) (HH.out.low HS.out HB2.out) HDR.out HS.out (Nat.le_trans hsize HB2.out.size) HO2.out (by rw [← hs]; have := HHL.out (q + 1); omega)
              rw [← hs] at hIH
              unfold LineQ at hIH
              have HIH := Lib.hid hIH
              subst hpk
              clear hIH hs hrk
              go_wp2_with (go_at_call 71; refine HIH.out.mono ?_; rintro e w3 ⟨a4, c5, rfl, g1, g2⟩; have HO3 := Lib.hid g1; have HB3 := Lib.hid (HB2.out.trans g2); clear g1 g2)
              go_roundw
              case rel => exact ⟨q + 1, _, a4, c5, by omega, by go_num, rfl, HO3.out, HB3.out⟩
              case measure => simp [intOf]; omega
            · rw [if_neg hpk] at hs
              have HSS := Lib.hid hs
              have t1 : (p1 == k) = false := by simpa using hpk
              clear hs hrk
              go_wp2
              go_roundw
              case rel => exact ⟨q + 1, m2, a2, c3, by omega, by go_num, rfl, by rw [HSS.out]; exact HO2.out, HB2.out⟩
              case measure => simp [intOf]; omega
          · obtain rfl : q = nR := by omega
            have hm2 : m2 ≤ 99999 := by have h1 := HHL.out q; have h2 := HO2.out.2.1; omega
            have hbs : base ≤ wr.heap.size := Nat.le_trans hsize HB2.out.size
            go_wp2_with (at_builtin; refine append_gg iv_rowed rfl (.tmp 52) (.tmp 54) rfl base (.slice a2 m2 c3) m2 (G q) rfl (HO2.out.alloc _) (some ⟨wr.heap.size, 0, none⟩) 1 1 [k] rfl (fun e => by cases e) (one_reads wr k #[.int .i64 k] 3 rfl) (by omega) (by rw [World.size_alloc]; omega) ?_; intro a4 c5 w4 g1 g2 g3; have HO4 := Lib.hid g1; have HB4 := Lib.hid ((HB2.out.alloc hbs (.cells #[.int .i64 k] 3)).trans g2); clear g1 g2 g3)
            go_ret
            have hl : F.length = m2 + 1 := by rw [HE.out, List.length_append, HO2.out.2.1]; rfl
            refine ⟨a4, c5, by rw [hl]; rfl, ?_, HB4.out⟩
            rw [hl, HE.out]
            exact HO4.out
end Go.Proofs.Ythmkmhfoicfapaa
