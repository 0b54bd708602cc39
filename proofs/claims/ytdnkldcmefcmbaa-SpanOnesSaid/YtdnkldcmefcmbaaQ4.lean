/-
  What the reference's Split and Pieces answer. Conditions: none (Split); the slices read as pieces (Pieces).
-/
import Derived.Test.YtdnkldcmefcmbaaP4
import Derived.Lib.MinMax
namespace Go.Proofs.Ytdnkldcmefcmbaa
open Go.RowKit

theorem splitGo_step (m f p q : Nat) (h : 0 < q) : splitGo m (f + 1) p q = (((p / m : Nat) : Int), ((p % m : Nat) : Int), ((min q (m - p % m) : Nat) : Int)) :: splitGo m f (p + min q (m - p % m)) (q - min q (m - p % m)) := by
  rw [splitGo, if_neg (by omega)]
theorem splitGo_end (m f p : Nat) : splitGo m f p 0 = [] := by
  cases f with
  | zero => rfl
  | succ f => rw [splitGo, if_pos rfl]
theorem splitGo_fuel (m : Nat) (hm : 0 < m) : ∀ (q f f' p : Nat), q ≤ f → q ≤ f' → splitGo m f p q = splitGo m f' p q := by
  intro q
  induction q using Nat.strongRecOn with
  | ind q ih =>
    intro f f' p h1 h2
    by_cases h0 : q = 0
    · subst h0
      rw [splitGo_end, splitGo_end]
    · obtain ⟨g, rfl⟩ : ∃ g, f = g + 1 := ⟨f - 1, by omega⟩
      obtain ⟨g', rfl⟩ : ∃ g', f' = g' + 1 := ⟨f' - 1, by omega⟩
      have hc : 1 ≤ min q (m - p % m) := by
        have := Nat.mod_lt p hm
        omega
      rw [splitGo_step m g p q (by omega), splitGo_step m g' p q (by omega), ih (q - min q (m - p % m)) (by omega) g g' _ (by omega) (by omega)]
set_option maxHeartbeats 400000 in
theorem refSplit_bad (at' n c : Int) (w : World) (h : splitBad at' n c) : Calls Try.prog 24 #[.int .i64 at', .int .i64 n, .int .i64 c] w (PcPost w [] 1) := by
  have hp : PcPost w [] 1 (.returned (.tuple #[.slice none 0 0, .int .i64 1])) w := ⟨none, 0, rfl, Reads.nil _ _ _, ⟨fun _ => rfl, Nat.le_refl _⟩, Below.refl _ _⟩
  have HP := Lib.hid hp
  clear hp
  unfold splitBad at h
  rcases (by omega : c < 0 ∨ (0 ≤ c ∧ 6 < c) ∨ (0 ≤ c ∧ c ≤ 6 ∧ at' < 0) ∨ (0 ≤ c ∧ c ≤ 6 ∧ 0 ≤ at' ∧ 4096 < at') ∨ (0 ≤ c ∧ c ≤ 6 ∧ 0 ≤ at' ∧ at' ≤ 4096 ∧ n < 0) ∨ (0 ≤ c ∧ c ≤ 6 ∧ 0 ≤ at' ∧ at' ≤ 4096 ∧ 0 ≤ n ∧ 4096 < n)) with g | ⟨g1, g2⟩ | ⟨g1, g2, g3⟩ | ⟨g1, g2, g3, g4⟩ | ⟨g1, g2, g3, g4, g5⟩ | ⟨g1, g2, g3, g4, g5, g6⟩
  all_goals
    clear h
    go_enter Try.func24, Try.ntmps24
    go_wp2
    go_ret2
    exact HP.out
set_option maxHeartbeats 1600000 in
theorem refSplit_ok (p0 q0 c : Nat) (w : World) (hc : c ≤ 6) (hp : p0 ≤ 4096) (hq : q0 ≤ 4096) : Calls Try.prog 24 #[.int .i64 p0, .int .i64 q0, .int .i64 c] w (PcPost w (splitGo (2 ^ c) q0 p0 q0) 0) := by
  obtain ⟨M, hM, hM0, hM1⟩ : ∃ M : Nat, 2 ^ c = M ∧ 0 < M ∧ M ≤ 64 := ⟨2 ^ c, rfl, Nat.two_pow_pos c, Nat.le_trans (Nat.pow_le_pow_right (by decide) hc) (by decide : 2 ^ 6 ≤ 64)⟩
  have hMi : (2 : Int) ^ c = (M : Int) := by rw [← hM, Int.natCast_pow]; rfl
  rw [hM]
  obtain ⟨F, HF⟩ := named (splitGo M q0 p0 q0)
  rw [HF.out]
  have HMI := Lib.hid hMi
  have h1M : IntKind.i64.wrap ((2 : Int) ^ c) = (M : Int) := by rw [hMi, IntKind.wrap_i64]; omega
  clear hM hMi
  go_enter Try.func24, Try.ntmps24
  go_wp2
  go_loopw [0, 1, 8] (fun at' n o wr => ∃ (p q k : Nat) (x : Option Addr) (cc : Nat) (ol : List Pc), p + q ≤ 8192 ∧ q ≤ 4096 ∧ k + q ≤ 4096 ∧ at' = .int .i64 p ∧ n = .int .i64 q ∧ o = .slice x k cc ∧ Hid (OwnPc wr w.heap.size (.slice x k cc) k ol) ∧ Hid (Below w.heap.size w wr) ∧ Hid (ol ++ splitGo M q p q = F)) (fun _ n _ _ => (intOf n).toNat)
  case atStart => exact ⟨p0, q0, 0, none, 0, [], by omega, hq, by omega, rfl, rfl, rfl, OwnG.none _ _ _ _ _, Below.refl _ _, HF.out⟩
  case round =>
    obtain ⟨p, q, k, x, cc, ol, hpq, hq4, hkq, rfl, rfl, rfl, HO, HG, HFj⟩ := hrel
    by_cases hlt : 0 < q
    · obtain ⟨K, hK, hK2⟩ : ∃ K : Nat, (p : Int) / 2 ^ c = (K : Int) ∧ K = p / M := ⟨p / M, by rw [HMI.out, ← Int.natCast_ediv], rfl⟩
      have hdm := Nat.div_add_mod p M
      rw [← hK2] at hdm
      have hKM : M * K ≤ 8192 := by omega
      have hmc : M * K = K * M := Nat.mul_comm _ _
      have hmod := Nat.mod_lt p hM0
      obtain ⟨R, hR, hR2⟩ : ∃ R : Nat, R = p % M ∧ R < M := ⟨p % M, rfl, hmod⟩
      rw [← hR] at hdm
      obtain ⟨U, hU, hU2⟩ : ∃ U : Nat, IntKind.i64.wrap ((K : Int) * 2 ^ c) = (U : Int) ∧ U = K * M := ⟨K * M, by rw [HMI.out, IntKind.wrap_i64, ← Int.natCast_mul]; omega, rfl⟩
      have hpu : (p : Int) - (U : Int) = (R : Int) := by omega
      obtain ⟨V, hV, hV2⟩ : ∃ V : Nat, (M : Int) - (R : Int) = (V : Int) ∧ V = M - R := ⟨M - R, by omega, rfl⟩
      obtain ⟨C, hC, hC2⟩ : ∃ C : Nat, min (q : Int) (V : Int) = (C : Int) ∧ C = min q V := ⟨min q V, by omega, rfl⟩
      have HST := Lib.hid (splitGo_step M (q - 1) p q hlt)
      obtain ⟨Z, hZ, hZ2⟩ : ∃ Z : Nat, (p : Int) + (C : Int) = (Z : Int) ∧ Z = p + C := ⟨p + C, by omega, rfl⟩
      obtain ⟨Y, hY, hY2⟩ : ∃ Y : Nat, (q : Int) - (C : Int) = (Y : Int) ∧ Y = q - C := ⟨q - C, by omega, rfl⟩
      have hC1 : 1 ≤ C := by omega
      have hCq : C ≤ q := by omega
      have hYq : Y < q := by omega
      have hb1 : Z + Y ≤ 8192 := by omega
      have hb2 : k + 1 + Y ≤ 4096 := by omega
      have hk10 : k + 1 ≤ 10000 := by omega
      have HF2 : Hid (ol ++ [((K : Int), (R : Int), (C : Int))] ++ splitGo M Y Z Y = F) := by
        have h1 := HFj.out
        have h2 := HST.out
        rw [show q - 1 + 1 = q by omega, ← hR, ← hK2, show M - R = V by omega, ← hC2, ← hZ2, ← hY2] at h2
        rw [h2] at h1
        rw [Hid, List.append_assoc]
        have h3 : splitGo M (q - 1) Z Y = splitGo M Y Z Y := splitGo_fuel M hM0 Y (q - 1) Y Z (by omega) (Nat.le_refl _)
        rw [h3] at h1
        exact h1
      have HK2 := Lib.hid hK2
      have hUb : U ≤ 8192 := by omega
      clear hK2 hdm hmc hmod hR hR2 hU2 hV2 hC2 hZ2 hY2 hKM HST
      go_wp2_with (at_builtin; refine append_g pc_rowed rfl (.tmp 53) (.tmp 58) rfl w.heap.size _ k ol rfl (HO.out.alloc _) _ 1 1 [((K : Int), (R : Int), (C : Int))] rfl (fun e => by cases e) (one_reads _ ((K : Int), (R : Int), (C : Int)) _ _ rfl) (by omega) (Nat.le_trans HG.out.size (by simp)) ?_; intro x2 k2 w2 g1 g2; have HO2 := Lib.hid g1; have HG2 := Lib.hid ((HG.out.alloc HG.out.size _).trans g2); clear g1 g2)
      go_roundw
      case rel => exact ⟨Z, Y, k + 1, x2, k2, ol ++ [((K : Int), (R : Int), (C : Int))], by omega, by omega, by omega, rfl, rfl, rfl, HO2.out, HG2.out, HF2.out⟩
      case measure => simp [intOf]; omega
    · obtain rfl : q = 0 := by omega
      have h1 := HFj.out
      rw [splitGo_end, List.append_nil] at h1
      have HE := Lib.hid h1
      clear h1
      go_wp2
      go_ret2
      rw [← HE.out]
      exact PcPost.own HO.out HG.out

theorem refSplit_any (at' n c : Int) (w : World) : Calls Try.prog 24 #[.int .i64 at', .int .i64 n, .int .i64 c] w (PcPost w (splitL at' n c).1 (splitL at' n c).2) := by
  unfold splitL
  by_cases h : splitBad at' n c
  · rw [if_pos h]
    exact refSplit_bad at' n c w h
  · rw [if_neg h]
    unfold splitBad at h
    have := refSplit_ok at'.toNat n.toNat c.toNat w (by omega) (by omega) (by omega)
    rw [Int.toNat_of_nonneg (by omega), Int.toNat_of_nonneg (by omega), Int.toNat_of_nonneg (by omega)] at this
    exact this

/-! Two lists of pieces, one by one. -/
def samePc (l m : List Pc) (i : Nat) : Prop := ∀ k, k < i → pcAt l k = pcAt m k
theorem samePc_all {l m : List Pc} (hl : l.length = m.length) (h : samePc l m l.length) : l = m := by
  refine List.ext_getElem hl fun i h1 h2 => ?_
  have e := h i h1
  have a := pcAt_some l i h1
  have b := pcAt_some m i h2
  rw [List.getElem?_eq_getElem h1] at a
  rw [List.getElem?_eq_getElem h2] at b
  injection a with a
  injection b with b
  rw [a, b, e]
set_option maxHeartbeats 1600000 in
theorem refPieces_any (a1 a2 : Option Addr) (n1 n2 c1 c2 : Nat) (l m : List Pc) (w : World) (hA : Pieces w a1 n1 l) (hB : Pieces w a2 n2 m) :
    Calls Try.prog 25 #[.slice a1 n1 c1, .slice a2 n2 c2] w fun e w' => e = .returned (.bool (decide (l = m))) ∧ Below w.heap.size w w' := by
  by_cases hn : n1 = n2
  · subst hn
    obtain ⟨R, HR⟩ := named (decide (l = m))
    rw [HR.out]
    have HA := Lib.hid hA
    have HB := Lib.hid hB
    have hsz := hA.2.1
    have HL1 := Lib.hid hA.1
    have HL2 := Lib.hid hB.1
    clear hA hB
    go_enter Try.func25, Try.ntmps25
    go_wp2
    go_loopw [5] (fun i wr => ∃ j : Nat, j ≤ n1 ∧ i = .int .i64 j ∧ Hid (samePc l m j) ∧ Hid (Below w.heap.size w wr)) (fun i _ => n1 - (intOf i).toNat)
    case atStart => exact ⟨0, Nat.zero_le _, rfl, fun k hk => by omega, Below.refl _ _⟩
    case round =>
      obtain ⟨j, hj, rfl, HJ, HG⟩ := hrel
      by_cases hlt : j < n1
      · obtain ⟨b1, o1, rfl⟩ := HA.out.lies (by omega)
        obtain ⟨b2, o2, rfl⟩ := HB.out.lies (by omega)
        obtain ⟨d1, d2, d3⟩ := piece_cells (HA.out.later HG.out) j hlt
        obtain ⟨e1, e2, e3⟩ := piece_cells (HB.out.later HG.out) j hlt
        have hne : pcAt l j ≠ pcAt m j → R = false := fun h => by
          rw [← HR.out, decide_eq_false_iff_not]
          intro e
          exact h (by rw [e])
        have heq : pcAt l j = pcAt m j → Hid (samePc l m (j + 1)) := fun h k hk => by
          by_cases e : k = j
          · rw [e]; exact h
          · exact HJ.out k (by omega)
        obtain ⟨⟨f1, s1, t1⟩, HF1⟩ := named (pcAt l j)
        obtain ⟨⟨f2, s2, t2⟩, HF2⟩ := named (pcAt m j)
        rw [HF1.out] at d1 d2 d3 hne heq
        rw [HF2.out] at e1 e2 e3 hne heq
        have HNE := Lib.hid hne
        have HEQ := Lib.hid heq
        clear hne heq
        by_cases hf : f1 = f2
        · subst hf
          by_cases hs : s1 = s2
          · subst hs
            by_cases ht : t1 = t2
            · subst ht
              have HJ2 := HEQ.out rfl
              go_wp2
              go_region
              go_wp2
              go_roundw
              case rel => exact ⟨j + 1, by omega, by go_num, HJ2, HG.out.drew⟩
              case measure => simp [intOf]; omega
            · have hr : R = false := HNE.out fun e => ht (congrArg (fun x => x.2.2) e)
              subst hr
              go_wp2
              go_region
              go_wp2
              go_ret
              exact ⟨rfl, HG.out.drew⟩
          · have hr : R = false := HNE.out fun e => hs (congrArg (fun x => x.2.1) e)
            subst hr
            go_wp2
            go_region
            go_wp2
            go_ret
            exact ⟨rfl, HG.out.drew⟩
        · have hr : R = false := HNE.out fun e => hf (congrArg Prod.fst e)
          subst hr
          go_wp2
          go_region
          go_wp2
          go_ret
          exact ⟨rfl, HG.out.drew⟩
      · obtain rfl : j = n1 := by omega
        have hr : R = true := by rw [← HR.out, decide_eq_true_iff]; exact samePc_all (by rw [HL1.out, HL2.out]) (by rw [HL1.out]; exact HJ.out)
        subst hr
        go_wp2
        go_ret
        exact ⟨rfl, HG.out⟩
  · have hR : decide (l = m) = false := by
      rw [decide_eq_false_iff_not]
      intro e
      exact hn (by rw [← hA.1, ← hB.1, e])
    rw [hR]
    clear hA hB
    go_enter Try.func25, Try.ntmps25
    go_wp2
    go_ret
    exact ⟨rfl, Below.refl _ _⟩
end Go.Proofs.Ytdnkldcmefcmbaa
