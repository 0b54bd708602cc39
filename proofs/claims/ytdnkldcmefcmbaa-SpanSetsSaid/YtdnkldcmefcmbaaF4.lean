/-
  What the project's own Split answers (package span). Conditions: none.
-/
import Derived.Test.YtdnkldcmefcmbaaK4
import Derived.Test.YtdnkldcmefcmbaaQ4
import Derived.Laws.Rows
namespace Go.Proofs.Ytdnkldcmefcmbaa
open Go.RowKit Go.Shelf
set_option linter.unusedVariables false

theorem isOfDisk_any (n : Int) (B : Bool) (hB : (decide (0 ≤ n) && decide (n ≤ 4096)) = B) (w : World) : Calls Try.prog 34 #[.int .i64 n] w fun e w' => e = .returned (.bool B) ∧ w = w' := by
  by_cases h1 : 0 ≤ n
  · go_enter Try.func34, Try.ntmps34
    go_wp2
    go_ret
    exact ⟨ret_bool (by rw [← hB]; simp [h1]), rfl⟩
  · go_enter Try.func34, Try.ntmps34
    go_wp2
    go_ret
    exact ⟨ret_bool (by rw [← hB]; simp; omega), rfl⟩

set_option maxHeartbeats 800000 in
theorem firstPiece_any (p q M : Nat) (hM : 0 < M) (hM2 : M ≤ 64) (hp : p ≤ 8192) (hq : q ≤ 4096) (w : World) : Calls Try.prog 35 #[.int .i64 p, .int .i64 q, .int .i64 M] w fun e w' => e = .returned (.agg #[.int .i64 ((p / M : Nat) : Int), .int .i64 ((p % M : Nat) : Int), .int .i64 ((min q (M - p % M) : Nat) : Int)]) ∧ Below w.heap.size w w' := by
  have hlt := Nat.mod_lt p hM
  have hdl := Nat.div_le_self p M
  obtain ⟨K, hK, hK2⟩ : ∃ K : Nat, (p : Int) / (M : Int) = (K : Int) ∧ K = p / M := ⟨p / M, by rw [← Int.natCast_ediv], rfl⟩
  obtain ⟨R, hR, hR2⟩ : ∃ R : Nat, (p : Int) % (M : Int) = (R : Int) ∧ R = p % M := ⟨p % M, by rw [← Int.natCast_emod], rfl⟩
  rw [← hK2, ← hR2]
  rw [← hR2] at hlt
  rw [← hK2] at hdl
  obtain ⟨V, hV, hV2⟩ : ∃ V : Nat, (M : Int) - (R : Int) = (V : Int) ∧ V = M - R := ⟨M - R, by omega, rfl⟩
  obtain ⟨C, hC, hC2⟩ : ∃ C : Nat, min (q : Int) (V : Int) = (C : Int) ∧ C = min q V := ⟨min q V, by omega, rfl⟩
  rw [← hV2, ← hC2]
  clear hK2 hR2 hV2 hC2
  go_enter Try.func35, Try.ntmps35
  go_wp2
  refine bodyPost_ret (results_cell_row rfl _ _ w.heap.size 47 #[.int .i64 K, .int .i64 R, .int .i64 C] (0, 0) _ rfl (Blk.new w _ _) Try.underlying47 rfl (by kernel_rfl)) rfl ?_
  exact ⟨rfl, (Below.refl _ _).alloc (Nat.le_refl _) _⟩

set_option maxHeartbeats 800000 in
theorem spanSplit_bad (at' n c : Int) (w : World) (h : splitBad at' n c) : Calls Try.prog 23 #[.int .i64 at', .int .i64 n, .int .i64 c] w (PcPost w [] 1) := by
  have hp : PcPost w [] 1 (.returned (.tuple #[.slice none 0 0, .int .i64 1])) w := ⟨none, 0, rfl, Reads.nil _ _ _, ⟨fun _ => rfl, Nat.le_refl _⟩, Below.refl _ _⟩
  have HP := Lib.hid hp
  clear hp
  unfold splitBad at h
  rcases (by omega : c < 0 ∨ (0 ≤ c ∧ 6 < c) ∨ (0 ≤ c ∧ c ≤ 6 ∧ ¬ (0 ≤ at' ∧ at' ≤ 4096)) ∨ (0 ≤ c ∧ c ≤ 6 ∧ (0 ≤ at' ∧ at' ≤ 4096) ∧ ¬ (0 ≤ n ∧ n ≤ 4096))) with g | ⟨g1, g2⟩ | ⟨g1, g2, g3⟩ | ⟨g1, g2, g3, g4⟩
  · clear h
    go_enter Try.func23, Try.ntmps23
    go_wp2
    go_ret2
    exact HP.out
  · clear h
    go_enter Try.func23, Try.ntmps23
    go_wp2
    go_ret2
    exact HP.out
  · have HA := Lib.hid (isOfDisk_any at' false (by simp; omega) w)
    clear h g3
    go_enter Try.func23, Try.ntmps23
    go_wp2_with (go_at_call 34; refine HA.out.mono ?_; clear HA; rintro e w1 ⟨rfl, rfl⟩)
    go_ret2
    exact HP.out
  · have HA := Lib.hid (isOfDisk_any at' true (by simp; omega) w)
    have HN := Lib.hid (isOfDisk_any n false (by simp; omega) w)
    clear h g3 g4
    go_enter Try.func23, Try.ntmps23
    go_wp2_with (first
      | (go_at_call 34; refine HA.out.mono ?_; clear HA; rintro e w1 ⟨rfl, rfl⟩)
      | (go_at_call 34; refine HN.out.mono ?_; clear HN; rintro e w1 ⟨rfl, rfl⟩))
    go_ret2
    exact HP.out

set_option maxHeartbeats 1600000 in
theorem spanSplit_ok (p0 q0 c : Nat) (w : World) (hc : c ≤ 6) (hp : p0 ≤ 4096) (hq : q0 ≤ 4096) : Calls Try.prog 23 #[.int .i64 p0, .int .i64 q0, .int .i64 c] w (PcPost w (splitGo (2 ^ c) q0 p0 q0) 0) := by
  obtain ⟨M, hM, hM0, hM1⟩ : ∃ M : Nat, 2 ^ c = M ∧ 0 < M ∧ M ≤ 64 := ⟨2 ^ c, rfl, Nat.two_pow_pos c, Nat.le_trans (Nat.pow_le_pow_right (by decide) hc) (by decide : 2 ^ 6 ≤ 64)⟩
  have hMi : (2 : Int) ^ c = (M : Int) := by rw [← hM, Int.natCast_pow]; rfl
  rw [hM]
  obtain ⟨F, HF⟩ := named (splitGo M q0 p0 q0)
  rw [HF.out]
  have h1M : IntKind.i64.wrap ((2 : Int) ^ c) = (M : Int) := by rw [hMi, IntKind.wrap_i64]; omega
  have HA := Lib.hid (isOfDisk_any p0 true (by simp; omega) w)
  have HN := Lib.hid (isOfDisk_any q0 true (by simp; omega) w)
  clear hM hMi
  go_enter Try.func23, Try.ntmps23
  go_wp2_with (first
    | (go_at_call 34; refine HA.out.mono ?_; clear HA; rintro e w1 ⟨rfl, rfl⟩)
    | (go_at_call 34; refine HN.out.mono ?_; clear HN; rintro e w1 ⟨rfl, rfl⟩))
  go_loopw [0, 1, 8] (fun at' n o wr => ∃ (p q k : Nat) (x : Option Addr) (cc : Nat) (ol : List Pc), p + q ≤ 8192 ∧ q ≤ 4096 ∧ k + q ≤ 4096 ∧ at' = .int .i64 p ∧ n = .int .i64 q ∧ o = .slice x k cc ∧ Hid (OwnPc wr w.heap.size (.slice x k cc) k ol) ∧ Hid (Below w.heap.size w wr) ∧ Hid (ol ++ splitGo M q p q = F)) (fun _ n _ _ => (intOf n).toNat)
  case atStart => exact ⟨p0, q0, 0, none, 0, [], by omega, hq, by omega, rfl, rfl, rfl, OwnG.none _ _ _ _ _, Below.refl _ _, HF.out⟩
  case round =>
    obtain ⟨p, q, k, x, cc, ol, hpq, hq4, hkq, rfl, rfl, rfl, HO, HG, HFj⟩ := hrel
    by_cases hlt : 0 < q
    · have hmod := Nat.mod_lt p hM0
      have HFP := Lib.hid (firstPiece_any p q M hM0 hM1 (by omega) hq4 wr)
      have HST := Lib.hid (splitGo_step M (q - 1) p q hlt)
      obtain ⟨C, hC⟩ : ∃ C : Nat, C = min q (M - p % M) := ⟨_, rfl⟩
      obtain ⟨K, hK⟩ : ∃ K : Nat, K = p / M := ⟨_, rfl⟩
      obtain ⟨R, hR⟩ : ∃ R : Nat, R = p % M := ⟨_, rfl⟩
      rw [← hC, ← hK, ← hR] at HFP HST
      obtain ⟨Z, hZ, hZ2⟩ : ∃ Z : Nat, (p : Int) + (C : Int) = (Z : Int) ∧ Z = p + C := ⟨p + C, by omega, rfl⟩
      obtain ⟨Y, hY, hY2⟩ : ∃ Y : Nat, (q : Int) - (C : Int) = (Y : Int) ∧ Y = q - C := ⟨q - C, by omega, rfl⟩
      have hC1 : 1 ≤ C := by omega
      have hCq : C ≤ q := by omega
      have hYq : Y < q := by omega
      have hb1 : Z + Y ≤ 8192 := by omega
      have hb2 : k + 1 + Y ≤ 4096 := by omega
      have hk10 : k + 1 ≤ 10000 := by omega
      have HF2 : Hid (ol ++ [((K : Int), (R : Int), (C : Int))] ++ splitGo M Y Z Y = F) := by
        have h1 := HFj.out
        have h2 := HST.out
        rw [show q - 1 + 1 = q by omega, ← hZ2, ← hY2] at h2
        rw [h2] at h1
        rw [Hid, List.append_assoc]
        have h3 : splitGo M (q - 1) Z Y = splitGo M Y Z Y := splitGo_fuel M hM0 Y (q - 1) Y Z (by omega) (Nat.le_refl _)
        rw [h3] at h1
        exact h1
      clear hC hK hR hmod hZ2 hY2 HST
      go_wp2_with (first
        | (go_at_call 35; refine HFP.out.mono ?_; clear HFP; rintro e w1 ⟨rfl, hb⟩; have HG1 := Lib.hid (HG.out.trans (hb.mono HG.out.size)); have HO1 := Lib.hid (HO.out.kept' (grown_of_below hb) (fun _ _ e => by cases e)); clear hb)
        | (at_builtin; refine append_gg pc_rowed rfl (.tmp 33) (.tmp 35) rfl w.heap.size _ k ol rfl ((HO1.out.alloc _).alloc _) (some ⟨w1.heap.size + 1, 0, none⟩) 1 1 [((K : Int), (R : Int), (C : Int))] rfl (fun e => by cases e) (one_reads2 w1 _ ((K : Int), (R : Int), (C : Int)) _ _ rfl) (by omega) (Nat.le_trans HG1.out.size (by simp; omega)) ?_; intro x2 k2 w2 g1 g2 g3; have HO2 := Lib.hid g1; have hp2 := (((Blk.new w1 47 #[.int .i64 K, .int .i64 R, .int .i64 C]).alloc _).kept g3 (fun e => HO1.out.low _ (Or.inr (Nat.le_refl _)) e.symm)).cell 2; have HG2 := Lib.hid (((HG1.out.alloc HG1.out.size _).alloc (by rw [World.size_alloc]; exact Nat.le_succ_of_le HG1.out.size) _).trans g2); clear g1 g2 g3))
      go_roundw
      case rel => exact ⟨Z, Y, k + 1, x2, k2, ol ++ [((K : Int), (R : Int), (C : Int))], by omega, by omega, by omega, rfl, rfl, rfl, HO2.out, HG2.out, HF2.out⟩
      case measure => simp [intOf]; omega
    · obtain rfl : q = 0 := by omega
      have h1 := HFj.out
      rw [splitGo_end, List.append_nil] at h1
      have HE := Lib.hid h1
      clear h1
      go_wp2
      go_ret2
      rw [← HE.out]
      exact PcPost.own HO.out HG.out
theorem spanSplit_any (at' n c : Int) (w : World) (h1 : I64 at') (h2 : I64 n) (h3 : I64 c) : Calls Try.prog 23 #[.int .i64 at', .int .i64 n, .int .i64 c] w (PcPost w (splitL at' n c).1 (splitL at' n c).2) := by
  unfold splitL
  by_cases h : splitBad at' n c
  · rw [if_pos h]
    exact spanSplit_bad at' n c w h
  · rw [if_neg h]
    unfold splitBad at h
    have := spanSplit_ok at'.toNat n.toNat c.toNat w (by omega) (by omega) (by omega)
    rw [Int.toNat_of_nonneg (by omega), Int.toNat_of_nonneg (by omega), Int.toNat_of_nonneg (by omega)] at this
    exact this
theorem spanRight_any (a : Option Addr) (len cap : Nat) (l : List Sp) (w : World) (hB : Spans w a len l) (hcap : len ≤ cap) (hnil : a = none → cap = 0) (hlen : len ≤ 100000) (hf : SpFit l) (R : Bool) (hR : decide (Rt (-1) l) = R) :
    Calls Try.prog 12 #[.slice a len cap] w fun e w' => e = .returned (.bool R) ∧ Below w.heap.size w w' := spanRight_is a len cap l w hB hlen R hR
end Go.Proofs.Ytdnkldcmefcmbaa
