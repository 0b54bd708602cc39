/-
  What the project's own disk answers, call by call (package disk): Write. Conditions: the disk as it lies, no more than 1000000 sectors written before.
-/
import Derived.Test.YtnhaidofblfopaaW5
namespace Go.Proofs.Ytnhaidofblfopaa
open Go.RowKit

theorem chunks_at (b : List Int) (j : Nat) (h : j < b.length / 16) : (chunks b)[j]? = some ((b.drop (16 * j)).take 16) := by
  unfold chunks
  rw [List.getElem?_map, List.getElem?_range h]
  rfl
theorem chunks_len (b : List Int) : (chunks b).length = b.length / 16 := by simp [chunks]
set_option maxHeartbeats 1000000 in
set_option maxRecDepth 100000 in
theorem diskWrite_any {w0 w : World} {p : Addr} {D D' : Dsk} {S : Nat → Prop} (h : Has w0 p D w S) (s : Nm) (at' : Int) (h1 : -9223372036854775808 ≤ at' ∧ at' ≤ 9223372036854775807) (a : Option Addr) (len cap : Nat) (b : List Int) (hB : Out S w a len b) (hcap : len ≤ cap) (_hnil : a = none → cap = 0) (hlen : len ≤ 100000) (E : Int) (he : D.write s at' b = (E, D')) (hcnt : D.cnt ≤ 1000000) :
    Calls Try.prog 14 #[.pointer (some p), .string s, .int .i64 at', .slice a len cap] w (Gives w0 p D' (.int .i64 E) S w) := by
  obtain ⟨B, room, vF, L, cnt, fails, dead, rfl, rfl, hd, hr⟩ := h.open'
  unfold Dsk.write at he
  have HD := Lib.hid hd
  have HR := Lib.hid hr
  have HH := Lib.hid h
  have HB := Lib.hid hB
  have hbl : b.length = len := hB.1.1
  rw [hr.cntEq] at hcnt
  clear hd hr h hB
  cases dead with
  | true =>
    rw [if_pos (show D.dead = true from HR.out.deadEq)] at he
    cases he
    go_enter Try.func14, Try.ntmps14
    go_wp2_with (go_at_call 30; refine (open_dead HD.out s).mono ?_; rintro e w' ⟨rfl, rfl⟩)
    go_ret
    exact HH.out.close' HD.out HR.out (Away.refl _ _) _
  | false =>
    rw [if_neg (by rw [HR.out.deadEq]; simp)] at he
    cases hg : fget D.files s with
    | none =>
      rw [hg] at he
      cases he
      have HN := Lib.hid (HR.out.none.1 hg)
      clear hg
      go_enter Try.func14, Try.ntmps14
      go_wp2_with (go_at_call 30; refine (open_none HD.out HR.out.rise HR.out.many s HN.out).mono ?_; rintro e w' ⟨rfl, rfl⟩)
      go_ret
      exact HH.out.close' HD.out HR.out (Away.refl _ _) _
    | some v =>
      rw [hg] at he
      dsimp only at he
      obtain ⟨f, hf, rfl, rfl⟩ := HR.out.there hg
      dsimp only at he
      have HF := Lib.hid hf
      have HFA := Lib.hid (HD.out.file f hf)
      have hfl : f.now.length ≤ 65536 := by
        obtain ⟨_, _, _, hF⟩ := HFA.out
        exact hF.ok.now
      have hus : usedF D.files = sizes L := HR.out.used
      have husl := sizes_le (w := w) L HD.out.file
      have hLm := HR.out.many
      rw [hus, HR.out.roomEq, hbl] at he
      obtain ⟨M, hM⟩ := named f.now.length
      rw [hM.out] at he hfl
      obtain ⟨U, hU⟩ := named (sizes L)
      rw [hU.out] at he husl
      have c0 := HD.out.c0
      obtain ⟨m, hm⟩ : ∃ m, m = len / 16 := ⟨_, rfl⟩
      obtain ⟨r, hr⟩ : ∃ r, r = len % 16 := ⟨_, rfl⟩
      have hdm : len = 16 * m + r := by omega
      have htm : (len : Int).tmod 16 = (r : Int) := by rw [Int.tmod_eq_emod_of_nonneg (by omega)]; omega
      have htd : (len : Int).tdiv 16 = (m : Int) := by rw [Int.tdiv_eq_ediv_of_nonneg (by omega)]; omega
      rw [← hr, ← hm] at he
      have hb0 : b ≠ [] ↔ 0 < len := by
        rw [← hbl]
        exact List.length_pos_iff.symm
      clear hg hf hus
      by_cases q1 : r = 0
      · have hlm : len = 16 * m := by omega
        have hmp : b ≠ [] ↔ 0 < m := by rw [hb0]; omega
        rw [if_neg (by omega)] at he
        have q1' : (r : Int) = 0 := by omega
        have hmB : m ≤ 10000 := by omega
        have HLM := Lib.hid hlm
        clear hr hm hdm hb0
        by_cases q2 : at' < 0 ∨ b ≠ [] ∧ 65536 < at' + (m : Int)
        · rw [if_pos q2] at he
          cases he
          rw [hmp] at q2
          clear hmp hlm
          by_cases q3 : at' < 0
          · go_enter Try.func14, Try.ntmps14
            go_wp2_with (go_at_call 30; refine (open_some HD.out HR.out.rise HR.out.many HF.out).mono ?_; rintro e w' ⟨rfl, rfl⟩)
            go_ret
            exact HH.out.close' HD.out HR.out (Away.refl _ _) _
          · have q4 : 0 < (m : Int) := by omega
            have q5 : 65536 - (m : Int) < at' := by omega
            go_enter Try.func14, Try.ntmps14
            go_wp2_with (go_at_call 30; refine (open_some HD.out HR.out.rise HR.out.many HF.out).mono ?_; rintro e w' ⟨rfl, rfl⟩)
            go_ret
            exact HH.out.close' HD.out HR.out (Away.refl _ _) _
        · rw [if_neg q2] at he
          rw [hmp] at q2
          have q3 : ¬ at' < 0 := by omega
          have q5 : 0 < m → ¬ 65536 - (m : Int) < at' := by omega
          obtain ⟨A, rfl⟩ : ∃ A : Nat, at' = (A : Int) := ⟨at'.toNat, by omega⟩
          rw [Int.toNat_natCast] at he
          by_cases q6 : 0 < m
          · have q7 : b ≠ [] := hmp.2 q6
            have q8 : ¬ 65536 - (m : Int) < (A : Int) := q5 q6
            have q9 : 0 < (m : Int) := by omega
            have hAm : A + m ≤ 65536 := by omega
            have q10 : (U : Int) ≤ 100000000 := by omega
            have hAM : (0 : Int) ≤ A := by omega
            have HLX := Lib.hid hlm
            have htd' := htd
            clear q5 q2 hlm hmp
            have HUQ : Hid (∀ q, Calls Try.prog 24 #[.pointer (some ⟨B, 0, none⟩)] (w.drewN q) fun e w'' => e = .returned (.int .i64 U) ∧ w'' = w.drewN q) := by
              rw [Hid, ← hU.out]
              exact fun q => used_any (HD.out.frame (w' := w.drewN q) fun _ _ => rfl) hLm
            have HSQ : Hid (∀ q, Calls Try.prog 31 #[.pointer (some ⟨f.G, 0, none⟩)] (w.drewN q) fun e w'' => e = .returned (.int .i64 M) ∧ w'' = w.drewN q) := by
              rw [Hid, ← hM.out]
              exact fun q => fileIn_size (HFA.out.frame (w' := w.drewN q) fun _ _ => rfl)
            by_cases q11 : (room : Int) < (U : Int) + (max (M : Int) ((A : Int) + (m : Int)) - (M : Int))
            · rw [if_pos ⟨q7, q11⟩] at he
              cases he
              have q12 : (room : Int) < (U : Int) + (if (0 : Int) < (A : Int) + (m : Int) - (M : Int) then (A : Int) + (m : Int) - (M : Int) else 0) := by split <;> omega
              clear q7 q11
              go_enter Try.func14, Try.ntmps14
              go_wp2_with (go_at_call 30; refine (open_some HD.out HR.out.rise HR.out.many HF.out).mono ?_; rintro e w' ⟨rfl, rfl⟩)
              go_quiet (first | (go_at_call 24; exact Calls.quiet_of_same (HUQ.out _)) | (go_at_call 31; exact Calls.quiet_of_same (HSQ.out _)))
              go_wp2
              all_goals go_ret
              all_goals exact HH.out.close' (HD.out.frame (w' := w'.drewN nq) fun _ _ => rfl) HR.out (Away.of_below _ (below_drewN (Below.refl _ _) nq)) _
            · rw [if_neg (fun h => q11 h.2)] at he
              have q12 : ¬ (room : Int) < (U : Int) + (if (0 : Int) < (A : Int) + (m : Int) - (M : Int) then (A : Int) + (m : Int) - (M : Int) else 0) := by split <;> omega
              clear q7 q11
              obtain ⟨L1, L2, rfl⟩ := mid_of HF.out
              have HE := Lib.hid he
              clear he
              go_enter Try.func14, Try.ntmps14
              go_wp2_with (go_at_call 30; refine (open_some HD.out HR.out.rise HR.out.many HF.out).mono ?_; rintro e w' ⟨rfl, rfl⟩)
              go_quiet (first | (go_at_call 24; exact Calls.quiet_of_same (HUQ.out _)) | (go_at_call 31; exact Calls.quiet_of_same (HSQ.out _)))
              go_wp2_with (go_at_call 32; refine (writeSectors_any (HD.out.frame (w' := w'.drewN nq) fun _ _ => rfl) HR.out a len cap b (chunks b) m A (HB.out.later (below_drewN (Below.refl _ _) nq)) hcap HLX.out (fun j hj => chunks_at b j (by rw [hbl]; have := HLX.out; omega)) (by rw [chunks_len, hbl]; have := HLX.out; omega) hmB (Or.inr hAm) (by omega)).mono ?_; rintro e w5 ⟨L', cnt', dead', rfl, p1, p2, p3⟩; rw [HE.out] at p2 ⊢)
              all_goals go_ret
              all_goals exact HH.out.close' p1 p2 ((Away.of_below _ (below_drewN (Below.refl _ _) nq)).trans p3) _
          · obtain rfl : m = 0 := by omega
            have hbe : b = [] := by
              cases b with
              | nil => rfl
              | cons _ _ => exact absurd (hmp.1 (by simp)) q6
            subst hbe
            rw [if_neg (by simp)] at he
            cases he
            obtain rfl : len = 0 := by omega
            clear hmp q2 q5 q6 hlm HLM
            subst q1
            have htm' : ((0 : Nat) : Int).tmod 16 = 0 := rfl
            clear htm htd q1'
            have htd : ((0 : Nat) : Int).tdiv 16 = 0 := rfl
            have q10 : ¬ (0 : Int) < ((0 : Nat) : Int) := by omega
            obtain ⟨L1, L2, rfl⟩ := mid_of HF.out
            go_enter Try.func14, Try.ntmps14
            go_wp2_with (go_at_call 30; refine (open_some HD.out HR.out.rise HR.out.many HF.out).mono ?_; rintro e w' ⟨rfl, rfl⟩)
            go_quiet (fail)
            go_wp2_with (go_at_call 32; refine (writeSectors_any (HD.out.frame (w' := w'.drewN nq) fun _ _ => rfl) HR.out a 0 cap [] [] 0 A (HB.out.later (below_drewN (Below.refl _ _) nq)) hcap rfl (fun j hj => by omega) rfl (by omega) (Or.inl rfl) (by omega)).mono ?_; rintro e w5 ⟨L', cnt', dead', rfl, p1, p2, p3⟩)
            all_goals go_ret
            all_goals exact HH.out.close' p1 p2 ((Away.of_below _ (below_drewN (Below.refl _ _) nq)).trans p3) _
      · rw [if_pos q1] at he
        cases he
        have q1' : ¬ (r : Int) = 0 := by omega
        clear hr hm hdm hb0
        go_enter Try.func14, Try.ntmps14
        go_wp2_with (go_at_call 30; refine (open_some HD.out HR.out.rise HR.out.many HF.out).mono ?_; rintro e w' ⟨rfl, rfl⟩)
        go_ret
        exact HH.out.close' HD.out HR.out (Away.refl _ _) _
end Go.Proofs.Ytnhaidofblfopaa
