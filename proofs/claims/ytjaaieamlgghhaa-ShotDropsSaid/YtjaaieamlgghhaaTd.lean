/-
  What the reference's Right answers of any meta that reads (layer 12). Conditions: at most 65536 counts.
-/
import Derived.Test.YtjaaieamlgghhaaSy
namespace Go.Proofs.Ytjaaieamlgghhaa
open Go.RowKit
set_option linter.unusedVariables false

set_option maxRecDepth 20000 in
set_option maxHeartbeats 3200000 in
theorem refRight12 (w : World) (x : Mt) (M : MM) (h : MetaD w x M) (hK6 : x.cn ≤ 65536) : Calls Try.prog 14 #[.agg (mtA M x)] w (RightE (RightMt M) w) := by
  have hKl : M.K.length = x.cn := h.K.1.1
  by_cases hcr : 0 ≤ M.c ∧ M.c ≤ 6
  · by_cases h8 : M.S.length ≤ 8 ∧ M.B.length ≤ 8
    · exact refRight_main w x M h hcr h8.1 h8.2 (by omega)
    · have hno : Hid (RightMt M → false = true) := fun hr => absurd ⟨hr.nS, hr.nB⟩ h8
      obtain ⟨P, hP⟩ := named (RightMt M)
      rw [hP.out] at hno ⊢
      have hsl := h.S.lens
      have hml := h.B.lens
      obtain ⟨a0, n0, c0, sa, sn, sc, ma, mn, mc, ca, cn, cc⟩ := x
      obtain ⟨c, s, bk, T, S, B, K⟩ := M
      obtain ⟨hc, hs, hbk, hT, hS, hB, hK⟩ := h
      dsimp only [mtA] at hc hs hbk hcr h8 hsl hml hK6 hKl ⊢
      have HRT := Lib.hid (RtS.first w #[.int .i64 c, .int .i64 s, .string bk, .slice a0 n0 c0, .slice sa sn sc, .slice ma mn mc, .slice ca cn cc])
      have HSZ := Lib.hid (fun (n : Int) (hn : I64 n) (w : World) => szQ n c hn hcr w)
      have HNB := Lib.hid (fun (w : World) => nmQ bk hbk w)
      have dc1 : decide (c < 0) = false := decide_eq_false (by omega)
      have dc2 : decide (6 < c) = false := decide_eq_false (by omega)
      have dc3 : decide ((65536 : Int) < cn) = false := decide_eq_false (by omega)
      have HI := Lib.hid hs
      have hcs : decide ((8 : Int) < sn) = true ∨ (decide ((8 : Int) < sn) = false ∧ decide ((8 : Int) < mn) = true) := by
        rcases Nat.lt_or_ge 8 sn with h | h
        · exact Or.inl (decide_eq_true (by omega))
        · exact Or.inr ⟨decide_eq_false (by omega), decide_eq_true (by omega)⟩
      have hsn := hsl.2
      have hmn := hml.2
      clear hcr hs hbk hc hT hS hB hK h8 hKl hsl hml hP
      rcases hcs with k1 | ⟨k1, k2⟩
      all_goals
        go_enter Try.func14, Try.ntmps14
        cases he : bk.toList.isEmpty
      all_goals
        go_wp2_with (first
          | (go_at_call 50; refine (HSZ.out _ HI.out _).mono ?_; rintro e w1 ⟨B, rfl, h, hr⟩; have HRT := Lib.hid (HRT.out.later h); obtain ⟨m0, m1, m2, m3, m4, m5, m6⟩ := cells7 HRT.out.box; clear h hr; cases B)
          | (go_at_call 51; refine (HNB.out _).mono ?_; rintro e w2 ⟨B, rfl, h, hr⟩; have HRT := Lib.hid (HRT.out.later h); obtain ⟨m0, m1, m2, m3, m4, m5, m6⟩ := cells7 HRT.out.box; clear h hr; cases B))
      all_goals (go_ret; exact RightE.no rfl HRT.out.below hno.out)
  · have hno : Hid (RightMt M → false = true) := fun hr => absurd hr.c hcr
    obtain ⟨P, hP⟩ := named (RightMt M)
    rw [hP.out] at hno ⊢
    obtain ⟨a0, n0, c0, sa, sn, sc, ma, mn, mc, ca, cn, cc⟩ := x
    obtain ⟨c, s, bk, T, S, B, K⟩ := M
    dsimp only [mtA] at hcr ⊢
    have HB : Hid (Below w.heap.size w (w.alloc (.cells #[.int .i64 c, .int .i64 s, .string bk, .slice a0 n0 c0, .slice sa sn sc, .slice ma mn mc, .slice ca cn cc] 29))) := (Below.refl _ _).alloc (Nat.le_refl _) _
    have hcs : c < 0 ∨ (¬ c < 0 ∧ 6 < c) := by omega
    clear hcr h hKl hK6 hP
    rcases hcs with k1 | ⟨k1, k2⟩
    all_goals
      go_enter Try.func14, Try.ntmps14
      go_wp2
      go_ret
      exact RightE.no rfl HB.out hno.out
end Go.Proofs.Ytjaaieamlgghhaa
