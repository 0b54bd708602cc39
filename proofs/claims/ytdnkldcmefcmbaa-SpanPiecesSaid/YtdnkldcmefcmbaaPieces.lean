/-
  Proved: 'matryoshkalaw4.SpanPieces' returns true for every input, and each argument reads afterwards as before: the statement SpanPiecesSaid as given. Conditions: none beyond the row's own.
-/
import Derived.Test.YtdnkldcmefcmbaaRows
import Derived.Test.YtdnkldcmefcmbaaQ4
import Derived.Test.YtdnkldcmefcmbaaF4
import Derived.Test.YtdnkldcmefcmbaaW4
import Derived.Test.YtdnkldcmefcmbaaM4
import Derived.WalkKit
import Derived.ProofKit
import Derived.OpenShut
import Derived.ShutString
import Derived.ChangeOld
import Derived.Below
namespace Go.Proofs.Ytdnkldcmefcmbaa.spanPieces
open Go.ChangeShapes Go.WideShapes Go.ChangeAt Go.RowKit
open Go.ChangeMaps (open_string shut_string)
set_option linter.unusedVariables false

theorem own : ownKnob Try.prog.godebug = none := by kernel_rfl
theorem laidOut : laidOutB Try.prog = true := by kernel_rfl

theorem pc_drop (L : List Pc) (j : Nat) (h : j < L.length) : L.drop j = pcAt L j :: L.drop (j + 1) := by
  have e : pcAt L j = L[j] := by
    have := pcAt_some L j h
    rw [List.getElem?_eq_getElem h] at this
    injection this with this
    exact this.symm
  rw [List.drop_eq_getElem_cons h, e]
/-- One piece: where it lies, and what is left behind it. -/
theorem pc_step {L : List Pc} {M f P Q j : Nat} (hM : 0 < M) (hj : j < L.length) (h : L.drop j = splitGo M f P Q) (hQ : Q ≤ f) :
    ∃ C : Nat, 1 ≤ C ∧ C ≤ Q ∧ P % M + C ≤ M ∧ pcAt L j = (((P / M : Nat) : Int), ((P % M : Nat) : Int), (C : Int)) ∧ ∃ f', L.drop (j + 1) = splitGo M f' (P + C) (Q - C) ∧ Q - C ≤ f' := by
  have hq : 0 < Q := by
    rcases Nat.eq_zero_or_pos Q with h0 | h0
    · subst h0
      rw [splitGo_end, pc_drop L j hj] at h
      cases h
    · exact h0
  obtain ⟨f', rfl⟩ : ∃ f', f = f' + 1 := ⟨f - 1, by omega⟩
  rw [pc_drop L j hj, splitGo_step M f' P Q hq] at h
  injection h with h1 h2
  have hm := Nat.mod_lt P hM
  exact ⟨min Q (M - P % M), by omega, by omega, by omega, h1, f', h2, by omega⟩
theorem pc_done {L : List Pc} {M f P Q : Nat} (h : L.drop L.length = splitGo M f P Q) (hQ : Q ≤ f) : Q = 0 := by
  rcases Nat.eq_zero_or_pos Q with h0 | h0
  · exact h0
  · obtain ⟨f', rfl⟩ : ∃ f', f = f' + 1 := ⟨f - 1, by omega⟩
    rw [List.drop_length, splitGo_step M f' P Q h0] at h
    cases h

set_option maxRecDepth 20000 in
set_option maxHeartbeats 4000000 in
theorem walk (a0 : Int) (a1 : Int) (a2 : Int) (w : World) (w0 : (Lit.int .u16 a0).wf = true) (w1 : (Lit.int .u16 a1).wf = true) (w2 : (Lit.int .u8 a2).wf = true) :
    Calls Try.prog 7 #[.int .u16 a0, .int .u16 a1, .int .u8 a2] w fun e w' => e = .returned (.bool true) ∧ Below w.heap.size w w' := by
  have u1 := bounds_u16 w0
  have u2 := bounds_u16 w1
  have u3 := byte_of_wf w2
  obtain ⟨p0, hp0, hp1⟩ : ∃ p0 : Nat, a0 % 4097 = (p0 : Int) ∧ p0 ≤ 4096 := ⟨(a0 % 4097).toNat, by omega, by omega⟩
  obtain ⟨q0, hq0, hq1⟩ : ∃ q0 : Nat, a1 % 4097 = (q0 : Int) ∧ q0 ≤ 4096 := ⟨(a1 % 4097).toNat, by omega, by omega⟩
  obtain ⟨c, hc0, hc1⟩ : ∃ c : Nat, a2 % 7 = (c : Int) ∧ c ≤ 6 := ⟨(a2 % 7).toNat, by omega, by omega⟩
  obtain ⟨M, hM, hM0, hM1⟩ : ∃ M : Nat, 2 ^ c = M ∧ 0 < M ∧ M ≤ 64 := ⟨2 ^ c, rfl, Nat.two_pow_pos c, Nat.le_trans (Nat.pow_le_pow_right (by decide) hc1) (by decide : 2 ^ 6 ≤ 64)⟩
  have hMi : (2 : Int) ^ c = (M : Int) := by rw [← hM, Int.natCast_pow]; rfl
  have h1M : IntKind.i64.wrap ((2 : Int) ^ c) = (M : Int) := by rw [hMi, IntKind.wrap_i64]; omega
  have hsp : splitL p0 q0 c = (splitGo M q0 p0 q0, 0) := by
    unfold splitL
    rw [if_neg (by unfold splitBad; omega), Int.toNat_natCast, Int.toNat_natCast, Int.toNat_natCast, hM]
  have hF := fun w => spanSplit_any p0 q0 c w (by unfold I64; omega) (by unfold I64; omega) (by unfold I64; omega)
  rw [hsp] at hF
  have HF := Lib.hid hF
  have HMI := Lib.hid hMi
  obtain ⟨L, HL⟩ := named (splitGo M q0 p0 q0)
  rw [HL.out] at HF
  have hlen := splitGo_len M hM0 q0 p0 q0
  rw [HL.out] at hlen
  obtain ⟨N, HN⟩ := named L.length
  rw [HN.out] at hlen
  have HC0 := Lib.hid hc0
  clear w0 w1 w2 hM hMi hsp hF
  go_enter Try.func7, Try.ntmps7
  go_wp2_with (first
    | (go_at_call 26; go_in)
    | (go_at_call 23; (with_reducible refine (HF.out _).mono ?_); rintro e w1 hp; obtain ⟨x1, c9, rfl, hB, _, hb⟩ := hp.named HN.out; have HB1 := Lib.hid hB; have HG1 := Lib.hid hb; clear hp hB hb))
  clear u1 u2 u3 hp0 hq0
  go_loopw [12, 13] (fun nx i wr => ∃ (j P Q f : Nat), j ≤ N ∧ P + Q = p0 + q0 ∧ nx = .int .i64 P ∧ i = .int .i64 j ∧ Hid (L.drop j = splitGo M f P Q) ∧ Hid (Q ≤ f) ∧ Hid (Below w1.heap.size w1 wr)) (fun _ i _ => N - (intOf i).toNat)
  case atStart => exact ⟨0, p0, q0, q0, Nat.zero_le _, rfl, rfl, rfl, HL.out.symm, Nat.le_refl _, Below.refl _ _⟩
  case round =>
    obtain ⟨j, P, Q, f, hj, hPQ, rfl, rfl, HD, HQ, HG⟩ := hrel
    by_cases hlt : j < N
    · obtain ⟨b, off, rfl⟩ := HB1.out.lies (by omega)
      obtain ⟨e1, e2, e3⟩ := piece_cells (HB1.out.later HG.out) j hlt
      obtain ⟨C, k1, k2, k3, k4, f', k5, k6⟩ := pc_step hM0 (by rw [HN.out]; exact hlt) HD.out HQ.out
      have hdm := Nat.div_add_mod P M
      obtain ⟨K, HK⟩ := named (P / M)
      obtain ⟨R, HR⟩ := named (P % M)
      rw [HK.out, HR.out] at k4 hdm
      rw [HR.out] at k3
      rw [k4] at e1 e2 e3
      have HD2 := Lib.hid k5
      have HQ2 := Lib.hid k6
      have hmc : M * K = K * M := Nat.mul_comm _ _
      obtain ⟨U, hU, hU2⟩ : ∃ U : Nat, IntKind.i64.wrap ((K : Int) * 2 ^ c) = (U : Int) ∧ Hid (U = K * M) := ⟨K * M, by rw [HMI.out, IntKind.wrap_i64, ← Int.natCast_mul]; omega, rfl⟩
      have hUR : (U : Int) + (R : Int) = (P : Int) := by have := hU2.out; omega
      have hRC : R + C ≤ M := k3
      have hPC : P + C ≤ 8192 := by omega
      have hP2 : P + C + (Q - C) = p0 + q0 := by omega
      clear k4 k5 k6 hdm hmc k3
      have HGA := Lib.hid (HG.out.alloc HG.out.size (.cells #[.int .i64 K, .int .i64 R, .int .i64 C] 47))
      go_wp2
      go_roundw
      case rel => exact ⟨_, .int .i64 ((P + C : Nat) : Int), .int .i64 ((j + 1 : Nat) : Int), ⟨j + 1, by omega, P + C, Q - C, hP2, rfl, rfl, f', HD2.out, HQ2.out⟩, rfl, by go_num, by go_num⟩
      case measure => simp [intOf]; omega
    · obtain rfl : j = N := by omega
      have hq := pc_done (by rw [HN.out]; exact HD.out) HQ.out
      have hpq : (P : Int) = (p0 : Int) + (q0 : Int) := by omega
      clear hPQ
      go_wp2_with (go_at_call 11; refine (awake_any _).mono ?_; rintro e w5 ⟨rfl, hb⟩; have HZ := Lib.hid ((HG1.out.trans (HG.out.mono HG1.out.size)).trans (hb.mono (HG1.out.trans (HG.out.mono HG1.out.size)).size)); clear hb)
      go_ret
      exact ⟨rfl, HZ.out⟩

set_option maxRecDepth 100000 in
theorem lifted (os : Os) (started : os.Started) (H : Type) (enc : TypeId × Value → H) :
    ReturnsInHanded {} Try.checked os 7 .any (Rows.spanPiecesSpec.pre6 enc Try.prog Try.f7 Rows.spanPiecesRow.domain false) (Rows.spanPiecesSpec.post enc Try.prog Try.f7 false true false false) := by
  refine returnsInHanded_of_change (C := Try.checked) own started (by kernel_rfl) Try.func7
    (ChangeSpec.witness6 (enc := enc) (C := Try.checked) false ⟨#[], #[.int .u16 0, .int .u16 0, .int .u8 0], []⟩ 8 (by kernel_rfl) (by kernel_rfl) (by kernel_rfl) (by kernel_rfl)) ?_
  intro W base args ds gs before hval0 hW hcnd _
  have hval : ∀ (j : Nat) t v, Try.f7.params[j]? = some t → args[j]? = some v → Value.okWide Try.prog W .any base t v := hval0
  have hW' := hW
  obtain ⟨p, q, hA0, hV, rfl, hfz, hnd⟩ := hW
  have hA : DataW.TrodAll enc Try.prog W 0 (fun _ => true) true Try.f7.params.toList args.toList ds p := hA0
  rw [Try.params7] at hA hval
  obtain ⟨v0, vs0, d0, ds0, p0, q0, hargs, rfl, rfl, h0, r0⟩ := trodAll_cons hA
  obtain ⟨v1, vs1, d1, ds1, p1, q1, rfl, rfl, rfl, h1, r1⟩ := trodAll_cons r0
  obtain ⟨v2, vs2, d2, ds2, p2, q2, rfl, rfl, rfl, h2, r2⟩ := trodAll_cons r1
  obtain ⟨rfl, rfl, rfl⟩ := trodAll_nil r2
  obtain rfl : args = #[v0, v1, v2] := by cases args; simp_all
  obtain ⟨rfl, rfl⟩ := trodVars_none hV
  have k0 := h0
  have lt0 : ∀ x ∈ p0, x.block < W.heap.size := by obtain ⟨m, hm⟩ := k0; exact DataW.trod_lt m _ _ _ hm
  obtain ⟨a0, rfl, _, _, w0⟩ := open_int Try.underlying45 (hval 0 45 v0 rfl rfl) h0
  have k1 := h1
  have lt1 : ∀ x ∈ p1, x.block < W.heap.size := by obtain ⟨m, hm⟩ := k1; exact DataW.trod_lt m _ _ _ hm
  obtain ⟨a1, rfl, _, _, w1⟩ := open_int Try.underlying45 (hval 1 45 v1 rfl rfl) h1
  have k2 := h2
  have lt2 : ∀ x ∈ p2, x.block < W.heap.size := by obtain ⟨m, hm⟩ := k2; exact DataW.trod_lt m _ _ _ hm
  obtain ⟨a2, rfl, _, _, w2⟩ := open_int Try.underlying5 (hval 2 5 v2 rfl rfl) h2
  clear hA0 hval0
  refine (walk a0 a1 a2 W w0 w1 w2).mono fun e W' ⟨he, bel⟩ => ?_
  subst he
  exact ⟨_, rfl, _, _, _, [], _, [], hW', trodAll_mk1 (shut_bool Try.underlying4 _), (trodAll_cons_mk (Below.trod laidOut (by kernel_rfl) (of_decide_eq_true (by kernel_rfl)) k0 bel lt0) (trodAll_cons_mk (Below.trod laidOut (by kernel_rfl) (of_decide_eq_true (by kernel_rfl)) k1 bel lt1) (trodAll_cons_mk (Below.trod laidOut (by kernel_rfl) (of_decide_eq_true (by kernel_rfl)) k2 bel lt2) trodAll_mk0))), rfl, bel.frame _, fun h => by cases h⟩

theorem over : Rows.spanPiecesRow.holds Try.pinned (OpenSpec.ofChange Rows.spanPiecesSpec) :=
  OpenClaim.holds_of_wide 7 Try.f7 rfl rfl rfl rfl rfl rfl rfl ⟨rfl, rfl, rfl, rfl, rfl⟩ rfl rfl rfl rfl rfl (by kernel_rfl) Try.func7 (by kernel_rfl)
    (of_decide_eq_true (by kernel_rfl)) (by unfold Func.isWrapper; first | (rw [if_pos (by decide +kernel)]; kernel_rfl) | (rw [if_neg (by decide +kernel)]; exact ⟨rfl, rfl⟩))
    (fun os started H enc _ => lifted os started H enc)

/-- The statement. -/
theorem proved : Rows.SpanPiecesSaid := over
#print axioms proved
end Go.Proofs.Ytdnkldcmefcmbaa.spanPieces
