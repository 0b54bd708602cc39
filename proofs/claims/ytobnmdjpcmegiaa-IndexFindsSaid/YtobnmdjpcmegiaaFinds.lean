/-
  Proved: 'matryoshkalaw11.IndexFinds' returns true for every input (any two bytes), and the arguments read afterwards as before: the statement IndexFindsSaid as given. Conditions: none beyond the row's own.
-/
import Derived.Test.YtobnmdjpcmegiaaRows
import Derived.Test.YtobnmdjpcmegiaaKq
import Derived.Test.YtobnmdjpcmegiaaKr
import Derived.WalkKit
import Derived.ProofKit
import Derived.OpenShut
import Derived.ShutString
import Derived.ChangeOld
import Derived.Below
namespace Go.Proofs.Ytobnmdjpcmegiaa.indexFinds
open Go.ChangeShapes Go.WideShapes Go.ChangeAt Go.RowKit
open Go.ChangeMaps (open_string shut_string)
set_option linter.unusedVariables false

theorem own : ownKnob Try.prog.godebug = none := by kernel_rfl
theorem laidOut : laidOutB Try.prog = true := by kernel_rfl

theorem three_bytes (w : World) (a b c : Int) (ha : 0 ≤ a ∧ a < 256) (hb : 0 ≤ b ∧ b < 256) (hc : 0 ≤ c ∧ c < 256) : Bytes (w.alloc (.cells #[.int .u8 a, .int .u8 b, .int .u8 c] 5)) (some ⟨w.heap.size, 0, none⟩) 3 [a, b, c] := by
  refine ⟨rfl, ⟨by simp, by simp; omega⟩, Or.inr ⟨w.heap.size, 0, rfl, by simp, fun i hi => ?_⟩⟩
  have : i = 0 ∨ i = 1 ∨ i = 2 := by simp at hi; omega
  rcases this with rfl | rfl | rfl <;> simp
theorem start_cell {w : World} {base b c : Nat} {e : En} (h : OwnG enV 35 5 w base (.slice (some ⟨b, 0, none⟩) 1 c) 1 [e]) : w.cell? ⟨b, 1, none⟩ = some (.int .i64 e.2.1) := by
  have := (h.reads en_rowed).1.cellAt en_rowed 0 1 e _ rfl rfl
  simpa using this

set_option maxRecDepth 100000 in
set_option maxHeartbeats 4000000 in
theorem walk (a0 : Int) (a1 : Int) (w : World) (w0 : (Lit.int .u8 a0).wf = true) (w1 : (Lit.int .u8 a1).wf = true) :
    Calls Try.prog 4 #[.int .u8 a0, .int .u8 a1] w fun e w' => e = .returned (.bool true) ∧ Below w.heap.size w w' := by
  obtain ⟨n0, rfl⟩ : ∃ n0 : Nat, a0 = n0 := ⟨a0.toNat, by have := byte_of_wf w0; omega⟩
  obtain ⟨c1, rfl⟩ : ∃ c1 : Nat, a1 = c1 := ⟨a1.toNat, by have := byte_of_wf w1; omega⟩
  have hn0 : n0 < 256 := by have := byte_of_wf w0; omega
  have hc1 : c1 < 256 := by have := byte_of_wf w1; omega
  obtain ⟨K, hK⟩ : ∃ K : Nat, n0 + 1 = K := ⟨_, rfl⟩
  have hKK : (1 : Int) + (n0 : Int) = (K : Int) := by omega
  have hK1 : 1 ≤ K := by omega
  have hK2 : K ≤ 256 := by omega
  obtain ⟨B, hB⟩ := named w.heap.size
  have hBB := hB.out
  have HNEW := Lib.hid (new_any (w0 := w) (w := w) (Below.refl _ _))
  rw [hBB] at HNEW
  obtain ⟨g, hg⟩ := named (fun i : Nat => ((2, (i : Int) + 2, 0, 0, 0) : En))
  clear w0 w1 hK
  go_enter Try.func4, Try.ntmps4
  go_wp2_with (first
    | (go_at_call 10; refine HNEW.out.mono ?_; rintro e w2 ⟨rfl, ⟨S, g1, g2⟩, g3⟩; have HX1 := Lib.hid g1; clear g1 g2 g3))
  go_loopw [7] (fun i wr => ∃ (j : Nat) (S' : Nat → Prop), j ≤ K ∧ i = .int .i64 j ∧ Hid (IxP w B (rowP fA g j) S' wr)) (fun i _ => K - (intOf i).toNat)
  case atStart => exact ⟨0, S, Nat.zero_le _, rfl, HX1.out⟩
  case round =>
    obtain ⟨j, S', hj, rfl, HX⟩ := hrel
    clear HX1
    by_cases hlt : j < K
    · obtain ⟨C, hC⟩ : ∃ C : Nat, Hid (j * 7 % 256 = C) := ⟨_, rfl⟩
      have hw : IntKind.u8.wrap ((j : Int) * 7) = (C : Int) := by rw [IntKind.wrap_u8]; have := hC.out; omega
      have hC2 : C < 256 := by have := hC.out; omega
      have HADJ : Hid (addP (rowP fA g j) (((fingerOf [(j : Int), 1, (C : Int)] : Nat) : Int), 2, (j : Int) + 2, 0, 0, 0) = rowP fA g (j + 1)) := by
        have := rowP_add (f := fA) (g := g) (n := j) fun i hi e => by have := fA_inj (by omega) (by omega) e; omega
        rw [← this, ← hg.out, ← hC.out]
        rfl
      go_wp2_with (go_at_call 12; refine (add_any (HX.out.alloc _) _ 3 3 [(j : Int), 1, (C : Int)] (three_bytes _ _ _ _ (by omega) (by omega) (by omega)) 2 _ 0 0 0).mono ?_; rintro e w3 ⟨rfl, S3, g1, g2⟩; rw [HADJ.out] at g1; have HX3 := Lib.hid g1; clear g1 g2)
      go_roundw
      case rel => exact ⟨j + 1, S3, by omega, by go_num, HX3.out⟩
      case measure => simp [intOf]; omega
    · obtain rfl : j = K := by omega
      obtain ⟨J, hJ⟩ : ∃ J : Nat, Hid (c1 % j = J) := ⟨_, rfl⟩
      have hJlt : J < j := by have := hJ.out; have := Nat.mod_lt c1 hK1; omega
      have hJe : (c1 : Int) % (j : Int) = (J : Int) := by rw [← hJ.out]; exact (Int.natCast_emod c1 j).symm
      obtain ⟨C, hC⟩ : ∃ C : Nat, Hid (J * 7 % 256 = C) := ⟨_, rfl⟩
      have hw : IntKind.u8.wrap ((J : Int) * 7) = (C : Int) := by rw [IntKind.wrap_u8]; have := hC.out; omega
      have hC2 : C < 256 := by have := hC.out; omega
      have HFA : Hid (findP (rowP fA g j) (fA J) = if j ≤ J + 64 then [g J] else []) := rowP_find (fun a b ha hb e => fA_inj (by omega) (by omega) e) hJlt
      have HFB : Hid (findP (rowP fA g j) (fB J) = []) := find_no fun p hp e => by
        obtain ⟨i, _, hi, rfl⟩ := rowP_mem.1 hp
        exact fA_fB (by omega) (by omega) e
      have HGJ : Hid (g J = (2, (J : Int) + 2, 0, 0, 0)) := by rw [← hg.out]; rfl
      have HFN : Hid (∀ W S a, IxP w B (rowP fA g j) S W → Bytes W a 3 [(J : Int), 2, (C : Int)] → Calls Try.prog 13 #[.pointer (some ⟨B, 0, none⟩), .slice a 3 3] W (FindQ w B (rowP fA g j) (fB J) S W)) := fun W S a h hb => by
        have := find_any h a 3 3 _ hb
        rw [← hC.out] at this
        exact this
      unfold FindQ at HFN
      rw [HFB.out] at HFN
      have HX2 := HX
      by_cases hm : j ≤ 64
      · have hJ64 : j ≤ J + 64 := by omega
        have HL : Hid (∀ W S, IxP w B (rowP fA g j) S W → Calls Try.prog 14 #[.pointer (some ⟨B, 0, none⟩)] W fun e w' => e = .returned (.int .i64 j) ∧ w' = W) := fun W S h => by
          have := len_any h
          rw [rowP_len, Nat.min_eq_left hm] at this
          exact this
        have HFI : Hid (∀ W S a, IxP w B (rowP fA g j) S W → Bytes W a 3 [(J : Int), 1, (C : Int)] → Calls Try.prog 13 #[.pointer (some ⟨B, 0, none⟩), .slice a 3 3] W (FindQ w B (rowP fA g j) (fA J) S W)) := fun W S a h hb => by
          have := find_any h a 3 3 _ hb
          rw [← hC.out] at this
          exact this
        unfold FindQ at HFI
        rw [HFA.out, if_pos hJ64] at HFI
        rw [HGJ.out] at HFI
        clear HX2
        go_wp2_with (first
          | (go_at_call 13; refine (HFI.out _ S' _ (HX.out.alloc _) (three_bytes _ _ _ _ (by omega) (by omega) (by omega))).mono ?_; rintro e w5 ⟨af, cf, rfl, q1, q2, q3⟩; obtain ⟨b, rfl⟩ := OwnG.at0 q1 (by simp); have HO5 := Lib.hid q1; have HX5 := Lib.hid q2; clear q1 q2 q3 HFI)
          | (go_at_call 13; refine (HFN.out _ S' _ (HX5.out.alloc _) (three_bytes _ _ _ _ (by omega) (by omega) (by omega))).mono ?_; rintro e w6 ⟨ag, cg, rfl, q1, q2, q3⟩; have HX6 := Lib.hid q2; have HO6 := Lib.hid ((HO5.out.alloc (.cells #[.int .u8 (J : Int), .int .u8 2, .int .u8 (C : Int)] 5)).frame fun k hk => q3.block k (by have := (HO5.out.1.lt k hk).2; simp; omega) (fun hS => by have h1 := (HO5.out.1.lt k hk).1; have h2 := HX.out.lt k hS; simp at h1; omega)); have hs6 := start_cell HO6.out; clear q1 q2 q3)
          | (go_at_call 14; refine (HL.out _ S' HX6.out).mono ?_; rintro e w' ⟨rfl, hww⟩; obtain rfl := hww.symm; clear hww)
          | (go_at_call 9; refine (awake_any _).mono ?_; rintro e w7 ⟨rfl, hb⟩; have HBL := Lib.hid hb; clear hb))
        go_ret
        first | exact ⟨rfl, HX6.out.below.trans (HBL.out.mono HX6.out.below.size)⟩ | exact ⟨rfl, by rw [← hBB]; exact HX6.out.below.trans (HBL.out.mono HX6.out.below.size)⟩
      · by_cases hJ64 : j ≤ J + 64
        · skip
          have HL : Hid (∀ W S, IxP w B (rowP fA g j) S W → Calls Try.prog 14 #[.pointer (some ⟨B, 0, none⟩)] W fun e w' => e = .returned (.int .i64 64) ∧ w' = W) := fun W S h => by
            have := len_any h
            rw [rowP_len, Nat.min_eq_right (by omega)] at this
            exact this
          have HFI : Hid (∀ W S a, IxP w B (rowP fA g j) S W → Bytes W a 3 [(J : Int), 1, (C : Int)] → Calls Try.prog 13 #[.pointer (some ⟨B, 0, none⟩), .slice a 3 3] W (FindQ w B (rowP fA g j) (fA J) S W)) := fun W S a h hb => by
            have := find_any h a 3 3 _ hb
            rw [← hC.out] at this
            exact this
          unfold FindQ at HFI
          rw [HFA.out, if_pos hJ64] at HFI
          rw [HGJ.out] at HFI
          clear HX2
          go_wp2_with (first
            | (go_at_call 13; refine (HFI.out _ S' _ (HX.out.alloc _) (three_bytes _ _ _ _ (by omega) (by omega) (by omega))).mono ?_; rintro e w5 ⟨af, cf, rfl, q1, q2, q3⟩; obtain ⟨b, rfl⟩ := OwnG.at0 q1 (by simp); have HO5 := Lib.hid q1; have HX5 := Lib.hid q2; clear q1 q2 q3 HFI)
            | (go_at_call 13; refine (HFN.out _ S' _ (HX5.out.alloc _) (three_bytes _ _ _ _ (by omega) (by omega) (by omega))).mono ?_; rintro e w6 ⟨ag, cg, rfl, q1, q2, q3⟩; have HX6 := Lib.hid q2; have HO6 := Lib.hid ((HO5.out.alloc (.cells #[.int .u8 (J : Int), .int .u8 2, .int .u8 (C : Int)] 5)).frame fun k hk => q3.block k (by have := (HO5.out.1.lt k hk).2; simp; omega) (fun hS => by have h1 := (HO5.out.1.lt k hk).1; have h2 := HX.out.lt k hS; simp at h1; omega)); have hs6 := start_cell HO6.out; clear q1 q2 q3)
            | (go_at_call 14; refine (HL.out _ S' HX6.out).mono ?_; rintro e w' ⟨rfl, hww⟩; obtain rfl := hww.symm; clear hww)
            | (go_at_call 9; refine (awake_any _).mono ?_; rintro e w7 ⟨rfl, hb⟩; have HBL := Lib.hid hb; clear hb))
          go_ret
          first | exact ⟨rfl, HX6.out.below.trans (HBL.out.mono HX6.out.below.size)⟩ | exact ⟨rfl, by rw [← hBB]; exact HX6.out.below.trans (HBL.out.mono HX6.out.below.size)⟩
        · skip
          have HL : Hid (∀ W S, IxP w B (rowP fA g j) S W → Calls Try.prog 14 #[.pointer (some ⟨B, 0, none⟩)] W fun e w' => e = .returned (.int .i64 64) ∧ w' = W) := fun W S h => by
            have := len_any h
            rw [rowP_len, Nat.min_eq_right (by omega)] at this
            exact this
          have HFI : Hid (∀ W S a, IxP w B (rowP fA g j) S W → Bytes W a 3 [(J : Int), 1, (C : Int)] → Calls Try.prog 13 #[.pointer (some ⟨B, 0, none⟩), .slice a 3 3] W (FindQ w B (rowP fA g j) (fA J) S W)) := fun W S a h hb => by
            have := find_any h a 3 3 _ hb
            rw [← hC.out] at this
            exact this
          unfold FindQ at HFI
          rw [HFA.out, if_neg hJ64] at HFI
          skip
          clear HX2
          go_wp2_with (first
            | (go_at_call 13; refine (HFI.out _ S' _ (HX.out.alloc _) (three_bytes _ _ _ _ (by omega) (by omega) (by omega))).mono ?_; rintro e w5 ⟨af, cf, rfl, q1, q2, q3⟩; have HO5 := Lib.hid q1; have HX5 := Lib.hid q2; clear q1 q2 q3 HFI)
            | (go_at_call 13; refine (HFN.out _ S' _ (HX5.out.alloc _) (three_bytes _ _ _ _ (by omega) (by omega) (by omega))).mono ?_; rintro e w6 ⟨ag, cg, rfl, q1, q2, q3⟩; have HX6 := Lib.hid q2; clear q1 q2 q3)
            | (go_at_call 14; refine (HL.out _ S' HX6.out).mono ?_; rintro e w' ⟨rfl, hww⟩; obtain rfl := hww.symm; clear hww)
            | (go_at_call 9; refine (awake_any _).mono ?_; rintro e w7 ⟨rfl, hb⟩; have HBL := Lib.hid hb; clear hb))
          go_ret
          first | exact ⟨rfl, HX6.out.below.trans (HBL.out.mono HX6.out.below.size)⟩ | exact ⟨rfl, by rw [← hBB]; exact HX6.out.below.trans (HBL.out.mono HX6.out.below.size)⟩

set_option maxRecDepth 100000 in
theorem lifted (os : Os) (started : os.Started) (H : Type) (enc : TypeId × Value → H) :
    ReturnsInHanded {} Try.checked os 4 .any (Rows.indexFindsSpec.pre6 enc Try.prog Try.f4 Rows.indexFindsRow.domain false) (Rows.indexFindsSpec.post enc Try.prog Try.f4 false true false false) := by
  refine returnsInHanded_of_change (C := Try.checked) own started (by kernel_rfl) Try.func4
    (ChangeSpec.witness6 (enc := enc) (C := Try.checked) false ⟨#[], #[.int .u8 0, .int .u8 0], []⟩ 8 (by kernel_rfl) (by kernel_rfl) (by kernel_rfl) (by kernel_rfl)) ?_
  intro W base args ds gs before hval0 hW hcnd _
  have hval : ∀ (j : Nat) t v, Try.f4.params[j]? = some t → args[j]? = some v → Value.okWide Try.prog W .any base t v := hval0
  have hW' := hW
  obtain ⟨p, q, hA0, hV, rfl, hfz, hnd⟩ := hW
  have hA : DataW.TrodAll enc Try.prog W 0 (fun _ => true) true Try.f4.params.toList args.toList ds p := hA0
  rw [Try.params4] at hA hval
  obtain ⟨v0, vs0, d0, ds0, p0, q0, hargs, rfl, rfl, h0, r0⟩ := trodAll_cons hA
  obtain ⟨v1, vs1, d1, ds1, p1, q1, rfl, rfl, rfl, h1, r1⟩ := trodAll_cons r0
  obtain ⟨rfl, rfl, rfl⟩ := trodAll_nil r1
  obtain rfl : args = #[v0, v1] := by cases args; simp_all
  obtain ⟨rfl, rfl⟩ := trodVars_none hV
  have k0 := h0
  have lt0 : ∀ x ∈ p0, x.block < W.heap.size := by obtain ⟨m, hm⟩ := k0; exact DataW.trod_lt m _ _ _ hm
  obtain ⟨a0, rfl, _, _, w0⟩ := open_int Try.underlying5 (hval 0 5 v0 rfl rfl) h0
  have k1 := h1
  have lt1 : ∀ x ∈ p1, x.block < W.heap.size := by obtain ⟨m, hm⟩ := k1; exact DataW.trod_lt m _ _ _ hm
  obtain ⟨a1, rfl, _, _, w1⟩ := open_int Try.underlying5 (hval 1 5 v1 rfl rfl) h1
  clear hA0 hval0
  refine (walk a0 a1 W w0 w1).mono fun e W' ⟨he, bel⟩ => ?_
  subst he
  exact ⟨_, rfl, _, _, _, [], _, [], hW', trodAll_mk1 (shut_bool Try.underlying4 _), (trodAll_cons_mk (Below.trod laidOut (by kernel_rfl) (of_decide_eq_true (by kernel_rfl)) k0 bel lt0) (trodAll_cons_mk (Below.trod laidOut (by kernel_rfl) (of_decide_eq_true (by kernel_rfl)) k1 bel lt1) trodAll_mk0)), rfl, bel.frame _, fun h => by cases h⟩

theorem over : Rows.indexFindsRow.holds Try.pinned (OpenSpec.ofChange Rows.indexFindsSpec) :=
  OpenClaim.holds_of_wide 4 Try.f4 rfl rfl rfl rfl rfl rfl rfl ⟨rfl, rfl, rfl, rfl, rfl⟩ rfl rfl rfl rfl rfl (by kernel_rfl) Try.func4 (by kernel_rfl)
    (of_decide_eq_true (by kernel_rfl)) (by unfold Func.isWrapper; first | (rw [if_pos (by decide +kernel)]; kernel_rfl) | (rw [if_neg (by decide +kernel)]; exact ⟨rfl, rfl⟩))
    (fun os started H enc _ => lifted os started H enc)

/-- The statement. -/
theorem proved : Rows.IndexFindsSaid := over
#print axioms proved
end Go.Proofs.Ytobnmdjpcmegiaa.indexFinds
