/-
  Proved: 'matryoshkalaw15.CheckMade' returns true for every input (any bytes, any cluster, any place, any number), and each argument reads afterwards as before: the statement CheckMadeSaid as given. Conditions: none beyond the row's own.
-/
import Derived.Test.YtlljcdmblmkblaaGreatRows
import Derived.Test.YtlljcdmblmkblaaGreatCj
import Derived.Deep.RegionHeld3
import Derived.WalkKit
import Derived.ProofKit
import Derived.OpenShut
import Derived.ShutString
import Derived.ChangeOld
import Derived.Below
namespace Go.Proofs.YtlljcdmblmkblaaGreat.checkMade
open Go.ChangeShapes Go.WideShapes Go.ChangeAt Go.RowKit
open Go.ChangeMaps (open_string shut_string)
set_option linter.unusedVariables false

theorem own : ownKnob Tryz.prog.godebug = none := by kernel_rfl
theorem laidOut : laidOutB Tryz.prog = true := by kernel_rfl

/-- A slice of integers that came in: nil, or a row of cells. -/
def IsRow (k : IntKind) (w : World) (a : Option Addr) (len cap : Nat) (zs : List Int) : Prop :=
  (a = none ∧ len = 0 ∧ cap = 0 ∧ zs = []) ∨
  ∃ x, a = some x ∧ len ≤ cap ∧ cap ≤ maxLen ∧ zs.length = cap ∧ (∀ i, i < zs.length → w.cell? (x.add i) = some (.int k (zs.getD i 0))) ∧ ∀ n ∈ zs, (Lit.int k n).wf = true

set_option maxRecDepth 100000 in
set_option maxHeartbeats 4000000 in
theorem walk (a0 : Option Addr) (len0 cap0 : Nat) (z0 : List Int) (a1 : Int) (a2 : Int) (a3 : Int) (w : World) (w0 : IsRow .u8 w a0 len0 cap0 z0) (w1 : (Lit.int .u8 a1).wf = true) (w2 : (Lit.int .u8 a2).wf = true) (w3 : (Lit.int .u32 a3).wf = true) :
    Calls Tryz.prog 6 #[.slice a0 len0 cap0, .int .u8 a1, .int .u8 a2, .int .u32 a3] w fun e w' => e = .returned (.bool true) ∧ Below w.heap.size w w' := by
  have hb1 := byte_of_wf w1
  have hb2 := byte_of_wf w2
  have hb3 := u32_of_wf w3
  obtain ⟨A1, rfl⟩ : ∃ A : Nat, a1 = A := ⟨a1.toNat, by omega⟩
  obtain ⟨A2, rfl⟩ : ∃ A : Nat, a2 = A := ⟨a2.toNat, by omega⟩
  obtain ⟨A3, rfl⟩ : ∃ A : Nat, a3 = A := ⟨a3.toNat, by omega⟩
  obtain ⟨C, hC⟩ := named (A1 % 7)
  have hC6 : C ≤ 6 := by have := hC.out; omega
  have hp6 : 1 ≤ 2 ^ C ∧ 2 ^ C ≤ 64 := ⟨Nat.one_le_two_pow, by
    have : (2 : Nat) ^ 6 = 64 := by decide
    rw [← this]
    exact Nat.pow_le_pow_right (by decide) hC6⟩
  obtain ⟨P, hP⟩ := named (2 ^ C)
  have hPP : 1 ≤ P ∧ P ≤ 64 := by rw [← hP.out]; exact hp6
  obtain ⟨s, hs⟩ := named (2 + A2 % 20)
  have hs2 : 2 ≤ s ∧ s ≤ 21 := by have := hs.out; omega
  have q1 : wrap64 (A1 : Int) = (A1 : Int) := by unfold wrap64; omega
  have q2 : wrap64 (A2 : Int) = (A2 : Int) := by unfold wrap64; omega
  have q3 : (A1 : Int).tmod 7 = (C : Int) := by rw [Int.tmod_eq_emod_of_nonneg (by omega)]; have := hC.out; omega
  have q4 : (2 : Int) + (A2 : Int) % 20 = (s : Int) := by have := hs.out; omega
  have q5 : IntKind.u64.wrap (C : Int) = (C : Int) := IntWalk.u64_in _ (by omega)
  have q6 : min C 64 = C := by omega
  obtain ⟨n, hn⟩ := named (16 * P)
  have q7 : wrap64 (16 * 2 ^ C) = (n : Int) := by
    have e : (2 : Int) ^ C = (P : Int) := by rw [← hP.out, Int.natCast_pow]; rfl
    rw [e]
    have := hn.out
    unfold wrap64
    omega
  have hmk : ∀ W : World, (Instr.makeSlice 25 (.int .i64 n) (.int .i64 n)).run Tryz.prog W = .ok (.slice (some ⟨W.heap.size, 0, none⟩) n n) (W.alloc (.cells (madeCells #[.int .u8 0] n) 5)) := fun W => (make_noughts W n (by have := hn.out; omega)).1
  clear w1 w2 w3
  go_enter Tryz.func6, Tryz.ntmps6
  go_wp2
  obtain ⟨M, hM⟩ := named (min len0 n)
  have hnb : n ≤ 1024 := by have := hn.out; omega
  have hM1 : M ≤ len0 ∧ M ≤ n := by have := hM.out; omega
  obtain ⟨l, hB⟩ := arg_of15 w0 M hM1.1 (by omega)
  have HB := Lib.hid hB
  have hll := hB.1
  obtain ⟨Y, hY⟩ := named w.heap.size
  have HO0 : Hid (Own (w.alloc (.cells (madeCells #[.int .u8 0] n) 5)) Y (.slice (some ⟨Y, 0, none⟩) n n) n (contB l n 0)) := by
    rw [Hid, ← hY.out]
    exact make_own15 w n (by omega) (Nat.le_refl _)
  have HG0 := Lib.hid ((Below.refl w.heap.size w).alloc (Nat.le_refl _) (.cells (madeCells #[.int .u8 0] n) 5))
  rw [hY.out] at HG0 ⊢
  clear hB w0 hmk
  go_loopw [13] (fun i wr => ∃ j : Nat, j ≤ M ∧ i = .int .i64 j ∧ Hid (Own wr Y (.slice (some ⟨Y, 0, none⟩) n n) n (contB l n j)) ∧ Hid (Below Y w wr)) (fun i _ => M - (intOf i).toNat)
  case atStart => exact ⟨0, Nat.zero_le _, rfl, HO0.out, HG0.out⟩
  case round =>
    obtain ⟨j, hj, rfl, HO, HG⟩ := hrel
    by_cases hlt : j < M
    · have h1 : (j : Int) < (n : Int) := by omega
      have h2 : (j : Int) < (len0 : Int) := by omega
      have hBr := HB.out.later (hY.out.symm ▸ HG.out)
      obtain ⟨bl, off, hal, hbl, hc⟩ := hBr.2.2.resolve_left (by omega)
      subst hal
      have c0 := hc j (by omega)
      have c1 := HO.out.cell j (by omega)
      have c2 := HO.out.free j
      have hbd := hBr.2.1.2 (l.getD j 0) (by rw [List.getD_eq_getElem?_getD, List.getElem?_eq_getElem (by omega)]; exact List.getElem_mem _)
      have HO9 := Lib.hid (HO.out.put j (l.getD j 0) hbd)
      rw [contB_next (by omega) (by omega)] at HO9
      have HG9 := Lib.hid (HG.out.grown (grownBy_setCell4 wr Y j (.int .u8 (l.getD j 0))) (by have := HG.out.size; have := hY.out; omega) (fun k hk => by have := Option.some.inj hk; omega))
      obtain ⟨z, hz⟩ := named (l.getD j 0)
      rw [hz.out] at c0 HO9 HG9
      clear hBr hc hbd
      go_wp2
      go_roundw
      case rel => exact ⟨j + 1, by omega, by go_num, HO9.out, HG9.out⟩
      case measure => simp [intOf]; omega
    · obtain rfl : j = M := by omega
      obtain ⟨cont, hcont⟩ := named (contB l n j)
      have hcl : cont.length = n := by rw [← hcont.out]; exact contB_len (by omega) (by omega)
      have hcl2 : cont.length = 16 * 2 ^ C := by rw [hcl, hP.out, hn.out]
      have HCL := Lib.hid hcl
      have hsml := HO.out.2
      rw [hcont.out] at HO hsml
      obtain ⟨F0, hF0⟩ := named (s * 16)
      have q8 : wrap64 ((s : Int) * 16) = (F0 : Int) := by have := hF0.out; unfold wrap64; omega
      have q8' : (s : Int) * 16 = (F0 : Int) := by have := hF0.out; omega
      have hF1 : F0 ≤ 336 := by have := hF0.out; omega
      have hmk2 : ∀ W : World, (Instr.makeSlice 25 (.int .i64 F0) (.int .i64 F0)).run Tryz.prog W = .ok (.slice (some ⟨W.heap.size, 0, none⟩) F0 F0) (W.alloc (.cells (madeCells #[.int .u8 0] F0) 5)) := fun W => (make_noughts W F0 (by omega)).1
      obtain ⟨Y2, hY2⟩ := named wr.heap.size
      have hYY : Y ≤ Y2 := by have h1 := HG.out.size; have h2 := hY.out; have h3 := hY2.out; omega
      have HF := Lib.hid (make_own15 wr F0 (by omega) (Nat.le_refl _))
      have HA := Lib.hid ((Below.refl wr.heap.size wr).alloc (Nat.le_refl _) (.cells (madeCells #[.int .u8 0] F0) 5))
      have HCB := Lib.hid HO.out.bytes.1
      obtain ⟨FN, hFN⟩ := named (F0 + n)
      have hFM : noughts F0 ++ cont = fileM s cont := by unfold fileM; rw [hF0.out]
      obtain ⟨fm, hfm⟩ := named (fileM s cont)
      have hFL : FN = (s + 2 ^ C) * 16 := by have h1 := hFN.out; have h2 := hF0.out; have h3 := hn.out; have h4 := hP.out; omega
      obtain ⟨sm, hsm⟩ := named (moreOf 0 cont)
      have hsl : sm < 4294967296 := by rw [← hsm.out]; exact moreOf_lt (by decide) hsml.lt
      have hmo := made_ok hs2 hC6 hcl2
      have hmc := made_cut (s := s) hs2 hC6 hcl2 (sm : Int)
      obtain ⟨v, hv, hv2, hv3⟩ := sum_turn (a := A3) hsl (by omega)
      have hms := made_sum hs2 hC6 hcl2 (v := v) (by rw [hsm.out]; exact hv3)
      rw [hsm.out, hfm.out, hP.out] at hmo
      rw [hfm.out, hP.out] at hmc hms
      rw [← hP.out, ← hFL] at hmc
      rw [hP.out] at hmc
      rw [hfm.out] at hFM
      have HMO := Lib.hid hmo
      have HMC := Lib.hid hmc
      have HMS := Lib.hid hms
      have HFM := Lib.hid hFM
      have HFL : Hid (FN ≤ 2000 ∧ 1 ≤ FN) := by have h1 := hFN.out; have := hn.out; exact ⟨by omega, by omega⟩
      clear hFL
      obtain ⟨Z, hZ⟩ := named (FN - 1)
      have q10 : (FN : Int) - 1 = (Z : Int) := by have := hZ.out; have := HFL.out; omega
      have q11 : IntKind.i64.wrap ((FN : Int) - 1) = (Z : Int) := by rw [q10]; exact IntWalk.i64_in _ (by have := hZ.out; have := HFL.out; omega)
      have q12 : IntKind.i64.wrap (Z : Int) = (Z : Int) := IntWalk.i64_in _ (by have := hZ.out; have := HFL.out; omega)
      have q13 : wrap64 ((FN : Int) - 1) = (Z : Int) := by rw [q10]; have := hZ.out; have := HFL.out; unfold wrap64; omega
      have HEO : Hid (∀ m : Nat, m < 4294967296 → EnOk (2, (s : Int), (P : Int), 0, (m : Int))) := fun m hm => by unfold EnOk I64; dsimp only; omega
      have q9 : wrap64 (2 ^ C) = (P : Int) := by
        have e : (2 : Int) ^ C = (P : Int) := by rw [← hP.out, Int.natCast_pow]; rfl
        rw [e]
        unfold wrap64
        omega
      have q9' : wrap64 (1 * 2 ^ C) = (P : Int) := by rw [Int.one_mul]; exact q9
      rw [hY2.out] at HF HA
      clear hmo hmc hms hFM HO hcl hcl2 hsml HB HO0 HG0
      have hex : (¬ (j : Int) < (n : Int)) ∨ ((j : Int) < (n : Int) ∧ ¬ (j : Int) < (len0 : Int)) := by
        have := hM.out
        omega
      rcases hex with hx | ⟨hx, hx2⟩
      all_goals
        go_wp2_with (first
          | (at_builtin; refine append_bytes rfl (.tmp 55) (.tmp 56) rfl Y2 (.slice (some ⟨Y2, 0, none⟩) F0 F0) F0 (noughts F0) (by rw [← hY2.out]; rfl) HF.out (some ⟨Y, 0, none⟩) n n cont rfl (fun e => by cases e) (HCB.out.later (hY2.out.symm ▸ HA.out)) (by omega) (by rw [World.size_alloc]; have := hY2.out; omega) ?_; intro fa fc w2 g1 g2; rw [HFM.out, hFN.out] at g1; rw [hFN.out]; have HF2 := Lib.hid g1; have HW2 := Lib.hid (HA.out.grown g2 (by rw [World.size_alloc]; have := hY2.out; omega) (fun k hk => by have : Y2 = k := (by simpa [Value.ownBlock] using hk); omega)); clear g1 g2)
          | (go_at_call 23; (with_reducible refine (refSum_any _ _ _ cont _ (HCB.out.later (hY2.out.symm ▸ HW2.out))).mono ?_); rintro e w3 ⟨rfl, hw⟩; obtain rfl := hw; rw [hsm.out])
          | (go_at_call 11; have hA3 := (Below.refl w2.heap.size w2).alloc (Nat.le_refl _) (.cells #[.int .i64 2, .int .i64 s, .int .i64 P, .int .i64 0, .int .u32 sm] 24); have hfb := HF2.out.bytes; have hC1 := checkBytes _ fa FN fc fm (hfb.1.later hA3) HF2.out.capOk hfb.2 (by have := HFL.out; omega) (cl := (C : Int)) (HEO.out sm hsl); rw [HMO.out] at hC1; dsimp only at hC1; (with_reducible refine hC1.mono ?_); rintro e w4 hp; obtain ⟨x1, y1, rfl, hB1, _, hb⟩ := hp.sized HCL.out; have HX1 := Lib.hid hB1; have HW24 := Lib.hid (hA3.trans (hb.mono hA3.size)); have HE4 := Lib.hid ((Blk.new w2 24 #[.int .i64 2, .int .i64 s, .int .i64 P, .int .i64 0, .int .u32 sm]).later hb); clear hp hB1 hb hC1 hfb hA3))
      all_goals
        have hfb := HF2.out.bytes
        have hfw := hfb.1.later HW24.out
        have hZF : Z ≤ FN := by have := hZ.out; omega
        obtain ⟨a9, hsl9, hB9, hn9⟩ := slice_front hfw HF2.out.capOk hfb.2 Z hZF
        have hcp9 := HF2.out.capOk
        have hmc := HMC.out
        rw [hZ.out] at hmc
        have HC2 := Lib.hid (fun W (hb : Below w4.heap.size w4 W) => checkBytes W a9 Z fc (fm.take Z) (hB9.later hb) (Nat.le_trans hZF hcp9) hn9 (by have := HFL.out; omega) (cl := (C : Int)) (HEO.out sm hsl))
        rw [hmc] at HC2
        have HKS : Hid (∀ W, Below w4.heap.size w4 W → (fun W => W.cell? ⟨w2.heap.size, 0, none⟩ = some (.int .i64 2) ∧ W.cell? ⟨w2.heap.size, 1, none⟩ = some (.int .i64 s) ∧ W.cell? ⟨w2.heap.size, 2, none⟩ = some (.int .i64 P) ∧ W.cell? ⟨w2.heap.size, 3, none⟩ = some (.int .i64 0) ∧ W.cell? ⟨w2.heap.size, 4, none⟩ = some (.int .u32 sm)) W) := fun W hb => cells5 (HE4.out.later hb)
        have HR0 := Lib.hid (Below.refl w4.heap.size w4)
        have HRD := Lib.hid (Below.refl w4.heap.size w4).drew
        clear hfw hB9 hn9 hmc
        go_region_held3 (fun W => W.cell? ⟨w2.heap.size, 0, none⟩ = some (.int .i64 2) ∧ W.cell? ⟨w2.heap.size, 1, none⟩ = some (.int .i64 s) ∧ W.cell? ⟨w2.heap.size, 2, none⟩ = some (.int .i64 P) ∧ W.cell? ⟨w2.heap.size, 3, none⟩ = some (.int .i64 0) ∧ W.cell? ⟨w2.heap.size, 4, none⟩ = some (.int .u32 sm)) (first | with_reducible exact HKS.out _ HR0.out | with_reducible exact HKS.out _ HRD.out | with_reducible exact HKS.out _ HR5.out) (first | (go_at_call 11; (with_reducible refine (HC2.out _ HRD.out).mono ?_); rintro e w5 hp; obtain ⟨x2, y2, rfl, _, _, hb⟩ := hp.sized (n := 0) rfl; have HR5 := Lib.hid (HRD.out.trans (hb.mono HRD.out.size)); clear hp hb))
        have hsz2 : Y2 ≤ w2.heap.size := by have h1 := HW2.out.size; have h2 := hY2.out; omega
        have HE5 := Lib.hid (HE4.out.later HR5.out)
        have HE6 := Lib.hid (HE5.out.set 4 (.int .u32 v))
        have HW6 := Lib.hid ((HW24.out.trans (HR5.out.mono HW24.out.size)).setCell (p := ⟨w2.heap.size, 4, none⟩) (Nat.le_refl _) (.int .u32 v))
        have HX6 := Lib.hid (bytes_other (HX1.out.later HR5.out) HE5.out (fun i c => by
          rcases i with _ | _ | _ | _ | _ | i
          · simp
          · simp
          · simp
          · simp
          · simp
          · simp) 4 (.int .u32 v))
        have hC3 := checkBytes _ fa FN fc fm (hfb.1.later HW6.out) hcp9 hfb.2 (by have := HFL.out; omega) (cl := (C : Int)) (HEO.out v hv2)
        rw [HMS.out] at hC3
        dsimp only at hC3
        have HC3 := Lib.hid hC3
        obtain ⟨U, hU⟩ := named (strOfNums cont)
        obtain ⟨e0, e1, e2, e3, e4⟩ := cells5 HE5.out
        have ef := HE5.out.free 4
        obtain ⟨g0, g1, g2, g3, g4⟩ := cells5 HE6.out
        clear hC3 hfb hsl9
        go_wp2_with (first
          | (go_at_call 11; (with_reducible refine HC3.out.mono ?_); rintro e w7 hp; obtain ⟨x3, y3, rfl, _, _, hb⟩ := hp.sized (n := 0) rfl; have hz7 := HW2.out.trans ((HW6.out.trans (hb.mono HW6.out.size)).mono hsz2); have kb := conv_str (HX6.out.later hb) y1; have kc := conv_str (HCB.out.later (hY2.out.symm ▸ hz7)) n; rw [hU.out] at kb kc; have HZ7 := Lib.hid hz7; clear hp hb hz7 e0 e1 e2 e3 e4 g0 g1 g2 g3 g4 ef)
          | (go_at_call 13; (with_reducible refine (num15 _ _).mono ?_); rintro e w3 ⟨rfl, hw⟩; obtain rfl := hw.symm)
          | (go_at_call 10; (with_reducible refine (awake15 _).mono ?_); rintro e w8 ⟨rfl, hb⟩; have HZ8 := Lib.hid (HZ7.out.trans (hb.mono (by have h1 := HZ7.out.size; have h2 := hY2.out; omega))); clear hb))
        go_ret
        exact ⟨rfl, by rw [hY.out]; exact HG.out.trans (HZ8.out.mono hYY)⟩

set_option maxRecDepth 100000 in
theorem lifted (os : Os) (started : os.Started) (H : Type) (enc : TypeId × Value → H) :
    ReturnsInHanded {} Tryz.checked os 6 .any (Rows.checkMadeSpec.pre6 enc Tryz.prog Tryz.f6 Rows.checkMadeRow.domain false) (Rows.checkMadeSpec.post enc Tryz.prog Tryz.f6 false true false false) := by
  refine returnsInHanded_of_change (C := Tryz.checked) own started (by kernel_rfl) Tryz.func6
    (ChangeSpec.witness6 (enc := enc) (C := Tryz.checked) false ⟨#[], #[.slice none 0 0, .int .u8 0, .int .u8 0, .int .u32 0], []⟩ 8 (by kernel_rfl) (by kernel_rfl) (by kernel_rfl) (by kernel_rfl)) ?_
  intro W base args ds gs before hval0 hW hcnd _
  have hval : ∀ (j : Nat) t v, Tryz.f6.params[j]? = some t → args[j]? = some v → Value.okWide Tryz.prog W .any base t v := hval0
  have hW' := hW
  obtain ⟨p, q, hA0, hV, rfl, hfz, hnd⟩ := hW
  have hA : DataW.TrodAll enc Tryz.prog W 0 (fun _ => true) true Tryz.f6.params.toList args.toList ds p := hA0
  rw [Tryz.params6] at hA hval
  obtain ⟨v0, vs0, d0, ds0, p0, q0, hargs, rfl, rfl, h0, r0⟩ := trodAll_cons hA
  obtain ⟨v1, vs1, d1, ds1, p1, q1, rfl, rfl, rfl, h1, r1⟩ := trodAll_cons r0
  obtain ⟨v2, vs2, d2, ds2, p2, q2, rfl, rfl, rfl, h2, r2⟩ := trodAll_cons r1
  obtain ⟨v3, vs3, d3, ds3, p3, q3, rfl, rfl, rfl, h3, r3⟩ := trodAll_cons r2
  obtain ⟨rfl, rfl, rfl⟩ := trodAll_nil r3
  obtain rfl : args = #[v0, v1, v2, v3] := by cases args; simp_all
  obtain ⟨rfl, rfl⟩ := trodVars_none hV
  have k0 := h0
  have lt0 : ∀ x ∈ p0, x.block < W.heap.size := by obtain ⟨m, hm⟩ := k0; exact DataW.trod_lt m _ _ _ hm
  obtain ⟨a0, len0, cap0, rfl⟩ := okWide_slice Tryz.underlying25 (hval 0 25 v0 rfl rfl)
  obtain ⟨z0, w0⟩ : ∃ zs, IsRow .u8 W a0 len0 cap0 zs := by
    obtain ⟨fuel, hf⟩ := h0
    rcases open_ints Tryz.underlying25 Tryz.underlying5 (by kernel_rfl) hf with ⟨hcs, _⟩ | ⟨x, l, c, zs, hcs, _, hl, hm, hz, _, hcell, hwz⟩
    · simp [Value.cells] at hcs
      obtain ⟨rfl, rfl, rfl⟩ := hcs
      exact ⟨[], .inl ⟨rfl, rfl, rfl, rfl⟩⟩
    · simp [Value.cells] at hcs
      obtain ⟨rfl, rfl, rfl⟩ := hcs
      exact ⟨zs, .inr ⟨_, rfl, hl, hm, by simpa using hz, hcell, hwz⟩⟩
  have k1 := h1
  have lt1 : ∀ x ∈ p1, x.block < W.heap.size := by obtain ⟨m, hm⟩ := k1; exact DataW.trod_lt m _ _ _ hm
  obtain ⟨a1, rfl, _, _, w1⟩ := open_int Tryz.underlying5 (hval 1 5 v1 rfl rfl) h1
  have k2 := h2
  have lt2 : ∀ x ∈ p2, x.block < W.heap.size := by obtain ⟨m, hm⟩ := k2; exact DataW.trod_lt m _ _ _ hm
  obtain ⟨a2, rfl, _, _, w2⟩ := open_int Tryz.underlying5 (hval 2 5 v2 rfl rfl) h2
  have k3 := h3
  have lt3 : ∀ x ∈ p3, x.block < W.heap.size := by obtain ⟨m, hm⟩ := k3; exact DataW.trod_lt m _ _ _ hm
  obtain ⟨a3, rfl, _, _, w3⟩ := open_int Tryz.underlying22 (hval 3 22 v3 rfl rfl) h3
  clear hA0 hval0
  refine (walk a0 len0 cap0 z0 a1 a2 a3 W w0 w1 w2 w3).mono fun e W' ⟨he, bel⟩ => ?_
  subst he
  exact ⟨_, rfl, _, _, _, [], _, [], hW', trodAll_mk1 (shut_bool Tryz.underlying4 _), (trodAll_cons_mk (Below.trod laidOut (by kernel_rfl) (of_decide_eq_true (by kernel_rfl)) k0 bel lt0) (trodAll_cons_mk (Below.trod laidOut (by kernel_rfl) (of_decide_eq_true (by kernel_rfl)) k1 bel lt1) (trodAll_cons_mk (Below.trod laidOut (by kernel_rfl) (of_decide_eq_true (by kernel_rfl)) k2 bel lt2) (trodAll_cons_mk (Below.trod laidOut (by kernel_rfl) (of_decide_eq_true (by kernel_rfl)) k3 bel lt3) trodAll_mk0)))), rfl, bel.frame _, fun h => by cases h⟩

theorem over : Rows.checkMadeRow.holds Tryz.pinned (OpenSpec.ofChange Rows.checkMadeSpec) :=
  OpenClaim.holds_of_wide 6 Tryz.f6 rfl rfl rfl rfl rfl rfl rfl ⟨rfl, rfl, rfl, rfl, rfl⟩ rfl rfl rfl rfl rfl (by kernel_rfl) Tryz.func6 (by kernel_rfl)
    (of_decide_eq_true (by kernel_rfl)) (by unfold Func.isWrapper; first | (rw [if_pos (by decide +kernel)]; kernel_rfl) | (rw [if_neg (by decide +kernel)]; exact ⟨rfl, rfl⟩))
    (fun os started H enc _ => lifted os started H enc)

/-- The statement. -/
theorem proved : Rows.CheckMadeSaid := over
#print axioms proved
end Go.Proofs.YtlljcdmblmkblaaGreat.checkMade
