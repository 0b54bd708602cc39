/-
  Proved: 'matryoshkalaw11.IndexCopies' returns true for every input (any acts, any more), and each argument reads afterwards as before: the statement IndexCopiesSaid as given. Conditions: none beyond the row's own.
-/
import Derived.Test.YtobnmdjpcmegiaaRows
import Derived.Test.YtobnmdjpcmegiaaKs
import Derived.WalkKit
import Derived.ProofKit
import Derived.OpenShut
import Derived.ShutString
import Derived.ChangeOld
import Derived.Below
namespace Go.Proofs.Ytobnmdjpcmegiaa.indexCopies
open Go.ChangeShapes Go.WideShapes Go.ChangeAt Go.RowKit
open Go.ChangeMaps (open_string shut_string)
set_option linter.unusedVariables false

theorem own : ownKnob Try.prog.godebug = none := by kernel_rfl
theorem laidOut : laidOutB Try.prog = true := by kernel_rfl

set_option maxRecDepth 100000 in
set_option maxHeartbeats 4000000 in
theorem walk (a0 : Option Addr) (len0 cap0 : Nat) (z0 : Nat → AcA) (a1 : Option Addr) (len1 cap1 : Nat) (z1 : Nat → AcA) (w : World) (w0 : ActsIn w a0 len0 z0) (w1 : ActsIn w a1 len1 z1) :
    Calls Try.prog 6 #[.slice a0 len0 cap0, .slice a1 len1 cap1] w fun e w' => e = .returned (.bool true) ∧ Below w.heap.size w w' := by
  have HW := Lib.hid w0
  have HV := Lib.hid w1
  have HH0 := Lib.hid (heavy_any cap0 w0 (Below.refl _ _))
  have HH1 := Lib.hid (heavy_any cap1 w1 (Below.refl _ _))
  unfold HeavyQ at HH0 HH1
  obtain ⟨B, hB⟩ := named w.heap.size
  have hBB := hB.out
  have HNEW := Lib.hid (new_any (w0 := w) (w := w) (Below.refl _ _))
  rw [hBB] at HNEW
  clear w0 w1
  go_enter Try.func6, Try.ntmps6
  go_wp2_with (first
    | (go_at_call 8; (with_reducible refine HH0.out.mono ?_); rintro e w1 ⟨hx, hww⟩; obtain rfl := hww.symm; clear hww HH0; rcases hx with rfl | ⟨rfl, hn0, hs0⟩)
    | (go_at_call 8; (with_reducible refine HH1.out.mono ?_); rintro e w1 ⟨hx, hww⟩; obtain rfl := hww.symm; clear hww HH1; rcases hx with rfl | ⟨rfl, hn1, hs1⟩)
    | (go_at_call 9; refine (awake_any _).mono ?_; rintro e w2 ⟨rfl, hb⟩; have HB := Lib.hid hb; clear hb)
    | (go_at_call 10; refine HNEW.out.mono ?_; rintro e w1 ⟨rfl, ⟨S, g1, g2⟩, g3⟩; have HX1 := Lib.hid g1; clear g1 g2 g3))
  · go_ret
    exact ⟨rfl, HB.out⟩
  · go_ret
    exact ⟨rfl, HB.out⟩
  · have HD := duo_new HX1.out
    obtain ⟨R, hR⟩ := named w1.heap.size
    have hRR := hR.out
    rw [hRR] at HD ⊢
    have HS0 := Lib.hid hs0
    have HS1 := Lib.hid hs1
    have HWB := Lib.hid hBB
    clear hs0 hs1
    go_loopw [7] (fun i wr => ∃ (j : Nat) (L : List Pr) (S' : Nat → Prop), j ≤ len0 ∧ i = .int .i64 j ∧ Hid (Duo w B R L L S' wr)) (fun i _ => len0 - (intOf i).toNat)
    case atStart => exact ⟨0, [], _, Nat.zero_le _, rfl, HD.choose_spec⟩
    case round =>
      obtain ⟨j, L, S', hj, rfl, HDU⟩ := hrel
      clear HD
      by_cases hlt : j < len0
      · obtain ⟨l, hl⟩ := (HW.out.bytes j hlt).bytes (by have := HS0.out j hlt; omega)
        obtain ⟨b, off, rfl, e0, e1, e2, e3, e4, e5, e6⟩ := HW.out.at HDU.out.below j hlt
        have HAT1 : Hid (∀ W : World, Below w.heap.size w W → W.cell? ⟨b, off + j * 7 + 1, none⟩ = some (.slice (z0 j).2.1.1 (z0 j).2.1.2.1 (z0 j).2.1.2.2)) := fun W hb => by
          obtain ⟨b', off', e, _, x1, _⟩ := HW.out.at hb j hlt
          cases e
          exact x1
        obtain ⟨⟨d', ⟨aj, lj, cj⟩, k', s', m', z', g'⟩, hG⟩ : ∃ q, Hid (z0 j = q) := ⟨_, rfl⟩
        rw [hG.out] at e0 e1 e2 e3 e4 e5 e6 hl HAT1
        dsimp only at e0 e1 e2 e3 e4 e5 e6 hl HAT1
        have HBL := Lib.hid hl
        have HACT := Lib.hid (act_any HDU.out cj hl d' k' s' m' z' g')
        unfold ActQ at HACT
        obtain ⟨L2, hL2⟩ := named (stepA L d' l (k', s', m', z', g'))
        rw [hL2.out] at HACT
        have HFD : Hid (∀ W S, Duo w B R L2 L2 S W → Calls Try.prog 13 #[.pointer (some ⟨B, 0, none⟩), .slice aj lj cj] W fun e w' => ∃ a m c, e = .returned (.slice a m c) ∧ m ≤ 64 ∧ Spoil S w' a m ∧ Duo w B R L2 L2 S w' ∧ ∀ b, a = some b → w.heap.size ≤ b.block) := fun W S h => by
          obtain ⟨S1, g1, g2⟩ := h.same
          refine (find_any g1 aj lj cj l (HBL.out.later h.below)).mono fun e w' ⟨a, c, e1, q1, q2, q3⟩ => ⟨a, _, c, e1, ?_, Spoil.of q1 h.lt, ?_, ?_⟩
          · exact Nat.le_trans (findP_len _ _) g1.ok.many
          · exact g2 w' q2 q3
          · intro b hb
            have := (q1.1.lt b.block (by rw [hb]; exact own_some q1 hb)).1
            exact Nat.le_trans h.below.size this
        clear hl
        go_wp2_with (first
          | (go_at_call 11; refine HACT.out.mono ?_; rintro e w3 ⟨rfl, S3, g1, g2⟩; have HD3 := Lib.hid g1; have f1 := HAT1.out w3 g1.below; clear g1 g2 HACT)
          | (go_at_call 13; refine (HFD.out _ S3 HD3.out).mono ?_; rintro e w4 ⟨at4, m4, c4, rfl, hm4, g1, g2, g3⟩; have HSP := Lib.hid g1; have HD4 := Lib.hid g2; have HLO := Lib.hid g3; clear g1 g2 g3))
        go_loopw [9] (fun i wr => ∃ q : Nat, q ≤ m4 ∧ i = .int .i64 q ∧ Hid (Spoil S3 wr at4 m4 ∧ Duo w B R L2 L2 S3 wr)) (fun i _ => m4 - (intOf i).toNat)
        case atStart => exact ⟨0, Nat.zero_le _, rfl, HSP.out, HD4.out⟩
        case round =>
          obtain ⟨q, hq, rfl, HQ⟩ := hrel
          by_cases hlq : q < m4
          · obtain ⟨bt, vt, rfl, p1, p2, p3, p4⟩ := HQ.out.1.at q hlq
            have HQ5 := Lib.hid (p4 (.int .i64 (-1)))
            have HD5 := Lib.hid (HQ.out.2.set p3 (HLO.out _ rfl) (q * 5 + 1) (.int .i64 (-1)))
            clear p3 p4
            go_wp2
            go_roundw
            case rel => exact ⟨q + 1, by omega, by go_num, HQ5.out, HD5.out⟩
            case measure => simp [intOf]; omega
          · obtain rfl : q = m4 := by omega
            go_wp2
            go_roundw
            case rel => exact ⟨j + 1, L2, S3, by omega, by go_num, HQ.out.2⟩
            case measure => simp [intOf]; omega
      · obtain rfl : j = len0 := by omega
        have HSPL := HDU.out.two
        obtain ⟨S1, S2, h1, h2, _, _⟩ := HSPL
        obtain ⟨v2, fd2, hb2, ho2, _⟩ := h2.at'
        obtain ⟨a2, c2, rfl, hrd2, hnil2, _⟩ := ho2.shape se_rowed
        have hmany := h2.ok.many
        obtain ⟨n2, hn2⟩ := named L.length
        rw [hn2.out] at hrd2 hmany
        have hb2' : Blk wr R 30 #[.slice a2 n2 c2] := by rw [← hn2.out]; exact hb2
        have HBK := Lib.hid hb2'
        have HRD := Lib.hid hrd2
        have HCP := Lib.hid (copy_any h1)
        unfold CopyQ at HCP
        clear h1 h2 hb2 ho2 hrd2 hb2'
        go_wp2_with (first
          | (go_at_call 16; refine HCP.out.mono ?_; rintro e w4 ⟨B3, S3, rfl, g1, g2, g3⟩; have HX3 := Lib.hid g1; have HS3 := Lib.hid g2; have HB3 := Lib.hid g3; have HRD4 := Lib.hid (HRD.out.later g3); have f1 : w4.cell? ⟨R, 0, none⟩ = some (.slice a2 n2 c2) := (HBK.out.later g3).cell 0; have f2 : ∀ o, (w4.alloc o).cell? ⟨R, 0, none⟩ = some (.slice a2 n2 c2) := fun o => ((HBK.out.later g3).alloc o).cell 0; obtain ⟨M, hM⟩ := named w4.heap.size; have hMM := hM.out; clear g1 g2 g3 HCP)
          | (at_builtin; refine append_gg se_rowed rfl (.tmp 59) (.tmp 63) rfl M (.slice (some ⟨M, 0, none⟩) 0 0) 0 [] (by rw [← hMM]; rfl) (by rw [← hMM]; exact OwnG.made _ _ _ w4 w4.heap.size (Nat.le_refl _)) a2 n2 c2 L rfl hnil2 (HRD4.out.later ((Below.refl _ w4).alloc (Nat.le_refl _) _)) (by omega) (by rw [World.size_alloc]; have := hMM; omega) ?_; intro a5 c5 w5 q1 q2 q3; rw [Nat.zero_add, List.nil_append] at q1; rw [Nat.zero_add]; have HO5 := Lib.hid q1; have HB5 : Hid (Below w4.heap.size w4 w5) := Lib.hid (((Below.refl w4.heap.size w4).alloc (Nat.le_refl _) _).grown q3 (by rw [World.size_alloc]; omega) fun k e => by have : M = k := (by simpa [Value.ownBlock] using e); omega); clear q1 q2 q3))
        have hq0 : Quad w B R B3 w5.heap.size L L S' (w5.alloc (.cells #[.slice a5 n2 c5] 30)) := Quad.first HDU.out HX3.out HS3.out HB3.out HB5.out (by rw [hMM, hn2.out]; exact HO5.out)
        obtain ⟨R4, hR4⟩ := named w5.heap.size
        have hRR4 := hR4.out
        rw [hRR4] at hq0 ⊢
        have HQ0 := Lib.hid hq0
        clear hq0
        go_loopw [12] (fun i wr => ∃ (q : Nat) (L2 : List Pr), q ≤ len1 ∧ i = .int .i64 q ∧ Hid (Quad w B R B3 R4 L L2 S' wr)) (fun i _ => len1 - (intOf i).toNat)
        case atStart => exact ⟨0, L, Nat.zero_le _, rfl, HQ0.out⟩
        case round =>
          obtain ⟨q, L2, hq, rfl, HQ⟩ := hrel
          clear HQ0
          by_cases hlq : q < len1
          · obtain ⟨T, ht, hdis⟩ := HQ.out.more
            have HT := Lib.hid ht
            have HDIS := Lib.hid hdis
            clear ht hdis
            obtain ⟨l, hl⟩ := (HV.out.bytes q hlq).bytes (by have := HS1.out q hlq; omega)
            obtain ⟨bq, oq, rfl, e0, e1, e2, e3, e4, e5, e6⟩ := HV.out.at HT.out.below q hlq
            obtain ⟨⟨d', ⟨aj, lj, cj⟩, k', s', m', z', g'⟩, hG⟩ : ∃ x, Hid (z1 q = x) := ⟨_, rfl⟩
            rw [hG.out] at e0 e1 e2 e3 e4 e5 e6 hl
            dsimp only at e0 e1 e2 e3 e4 e5 e6 hl
            have HACT := Lib.hid (act_any HT.out cj hl d' k' s' m' z' g')
            unfold ActQ at HACT
            clear hl
            go_wp2_with (go_at_call 11; refine HACT.out.mono ?_; rintro e w6 ⟨rfl, T6, g1, g2⟩; have HQ6 := Lib.hid (Quad.step HQ.out.two HT.out HDIS.out g1 g2); clear g1 g2)
            go_roundw
            case rel => exact ⟨q + 1, _, by omega, by go_num, HQ6.out⟩
            case measure => simp [intOf]; omega
          · obtain rfl : q = len1 := by omega
            have HD7 := Lib.hid HQ.out.two
            go_wp2_with fail
            go_loopw [13] (fun i wr => ∃ (p : Nat) (L2 : List Pr) (S2 : Nat → Prop), p ≤ q ∧ i = .int .i64 p ∧ Hid (Duo w B R L2 L2 S2 wr)) (fun i _ => q - (intOf i).toNat)
            case atStart => exact ⟨0, L, S', Nat.zero_le _, rfl, HD7.out⟩
            case round =>
              obtain ⟨p, L3, S5, hp, rfl, HD8⟩ := hrel
              by_cases hlp : p < q
              · obtain ⟨l, hl⟩ := (HV.out.bytes p hlp).bytes (by have := HS1.out p hlp; omega)
                obtain ⟨bq, oq, rfl, e0, e1, e2, e3, e4, e5, e6⟩ := HV.out.at HD8.out.below p hlp
                obtain ⟨⟨d', ⟨aj, lj, cj⟩, k', s', m', z', g'⟩, hG⟩ : ∃ x, Hid (z1 p = x) := ⟨_, rfl⟩
                rw [hG.out] at e0 e1 e2 e3 e4 e5 e6 hl
                dsimp only at e0 e1 e2 e3 e4 e5 e6 hl
                have HACT := Lib.hid (act_any HD8.out cj hl d' k' s' m' z' g')
                unfold ActQ at HACT
                clear hl
                go_wp2_with (go_at_call 11; refine HACT.out.mono ?_; rintro e w6 ⟨rfl, T6, g1, g2⟩; have HD9 := Lib.hid g1; clear g1 g2)
                go_roundw
                case rel => exact ⟨p + 1, _, T6, by omega, by go_num, HD9.out⟩
                case measure => simp [intOf]; omega
              · obtain rfl : p = q := by omega
                go_wp2_with (go_at_call 9; refine (awake_any _).mono ?_; rintro e w8 ⟨rfl, hb⟩; have HB := Lib.hid hb; clear hb)
                go_ret
                first | exact ⟨rfl, HD8.out.below.trans (HB.out.mono HD8.out.below.size)⟩ | exact ⟨rfl, by rw [← hBB]; exact HD8.out.below.trans (HB.out.mono HD8.out.below.size)⟩

set_option maxRecDepth 100000 in
theorem lifted (os : Os) (started : os.Started) (H : Type) (enc : TypeId × Value → H) :
    ReturnsInHanded {} Try.checked os 6 .any (Rows.indexCopiesSpec.pre6 enc Try.prog Try.f6 Rows.indexCopiesRow.domain false) (Rows.indexCopiesSpec.post enc Try.prog Try.f6 false true false false) := by
  refine returnsInHanded_of_change (C := Try.checked) own started (by kernel_rfl) Try.func6
    (ChangeSpec.witness6 (enc := enc) (C := Try.checked) false ⟨#[], #[.slice none 0 0, .slice none 0 0], []⟩ 8 (by kernel_rfl) (by kernel_rfl) (by kernel_rfl) (by kernel_rfl)) ?_
  intro W base args ds gs before hval0 hW hcnd _
  have hval : ∀ (j : Nat) t v, Try.f6.params[j]? = some t → args[j]? = some v → Value.okWide Try.prog W .any base t v := hval0
  have hW' := hW
  obtain ⟨p, q, hA0, hV, rfl, hfz, hnd⟩ := hW
  have hA : DataW.TrodAll enc Try.prog W 0 (fun _ => true) true Try.f6.params.toList args.toList ds p := hA0
  rw [Try.params6] at hA hval
  obtain ⟨v0, vs0, d0, ds0, p0, q0, hargs, rfl, rfl, h0, r0⟩ := trodAll_cons hA
  obtain ⟨v1, vs1, d1, ds1, p1, q1, rfl, rfl, rfl, h1, r1⟩ := trodAll_cons r0
  obtain ⟨rfl, rfl, rfl⟩ := trodAll_nil r1
  obtain rfl : args = #[v0, v1] := by cases args; simp_all
  obtain ⟨rfl, rfl⟩ := trodVars_none hV
  have k0 := h0
  have lt0 : ∀ x ∈ p0, x.block < W.heap.size := by obtain ⟨m, hm⟩ := k0; exact DataW.trod_lt m _ _ _ hm
  obtain ⟨a0, len0, cap0, rfl⟩ := okWide_slice Try.underlying22 (hval 0 22 v0 rfl rfl)
  obtain ⟨z0, w0⟩ := acts_open h0
  have k1 := h1
  have lt1 : ∀ x ∈ p1, x.block < W.heap.size := by obtain ⟨m, hm⟩ := k1; exact DataW.trod_lt m _ _ _ hm
  obtain ⟨a1, len1, cap1, rfl⟩ := okWide_slice Try.underlying22 (hval 1 22 v1 rfl rfl)
  obtain ⟨z1, w1⟩ := acts_open h1
  clear hA0 hval0
  refine (walk a0 len0 cap0 z0 a1 len1 cap1 z1 W w0 w1).mono fun e W' ⟨he, bel⟩ => ?_
  subst he
  exact ⟨_, rfl, _, _, _, [], _, [], hW', trodAll_mk1 (shut_bool Try.underlying4 _), (trodAll_cons_mk (Below.trod laidOut (by kernel_rfl) (of_decide_eq_true (by kernel_rfl)) k0 bel lt0) (trodAll_cons_mk (Below.trod laidOut (by kernel_rfl) (of_decide_eq_true (by kernel_rfl)) k1 bel lt1) trodAll_mk0)), rfl, bel.frame _, fun h => by cases h⟩

theorem over : Rows.indexCopiesRow.holds Try.pinned (OpenSpec.ofChange Rows.indexCopiesSpec) :=
  OpenClaim.holds_of_wide 6 Try.f6 rfl rfl rfl rfl rfl rfl rfl ⟨rfl, rfl, rfl, rfl, rfl⟩ rfl rfl rfl rfl rfl (by kernel_rfl) Try.func6 (by kernel_rfl)
    (of_decide_eq_true (by kernel_rfl)) (by unfold Func.isWrapper; first | (rw [if_pos (by decide +kernel)]; kernel_rfl) | (rw [if_neg (by decide +kernel)]; exact ⟨rfl, rfl⟩))
    (fun os started H enc _ => lifted os started H enc)

/-- The statement. -/
theorem proved : Rows.IndexCopiesSaid := over
#print axioms proved
end Go.Proofs.Ytobnmdjpcmegiaa.indexCopies
