/-
  Proved: 'matryoshkalaw14.MetaCuts' returns true for every input: the statement MetaCutsCardSaid as given. Conditions: none beyond the row's own.
-/
import Derived.Test.YtepekaedjpoacaaDoorRows
import Derived.Test.YtepekaedjpoacaaDoorV8
import Derived.Test.YtepekaedjpoacaaDoorTie
import Derived.Test.YtepekaedjpoacaaDoorCards
import Derived.SevenTiedAt
import Derived.LaidLaws
import Derived.Stop.Joined
import Derived.Test.YtepekaedjpoacaaDoorYz
import Derived.Test.YtepekaedjpoacaaDoorWz
import Derived.WalkKit
import Derived.ProofKit
import Derived.OpenShut
import Derived.ShutString
import Derived.ChangeOld
import Derived.Below
namespace Go.Proofs.YtepekaedjpoacaaDoor.metaCuts
open Go.ChangeShapes Go.WideShapes Go.ChangeAt Go.RowKit
open Go.ChangeMaps (open_string shut_string)
set_option linter.unusedVariables false

theorem own : ownKnob Tryd.prog.godebug = none := by kernel_rfl
theorem laidOut : laidOutB Tryd.prog = true := by kernel_rfl

/-- A slice of integers that came in: nil, or a row of cells. -/
def IsRow (k : IntKind) (w : World) (a : Option Addr) (len cap : Nat) (zs : List Int) : Prop :=
  (a = none ∧ len = 0 ∧ cap = 0 ∧ zs = []) ∨
  ∃ x, a = some x ∧ len ≤ cap ∧ cap ≤ maxLen ∧ zs.length = cap ∧ (∀ i, i < zs.length → w.cell? (x.add i) = some (.int k (zs.getD i 0))) ∧ ∀ n ∈ zs, (Lit.int k n).wf = true

set_option maxRecDepth 100000 in
set_option maxHeartbeats 4000000 in
theorem walk (mc0 ms0 : Int) (mb0 : ByteArray) (ta0 : Option Addr) (tn0 tc0 : Nat) (sa0 : Option Addr) (sn0 sc0 : Nat) (ba0 : Option Addr) (bn0 bc0 : Nat) (ca0 : Option Addr) (cn0 cc0 : Nat) (a1 : Int) (a2 : Option Addr) (len2 cap2 : Nat) (z2 : List Int) (w : World) (w0 : MetaArg w mc0 ms0 mb0 ta0 tn0 tc0 sa0 sn0 sc0 ba0 bn0 bc0 ca0 cn0 cc0) (w1 : (Lit.int .i64 a1).wf = true) (w2 : IsRow .u8 w a2 len2 cap2 z2) (HWD : Hid (Wid w)) :
    Calls Tryd.prog 5 #[.agg #[.int .i64 mc0, .int .i64 ms0, .string mb0, .slice ta0 tn0 tc0, .slice sa0 sn0 sc0, .slice ba0 bn0 bc0, .slice ca0 cn0 cc0], .int .i64 a1, .slice a2 len2 cap2] w fun e w' => e = .returned (.bool true) ∧ Below w.heap.size w w' := by
  have HGR := Lib.hid (fun (W : World) (hb : Below w.heap.size w W) => great_md (w0.later hb))
  have HRT := Lib.hid (RtS.first w #[.int .i64 mc0, .int .i64 ms0, .string mb0, .slice ta0 tn0 tc0, .slice sa0 sn0 sc0, .slice ba0 bn0 bc0, .slice ca0 cn0 cc0])
  have HAW : Hid (∀ W, Below w.heap.size w W → Calls Tryd.prog 9 #[] W fun e w' => e = .returned (.bool true) ∧ Below w.heap.size w w') := fun W hb => (awake14 W (HWD.out.later hb)).mono fun e w' h => ⟨h.1, hb.trans (h.2.mono hb.size)⟩
  have b1 := bounds_i64 w1
  by_cases hbig : 1000 < len2
  · go_enter Tryd.func5, Tryd.ntmps5
    go_wp2_with (first
      | (go_at_call 8; (with_reducible refine (HGR.out _ HRT.out.below).mono ?_); rintro e w2 ⟨G, rfl, h, hg⟩; have HGG := Lib.hid hg; have HB2 := Lib.hid h; have HRT := Lib.hid (HRT.out.later h); obtain ⟨m0, m1, m2, m3, m4, m5, m6⟩ := cells7 HRT.out.box; clear h hg; cases G)
      | (go_at_call 13; obtain ⟨⟨c', s', bk', T, S, B, K⟩, q1, q2, q3, h20, h21, hcn, h500, hMD⟩ := HGG.out (by first | rfl | trivial); dsimp only at q1 q2 q3 h500; subst q1 q2 q3; have HMD := Lib.hid (hMD.later HB2.out); have HRA := refRight12 _ _ _ HMD.out (by show cn0 ≤ 65536; omega); dsimp only [mtA] at HRA; (with_reducible refine HRA.mono ?_); clear HRA; rintro e w3 ⟨R, rfl, h, hr⟩; have HMD := Lib.hid (HMD.out.later h); have HRR := Lib.hid hr.1; have HRT3 := Lib.hid (HRT.out.later h); clear m0 m1 m2 m3 m4 m5 m6; obtain ⟨m0, m1, m2, m3, m4, m5, m6⟩ := cells7 HRT3.out.box; clear h hr hMD; cases R)
      | (go_at_call 9; first | ((with_reducible refine (HAW.out _ HRT3.out.below).mono ?_); rintro e w9 ⟨rfl, hb9⟩) | ((with_reducible refine (HAW.out _ HRT.out.below).mono ?_); rintro e w9 ⟨rfl, hb9⟩)))
    all_goals (go_ret; exact ⟨rfl, hb9⟩)
  · obtain ⟨l2, hB2, hc2, hn2⟩ := arg_of7 w2 (by omega)
    have HB2X := Lib.hid hB2
    have HN2X := Lib.hid hn2
    clear hB2 hn2
    have HN0 := Lib.hid (fun W => num14 0 (by unfold I64; omega) W)
    have HN3 := Lib.hid (fun W => num14 3 (by unfold I64; omega) W)
    go_enter Tryd.func5, Tryd.ntmps5
    go_wp2_with (first
      | (go_at_call 8; (with_reducible refine (HGR.out _ HRT.out.below).mono ?_); rintro e w2 ⟨G, rfl, h, hg⟩; have HGG := Lib.hid hg; have HB2 := Lib.hid h; have HRT := Lib.hid (HRT.out.later h); obtain ⟨m0, m1, m2, m3, m4, m5, m6⟩ := cells7 HRT.out.box; clear h hg; cases G)
      | (go_at_call 13; obtain ⟨⟨c', s', bk', T, S, B, K⟩, q1, q2, q3, h20, h21, hcn, h500, hMD⟩ := HGG.out (by first | rfl | trivial); dsimp only at q1 q2 q3 h500; subst q1 q2 q3; have HMD := Lib.hid (hMD.later HB2.out); have HRA := refRight12 _ _ _ HMD.out (by show cn0 ≤ 65536; omega); dsimp only [mtA] at HRA; (with_reducible refine HRA.mono ?_); clear HRA; rintro e w3 ⟨R, rfl, h, hr⟩; have HMD := Lib.hid (HMD.out.later h); have HRR := Lib.hid hr.1; have HRT3 := Lib.hid (HRT.out.later h); clear m0 m1 m2 m3 m4 m5 m6; obtain ⟨m0, m1, m2, m3, m4, m5, m6⟩ := cells7 HRT3.out.box; clear h hr hMD; cases R)
      | (go_at_call 9; first | ((with_reducible refine (HAW.out _ HRT3.out.below).mono ?_); rintro e w9 ⟨rfl, hb9⟩) | ((with_reducible refine (HAW.out _ HRT.out.below).mono ?_); rintro e w9 ⟨rfl, hb9⟩))
      | (go_at_call 10; obtain ⟨NL, hNL⟩ := named (encM { c := c', s := s', bk := bk', T := T, S := S, B := B, K := K }).length; have HPU := put_own14 _ _ _ HMD.out (HRR.out (by first | rfl | trivial)) (HWD.out.later HRT3.out.below) hNL.out; dsimp only [mtA] at HPU; (with_reducible refine HPU.mono ?_); clear HPU; rintro e w4 ⟨pa, pc, rfl, hB, hcap, hb⟩; have HBY := Lib.hid hB; have HCP := Lib.hid hcap; have HRT4 := Lib.hid (HRT3.out.later hb); have HMD4 := Lib.hid (HMD.out.later hb); have HNL := Lib.hid hNL.out; have hNpos : 0 < NL := Nat.lt_of_lt_of_eq (encM_pos _) hNL.out; have hR1 := HRR.out (by first | rfl | trivial); have hNle := hNL.out ▸ encM_len hR1.sml; obtain ⟨KK, ⟨hKK, hKK3⟩, hKK2⟩ := cut_at a1 NL hNpos hNle; obtain ⟨pa2, hsl, hBk, _⟩ := slice_front hB hcap.2 hcap.1 KK (Nat.le_of_lt hKK2); have HGT1 := Lib.hid (get_no14 hBk (Nat.le_trans (Nat.le_of_lt hKK2) hcap.2) (HWD.out.later HRT4.out.below) (cut_not hR1 HMD.out.en (hNL.out.symm ▸ hKK2))); have HR1 := Lib.hid hR1; clear hB hcap hb hNL hBk hR1)
      | (go_at_call 14; first
        | ((with_reducible refine HGT1.out.mono ?_); rintro e w5 ⟨rfl, hb⟩; have HA5 := Lib.hid ((Below.refl w5.heap.size w5).alloc (Nat.le_refl _) (.cells #[.int .i64 0, .int .i64 0, .string ByteArray.empty, .slice none 0 0, .slice none 0 0, .slice none 0 0, .slice none 0 0] 29)); have HRT5 := Lib.hid ((HRT4.out.later hb).below.trans (HA5.out.mono (HRT4.out.later hb).below.size)); have HBY5 := Lib.hid ((HBY.out.later hb).later HA5.out); dsimp only [mtA, MM0, Mt0]; clear hb HGT1)
        | ((with_reducible refine (get_more14 (HO7.out.bytes.1) HO7.out.capOk (HWD.out.later HB7.out) HR1.out HMD.out.en rfl).mono ?_); rintro e w8 ⟨v0, v1, v2, a3, a4, a5, a6, n3, n4, n5, n6, c3, c4, c5, c6, g8, rfl, hg8, hg83, hb⟩; have HB8 := Lib.hid ((HB7.out.trans (hb.mono HB7.out.size)).alloc (Nat.le_trans HB7.out.size hb.size) (.cells #[.int .i64 v0, .int .i64 v1, .string v2, .slice a3 n3 c3, .slice a4 n4 c4, .slice a5 n5 c5, .slice a6 n6 c6] 29)); have HNG := Lib.hid (fun W => num14 g8 hg8 W); clear hb hg8))
      | (at_builtin; first
        | (refine append_copy rfl (.tmp 53) (.tmp 54) rfl (w5.heap.size + 1) (by rw [World.size_alloc]; rfl) pa NL pc _ rfl HCP.out.1 HBY5.out (by omega) (by rw [World.size_alloc]; exact Nat.le_refl _) ?_; intro a6 c6 w6 g1 g2; have HO6 := Lib.hid g1; have HB6 := Lib.hid (HRT5.out.trans (g2.mono HRT5.out.size)); have hs6 := g2.size; have hs5 := HRT5.out.size; rw [World.size_alloc] at hs5 hs6; clear g1 g2)
        | (refine append_bytes rfl (.tmp 55) (.tmp 56) rfl _ _ NL _ rfl HO6.out a2 len2 cap2 l2 rfl HN2X.out (HB2X.out.later HB6.out) (by omega) hs6 ?_; intro a7 c7 w7 g1 g2; have HO7 := Lib.hid g1; have HB7 := Lib.hid (HO6.out.below HB6.out g2 HB6.out.size hs5); clear g1 g2))
      | (go_at_call 12; (with_reducible refine (HN0.out _).mono ?_); rintro e w' ⟨rfl, hw⟩; obtain rfl := hw.symm))
    all_goals first
      | (go_ret; exact ⟨rfl, hb9⟩)
      | skip
    all_goals
      have h83 := hg83
      rw [HB2X.out.1] at h83
      have HB8D := Lib.hid HB8.out.drew
      by_cases h0 : 0 < len2
      · have hp : g8 = 3 := by rw [decide_eq_true h0] at h83; simpa using h83
        subst hp
        go_wp2_with (first
          | (go_at_call 12; (with_reducible refine (HN3.out _).mono ?_); rintro e w' ⟨rfl, hw⟩; obtain rfl := hw.symm)
          | (go_at_call 9; (with_reducible refine (HAW.out _ (by first | exact HB8.out | exact HB8D.out)).mono ?_); rintro e w9 ⟨rfl, hb9⟩))
        all_goals first
          | (go_ret; exact ⟨rfl, hb9⟩)
          | (rename_i hx; exact absurd (List.length_eq_zero_iff.1 (by have := HB2X.out.1; omega)) hx)
      · have hp : ¬ g8 = 3 := by rw [decide_eq_false h0] at h83; simpa using h83
        go_wp2_with (first
          | (go_at_call 12; (with_reducible refine (HN3.out _).mono ?_); rintro e w' ⟨rfl, hw⟩; obtain rfl := hw.symm)
          | (go_at_call 12; (with_reducible refine (HNG.out _).mono ?_); rintro e w' ⟨rfl, hw⟩; obtain rfl := hw.symm)
          | (go_at_call 9; (with_reducible refine (HAW.out _ (by first | exact HB8.out | exact HB8D.out)).mono ?_); rintro e w9 ⟨rfl, hb9⟩))
        all_goals first
          | (go_ret; exact ⟨rfl, hb9⟩)
          | (rename_i hx; exact absurd (List.length_eq_zero_iff.1 (by have := HB2X.out.1; omega)) hx)

set_option maxRecDepth 100000 in
theorem lifted (os : Os) (started : os.Started) (H : Type) (enc : TypeId × Value → H) :
    ReturnsInHanded {} Tryd.checked os 5 .any (fun w args => (Rows.metaCutsSpec.pre enc Tryd.prog Tryd.f5 [] false w args ∧ laidMetH Tryd.prog laid8 w) ∧ sizedMet enc Tryd.prog Tryd.f5 (OpenSpec.ofChange Rows.metaCutsSpec) false w args) (Rows.metaCutsSpec.post enc Tryd.prog Tryd.f5 false true false false) := by
  refine returnsInHanded_of_change_and (C := Tryd.checked) (X := fun w _ => laidMetH Tryd.prog laid8 w) (fun _ _ _ hh h => h.of_heap hh) own started (by kernel_rfl) Tryd.func5
    (ChangeSpec.witness_shaped (enc := enc) (C := Tryd.checked) (os := os) (X := fun w _ => laidMetH Tryd.prog laid8 w) false (World.doorLaid Tryd.prog 400 os) #[.agg #[.int .i64 0, .int .i64 0, .string ByteArray.empty, .slice none 0 0, .slice none 0 0, .slice none 0 0, .slice none 0 0], .int .i64 0, .slice none 0 0] 8 rfl (World.shaped_of_RefB (by kernel_rfl) (by kernel_rfl)) (by kernel_rfl) (by kernel_rfl) (by kernel_rfl) (door_met os _)) ?_
  intro W base args ds gs before hval0 hW _ _ hL _
  have hval : ∀ (j : Nat) t v, Tryd.f5.params[j]? = some t → args[j]? = some v → Value.okWide Tryd.prog W .any base t v := hval0
  have hW' := hW
  obtain ⟨p, q, hA0, hV, rfl, hfz, hnd⟩ := hW
  have hA : DataW.TrodAll enc Tryd.prog W 0 (fun _ => true) true Tryd.f5.params.toList args.toList ds p := hA0
  rw [Tryd.params5] at hA hval
  obtain ⟨v0, vs0, d0, ds0, p0, q0, hargs, rfl, rfl, h0, r0⟩ := trodAll_cons hA
  obtain ⟨v1, vs1, d1, ds1, p1, q1, rfl, rfl, rfl, h1, r1⟩ := trodAll_cons r0
  obtain ⟨v2, vs2, d2, ds2, p2, q2, rfl, rfl, rfl, h2, r2⟩ := trodAll_cons r1
  obtain ⟨rfl, rfl, rfl⟩ := trodAll_nil r2
  obtain rfl : args = #[v0, v1, v2] := by cases args; simp_all
  obtain ⟨rfl, rfl⟩ := trodVars_none hV
  have k0 := h0
  have lt0 : ∀ x ∈ p0, x.block < W.heap.size := by obtain ⟨m, hm⟩ := k0; exact DataW.trod_lt m _ _ _ hm
  obtain ⟨mc0, ms0, mb0, ta0, tn0, tc0, sa0, sn0, sc0, ba0, bn0, bc0, ca0, cn0, cc0, rfl, w0⟩ := meta_open (hval 0 29 v0 rfl rfl) h0
  have k1 := h1
  have lt1 : ∀ x ∈ p1, x.block < W.heap.size := by obtain ⟨m, hm⟩ := k1; exact DataW.trod_lt m _ _ _ hm
  obtain ⟨a1, rfl, _, _, w1⟩ := open_int Tryd.underlying3 (hval 1 3 v1 rfl rfl) h1
  have k2 := h2
  have lt2 : ∀ x ∈ p2, x.block < W.heap.size := by obtain ⟨m, hm⟩ := k2; exact DataW.trod_lt m _ _ _ hm
  obtain ⟨a2, len2, cap2, rfl⟩ := okWide_slice Tryd.underlying32 (hval 2 32 v2 rfl rfl)
  obtain ⟨z2, w2⟩ : ∃ zs, IsRow .u8 W a2 len2 cap2 zs := by
    obtain ⟨fuel, hf⟩ := h2
    rcases open_ints Tryd.underlying32 Tryd.underlying5 (by kernel_rfl) hf with ⟨hcs, _⟩ | ⟨x, l, c, zs, hcs, _, hl, hm, hz, _, hcell, hwz⟩
    · simp [Value.cells] at hcs
      obtain ⟨rfl, rfl, rfl⟩ := hcs
      exact ⟨[], .inl ⟨rfl, rfl, rfl, rfl⟩⟩
    · simp [Value.cells] at hcs
      obtain ⟨rfl, rfl, rfl⟩ := hcs
      exact ⟨zs, .inr ⟨_, rfl, hl, hm, by simpa using hz, hcell, hwz⟩⟩
  clear hA0 hval0
  refine (walk mc0 ms0 mb0 ta0 tn0 tc0 sa0 sn0 sc0 ba0 bn0 bc0 ca0 cn0 cc0 a1 a2 len2 cap2 z2 W w0 w1 w2 (Lib.hid (wid_of_laid hL))).mono fun e W' ⟨he, bel⟩ => ?_
  subst he
  exact ⟨_, rfl, _, _, _, [], _, [], hW', trodAll_mk1 (shut_bool Tryd.underlying4 _), (trodAll_cons_mk (Below.trod laidOut (by kernel_rfl) (of_decide_eq_true (by kernel_rfl)) k0 bel lt0) (trodAll_cons_mk (Below.trod laidOut (by kernel_rfl) (of_decide_eq_true (by kernel_rfl)) k1 bel lt1) (trodAll_cons_mk (Below.trod laidOut (by kernel_rfl) (of_decide_eq_true (by kernel_rfl)) k2 bel lt2) trodAll_mk0))), rfl, bel.frame _, fun h => by cases h⟩

theorem over : Rows.metaCutsRow.holds Tryd.pinned (OpenSpec.ofChange Rows.metaCutsSpec) :=
  OpenClaim.holds_of_wide 5 Tryd.f5 rfl rfl rfl rfl rfl rfl rfl ⟨rfl, rfl, rfl, rfl, rfl⟩ rfl rfl rfl rfl rfl (by kernel_rfl) Tryd.func5 (by kernel_rfl)
    (of_decide_eq_true (by kernel_rfl)) (by unfold Func.isWrapper; first | (rw [if_pos (by decide +kernel)]; kernel_rfl) | (rw [if_neg (by decide +kernel)]; exact ⟨rfl, rfl⟩))
    (fun os started H enc _ => lifted os started H enc)

/-- The statement: the row's card, its listed variable tied to the program's text. -/
theorem proved : Rows.MetaCutsCardSaid :=
  Claim7.holds_tied_plain_at .later [] [.data] true (true, "9249da03e8cd02eaf585d81111062a7b5d9f4e426ada74f5d76df224373ff76a") false
    over (fun _ h => by cases h) (by kernel_rfl) (fun _ h => by cases h) metaCuts_row_tie rfl ⟨rfl, rfl⟩ (by kernel_rfl) rfl
    (fun f fn hf hfn => by
      obtain rfl : f = 5 := Option.some.inj ((show Tryd.prog.funcNamed "matryoshka/matryoshkalaw14.MetaCuts" = some 5 by kernel_rfl).symm.trans hf) |>.symm
      obtain rfl : fn = Tryd.f5 := (Option.some.inj (Tryd.func5.symm.trans hfn)).symm
      exact ⟨by kernel_rfl, fun j t ht => by
        rw [Tryd.params5] at ht
        have hm : t ∈ [29, 3, 32] := by simpa using Array.mem_of_getElem? ht
        have hall : ([29, 3, 32].all fun u => !Tryd.prog.wantsStandIn u) = true := by kernel_rfl
        exact (show Tryd.prog.wantsStandIn t = false by simpa using List.all_eq_true.1 hall t hm)⟩)
    (by kernel_rfl)
#print axioms proved
end Go.Proofs.YtepekaedjpoacaaDoor.metaCuts
