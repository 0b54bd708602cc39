/-
  Proved: 'matryoshkalaw9.CountShots' returns true for every input, and each argument reads afterwards as before: the statement CountShotsSaid as given. Conditions: none beyond the row's own.
-/
import Derived.Test.YtidknkhkblloaaaRows
import Derived.Test.YtidknkhkblloaaaD0
import Derived.Deep.RegionHeld3
import Derived.Deep.QuietTactic
import Derived.BigQuiet
import Derived.WalkKit
import Derived.ProofKit
import Derived.OpenShut
import Derived.ShutString
import Derived.ChangeOld
import Derived.Below
namespace Go.Proofs.Ytidknkhkblloaaa.countShots
open Go.ChangeShapes Go.WideShapes Go.ChangeAt Go.RowKit
open Go.ChangeMaps (open_string shut_string)
set_option linter.unusedVariables false

theorem own : ownKnob Try.prog.godebug = none := by kernel_rfl
theorem laidOut : laidOutB Try.prog = true := by kernel_rfl

theorem S3.first2 {w W : World} {cm : Array Value} (h : RtS w W cm) (cn co : Array Value) : S3 w.heap.size W.heap.size w ((W.alloc (.cells cn 29)).alloc (.cells co 29)) cm cn co := by
  have h1 : Blk ((W.alloc (.cells cn 29)).alloc (.cells co 29)) (W.heap.size + 1) 29 co := by
    have := Blk.new (W.alloc (.cells cn 29)) 29 co
    rwa [World.size_alloc] at this
  have hs := h.below.size
  exact ⟨(h.box.alloc _).alloc _, (Blk.new W _ _).alloc _, h1, (h.below.alloc hs _).alloc (by simp; omega) _⟩
theorem s3_below (W : World) (a b : Obj) : Below W.heap.size W ((W.alloc a).alloc b) :=
  ((Below.refl _ _).alloc (Nat.le_refl _) _).alloc (by simp) _
theorem ofL_bound (L : List Ln) (h : L.length ≤ 4096 * 901) (j : Nat) : 0 ≤ ofL L j ∧ ofL L j ≤ 10000000 := by
  have := cnt_bound j ((0, 2) :: L.map sgOf)
  rw [List.length_cons, List.length_map] at this
  unfold ofL
  omega
theorem lines_less (T : Tb) (S : List Tb) : (allLines T []).length ≤ (allLines T S).length := by
  have e : allLines T [] = tabLines (-1) T := by
    unfold allLines shotsTo
    simp
  rw [e]
  unfold allLines
  rw [List.length_append]
  exact Nat.le_add_right _ _
theorem lines_max {w : World} {c s : Int} {bk : ByteArray} {a0 : Option Addr} {n0 : Nat} {tc : Nat} {sa : Option Addr} {sn : Nat} {ma : Option Addr} {mn : Nat} {ca : Option Addr} {cn : Nat} {T : Tb} {S : List Sh} {gm : Nat → MpA} {f : Nat → Int} (h : MetaS w c s bk a0 n0 tc sa sn ma mn ca cn T S gm f) (hR : RightX T S) : (allLines T (S.map shT)).length ≤ 4096 * 901 := by
  obtain ⟨v, hv⟩ := vtx_of (tabsX_ok h.hT h.hS hR (by have := h.hsn; omega))
  rw [← lines_is hv]
  have h1 := linesOf_len v
  have h2 := congrArg List.length hv
  rw [List.length_map] at h2
  have h3 : (tabsX a0 n0 tc T S).length = sn + 1 := by simp [tabsX, shX, h.hS.len]
  have := h.hsn
  omega

set_option maxRecDepth 100000 in
set_option maxHeartbeats 4000000 in
theorem walk (mc0 ms0 : Int) (mb0 : ByteArray) (ta0 : Option Addr) (tn0 tc0 : Nat) (sa0 : Option Addr) (sn0 sc0 : Nat) (ba0 : Option Addr) (bn0 bc0 : Nat) (ca0 : Option Addr) (cn0 cc0 : Nat) (w : World) (w0 : MetaArgC w mc0 ms0 mb0 ta0 tn0 tc0 sa0 sn0 sc0 ba0 bn0 bc0 ca0 cn0 cc0) :
    Calls Try.prog 8 #[.agg #[.int .i64 mc0, .int .i64 ms0, .string mb0, .slice ta0 tn0 tc0, .slice sa0 sn0 sc0, .slice ba0 bn0 bc0, .slice ca0 cn0 cc0]] w fun e w' => e = .returned (.bool true) ∧ Below w.heap.size w w' := by
  have HRT0 := Lib.hid (RtS.first w (mtC mc0 ms0 mb0 ta0 tn0 tc0 sa0 sn0 sc0 (.slice ba0 bn0 bc0) (.slice ca0 cn0 cc0)))
  have HGR := Lib.hid (great_meta (w0.1.later HRT0.out.below))
  have HCC := Lib.hid w0.2
  have HW0 := Lib.hid w0.1
  clear w0
  go_enter Try.func8, Try.ntmps8
  go_wp2_with (first
    | (go_at_call 11; refine HGR.out.mono ?_; rintro e w1 ⟨G, rfl, g, hs⟩; have HRT := Lib.hid (HRT0.out.later g); obtain ⟨m0, m1, m2, m3, m4, m5, m6⟩ := mt_cells HRT.out.box; have HSM := Lib.hid hs; have HG1 := Lib.hid g; clear g hs; cases G)
    | (go_at_call 13; refine (awake0 _).mono ?_; rintro e w9 ⟨rfl, g⟩; have HRT := Lib.hid (HRT.out.later g); clear g)
    | (go_at_call 12; obtain ⟨T, S, gm, f, hm⟩ := HSM.out (by first | rfl | trivial); refine (right_meta (hm.later HG1.out)).mono ?_; rintro e w2 ⟨B, rfl, g, hr⟩; have HRT := Lib.hid (HRT.out.later g); obtain ⟨m0, m1, m2, m3, m4, m5, m6⟩ := mt_cells HRT.out.box; have HMS := Lib.hid ((hm.later HG1.out).later g); have HRX := Lib.hid hr; clear g hr hm; cases B)
    | (go_at_call 21; obtain ⟨gs, hgs, _⟩ := HW0.out.shots; refine (addShot0 HMS.out HCC.out gs (hgs.later HRT.out.below) _ (by decide)).mono ?_; rintro e w3 ⟨z, c9, s9, b9, a1, n1, c1, pa, pn, pc, ma1, mn1, mc1, ca1, cn1, cc1, rfl, g, hz⟩; have HRT := Lib.hid (HRT.out.later g); obtain ⟨m0, m1, m2, m3, m4, m5, m6⟩ := mt_cells HRT.out.box; have HMS := Lib.hid (HMS.out.later g); have HZ := Lib.hid hz; clear g hz hgs; have hxlt := HRT.out.box.lt; by_cases hz0 : z = 0; rotate_left; have HRT := Lib.hid (HRT.out.alloc (.cells #[.int .i64 c9, .int .i64 s9, .string b9, .slice a1 n1 c1, .slice pa pn pc, .slice ma1 mn1 mc1, .slice ca1 cn1 cc1] 29)); rotate_left; subst hz0; obtain ⟨⟨e1, e2, e3, e4⟩, S1, hS1, hT1, hSh⟩ := HZ.out rfl; have e1 := e1.symm; have e2 := e2.symm; have e3 := e3.symm; subst e1; subst e2; subst e3; subst e4; have HS1 := Lib.hid hS1; have HT1 := Lib.hid hT1; have HSH := Lib.hid hSh; clear hS1 hT1 hSh))
  all_goals first | (go_ret; exact ⟨rfl, HRT.out.below⟩) | skip
  have HX : Hid (RightX T S) := (HRX.out (by first | rfl | trivial)).1
  have HX1 := Lib.hid (right_more HX.out HS1.out)
  have HX0 : Hid (RightX T []) := right_nil0 HX.out
  have HT : Hid (S3 w.heap.size w3.heap.size w ((w3.alloc (.cells (mtC mc0 ms0 mb0 a1 n1 c1 pa (sn0 + 1) pc (.slice ma1 mn1 mc1) (.slice ca1 cn1 cc1)) 29)).alloc (.cells (mtC mc0 ms0 mb0 ta0 tn0 tc0 none 0 0 (.slice ba0 bn0 bc0) (.slice ca0 cn0 cc0)) 29)).drew (mtC mc0 ms0 mb0 ta0 tn0 tc0 sa0 sn0 sc0 (.slice ba0 bn0 bc0) (.slice ca0 cn0 cc0)) (mtC mc0 ms0 mb0 a1 n1 c1 pa (sn0 + 1) pc (.slice ma1 mn1 mc1) (.slice ca1 cn1 cc1)) (mtC mc0 ms0 mb0 ta0 tn0 tc0 none 0 0 (.slice ba0 bn0 bc0) (.slice ca0 cn0 cc0))) := (S3.first2 HRT.out (mtC mc0 ms0 mb0 a1 n1 c1 pa (sn0 + 1) pc (.slice ma1 mn1 mc1) (.slice ca1 cn1 cc1)) (mtC mc0 ms0 mb0 ta0 tn0 tc0 none 0 0 (.slice ba0 bn0 bc0) (.slice ca0 cn0 cc0))).later (Below.refl _ _).drew
  have HB3 : Hid (Below w3.heap.size w3 ((w3.alloc (.cells (mtC mc0 ms0 mb0 a1 n1 c1 pa (sn0 + 1) pc (.slice ma1 mn1 mc1) (.slice ca1 cn1 cc1)) 29)).alloc (.cells (mtC mc0 ms0 mb0 ta0 tn0 tc0 none 0 0 (.slice ba0 bn0 bc0) (.slice ca0 cn0 cc0)) 29)).drew) := (s3_below w3 _ _).drew
  have HMS := Lib.hid (HMS.out.later HB3.out)
  have HT1 := Lib.hid (HT1.out.later HB3.out)
  have HSH := Lib.hid (HSH.out.later HB3.out)
  refine wp_region_held_drew (S := fun w' => (w'.cell? ⟨w.heap.size, 0, none⟩ = some (.int .i64 mc0) ∧ w'.cell? ⟨w.heap.size, 1, none⟩ = some (.int .i64 ms0) ∧ w'.cell? ⟨w.heap.size, 2, none⟩ = some (.string mb0) ∧ w'.cell? ⟨w.heap.size, 3, none⟩ = some (.slice ta0 tn0 tc0) ∧ w'.cell? ⟨w.heap.size, 4, none⟩ = some (.slice sa0 sn0 sc0) ∧ w'.cell? ⟨w.heap.size, 5, none⟩ = some (.slice ba0 bn0 bc0) ∧ w'.cell? ⟨w.heap.size, 6, none⟩ = some (.slice ca0 cn0 cc0)) ∧ (w'.cell? ⟨w3.heap.size, 0, none⟩ = some (.int .i64 mc0) ∧ w'.cell? ⟨w3.heap.size, 1, none⟩ = some (.int .i64 ms0) ∧ w'.cell? ⟨w3.heap.size, 2, none⟩ = some (.string mb0) ∧ w'.cell? ⟨w3.heap.size, 3, none⟩ = some (.slice a1 n1 c1) ∧ w'.cell? ⟨w3.heap.size, 4, none⟩ = some (.slice pa (sn0 + 1) pc) ∧ w'.cell? ⟨w3.heap.size, 5, none⟩ = some (.slice ma1 mn1 mc1) ∧ w'.cell? ⟨w3.heap.size, 6, none⟩ = some (.slice ca1 cn1 cc1)) ∧ (w'.cell? ⟨w3.heap.size + 1, 0, none⟩ = some (.int .i64 mc0) ∧ w'.cell? ⟨w3.heap.size + 1, 1, none⟩ = some (.int .i64 ms0) ∧ w'.cell? ⟨w3.heap.size + 1, 2, none⟩ = some (.string mb0) ∧ w'.cell? ⟨w3.heap.size + 1, 3, none⟩ = some (.slice ta0 tn0 tc0) ∧ w'.cell? ⟨w3.heap.size + 1, 4, none⟩ = some (.slice none 0 0) ∧ w'.cell? ⟨w3.heap.size + 1, 5, none⟩ = some (.slice ba0 bn0 bc0) ∧ w'.cell? ⟨w3.heap.size + 1, 6, none⟩ = some (.slice ca0 cn0 cc0))) (by kernel_rfl) (by exact ⟨mt_cells HT.out.m, mt_cells HT.out.n, mt_cells HT.out.o⟩) (fun hHeld => ?_)
  refine wpAnyH_take (i := 0) (oi := _) (v := ?v0) rfl (by kernel_rfl) (by kernel_rfl) (by kernel_rfl) (fun _ _ _ h => h) (Or.inl ⟨by rfl, ?hy0⟩) (by assumption) ?rest0
  case hy0 => (intro wz hSw; (try dsimp only at hSw); go_simp; try with_reducible rfl)
  (try simp only [List.getElem_toArray, List.getElem_cons_zero, Act.put, List.setIfInBounds_toArray, List.set_cons_zero, List.set_cons_succ])
  refine wpAnyH_take (i := 2) (oi := _) (v := ?v2) rfl (by kernel_rfl) (by kernel_rfl) (by kernel_rfl) (fun _ _ _ h => h) (Or.inl ⟨by rfl, ?hy2⟩) (by assumption) ?rest2
  case hy2 => (intro wz hSw; (try dsimp only at hSw); go_simp; try with_reducible rfl)
  (try simp only [List.getElem_toArray, List.getElem_cons_zero, List.getElem_cons_succ, Act.put, List.setIfInBounds_toArray, List.set_cons_zero, List.set_cons_succ])
  refine wpAnyH_take (i := 4) (oi := _) (v := ?v4) rfl (by kernel_rfl) (by kernel_rfl) (by kernel_rfl) (fun _ _ _ h => h) (Or.inl ⟨by rfl, ?hy4⟩) (by assumption) ?rest4
  case hy4 => (intro wz hSw; (try dsimp only at hSw); go_simp; try with_reducible rfl)
  (try simp only [List.getElem_toArray, List.getElem_cons_zero, List.getElem_cons_succ, Act.put, List.setIfInBounds_toArray, List.set_cons_zero, List.set_cons_succ])
  refine wpAnyH_ready (rs := [1]) (by kernel_rfl) (by simp) ?_
  refine AllReadyH.cons (o := _) rfl (fun K hK => ?_) AllReadyH.nil
  rw [if_pos (by rfl)]
  go_simp
  (go_at_call 15; refine (of_m (sc := sc0) (mc := bc0) (cc := cc0) HMS.out HX.out 300 (by omega)).mono ?_; rintro e w4 ⟨R1, rfl, hR1, hrow1, g⟩; have HT := Lib.hid (HT.out.later g); have HMS := Lib.hid (HMS.out.later g); have HT1 := Lib.hid (HT1.out.later g); have HSH := Lib.hid (HSH.out.later g); have HW1 := Lib.hid hrow1; clear g hrow1)
  dsimp only
  refine hK.out _ _ (by exact ⟨mt_cells HT.out.m, mt_cells HT.out.n, mt_cells HT.out.o⟩) (fun hHeld => ?_)
  clear hK K
  (try simp only [List.getElem_toArray, List.getElem_cons_zero, List.getElem_cons_succ, Act.put, List.setIfInBounds_toArray, List.set_cons_zero, List.set_cons_succ])
  refine wpAnyH_ready (rs := [3]) (by kernel_rfl) (by simp) ?_
  refine AllReadyH.cons (o := _) rfl (fun K hK => ?_) AllReadyH.nil
  rw [if_pos (by rfl)]
  go_simp
  (go_at_call 15; refine (of_any _ mc0 ms0 mb0 a1 n1 c1 pa (sn0 + 1) pc ma1 mn1 mc1 ca1 cn1 cc1 T S1 HT1.out HSH.out HX1.out (by have := HMS.out.hsn; omega) 300 (by omega)).mono ?_; rintro e w5 ⟨R2, rfl, hR2, hrow2, g⟩; have HT := Lib.hid (HT.out.later g); have HMS := Lib.hid (HMS.out.later g); have HT1 := Lib.hid (HT1.out.later g); have HSH := Lib.hid (HSH.out.later g); have HW1 := Lib.hid (HW1.out.later g); have HW2 := Lib.hid hrow2; clear g hrow2)
  dsimp only
  refine hK.out _ _ (by exact ⟨mt_cells HT.out.m, mt_cells HT.out.n, mt_cells HT.out.o⟩) (fun hHeld => ?_)
  clear hK K
  (try simp only [List.getElem_toArray, List.getElem_cons_zero, List.getElem_cons_succ, Act.put, List.setIfInBounds_toArray, List.set_cons_zero, List.set_cons_succ])
  refine wpAnyH_ready (rs := [5]) (by kernel_rfl) (by simp) ?_
  refine AllReadyH.cons (o := _) rfl (fun K hK => ?_) AllReadyH.nil
  rw [if_pos (by rfl)]
  go_simp
  (go_at_call 15; refine (of_any _ mc0 ms0 mb0 ta0 tn0 tc0 none 0 0 ba0 bn0 bc0 ca0 cn0 cc0 T [] HMS.out.hT (ShsR.nil _) HX0.out (by omega) 300 (by omega)).mono ?_; rintro e w6 ⟨R3, rfl, hR3, hrow3, g⟩; have HT := Lib.hid (HT.out.later g); have HMS := Lib.hid (HMS.out.later g); have HT1 := Lib.hid (HT1.out.later g); have HSH := Lib.hid (HSH.out.later g); have HW1 := Lib.hid (HW1.out.later g); have HW2 := Lib.hid (HW2.out.later g); have HW3 := Lib.hid hrow3; clear g hrow3)
  dsimp only
  refine hK.out _ _ (by exact ⟨mt_cells HT.out.m, mt_cells HT.out.n, mt_cells HT.out.o⟩) (fun hHeld => ?_)
  clear hK K
  (try simp only [List.getElem_toArray, List.getElem_cons_zero, List.getElem_cons_succ, Act.put, List.setIfInBounds_toArray, List.set_cons_zero, List.set_cons_succ])
  refine wpAnyH_take (i := 6) (oi := _) (v := ?v6) rfl (by kernel_rfl) (by kernel_rfl) (by kernel_rfl) (fun _ _ _ h => h) (Or.inl ⟨by rfl, ?hy6⟩) (by assumption) ?rest6
  case hy6 => (intro wz hSw; (try dsimp only at hSw); go_simp; try with_reducible rfl)
  (try simp only [List.getElem_toArray, List.getElem_cons_zero, List.getElem_cons_succ, Act.put, List.setIfInBounds_toArray, List.set_cons_zero, List.set_cons_succ])
  refine wpAnyH_take (i := 7) (oi := _) (v := ?v7) rfl (by kernel_rfl) (by kernel_rfl) (by kernel_rfl) (fun _ _ _ h => h) (Or.inl ⟨by rfl, ?hy7⟩) (by assumption) ?rest7
  case hy7 => (intro wz hSw; (try dsimp only at hSw); go_simp; try with_reducible rfl)
  (try simp only [List.getElem_toArray, List.getElem_cons_zero, List.getElem_cons_succ, Act.put, List.setIfInBounds_toArray, List.set_cons_zero, List.set_cons_succ])
  refine wpAnyH_take (i := 8) (oi := _) (v := ?v8) rfl (by kernel_rfl) (by kernel_rfl) (by kernel_rfl) (fun _ _ _ h => h) (Or.inl ⟨by rfl, ?hy8⟩) (by assumption) ?rest8
  case hy8 => (intro wz hSw; (try dsimp only at hSw); go_simp; try with_reducible rfl)
  (try simp only [List.getElem_toArray, List.getElem_cons_zero, List.getElem_cons_succ, Act.put, List.setIfInBounds_toArray, List.set_cons_zero, List.set_cons_succ])
  refine wpAnyH_done (by kernel_rfl) ?_ _
  have HEQ : Hid (∀ j, 2 ≤ j → ofL (allLines T (S1.map shT)) j = ofL (allLines T (S.map shT)) j + ofL (allLines T (([] : List Sh).map shT)) j) := fun j hj => by rw [HS1.out]; exact of_more T _ hj
  have HMX := Lib.hid (lines_max HMS.out HX.out)
  have HBA := Lib.hid (ofL_bound _ HMX.out)
  have HBC : Hid (∀ j, 0 ≤ ofL (allLines T (([] : List Sh).map shT)) j ∧ ofL (allLines T (([] : List Sh).map shT)) j ≤ 10000000) := ofL_bound _ (Nat.le_trans (lines_less T (S.map shT)) HMX.out)
  go_wp2
  go_loopw [9] (fun i wr => ∃ j : Nat, 2 ≤ j ∧ j ≤ 300 ∧ i = .int .i64 j ∧ Hid (Below w6.heap.size w6 wr)) (fun i _ => 300 - (intOf i).toNat)
  case atStart => exact ⟨2, by omega, by omega, rfl, Below.refl _ _⟩
  case round =>
    obtain ⟨j, h2, h3, rfl, HBR⟩ := hrel
    by_cases hlt : j < 300
    · have k1 := (HW1.out.later HBR.out).cell hlt
      have k2 := (HW2.out.later HBR.out).cell hlt
      have k3 := (HW3.out.later HBR.out).cell hlt
      have he := HEQ.out j h2
      have ha := HBA.out j
      have hc := HBC.out j
      rw [he] at k2
      obtain ⟨xa, hxa⟩ := named (ofL (allLines T (S.map shT)) j)
      obtain ⟨xc, hxc⟩ := named (ofL (allLines T (([] : List Sh).map shT)) j)
      rw [hxa.out] at k1 k2 ha
      rw [hxc.out] at k2 k3 hc
      clear he hxa hxc
      have hw : IntKind.i64.wrap (xa + xc) = xa + xc := by rw [IntKind.wrap_i64] <;> omega
      go_wp2
      go_quiet (fail)
      go_wp2
      go_roundw
      case rel => exact ⟨j + 1, by omega, by omega, by go_num, below_drewN9 HBR.out _⟩
      case measure => simp [intOf]; omega
    · obtain rfl : j = 300 := by omega
      go_wp2
      have HT := Lib.hid (HT.out.later HBR.out.drew)
      have HMS := Lib.hid (HMS.out.later HBR.out.drew)
      have HT1 := Lib.hid (HT1.out.later HBR.out.drew)
      have HSH := Lib.hid (HSH.out.later HBR.out.drew)
      refine wp_region_held_drew (S := fun w' => (w'.cell? ⟨w.heap.size, 0, none⟩ = some (.int .i64 mc0) ∧ w'.cell? ⟨w.heap.size, 1, none⟩ = some (.int .i64 ms0) ∧ w'.cell? ⟨w.heap.size, 2, none⟩ = some (.string mb0) ∧ w'.cell? ⟨w.heap.size, 3, none⟩ = some (.slice ta0 tn0 tc0) ∧ w'.cell? ⟨w.heap.size, 4, none⟩ = some (.slice sa0 sn0 sc0) ∧ w'.cell? ⟨w.heap.size, 5, none⟩ = some (.slice ba0 bn0 bc0) ∧ w'.cell? ⟨w.heap.size, 6, none⟩ = some (.slice ca0 cn0 cc0)) ∧ (w'.cell? ⟨w3.heap.size, 0, none⟩ = some (.int .i64 mc0) ∧ w'.cell? ⟨w3.heap.size, 1, none⟩ = some (.int .i64 ms0) ∧ w'.cell? ⟨w3.heap.size, 2, none⟩ = some (.string mb0) ∧ w'.cell? ⟨w3.heap.size, 3, none⟩ = some (.slice a1 n1 c1) ∧ w'.cell? ⟨w3.heap.size, 4, none⟩ = some (.slice pa (sn0 + 1) pc) ∧ w'.cell? ⟨w3.heap.size, 5, none⟩ = some (.slice ma1 mn1 mc1) ∧ w'.cell? ⟨w3.heap.size, 6, none⟩ = some (.slice ca1 cn1 cc1)) ∧ (w'.cell? ⟨w3.heap.size + 1, 0, none⟩ = some (.int .i64 mc0) ∧ w'.cell? ⟨w3.heap.size + 1, 1, none⟩ = some (.int .i64 ms0) ∧ w'.cell? ⟨w3.heap.size + 1, 2, none⟩ = some (.string mb0) ∧ w'.cell? ⟨w3.heap.size + 1, 3, none⟩ = some (.slice ta0 tn0 tc0) ∧ w'.cell? ⟨w3.heap.size + 1, 4, none⟩ = some (.slice none 0 0) ∧ w'.cell? ⟨w3.heap.size + 1, 5, none⟩ = some (.slice ba0 bn0 bc0) ∧ w'.cell? ⟨w3.heap.size + 1, 6, none⟩ = some (.slice ca0 cn0 cc0))) (by kernel_rfl) (by exact ⟨mt_cells HT.out.m, mt_cells HT.out.n, mt_cells HT.out.o⟩) (fun hHeld => ?_)
      refine wpAnyH_take (i := 0) (oi := _) (v := ?ve0) rfl (by kernel_rfl) (by kernel_rfl) (by kernel_rfl) (fun _ _ _ h => h) (Or.inl ⟨by rfl, ?hye0⟩) (by assumption) ?reste0
      case hye0 => (intro wz hSw; (try dsimp only at hSw); go_simp; try with_reducible rfl)
      (try simp only [List.getElem_toArray, List.getElem_cons_zero, Act.put, List.setIfInBounds_toArray, List.set_cons_zero, List.set_cons_succ])
      refine wpAnyH_take (i := 3) (oi := _) (v := ?ve3) rfl (by kernel_rfl) (by kernel_rfl) (by kernel_rfl) (fun _ _ _ h => h) (Or.inl ⟨by rfl, ?hye3⟩) (by assumption) ?reste3
      case hye3 => (intro wz hSw; (try dsimp only at hSw); go_simp; try with_reducible rfl)
      (try simp only [List.getElem_toArray, List.getElem_cons_zero, List.getElem_cons_succ, Act.put, List.setIfInBounds_toArray, List.set_cons_zero, List.set_cons_succ])
      refine wpAnyH_take (i := 6) (oi := _) (v := ?ve6) rfl (by kernel_rfl) (by kernel_rfl) (by kernel_rfl) (fun _ _ _ h => h) (Or.inl ⟨by rfl, ?hye6⟩) (by assumption) ?reste6
      case hye6 => (intro wz hSw; (try dsimp only at hSw); go_simp; try with_reducible rfl)
      (try simp only [List.getElem_toArray, List.getElem_cons_zero, List.getElem_cons_succ, Act.put, List.setIfInBounds_toArray, List.set_cons_zero, List.set_cons_succ])
      refine wpAnyH_ready (rs := [1]) (by kernel_rfl) (by simp) ?_
      refine AllReadyH.cons (o := _) rfl (fun K hK => ?_) AllReadyH.nil
      rw [if_pos (by rfl)]
      go_simp
      (go_at_call 18; refine (each_any _ mc0 ms0 mb0 a1 n1 c1 pa (sn0 + 1) pc ma1 mn1 mc1 ca1 cn1 cc1 T S1 HT1.out HSH.out HX1.out (by have := HMS.out.hsn; omega)).mono ?_; rintro e w7 ⟨la2, N2, lc2, rfl, hO, g⟩; have HT := Lib.hid (HT.out.later g); have HMS := Lib.hid (HMS.out.later g); have HT1 := Lib.hid (HT1.out.later g); have HSH := Lib.hid (HSH.out.later g); have HN2 := Lib.hid hO.2.1; clear g hO)
      dsimp only
      refine hK.out _ _ (by exact ⟨mt_cells HT.out.m, mt_cells HT.out.n, mt_cells HT.out.o⟩) (fun hHeld => ?_)
      clear hK K
      (try simp only [List.getElem_toArray, List.getElem_cons_zero, List.getElem_cons_succ, Act.put, List.setIfInBounds_toArray, List.set_cons_zero, List.set_cons_succ])
      refine wpAnyH_take (i := 2) (oi := _) (v := ?ve2) rfl (by kernel_rfl) (by kernel_rfl) (by kernel_rfl) (fun _ _ _ h => h) (Or.inl ⟨by rfl, ?hye2⟩) (by assumption) ?reste2
      case hye2 => (intro wz hSw; (try dsimp only at hSw); go_simp; try with_reducible rfl)
      (try simp only [List.getElem_toArray, List.getElem_cons_zero, List.getElem_cons_succ, Act.put, List.setIfInBounds_toArray, List.set_cons_zero, List.set_cons_succ])
      refine wpAnyH_ready (rs := [4]) (by kernel_rfl) (by simp) ?_
      refine AllReadyH.cons (o := _) rfl (fun K hK => ?_) AllReadyH.nil
      rw [if_pos (by rfl)]
      go_simp
      (go_at_call 18; refine (each_m (sc := sc0) (mc := bc0) (cc := cc0) HMS.out HX.out).mono ?_; rintro e w8 ⟨la1, N1, lc1, rfl, hO, g⟩; have HT := Lib.hid (HT.out.later g); have HMS := Lib.hid (HMS.out.later g); have HT1 := Lib.hid (HT1.out.later g); have HSH := Lib.hid (HSH.out.later g); have HN1 := Lib.hid hO.2.1; clear g hO)
      dsimp only
      refine hK.out _ _ (by exact ⟨mt_cells HT.out.m, mt_cells HT.out.n, mt_cells HT.out.o⟩) (fun hHeld => ?_)
      clear hK K
      (try simp only [List.getElem_toArray, List.getElem_cons_zero, List.getElem_cons_succ, Act.put, List.setIfInBounds_toArray, List.set_cons_zero, List.set_cons_succ])
      refine wpAnyH_take (i := 5) (oi := _) (v := ?ve5) rfl (by kernel_rfl) (by kernel_rfl) (by kernel_rfl) (fun _ _ _ h => h) (Or.inl ⟨by rfl, ?hye5⟩) (by assumption) ?reste5
      case hye5 => (intro wz hSw; (try dsimp only at hSw); go_simp; try with_reducible rfl)
      (try simp only [List.getElem_toArray, List.getElem_cons_zero, List.getElem_cons_succ, Act.put, List.setIfInBounds_toArray, List.set_cons_zero, List.set_cons_succ])
      refine wpAnyH_ready (rs := [7]) (by kernel_rfl) (by simp) ?_
      refine AllReadyH.cons (o := _) rfl (fun K hK => ?_) AllReadyH.nil
      rw [if_pos (by rfl)]
      go_simp
      (go_at_call 18; refine (each_any _ mc0 ms0 mb0 ta0 tn0 tc0 none 0 0 ba0 bn0 bc0 ca0 cn0 cc0 T [] HMS.out.hT (ShsR.nil _) HX0.out (by omega)).mono ?_; rintro e w9 ⟨la3, N3, lc3, rfl, hO, g⟩; have HT := Lib.hid (HT.out.later g); have HMS := Lib.hid (HMS.out.later g); have HT1 := Lib.hid (HT1.out.later g); have HSH := Lib.hid (HSH.out.later g); have HN3 := Lib.hid hO.2.1; clear g hO; have hsum : N2 = N1 + N3 := (by rw [← HN1.out, ← HN2.out, ← HN3.out, HS1.out]; exact len_more T _); have hb1 : N1 ≤ 4096 * 901 := (by rw [← HN1.out]; exact HMX.out); have hb3 : N3 ≤ 4096 * 901 := (by rw [← HN3.out]; exact Nat.le_trans (lines_less T (S.map shT)) HMX.out); have hw : IntKind.i64.wrap ((N1 : Int) + N3) = (N2 : Int) := (by rw [IntKind.wrap_i64] <;> omega))
      dsimp only
      refine hK.out _ _ (by exact ⟨mt_cells HT.out.m, mt_cells HT.out.n, mt_cells HT.out.o⟩) (fun hHeld => ?_)
      clear hK K
      (try simp only [List.getElem_toArray, List.getElem_cons_zero, List.getElem_cons_succ, Act.put, List.setIfInBounds_toArray, List.set_cons_zero, List.set_cons_succ])
      refine wpAnyH_take (i := 8) (oi := _) (v := ?ve8) rfl (by kernel_rfl) (by kernel_rfl) (by kernel_rfl) (fun _ _ _ h => h) (Or.inl ⟨by rfl, ?hye8⟩) (by assumption) ?reste8
      case hye8 => (intro wz hSw; (try dsimp only at hSw); go_simp; try with_reducible rfl)
      (try simp only [List.getElem_toArray, List.getElem_cons_zero, List.getElem_cons_succ, Act.put, List.setIfInBounds_toArray, List.set_cons_zero, List.set_cons_succ])
      refine wpAnyH_take (i := 9) (oi := _) (v := ?ve9) rfl (by kernel_rfl) (by kernel_rfl) (by kernel_rfl) (fun _ _ _ h => h) (Or.inl ⟨by rfl, ?hye9⟩) (by assumption) ?reste9
      case hye9 => (intro wz hSw; (try dsimp only at hSw); go_simp; try with_reducible rfl)
      (try simp only [List.getElem_toArray, List.getElem_cons_zero, List.getElem_cons_succ, Act.put, List.setIfInBounds_toArray, List.set_cons_zero, List.set_cons_succ])
      refine wpAnyH_take (i := 10) (oi := _) (v := ?ve10) rfl (by kernel_rfl) (by kernel_rfl) (by kernel_rfl) (fun _ _ _ h => h) (Or.inl ⟨by rfl, ?hye10⟩) (by assumption) ?reste10
      case hye10 => (intro wz hSw; (try dsimp only at hSw); go_simp; try with_reducible rfl)
      (try simp only [List.getElem_toArray, List.getElem_cons_zero, List.getElem_cons_succ, Act.put, List.setIfInBounds_toArray, List.set_cons_zero, List.set_cons_succ])
      refine wpAnyH_take (i := 11) (oi := _) (v := ?ve11) rfl (by kernel_rfl) (by kernel_rfl) (by kernel_rfl) (fun _ _ _ h => h) (Or.inl ⟨by rfl, ?hye11⟩) (by assumption) ?reste11
      case hye11 => (intro wz hSw; (try dsimp only at hSw); go_simp; try with_reducible rfl)
      (try simp only [List.getElem_toArray, List.getElem_cons_zero, List.getElem_cons_succ, Act.put, List.setIfInBounds_toArray, List.set_cons_zero, List.set_cons_succ])
      refine wpAnyH_ready (rs := [12]) (by kernel_rfl) (by simp) ?_
      refine AllReadyH.cons (o := _) rfl (fun K hK => ?_) AllReadyH.nil
      rw [if_pos (by rfl)]
      go_simp
      (go_at_call 13; refine (awake0 _).mono ?_; rintro e w10 ⟨rfl, g⟩; have HT := Lib.hid (HT.out.later g); clear g)
      dsimp only
      refine hK.out _ _ (by exact ⟨mt_cells HT.out.m, mt_cells HT.out.n, mt_cells HT.out.o⟩) (fun hHeld => ?_)
      clear hK K
      (try simp only [List.getElem_toArray, List.getElem_cons_zero, List.getElem_cons_succ, Act.put, List.setIfInBounds_toArray, List.set_cons_zero, List.set_cons_succ])
      refine wpAnyH_take (i := 13) (oi := _) (v := ?ve13) rfl (by kernel_rfl) (by kernel_rfl) (by kernel_rfl) (fun _ _ _ h => h) (Or.inl ⟨by rfl, ?hye13⟩) (by assumption) ?reste13
      case hye13 => (intro wz hSw; (try dsimp only at hSw); go_simp; try with_reducible rfl)
      (try simp only [List.getElem_toArray, List.getElem_cons_zero, List.getElem_cons_succ, Act.put, List.setIfInBounds_toArray, List.set_cons_zero, List.set_cons_succ])
      refine wpAnyH_take (i := 14) (oi := _) (v := ?ve14) rfl (by kernel_rfl) (by kernel_rfl) (by kernel_rfl) (fun _ _ _ h => h) (Or.inl ⟨by rfl, ?hye14⟩) (by assumption) ?reste14
      case hye14 => (intro wz hSw; (try dsimp only at hSw); go_simp; try with_reducible rfl)
      (try simp only [List.getElem_toArray, List.getElem_cons_zero, List.getElem_cons_succ, Act.put, List.setIfInBounds_toArray, List.set_cons_zero, List.set_cons_succ])
      refine wpAnyH_done (by kernel_rfl) ?_ _
      go_wp2
      go_ret
      exact ⟨rfl, HT.out.dat⟩

set_option maxRecDepth 100000 in
theorem lifted (os : Os) (started : os.Started) (H : Type) (enc : TypeId × Value → H) :
    ReturnsInHanded {} Try.checked os 8 .any (Rows.countShotsSpec.pre6 enc Try.prog Try.f8 Rows.countShotsRow.domain false) (Rows.countShotsSpec.post enc Try.prog Try.f8 false true false false) := by
  refine returnsInHanded_of_change (C := Try.checked) own started (by kernel_rfl) Try.func8
    (ChangeSpec.witness6 (enc := enc) (C := Try.checked) false ⟨#[], #[.agg #[.int .i64 0, .int .i64 0, .string ByteArray.empty, .slice none 0 0, .slice none 0 0, .slice none 0 0, .slice none 0 0]], []⟩ 8 (by kernel_rfl) (by kernel_rfl) (by kernel_rfl) (by kernel_rfl)) ?_
  intro W base args ds gs before hval0 hW hcnd _
  have hval : ∀ (j : Nat) t v, Try.f8.params[j]? = some t → args[j]? = some v → Value.okWide Try.prog W .any base t v := hval0
  have hW' := hW
  obtain ⟨p, q, hA0, hV, rfl, hfz, hnd⟩ := hW
  have hA : DataW.TrodAll enc Try.prog W 0 (fun _ => true) true Try.f8.params.toList args.toList ds p := hA0
  rw [Try.params8] at hA hval
  obtain ⟨v0, vs0, d0, ds0, p0, q0, hargs, rfl, rfl, h0, r0⟩ := trodAll_cons hA
  obtain ⟨rfl, rfl, rfl⟩ := trodAll_nil r0
  obtain rfl : args = #[v0] := by cases args; simp_all
  obtain ⟨rfl, rfl⟩ := trodVars_none hV
  have k0 := h0
  have lt0 : ∀ x ∈ p0, x.block < W.heap.size := by obtain ⟨m, hm⟩ := k0; exact DataW.trod_lt m _ _ _ hm
  obtain ⟨mc0, ms0, mb0, ta0, tn0, tc0, sa0, sn0, sc0, ba0, bn0, bc0, ca0, cn0, cc0, rfl, w0⟩ := meta_openC (hval 0 29 v0 rfl rfl) h0
  clear hA0 hval0
  refine (walk mc0 ms0 mb0 ta0 tn0 tc0 sa0 sn0 sc0 ba0 bn0 bc0 ca0 cn0 cc0 W w0).mono fun e W' ⟨he, bel⟩ => ?_
  subst he
  exact ⟨_, rfl, _, _, _, [], _, [], hW', trodAll_mk1 (shut_bool Try.underlying4 _), (trodAll_cons_mk (Below.trod laidOut (by kernel_rfl) (of_decide_eq_true (by kernel_rfl)) k0 bel lt0) trodAll_mk0), rfl, bel.frame _, fun h => by cases h⟩

theorem over : Rows.countShotsRow.holds Try.pinned (OpenSpec.ofChange Rows.countShotsSpec) :=
  OpenClaim.holds_of_wide 8 Try.f8 rfl rfl rfl rfl rfl rfl rfl ⟨rfl, rfl, rfl, rfl, rfl⟩ rfl rfl rfl rfl rfl (by kernel_rfl) Try.func8 (by kernel_rfl)
    (of_decide_eq_true (by kernel_rfl)) (by unfold Func.isWrapper; first | (rw [if_pos (by decide +kernel)]; kernel_rfl) | (rw [if_neg (by decide +kernel)]; exact ⟨rfl, rfl⟩))
    (fun os started H enc _ => lifted os started H enc)

/-- The statement. -/
theorem proved : Rows.CountShotsSaid := over
#print axioms proved
end Go.Proofs.Ytidknkhkblloaaa.countShots
