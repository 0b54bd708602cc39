/-
  Proved: 'matryoshkalaw9.CountBegins' returns true for every input, and each argument reads afterwards as before: the statement CountBeginsSaid as given. Conditions: none beyond the row's own.
-/
import Derived.Test.YtidknkhkblloaaaRows
import Derived.Test.YtidknkhkblloaaaV0
import Derived.Deep.RegionHeld3
import Derived.WalkKit
import Derived.ProofKit
import Derived.OpenShut
import Derived.ShutString
import Derived.ChangeOld
import Derived.Below
namespace Go.Proofs.Ytidknkhkblloaaa.countBegins
open Go.ChangeShapes Go.WideShapes Go.ChangeAt Go.RowKit
open Go.ChangeMaps (open_string shut_string)
set_option linter.unusedVariables false

theorem own : ownKnob Try.prog.godebug = none := by kernel_rfl
theorem laidOut : laidOutB Try.prog = true := by kernel_rfl

theorem cnt_low : ∀ L : List Sg, (∀ x ∈ L, 2 ≤ x.1) → ∀ k, k < 2 → cntS L k = 0
  | [], _, _, _ => rfl
  | x :: L, h, k, hk => by
    have h1 := cnt_low L (fun y hy => h y (List.mem_cons_of_mem _ hy)) k hk
    have h2 := h x (List.mem_cons_self ..)
    show onS x k + cntS L k = 0
    rw [h1]
    unfold onS
    rw [if_neg (by omega)]
    rfl
theorem ofL_low {L : List Ln} (h : ∀ x ∈ L, LnOk x) {k : Nat} (hk : k < 2) : ofL L k = 1 := by
  show onS (0, 2) k + cntS (L.map sgOf) k = 1
  rw [cnt_low _ (fun x hx => by
    obtain ⟨y, hy, rfl⟩ := List.mem_map.1 hx
    exact (h y hy).2.2.2.1.1) k hk]
  unfold onS
  dsimp only
  rw [if_pos (by omega)]
  rfl
theorem ints_le {w : World} {a : Option Addr} {n m : Nat} {f : Nat → Int} (h : IntsR w a n f) (hm : m ≤ n) : IntsR w a m f :=
  ⟨by have := h.1; omega, fun h0 => by
    obtain ⟨b, off, h1, h2, h3⟩ := h.2 (by omega)
    exact ⟨b, off, h1, h2, fun i hi => h3 i (by omega)⟩⟩
theorem slice_front0 {a : Option Addr} {len cap p : Nat} (h1 : p ≤ cap) (w' : World) : (Instr.slice 27 (.slice a len cap) none (some (.int .i64 p)) none).run Try.prog w' = .ok (.slice a p cap) w' := by
  have hinf : (Try.prog.info? 3).map (fun i => i.size) = some 1 := by kernel_rfl
  obtain ⟨i0, hi0, _⟩ := Option.map_eq_some_iff.1 hinf
  cases a <;> simp [Instr.slice, Instr.sliceBounds, Instr.sliceBound, asIntOf, run_underlying Try.underlying27, sizeOf, typeInfo, hi0, h1, Addr.add, go_sem]

set_option maxRecDepth 100000 in
set_option maxHeartbeats 4000000 in
theorem walk (mc0 ms0 : Int) (mb0 : ByteArray) (ta0 : Option Addr) (tn0 tc0 : Nat) (sa0 : Option Addr) (sn0 sc0 : Nat) (ba0 : Option Addr) (bn0 bc0 : Nat) (ca0 : Option Addr) (cn0 cc0 : Nat) (a1 : Int) (w : World) (w0 : MetaArg w mc0 ms0 mb0 ta0 tn0 tc0 sa0 sn0 sc0 ba0 bn0 bc0 ca0 cn0 cc0) (w1 : (Lit.int .u8 a1).wf = true) :
    Calls Try.prog 9 #[.agg #[.int .i64 mc0, .int .i64 ms0, .string mb0, .slice ta0 tn0 tc0, .slice sa0 sn0 sc0, .slice ba0 bn0 bc0, .slice ca0 cn0 cc0], .int .u8 a1] w fun e w' => e = .returned (.bool true) ∧ Below w.heap.size w w' := by
  have b1 := bounds_u8 w1
  obtain ⟨N, rfl⟩ : ∃ N : Nat, a1 = N := ⟨a1.toNat, by omega⟩
  have hw64 : IntKind.i64.wrap (N : Int) = (N : Int) := by rw [IntKind.wrap_i64] <;> omega
  have HRT0 := Lib.hid (RtS.first w (mtC mc0 ms0 mb0 ta0 tn0 tc0 sa0 sn0 sc0 (.slice ba0 bn0 bc0) (.slice ca0 cn0 cc0)))
  have HGR := Lib.hid (great_meta (w0.later HRT0.out.below))
  clear w0
  go_enter Try.func9, Try.ntmps9
  go_wp2_with (first
    | (go_at_call 11; refine HGR.out.mono ?_; rintro e w1 ⟨G, rfl, g, hs⟩; have HRT := Lib.hid (HRT0.out.later g); obtain ⟨m0, m1, m2, m3, m4, m5, m6⟩ := mt_cells HRT.out.box; have HSM := Lib.hid hs; have HG1 := Lib.hid g; clear g hs; cases G)
    | (go_at_call 13; refine (awake0 _).mono ?_; rintro e w9 ⟨rfl, g⟩; have HRT := Lib.hid (HRT.out.later g); clear g)
    | (go_at_call 12; obtain ⟨T, S, gm, f, hm⟩ := HSM.out (by first | rfl | trivial); refine (right_meta (hm.later HG1.out)).mono ?_; rintro e w2 ⟨B, rfl, g, hr⟩; have HRT := Lib.hid (HRT.out.later g); obtain ⟨m0, m1, m2, m3, m4, m5, m6⟩ := mt_cells HRT.out.box; have HMS := Lib.hid ((hm.later HG1.out).later g); have HRX := Lib.hid hr; clear g hr hm; cases B))
  all_goals first | (go_ret; exact ⟨rfl, HRT.out.below⟩) | skip
  have HX : Hid (RightX T S) := (HRX.out (by first | rfl | trivial)).1
  have HLL := Lib.hid (all_ok HMS.out.hT HMS.out.hS HX.out (by have := HMS.out.hsn; omega))
  have HRT := Lib.hid (HRT.out.later (Below.refl _ _).drew)
  have HMS := Lib.hid (HMS.out.later (Below.refl _ _).drew)
  have HB1 : Hid (∀ w : World, Calls Try.prog 15 #[.agg #[.int .i64 mc0, .int .i64 ms0, .string mb0, .slice ta0 tn0 tc0, .slice sa0 sn0 sc0, .slice ba0 bn0 bc0, .slice ca0 cn0 cc0], .int .i64 (-1)] w fun e w' => e = .returned (.slice none 0 0) ∧ Below w.heap.size w w') := fun w => of_bad w mc0 ms0 mb0 ta0 tn0 tc0 sa0 sn0 sc0 ba0 bn0 bc0 ca0 cn0 cc0 (-1) (by omega)
  have HB2 : Hid (∀ w : World, Calls Try.prog 15 #[.agg #[.int .i64 mc0, .int .i64 ms0, .string mb0, .slice ta0 tn0 tc0, .slice sa0 sn0 sc0, .slice ba0 bn0 bc0, .slice ca0 cn0 cc0], .int .i64 65537] w fun e w' => e = .returned (.slice none 0 0) ∧ Below w.heap.size w w') := fun w => of_bad w mc0 ms0 mb0 ta0 tn0 tc0 sa0 sn0 sc0 ba0 bn0 bc0 ca0 cn0 cc0 65537 (by omega)
  have HF0 := Lib.hid (ofL_low HLL.out (k := 0) (by omega))
  have HF1 := Lib.hid (ofL_low HLL.out (k := 1) (by omega))
  refine wp_region_held_drew (S := fun w' => w'.cell? ⟨w.heap.size, 0, none⟩ = some (.int .i64 mc0) ∧ w'.cell? ⟨w.heap.size, 1, none⟩ = some (.int .i64 ms0) ∧ w'.cell? ⟨w.heap.size, 2, none⟩ = some (.string mb0) ∧ w'.cell? ⟨w.heap.size, 3, none⟩ = some (.slice ta0 tn0 tc0) ∧ w'.cell? ⟨w.heap.size, 4, none⟩ = some (.slice sa0 sn0 sc0) ∧ w'.cell? ⟨w.heap.size, 5, none⟩ = some (.slice ba0 bn0 bc0) ∧ w'.cell? ⟨w.heap.size, 6, none⟩ = some (.slice ca0 cn0 cc0)) (by kernel_rfl) (by exact mt_cells HRT.out.box) (fun hHeld => ?_)
  refine wpAnyH_take (i := 0) (oi := _) (v := ?va0) rfl (by kernel_rfl) (by kernel_rfl) (by kernel_rfl) (fun _ _ _ h => h) (Or.inl ⟨by rfl, ?hya0⟩) (by assumption) ?resta0
  case hya0 => (intro wz hSw; (try dsimp only at hSw); go_simp; try with_reducible rfl)
  (try simp only [List.getElem_toArray, List.getElem_cons_zero, Act.put, List.setIfInBounds_toArray, List.set_cons_zero, List.set_cons_succ])
  refine wpAnyH_take (i := 2) (oi := _) (v := ?va2) rfl (by kernel_rfl) (by kernel_rfl) (by kernel_rfl) (fun _ _ _ h => h) (Or.inl ⟨by rfl, ?hya2⟩) (by assumption) ?resta2
  case hya2 => (intro wz hSw; (try dsimp only at hSw); go_simp; try with_reducible rfl)
  (try simp only [List.getElem_toArray, List.getElem_cons_zero, List.getElem_cons_succ, Act.put, List.setIfInBounds_toArray, List.set_cons_zero, List.set_cons_succ])
  refine wpAnyH_take (i := 3) (oi := _) (v := ?va3) rfl (by kernel_rfl) (by kernel_rfl) (by kernel_rfl) (fun _ _ _ h => h) (Or.inl ⟨by rfl, ?hya3⟩) (by assumption) ?resta3
  case hya3 => (intro wz hSw; (try dsimp only at hSw); go_simp; try with_reducible rfl)
  (try simp only [List.getElem_toArray, List.getElem_cons_zero, List.getElem_cons_succ, Act.put, List.setIfInBounds_toArray, List.set_cons_zero, List.set_cons_succ])
  refine wpAnyH_take (i := 4) (oi := _) (v := ?va4) rfl (by kernel_rfl) (by kernel_rfl) (by kernel_rfl) (fun _ _ _ h => h) (Or.inl ⟨by rfl, ?hya4⟩) (by assumption) ?resta4
  case hya4 => (intro wz hSw; (try dsimp only at hSw); go_simp; try with_reducible rfl)
  (try simp only [List.getElem_toArray, List.getElem_cons_zero, List.getElem_cons_succ, Act.put, List.setIfInBounds_toArray, List.set_cons_zero, List.set_cons_succ])
  refine wpAnyH_ready (rs := [1]) (by kernel_rfl) (by simp) ?_
  refine AllReadyH.cons (o := _) rfl (fun K hK => ?_) AllReadyH.nil
  rw [if_pos (by rfl)]
  go_simp
  (go_at_call 15; refine (of_m (sc := sc0) (mc := bc0) (cc := cc0) HMS.out HX.out 300 (by omega)).mono ?_; rintro e w3 ⟨R1, rfl, hR1, hrow1, g⟩; have HRT := Lib.hid (HRT.out.later g); have HMS := Lib.hid (HMS.out.later g); have HW1 := Lib.hid hrow1; clear g hrow1)
  dsimp only
  refine hK.out _ _ (by exact mt_cells HRT.out.box) (fun hHeld => ?_)
  clear hK K
  (try simp only [List.getElem_toArray, List.getElem_cons_zero, List.getElem_cons_succ, Act.put, List.setIfInBounds_toArray, List.set_cons_zero, List.set_cons_succ])
  refine wpAnyH_ready (rs := [5]) (by kernel_rfl) (by simp) ?_
  refine AllReadyH.cons (o := _) rfl (fun K hK => ?_) AllReadyH.nil
  rw [if_pos (by rfl)]
  go_simp
  (go_at_call 15; (try rw [hw64]); refine (of_m (sc := sc0) (mc := bc0) (cc := cc0) HMS.out HX.out N (by omega)).mono ?_; rintro e w4 ⟨R2, rfl, hR2, hrow2, g⟩; have HRT := Lib.hid (HRT.out.later g); have HW1 := Lib.hid (HW1.out.later g); have HW2 := Lib.hid hrow2; clear g hrow2)
  dsimp only
  refine hK.out _ _ (by exact mt_cells HRT.out.box) (fun hHeld => ?_)
  clear hK K
  (try simp only [List.getElem_toArray, List.getElem_cons_zero, List.getElem_cons_succ, Act.put, List.setIfInBounds_toArray, List.set_cons_zero, List.set_cons_succ])
  refine wpAnyH_take (i := 6) (oi := _) (v := ?va6) rfl (by kernel_rfl) (by kernel_rfl) (by kernel_rfl) (fun _ _ _ h => h) (Or.inl ⟨by rfl, ?hya6⟩) (by assumption) ?resta6
  case hya6 => (intro wz hSw; (try dsimp only at hSw); go_simp; try with_reducible rfl)
  (try simp only [List.getElem_toArray, List.getElem_cons_zero, List.getElem_cons_succ, Act.put, List.setIfInBounds_toArray, List.set_cons_zero, List.set_cons_succ])
  refine wpAnyH_take (i := 7) (oi := _) (v := ?va7) rfl (by kernel_rfl) (by kernel_rfl) (by kernel_rfl) (fun _ _ _ h => h) (Or.inl ⟨by rfl, ?hya7⟩) (by assumption) ?resta7
  case hya7 => (intro wz hSw; (try dsimp only at hSw); go_simp; try with_reducible rfl)
  (try simp only [List.getElem_toArray, List.getElem_cons_zero, List.getElem_cons_succ, Act.put, List.setIfInBounds_toArray, List.set_cons_zero, List.set_cons_succ])
  refine wpAnyH_done (by kernel_rfl) ?_ _
  have x0 := HW1.out.cell (j := 0) (by omega)
  have x1 := HW1.out.cell (j := 1) (by omega)
  rw [HF0.out] at x0
  rw [HF1.out] at x1
  obtain ⟨m0, m1, m2, m3, m4, m5, m6⟩ := mt_cells HRT.out.box
  have hsl := slice_front0 (a := some ⟨R1, 0, none⟩) (len := 300) (cap := 300) (p := N) (by omega)
  have hm0 := HRT.out.box.lt
  go_wp2_with (first
    | (go_at_call 14; refine (ints_any _ _ _ _ _ _ _ _ _ (ints_le (HW1.out.ints (by omega)) (m := N) (by omega)) (HW2.out.ints (by omega)) (R := true) ⟨fun _ => ⟨rfl, fun _ _ => rfl⟩, fun _ => rfl⟩).mono ?_; rintro e w5 ⟨rfl, g⟩; have HRT := Lib.hid (HRT.out.later g); obtain ⟨m0, m1, m2, m3, m4, m5, m6⟩ := mt_cells HRT.out.box; clear g)
    | (go_at_call 15; (with_reducible refine (HB1.out _).mono ?_); rintro e w6 ⟨rfl, g⟩; have HRT := Lib.hid (HRT.out.later g); obtain ⟨m0, m1, m2, m3, m4, m5, m6⟩ := mt_cells HRT.out.box; clear g)
    | (go_at_call 15; (with_reducible refine (HB2.out _).mono ?_); rintro e w7 ⟨rfl, g⟩; have HRT := Lib.hid (HRT.out.later g); obtain ⟨m0, m1, m2, m3, m4, m5, m6⟩ := mt_cells HRT.out.box; clear g)
    | (go_at_call 13; refine (awake0 _).mono ?_; rintro e w8 ⟨rfl, g⟩; have HRT := Lib.hid (HRT.out.later g); clear g))
  go_ret
  exact ⟨rfl, HRT.out.below⟩

set_option maxRecDepth 100000 in
theorem lifted (os : Os) (started : os.Started) (H : Type) (enc : TypeId × Value → H) :
    ReturnsInHanded {} Try.checked os 9 .any (Rows.countBeginsSpec.pre6 enc Try.prog Try.f9 Rows.countBeginsRow.domain false) (Rows.countBeginsSpec.post enc Try.prog Try.f9 false true false false) := by
  refine returnsInHanded_of_change (C := Try.checked) own started (by kernel_rfl) Try.func9
    (ChangeSpec.witness6 (enc := enc) (C := Try.checked) false ⟨#[], #[.agg #[.int .i64 0, .int .i64 0, .string ByteArray.empty, .slice none 0 0, .slice none 0 0, .slice none 0 0, .slice none 0 0], .int .u8 0], []⟩ 8 (by kernel_rfl) (by kernel_rfl) (by kernel_rfl) (by kernel_rfl)) ?_
  intro W base args ds gs before hval0 hW hcnd _
  have hval : ∀ (j : Nat) t v, Try.f9.params[j]? = some t → args[j]? = some v → Value.okWide Try.prog W .any base t v := hval0
  have hW' := hW
  obtain ⟨p, q, hA0, hV, rfl, hfz, hnd⟩ := hW
  have hA : DataW.TrodAll enc Try.prog W 0 (fun _ => true) true Try.f9.params.toList args.toList ds p := hA0
  rw [Try.params9] at hA hval
  obtain ⟨v0, vs0, d0, ds0, p0, q0, hargs, rfl, rfl, h0, r0⟩ := trodAll_cons hA
  obtain ⟨v1, vs1, d1, ds1, p1, q1, rfl, rfl, rfl, h1, r1⟩ := trodAll_cons r0
  obtain ⟨rfl, rfl, rfl⟩ := trodAll_nil r1
  obtain rfl : args = #[v0, v1] := by cases args; simp_all
  obtain ⟨rfl, rfl⟩ := trodVars_none hV
  have k0 := h0
  have lt0 : ∀ x ∈ p0, x.block < W.heap.size := by obtain ⟨m, hm⟩ := k0; exact DataW.trod_lt m _ _ _ hm
  obtain ⟨mc0, ms0, mb0, ta0, tn0, tc0, sa0, sn0, sc0, ba0, bn0, bc0, ca0, cn0, cc0, rfl, w0⟩ := meta_open (hval 0 29 v0 rfl rfl) h0
  have k1 := h1
  have lt1 : ∀ x ∈ p1, x.block < W.heap.size := by obtain ⟨m, hm⟩ := k1; exact DataW.trod_lt m _ _ _ hm
  obtain ⟨a1, rfl, _, _, w1⟩ := open_int Try.underlying5 (hval 1 5 v1 rfl rfl) h1
  clear hA0 hval0
  refine (walk mc0 ms0 mb0 ta0 tn0 tc0 sa0 sn0 sc0 ba0 bn0 bc0 ca0 cn0 cc0 a1 W w0 w1).mono fun e W' ⟨he, bel⟩ => ?_
  subst he
  exact ⟨_, rfl, _, _, _, [], _, [], hW', trodAll_mk1 (shut_bool Try.underlying4 _), (trodAll_cons_mk (Below.trod laidOut (by kernel_rfl) (of_decide_eq_true (by kernel_rfl)) k0 bel lt0) (trodAll_cons_mk (Below.trod laidOut (by kernel_rfl) (of_decide_eq_true (by kernel_rfl)) k1 bel lt1) trodAll_mk0)), rfl, bel.frame _, fun h => by cases h⟩

theorem over : Rows.countBeginsRow.holds Try.pinned (OpenSpec.ofChange Rows.countBeginsSpec) :=
  OpenClaim.holds_of_wide 9 Try.f9 rfl rfl rfl rfl rfl rfl rfl ⟨rfl, rfl, rfl, rfl, rfl⟩ rfl rfl rfl rfl rfl (by kernel_rfl) Try.func9 (by kernel_rfl)
    (of_decide_eq_true (by kernel_rfl)) (by unfold Func.isWrapper; first | (rw [if_pos (by decide +kernel)]; kernel_rfl) | (rw [if_neg (by decide +kernel)]; exact ⟨rfl, rfl⟩))
    (fun os started H enc _ => lifted os started H enc)

/-- The statement. -/
theorem proved : Rows.CountBeginsSaid := over
#print axioms proved
end Go.Proofs.Ytidknkhkblloaaa.countBegins
