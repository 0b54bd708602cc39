/-
  Proved: 'matryoshkalaw13.MapOthers' returns true for every input: the statement MapOthersSaid as given. Conditions: none beyond the row's own.
-/
import Derived.Test.YtjaaieamlgghhaaRows
import Derived.Test.YtjaaieamlgghhaaUr
import Derived.Deep.RegionHeld3
import Derived.Deep.QuietTactic
import Derived.BigQuiet
import Derived.WalkKit
import Derived.ProofKit
import Derived.OpenShut
import Derived.ShutString
import Derived.ChangeOld
import Derived.Below
namespace Go.Proofs.Ytjaaieamlgghhaa.mapOthers
open Go.ChangeShapes Go.WideShapes Go.ChangeAt Go.RowKit
open Go.ChangeMaps (open_string shut_string)
set_option linter.unusedVariables false

theorem own : ownKnob Try.prog.godebug = none := by kernel_rfl
theorem laidOut : laidOutB Try.prog = true := by kernel_rfl

set_option maxRecDepth 100000 in
set_option maxHeartbeats 4000000 in
theorem walk (a0 : Option Addr) (len0 cap0 : Nat) (a1 : Int) (a2 : Int) (w : World) (w0 : BmsArg w a0 len0 cap0) (w1 : (Lit.int .u8 a1).wf = true) (w2 : (Lit.int .u8 a2).wf = true) :
    Calls Try.prog 12 #[.slice a0 len0 cap0, .int .u8 a1, .int .u8 a2] w fun e w' => e = .returned (.bool true) ∧ Below w.heap.size w w' := by
  have b1 := bounds_u8 w1
  have b2 := bounds_u8 w2
  have HLT := Lib.hid (fun (W : World) (hb : Below w.heap.size w W) => let13 W a0 len0 cap0 (w0.later hb))
  have HAW : Hid (∀ W, Below w.heap.size w W → Calls Try.prog 30 #[] W fun e w' => e = .returned (.bool true) ∧ Below w.heap.size w w') := fun W hb => (awake13 W).mono fun e w' h => ⟨h.1, hb.trans (h.2.mono hb.size)⟩
  have HB0 := Lib.hid (Below.refl w.heap.size w)
  have HNU := Lib.hid (fun (w : World) => num13 0 (by unfold I64; omega) w)
  have hm3 : a2.tmod 3 = a2 % 3 := Int.tmod_eq_emod_of_nonneg (by omega)
  obtain ⟨M3, hM3⟩ := named (a2 % 3)
  have hm30 : 0 ≤ M3 ∧ M3 < 3 := by rw [← hM3.out]; omega
  rw [hM3.out] at hm3
  rcases Nat.eq_zero_or_pos len0 with rfl | hz
  case inl =>
    go_enter Try.func12, Try.ntmps12
    go_wp2_with (first
      | (go_at_call 29; (with_reducible refine (HLT.out _ HB0.out).mono ?_); rintro e w2 ⟨G, rfl, h, hg⟩; have HB2 := Lib.hid h; clear h hg; cases G)
      | (go_at_call 30; (with_reducible refine (HAW.out _ HB2.out).mono ?_); rintro e w9 ⟨rfl, hb9⟩))
    all_goals (go_ret; exact ⟨rfl, hb9⟩)
  obtain ⟨Kk, hKk⟩ : ∃ K : Nat, a1 % (len0 : Int) = K := ⟨(a1 % len0).toNat, by have := Int.emod_nonneg a1 (b := (len0 : Int)) (by omega); omega⟩
  have hKt : a1.tmod len0 = Kk := by rw [Int.tmod_eq_emod_of_nonneg (by omega)]; exact hKk
  have hKl : Kk < len0 := by have := Int.emod_lt_of_pos a1 (b := (len0 : Int)) (by omega); omega
  have hz0 : ((len0 : Int) == 0) = false := by simp; omega
  have hz1 : decide ((len0 : Int) = 0) = false := decide_eq_false (by omega)
  have hi0 : (0 : Int) ≤ (Kk : Int) := by omega
  have hi1 : (Kk : Int) < (len0 : Int) := by omega
  go_enter Try.func12, Try.ntmps12
  go_wp2_with (first
    | (go_at_call 29; (with_reducible refine (HLT.out _ HB0.out).mono ?_); rintro e w2 ⟨G, rfl, h, hg⟩; have HGG := Lib.hid hg; have HB2 := Lib.hid h; clear h hg; cases G)
    | (go_at_call 30; (with_reducible refine (HAW.out _ HB2.out).mono ?_); rintro e w9 ⟨rfl, hb9⟩))
  all_goals first
    | (go_ret; exact ⟨rfl, hb9⟩)
    | skip
  (try simp only [hKk])
  obtain ⟨B, hlt⟩ := Lt.of (HGG.out (by first | rfl | trivial))
  have HL2 := Lib.hid (hlt.later HB2.out)
  clear hlt
  obtain ⟨b, off, nm, on, al, ll, cl, l, rfl, hBk, hb, hnmk, x0, x1, x2, hsp⟩ := HL2.out.d.at Kk hKl
  have HBK := Lib.hid hBk
  have HX := Lib.hid (And.intro hb (And.intro x0 (And.intro x1 x2)))
  have h30 := HL2.out.n
  have HLN := Lib.hid HL2.out.d.lens
  clear hBk x0 x1 x2 hsp
  go_loopw [8] (fun i wr => ∃ j : Nat, j ≤ len0 ∧ i = .int .i64 j ∧ Hid (Below w2.heap.size w2 wr) ∧ Hid (∀ k e, k < j → k ≠ Kk → B[k]? = some e → e.1 ≠ nm)) (fun i _ => len0 - (intOf i).toNat)
  case atStart => exact ⟨0, Nat.zero_le _, rfl, Below.refl _ _, fun k e hk => by omega⟩
  case round =>
    obtain ⟨j, hj, rfl, HBj, HU⟩ := hrel
    have x0 := (HBj.out.cell (p := ⟨b, off + Kk * 3, none⟩) HX.out.1).trans HX.out.2.1
    have x1 := (HBj.out.cell (p := ⟨b, off + Kk * 3 + 1, none⟩) HX.out.1).trans HX.out.2.2.1
    have HBD := Lib.hid (fun n => (HBj.out.trans ⟨rfl, rfl, rfl, Nat.le_refl _, fun _ _ => rfl⟩ : Below w2.heap.size w2 (wr.drewN n)))
    by_cases hlt : j < len0
    · by_cases hjk : j = Kk
      · have HU2 : Hid (∀ k e, k < j + 1 → k ≠ Kk → B[k]? = some e → e.1 ≠ nm) := fun k e hk hne he => HU.out k e (by omega) hne he
        have dk : decide ((j : Int) = Kk) = true := decide_eq_true (by omega)
        have dk2 : ((j : Int) == Kk) = true := by simp; omega
        have dk3 : ((j : Int) != Kk) = false := by simp; omega
        go_wp2
        go_quiet (fail)
        go_wp2
        go_roundw
        case rel => exact ⟨j + 1, by omega, by go_num, (by first | with_reducible exact HBj.out | exact HBD.out _), HU2.out⟩
        case measure => simp [intOf]; omega
      · have dk : decide ((j : Int) = Kk) = false := decide_eq_false (by omega)
        have dk2 : ((j : Int) == Kk) = false := by simp; omega
        have dk3 : ((j : Int) != Kk) = true := by simp; omega
        obtain ⟨b', off', nm', on', al', ll', cl', l', hab, hBj, _, hnmj, y0, y1, y2, _⟩ := (HL2.out.later HBj.out).d.at j hlt
        cases hab
        have HBJ := Lib.hid hBj
        clear hBj
        by_cases he : nm' = nm
        · have hse := str_yes he
          clear he
          go_wp2
          go_quiet (fail)
          go_wp2_with (go_at_call 30; (with_reducible refine (HAW.out _ (HB2.out.trans ((HBD.out _).mono HB2.out.size))).mono ?_); rintro e w9 ⟨rfl, hb9⟩)
          go_ret
          exact ⟨rfl, hb9⟩
        · have hse := str_no he
          have HU2 : Hid (∀ k e, k < j + 1 → k ≠ Kk → B[k]? = some e → e.1 ≠ nm) := fun k e hk hne hke => by
            by_cases e1 : k = j
            · subst e1
              have := HBJ.out.symm.trans hke
              cases this
              exact he
            · exact HU.out k e (by omega) hne hke
          clear he
          go_wp2
          go_quiet (fail)
          go_wp2
          go_roundw
          case rel => exact ⟨j + 1, by omega, by go_num, (by first | with_reducible exact HBj.out | exact HBD.out _), HU2.out⟩
          case measure => simp [intOf]; omega
    · obtain rfl : j = len0 := by omega
      have hu : ∀ i e, i ≠ Kk → B[i]? = some e → e.1 ≠ nm := fun i e hi he => HU.out i e (by have := (List.getElem?_eq_some_iff.1 he).1; have := HLN.out.1; omega) hi he
      have HF : Hid (fndB nm B = Kk) := fndB_only HBK.out hu
      clear hu
      have HLr := Lib.hid (HL2.out.later HBj.out)
      obtain ⟨b', off', nm0, on0, al0, ll0, cl0, l0, hab, hB0, _, hnm0, y0, _, _, _⟩ := HLr.out.d.at 0 hz
      cases hab
      have HB0K := Lib.hid hB0
      rw [Nat.zero_mul, Nat.add_zero] at y0
      have HBR := Lib.hid (HB2.out.trans (HBj.out.mono HB2.out.size))
      have HC1 := Lib.hid (fun (bb : Bool) => oth_turn HLr.out.d HBK.out HF.out bb)
      have HC2 := Lib.hid (oth_clear HLr.out.d HBK.out HF.out)
      have HC3 := Lib.hid (oth_merge HLr.out.d HLr.out.l1 HBK.out HF.out HB0K.out)
      dsimp only at HC1 HC2 HC3
      clear hB0 HU HBj hj
      have hdone : Hid (∀ (g : Nat) (c5 : Nat) (d5 : BmM) (ds : List Bm) (w5 w6 : World) (aw : Option Addr) (cw : Nat), ds.map bmM = B.set Kk d5 → Spo wr w5.heap.size g j c5 ds aw cw B 0 w6 → True) := fun _ _ _ _ _ _ _ _ _ _ => trivial
      clear hdone
      rcases (by omega : M3 = 0 ∨ M3 = 1 ∨ M3 = 2) with rfl | rfl | rfl
      · go_wp2_with (first
          | (go_at_call 36; (with_reducible refine (HC1.out _).mono ?_); rintro e w5 ⟨a5, c5, d5, rfl, hX, hb⟩; have HX5 := Lib.hid hX; have HB5 := Lib.hid hb; clear hX hb)
          | (go_at_call 38; (with_reducible refine HC2.out.mono ?_); rintro e w5 ⟨a5, c5, d5, rfl, hX, hb⟩; have HX5 := Lib.hid hX; have HB5 := Lib.hid hb; clear hX hb)
          | (go_at_call 40; (with_reducible refine HC3.out.mono ?_); rintro e w5 ⟨a5, c5, d5, rfl, hX, hb⟩; have HX5 := Lib.hid hX; have HB5 := Lib.hid hb; clear hX hb)
          | (go_at_call 43; (with_reducible refine (HNU.out _).mono ?_); rintro e w' ⟨rfl, hw⟩; obtain rfl := hw.symm)
          | (go_at_call 31; have HL5 := Lib.hid (HLr.out.later HB5.out); (with_reducible refine HL5.out.none.mono ?_); rintro e w6 ⟨aw, cw, rfl, hN, hb⟩; have HN6 := Lib.hid hN; have HB56 := Lib.hid hb; clear hN hb))
        obtain ⟨ds, h1, h2, h3, h4, h5, h6⟩ := HX5.out
        obtain ⟨g, _, hag, hgl, _⟩ := own3_at bm_rowed h1 0 hz
        subst hag
        have hcap := (h1.reads bm_rowed).2.2
        have HS6 : Hid (Spo wr w5.heap.size g j c5 ds aw cw B 0 w6) := ⟨h1.laterB HB56.out, fun k d hk hd => (h2 d (List.mem_of_getElem? hd)).off (Off.none _ _) (grown_of_below HB56.out), h6, fun d hd x hx => ((h2 d hd).1.1.lt x hx).2, HN6.out, HB5.out.trans (HB56.out.mono HB5.out.size)⟩
        have HDS : Hid (ds.length = j ∧ ds.map bmM = B.set Kk d5 ∧ ∀ d ∈ B.set Kk d5, d.1.size ≤ 9223372036854775807) := ⟨h1.2.1, h3, h5⟩
        have hcapl : j ≤ cap0 := by obtain ⟨_, _, _, hc, _⟩ := HLr.out.d; exact hc.2
        clear h1 h2 h3 h4 h5 h6 HX5 HN6 HC1 HC2 HC3 x0 x1 y0 hgl
        obtain ⟨V, hV⟩ : ∃ V, V = wr := ⟨wr, rfl⟩
        subst hV
        go_loopw [13] (fun i W => ∃ q : Nat, q ≤ j ∧ i = .int .i64 q ∧ Hid (Spo V w5.heap.size g j c5 ds aw cw B q W)) (fun i _ => j - (intOf i).toNat)
        case atStart => exact ⟨0, Nat.zero_le _, rfl, HS6.out⟩
        case round =>
          obtain ⟨q, hq, rfl, HSq⟩ := hrel
          by_cases hlt : q < j
          · have hql : q < ds.length := by have := HDS.out.1; omega
            obtain ⟨⟨nm', on', al', ll', cl', l'⟩, hdq⟩ : ∃ x, ds[q]? = some x := ⟨_, List.getElem?_eq_getElem hql⟩
            have HDQ := Lib.hid hdq
            have HIN : Hid (∀ W', Hid (Spo V w5.heap.size g j c5 ds aw cw B q W') → SpoI V w5.heap.size g j c5 ds aw cw B q al' ll' cl' W' ∧ W'.cell? ⟨g, q * 3 + 2, none⟩ = some (.slice al' ll' cl')) := fun W' hs => ⟨hs.out.first HDQ.out, (hs.out.cells HDQ.out hlt).2.2⟩
            have hll' : ll' ≤ 100000 := (HSq.out.sps q _ (Nat.le_refl _) hdq).2.1
            by_cases hjk : q = Kk
            · have dk : decide ((q : Int) = Kk) = true := decide_eq_true (by omega)
              have dk2 : ((q : Int) == Kk) = true := by simp; omega
              have dk3 : ((q : Int) != Kk) = false := by simp; omega
              clear hdq
              go_wp2
              go_quiet (fail)
              clear hjk dk dk2 dk3
              have HSx := Lib.hid (HSq.out.later (⟨rfl, rfl, rfl, Nat.le_refl _, fun _ _ => rfl⟩ : Below wr.heap.size wr (wr.drewN nq)))
              have hx2 := (HIN.out _ HSx).2
              go_wp2
              go_loopw [14] (fun i W => ∃ p : Nat, p ≤ ll' ∧ i = .int .i64 p ∧ Hid (SpoI V w5.heap.size g j c5 ds aw cw B q al' ll' cl' W)) (fun i _ => ll' - (intOf i).toNat)
              case atStart => exact ⟨0, Nat.zero_le _, rfl, (HIN.out _ HSx).1⟩
              case round =>
                obtain ⟨p, hp, rfl, HSp⟩ := hrel
                have hx3 := (HSp.out.1.cells HDQ.out hlt).2.2
                clear hx2
                by_cases hltp : p < ll'
                · obtain ⟨gi, f, t, hal, hgi, c0, c1, fz, hsp⟩ := HSp.out.spoil HDQ.out p hltp
                  subst hal
                  have HSN := Lib.hid (hsp (-9))
                  clear hsp
                  go_wp2
                  go_roundw
                  case rel => exact ⟨p + 1, by omega, by go_num, HSN.out⟩
                  case measure => simp [intOf]; omega
                · obtain rfl : p = ll' := by omega
                  go_wp2
                  go_roundw
                  case rel => exact ⟨q + 1, by omega, by go_num, HSp.out.1⟩
                  case measure => simp [intOf]; omega
            · have dk : decide ((q : Int) = Kk) = false := decide_eq_false (by omega)
              have dk2 : ((q : Int) == Kk) = false := by simp; omega
              have dk3 : ((q : Int) != Kk) = true := by simp; omega
              have hwq : IntKind.i64.wrap ((q : Int) + 1) = (q : Int) + 1 := by rw [IntKind.wrap_i64] <;> omega
              have hsA := fun W' => slice_oneZ (b := g) hlt hcap W'
              have hsB := fun W' => slice_oneB (b := b) (off := off) hlt hcapl W'
              have hBq : B[q]? = some (nm', on', l') := by
                have e := HDS.out.2.1
                have e2 := congrArg (fun (x : List BmM) => x[q]?) e
                simp only [List.getElem?_map, hdq, List.getElem?_set, if_neg (fun h => hjk (Eq.symm h))] at e2
                exact e2.symm
              have hnm' : nm'.size ≤ 9223372036854775807 := HDS.out.2.2 (nm', on', l') (by rw [← HDS.out.2.1]; exact List.mem_map.2 ⟨_, List.mem_of_getElem? hdq, rfl⟩)
              have HM : Hid (∀ W', Below wr.heap.size wr W' → Calls Try.prog 42 #[.slice (some ⟨g, q * 3, none⟩) 1 (c5 - q), .slice (some ⟨b, off + q * 3, none⟩) 1 (cap0 - q)] W' fun e w' => e = .returned (.bool true) ∧ Below W'.heap.size W' w') := fun W' hb => refMaps ((HSq.out.later hb).one HDQ.out hlt hnm') ((HLr.out.d.later (HSq.out.dat.trans (hb.mono HSq.out.dat.size))).sub q _ hBq) (decide_eq_true rfl)
              have HDR := Lib.hid (Below.refl wr.heap.size wr).drew
              clear hdq hBq
              go_wp2
              refine wp_region_held_drew (S := fun _ => True) (by kernel_rfl) (by exact trivial) (fun hHeld => ?_)
              refine wpAnyH_take (i := 0) (oi := _) (v := ?vx0) rfl (by kernel_rfl) (by kernel_rfl) (by kernel_rfl) (fun _ _ _ h => h) (Or.inl ⟨by rfl, ?hyx0⟩) (by assumption) ?restx0
              case hyx0 => (intro wz hSw; (try dsimp only at hSw); go_simp; try with_reducible rfl)
              (try simp only [List.getElem_toArray, List.getElem_cons_zero, Act.put, List.setIfInBounds_toArray, List.set_cons_zero, List.set_cons_succ])
              refine wpAnyH_take (i := 1) (oi := _) (v := ?vx1) rfl (by kernel_rfl) (by kernel_rfl) (by kernel_rfl) (fun _ _ _ h => h) (Or.inl ⟨by rfl, ?hyx1⟩) (by assumption) ?restx1
              case hyx1 => (intro wz hSw; (try dsimp only at hSw); go_simp; try with_reducible rfl)
              (try simp only [List.getElem_toArray, List.getElem_cons_zero, List.getElem_cons_succ, Act.put, List.setIfInBounds_toArray, List.set_cons_zero, List.set_cons_succ])
              refine wpAnyH_take (i := 2) (oi := _) (v := ?vx2) rfl (by kernel_rfl) (by kernel_rfl) (by kernel_rfl) (fun _ _ _ h => h) (Or.inl ⟨by rfl, ?hyx2⟩) (by assumption) ?restx2
              case hyx2 => (intro wz hSw; (try dsimp only at hSw); go_simp; try with_reducible rfl)
              (try simp only [List.getElem_toArray, List.getElem_cons_zero, List.getElem_cons_succ, Act.put, List.setIfInBounds_toArray, List.set_cons_zero, List.set_cons_succ])
              refine wpAnyH_take (i := 3) (oi := _) (v := ?vx3) rfl (by kernel_rfl) (by kernel_rfl) (by kernel_rfl) (fun _ _ _ h => h) (Or.inl ⟨by rfl, ?hyx3⟩) (by assumption) ?restx3
              case hyx3 => (intro wz hSw; (try dsimp only at hSw); go_simp; try with_reducible rfl)
              (try simp only [List.getElem_toArray, List.getElem_cons_zero, List.getElem_cons_succ, Act.put, List.setIfInBounds_toArray, List.set_cons_zero, List.set_cons_succ])
              refine wpAnyH_take (i := 4) (oi := _) (v := ?vx4) rfl (by kernel_rfl) (by kernel_rfl) (by kernel_rfl) (fun _ _ _ h => h) (Or.inl ⟨by rfl, ?hyx4⟩) (by assumption) ?restx4
              case hyx4 => (intro wz hSw; (try dsimp only at hSw); go_simp; try with_reducible rfl)
              (try simp only [List.getElem_toArray, List.getElem_cons_zero, List.getElem_cons_succ, Act.put, List.setIfInBounds_toArray, List.set_cons_zero, List.set_cons_succ])
              refine wpAnyH_take (i := 5) (oi := _) (v := ?vx5) rfl (by kernel_rfl) (by kernel_rfl) (by kernel_rfl) (fun _ _ _ h => h) (Or.inl ⟨by rfl, ?hyx5⟩) (by assumption) ?restx5
              case hyx5 => (intro wz hSw; (try dsimp only at hSw); go_simp; try with_reducible rfl)
              (try simp only [List.getElem_toArray, List.getElem_cons_zero, List.getElem_cons_succ, Act.put, List.setIfInBounds_toArray, List.set_cons_zero, List.set_cons_succ])
              refine wpAnyH_take (i := 6) (oi := _) (v := ?vx6) rfl (by kernel_rfl) (by kernel_rfl) (by kernel_rfl) (fun _ _ _ h => h) (Or.inl ⟨by rfl, ?hyx6⟩) (by assumption) ?restx6
              case hyx6 => (intro wz hSw; (try dsimp only at hSw); go_simp; try with_reducible rfl)
              (try simp only [List.getElem_toArray, List.getElem_cons_zero, List.getElem_cons_succ, Act.put, List.setIfInBounds_toArray, List.set_cons_zero, List.set_cons_succ])
              refine wpAnyH_take (i := 7) (oi := _) (v := ?vx7) rfl (by kernel_rfl) (by kernel_rfl) (by kernel_rfl) (fun _ _ _ h => h) (Or.inl ⟨by rfl, ?hyx7⟩) (by assumption) ?restx7
              case hyx7 => (intro wz hSw; (try dsimp only at hSw); go_simp; try with_reducible rfl)
              (try simp only [List.getElem_toArray, List.getElem_cons_zero, List.getElem_cons_succ, Act.put, List.setIfInBounds_toArray, List.set_cons_zero, List.set_cons_succ])
              refine wpAnyH_take (i := 8) (oi := _) (v := .slice (some ⟨g, q * 3, none⟩) 1 (c5 - q)) rfl (by kernel_rfl) (by kernel_rfl) (by kernel_rfl) (fun _ _ _ h => h) (Or.inl ⟨by rfl, fun wz hSw => exec_sliceB (vx := .slice (some ⟨g, 0, none⟩) j c5) (vl := .int .i64 (q : Int)) (vh := .int .i64 ((q : Int) + 1)) (.tmp 113) (.tmp 114) (.tmp 116) rfl rfl rfl (by first | rfl | (go_simp; exact hwq)) (hsA wz)⟩) (by assumption) ?_
              (try simp only [List.getElem_toArray, List.getElem_cons_zero, List.getElem_cons_succ, Act.put, List.setIfInBounds_toArray, List.set_cons_zero, List.set_cons_succ])
              refine wpAnyH_take (i := 9) (oi := _) (v := ?vx9) rfl (by kernel_rfl) (by kernel_rfl) (by kernel_rfl) (fun _ _ _ h => h) (Or.inl ⟨by rfl, ?hyx9⟩) (by assumption) ?restx9
              case hyx9 => (intro wz hSw; (try dsimp only at hSw); go_simp; try with_reducible rfl)
              (try simp only [List.getElem_toArray, List.getElem_cons_zero, List.getElem_cons_succ, Act.put, List.setIfInBounds_toArray, List.set_cons_zero, List.set_cons_succ])
              refine wpAnyH_take (i := 10) (oi := _) (v := ?vx10) rfl (by kernel_rfl) (by kernel_rfl) (by kernel_rfl) (fun _ _ _ h => h) (Or.inl ⟨by rfl, ?hyx10⟩) (by assumption) ?restx10
              case hyx10 => (intro wz hSw; (try dsimp only at hSw); go_simp; try with_reducible rfl)
              (try simp only [List.getElem_toArray, List.getElem_cons_zero, List.getElem_cons_succ, Act.put, List.setIfInBounds_toArray, List.set_cons_zero, List.set_cons_succ])
              refine wpAnyH_take (i := 11) (oi := _) (v := ?vx11) rfl (by kernel_rfl) (by kernel_rfl) (by kernel_rfl) (fun _ _ _ h => h) (Or.inl ⟨by rfl, ?hyx11⟩) (by assumption) ?restx11
              case hyx11 => (intro wz hSw; (try dsimp only at hSw); go_simp; try with_reducible rfl)
              (try simp only [List.getElem_toArray, List.getElem_cons_zero, List.getElem_cons_succ, Act.put, List.setIfInBounds_toArray, List.set_cons_zero, List.set_cons_succ])
              refine wpAnyH_take (i := 12) (oi := _) (v := ?vx12) rfl (by kernel_rfl) (by kernel_rfl) (by kernel_rfl) (fun _ _ _ h => h) (Or.inl ⟨by rfl, ?hyx12⟩) (by assumption) ?restx12
              case hyx12 => (intro wz hSw; (try dsimp only at hSw); go_simp; try with_reducible rfl)
              (try simp only [List.getElem_toArray, List.getElem_cons_zero, List.getElem_cons_succ, Act.put, List.setIfInBounds_toArray, List.set_cons_zero, List.set_cons_succ])
              refine wpAnyH_take (i := 13) (oi := _) (v := .slice (some ⟨b, off + q * 3, none⟩) 1 (cap0 - q)) rfl (by kernel_rfl) (by kernel_rfl) (by kernel_rfl) (fun _ _ _ h => h) (Or.inl ⟨by rfl, fun wz hSw => exec_sliceB (vx := .slice (some ⟨b, off, none⟩) j cap0) (vl := .int .i64 (q : Int)) (vh := .int .i64 ((q : Int) + 1)) (.tmp 118) (.tmp 119) (.tmp 121) rfl rfl rfl (by first | rfl | (go_simp; exact hwq)) (hsB wz)⟩) (by assumption) ?_
              (try simp only [List.getElem_toArray, List.getElem_cons_zero, List.getElem_cons_succ, Act.put, List.setIfInBounds_toArray, List.set_cons_zero, List.set_cons_succ])
              refine wpAnyH_ready (rs := [14]) (by kernel_rfl) (by simp) ?_
              refine AllReadyH.cons (o := _) rfl (fun K hK => ?_) AllReadyH.nil
              rw [if_pos (by rfl)]
              go_simp
              (go_at_call 42; refine (HM.out _ HDR.out).mono ?_; rintro e w7 ⟨rfl, hb⟩; have HB7 := Lib.hid hb; clear hb)
              dsimp only
              refine hK.out _ _ (by exact trivial) (fun hHeld => ?_)
              clear hK K
              (try simp only [List.getElem_toArray, List.getElem_cons_zero, List.getElem_cons_succ, Act.put, List.setIfInBounds_toArray, List.set_cons_zero, List.set_cons_succ])
              refine wpAnyH_take (i := 15) (oi := _) (v := ?vx15) rfl (by kernel_rfl) (by kernel_rfl) (by kernel_rfl) (fun _ _ _ h => h) (Or.inl ⟨by rfl, ?hyx15⟩) (by assumption) ?restx15
              case hyx15 => (intro wz hSw; (try dsimp only at hSw); go_simp; try with_reducible rfl)
              (try simp only [List.getElem_toArray, List.getElem_cons_zero, List.getElem_cons_succ, Act.put, List.setIfInBounds_toArray, List.set_cons_zero, List.set_cons_succ])
              refine wpAnyH_take (i := 16) (oi := _) (v := ?vx16) rfl (by kernel_rfl) (by kernel_rfl) (by kernel_rfl) (fun _ _ _ h => h) (Or.inl ⟨by rfl, ?hyx16⟩) (by assumption) ?restx16
              case hyx16 => (intro wz hSw; (try dsimp only at hSw); go_simp; try with_reducible rfl)
              (try simp only [List.getElem_toArray, List.getElem_cons_zero, List.getElem_cons_succ, Act.put, List.setIfInBounds_toArray, List.set_cons_zero, List.set_cons_succ])
              refine wpAnyH_done (by kernel_rfl) ?_ _
              have HSx := Lib.hid (HSq.out.later ((Below.refl wr.heap.size wr).drew.trans HB7.out))
              have hx2 := (HIN.out _ HSx).2
              go_wp2
              go_loopw [14] (fun i W => ∃ p : Nat, p ≤ ll' ∧ i = .int .i64 p ∧ Hid (SpoI V w5.heap.size g j c5 ds aw cw B q al' ll' cl' W)) (fun i _ => ll' - (intOf i).toNat)
              case atStart => exact ⟨0, Nat.zero_le _, rfl, (HIN.out _ HSx).1⟩
              case round =>
                obtain ⟨p, hp, rfl, HSp⟩ := hrel
                have hx3 := (HSp.out.1.cells HDQ.out hlt).2.2
                clear hx2
                by_cases hltp : p < ll'
                · obtain ⟨gi, f, t, hal, hgi, c0, c1, fz, hsp⟩ := HSp.out.spoil HDQ.out p hltp
                  subst hal
                  have HSN := Lib.hid (hsp (-9))
                  clear hsp
                  go_wp2
                  go_roundw
                  case rel => exact ⟨p + 1, by omega, by go_num, HSN.out⟩
                  case measure => simp [intOf]; omega
                · obtain rfl : p = ll' := by omega
                  go_wp2
                  go_roundw
                  case rel => exact ⟨q + 1, by omega, by go_num, HSp.out.1⟩
                  case measure => simp [intOf]; omega
          · obtain rfl : q = j := by omega
            go_wp2_with (first
              | (go_at_call 42; (with_reducible refine (mapsSame HLr.out.d HSq.out.was.d HSq.out.dat (Below.refl _ _)).mono ?_); rintro e w8 ⟨rfl, hb⟩; have HBF := Lib.hid (HBR.out.trans ((HSq.out.dat.trans (hb.mono HSq.out.dat.size)).mono HBR.out.size)); clear hb)
              | (go_at_call 30; (with_reducible refine (HAW.out _ HBF.out).mono ?_); rintro e w9 ⟨rfl, hb9⟩))
            go_ret
            exact ⟨rfl, hb9⟩
      · go_wp2_with (first
          | (go_at_call 36; (with_reducible refine (HC1.out _).mono ?_); rintro e w5 ⟨a5, c5, d5, rfl, hX, hb⟩; have HX5 := Lib.hid hX; have HB5 := Lib.hid hb; clear hX hb)
          | (go_at_call 38; (with_reducible refine HC2.out.mono ?_); rintro e w5 ⟨a5, c5, d5, rfl, hX, hb⟩; have HX5 := Lib.hid hX; have HB5 := Lib.hid hb; clear hX hb)
          | (go_at_call 40; (with_reducible refine HC3.out.mono ?_); rintro e w5 ⟨a5, c5, d5, rfl, hX, hb⟩; have HX5 := Lib.hid hX; have HB5 := Lib.hid hb; clear hX hb)
          | (go_at_call 43; (with_reducible refine (HNU.out _).mono ?_); rintro e w' ⟨rfl, hw⟩; obtain rfl := hw.symm)
          | (go_at_call 31; have HL5 := Lib.hid (HLr.out.later HB5.out); (with_reducible refine HL5.out.none.mono ?_); rintro e w6 ⟨aw, cw, rfl, hN, hb⟩; have HN6 := Lib.hid hN; have HB56 := Lib.hid hb; clear hN hb))
        obtain ⟨ds, h1, h2, h3, h4, h5, h6⟩ := HX5.out
        obtain ⟨g, _, hag, hgl, _⟩ := own3_at bm_rowed h1 0 hz
        subst hag
        have hcap := (h1.reads bm_rowed).2.2
        have HS6 : Hid (Spo wr w5.heap.size g j c5 ds aw cw B 0 w6) := ⟨h1.laterB HB56.out, fun k d hk hd => (h2 d (List.mem_of_getElem? hd)).off (Off.none _ _) (grown_of_below HB56.out), h6, fun d hd x hx => ((h2 d hd).1.1.lt x hx).2, HN6.out, HB5.out.trans (HB56.out.mono HB5.out.size)⟩
        have HDS : Hid (ds.length = j ∧ ds.map bmM = B.set Kk d5 ∧ ∀ d ∈ B.set Kk d5, d.1.size ≤ 9223372036854775807) := ⟨h1.2.1, h3, h5⟩
        have hcapl : j ≤ cap0 := by obtain ⟨_, _, _, hc, _⟩ := HLr.out.d; exact hc.2
        clear h1 h2 h3 h4 h5 h6 HX5 HN6 HC1 HC2 HC3 x0 x1 y0 hgl
        obtain ⟨V, hV⟩ : ∃ V, V = wr := ⟨wr, rfl⟩
        subst hV
        go_loopw [13] (fun i W => ∃ q : Nat, q ≤ j ∧ i = .int .i64 q ∧ Hid (Spo V w5.heap.size g j c5 ds aw cw B q W)) (fun i _ => j - (intOf i).toNat)
        case atStart => exact ⟨0, Nat.zero_le _, rfl, HS6.out⟩
        case round =>
          obtain ⟨q, hq, rfl, HSq⟩ := hrel
          by_cases hlt : q < j
          · have hql : q < ds.length := by have := HDS.out.1; omega
            obtain ⟨⟨nm', on', al', ll', cl', l'⟩, hdq⟩ : ∃ x, ds[q]? = some x := ⟨_, List.getElem?_eq_getElem hql⟩
            have HDQ := Lib.hid hdq
            have HIN : Hid (∀ W', Hid (Spo V w5.heap.size g j c5 ds aw cw B q W') → SpoI V w5.heap.size g j c5 ds aw cw B q al' ll' cl' W' ∧ W'.cell? ⟨g, q * 3 + 2, none⟩ = some (.slice al' ll' cl')) := fun W' hs => ⟨hs.out.first HDQ.out, (hs.out.cells HDQ.out hlt).2.2⟩
            have hll' : ll' ≤ 100000 := (HSq.out.sps q _ (Nat.le_refl _) hdq).2.1
            by_cases hjk : q = Kk
            · have dk : decide ((q : Int) = Kk) = true := decide_eq_true (by omega)
              have dk2 : ((q : Int) == Kk) = true := by simp; omega
              have dk3 : ((q : Int) != Kk) = false := by simp; omega
              clear hdq
              go_wp2
              go_quiet (fail)
              clear hjk dk dk2 dk3
              have HSx := Lib.hid (HSq.out.later (⟨rfl, rfl, rfl, Nat.le_refl _, fun _ _ => rfl⟩ : Below wr.heap.size wr (wr.drewN nq)))
              have hx2 := (HIN.out _ HSx).2
              go_wp2
              go_loopw [14] (fun i W => ∃ p : Nat, p ≤ ll' ∧ i = .int .i64 p ∧ Hid (SpoI V w5.heap.size g j c5 ds aw cw B q al' ll' cl' W)) (fun i _ => ll' - (intOf i).toNat)
              case atStart => exact ⟨0, Nat.zero_le _, rfl, (HIN.out _ HSx).1⟩
              case round =>
                obtain ⟨p, hp, rfl, HSp⟩ := hrel
                have hx3 := (HSp.out.1.cells HDQ.out hlt).2.2
                clear hx2
                by_cases hltp : p < ll'
                · obtain ⟨gi, f, t, hal, hgi, c0, c1, fz, hsp⟩ := HSp.out.spoil HDQ.out p hltp
                  subst hal
                  have HSN := Lib.hid (hsp (-9))
                  clear hsp
                  go_wp2
                  go_roundw
                  case rel => exact ⟨p + 1, by omega, by go_num, HSN.out⟩
                  case measure => simp [intOf]; omega
                · obtain rfl : p = ll' := by omega
                  go_wp2
                  go_roundw
                  case rel => exact ⟨q + 1, by omega, by go_num, HSp.out.1⟩
                  case measure => simp [intOf]; omega
            · have dk : decide ((q : Int) = Kk) = false := decide_eq_false (by omega)
              have dk2 : ((q : Int) == Kk) = false := by simp; omega
              have dk3 : ((q : Int) != Kk) = true := by simp; omega
              have hwq : IntKind.i64.wrap ((q : Int) + 1) = (q : Int) + 1 := by rw [IntKind.wrap_i64] <;> omega
              have hsA := fun W' => slice_oneZ (b := g) hlt hcap W'
              have hsB := fun W' => slice_oneB (b := b) (off := off) hlt hcapl W'
              have hBq : B[q]? = some (nm', on', l') := by
                have e := HDS.out.2.1
                have e2 := congrArg (fun (x : List BmM) => x[q]?) e
                simp only [List.getElem?_map, hdq, List.getElem?_set, if_neg (fun h => hjk (Eq.symm h))] at e2
                exact e2.symm
              have hnm' : nm'.size ≤ 9223372036854775807 := HDS.out.2.2 (nm', on', l') (by rw [← HDS.out.2.1]; exact List.mem_map.2 ⟨_, List.mem_of_getElem? hdq, rfl⟩)
              have HM : Hid (∀ W', Below wr.heap.size wr W' → Calls Try.prog 42 #[.slice (some ⟨g, q * 3, none⟩) 1 (c5 - q), .slice (some ⟨b, off + q * 3, none⟩) 1 (cap0 - q)] W' fun e w' => e = .returned (.bool true) ∧ Below W'.heap.size W' w') := fun W' hb => refMaps ((HSq.out.later hb).one HDQ.out hlt hnm') ((HLr.out.d.later (HSq.out.dat.trans (hb.mono HSq.out.dat.size))).sub q _ hBq) (decide_eq_true rfl)
              have HDR := Lib.hid (Below.refl wr.heap.size wr).drew
              clear hdq hBq
              go_wp2
              refine wp_region_held_drew (S := fun _ => True) (by kernel_rfl) (by exact trivial) (fun hHeld => ?_)
              refine wpAnyH_take (i := 0) (oi := _) (v := ?vy0) rfl (by kernel_rfl) (by kernel_rfl) (by kernel_rfl) (fun _ _ _ h => h) (Or.inl ⟨by rfl, ?hyy0⟩) (by assumption) ?resty0
              case hyy0 => (intro wz hSw; (try dsimp only at hSw); go_simp; try with_reducible rfl)
              (try simp only [List.getElem_toArray, List.getElem_cons_zero, Act.put, List.setIfInBounds_toArray, List.set_cons_zero, List.set_cons_succ])
              refine wpAnyH_take (i := 1) (oi := _) (v := ?vy1) rfl (by kernel_rfl) (by kernel_rfl) (by kernel_rfl) (fun _ _ _ h => h) (Or.inl ⟨by rfl, ?hyy1⟩) (by assumption) ?resty1
              case hyy1 => (intro wz hSw; (try dsimp only at hSw); go_simp; try with_reducible rfl)
              (try simp only [List.getElem_toArray, List.getElem_cons_zero, List.getElem_cons_succ, Act.put, List.setIfInBounds_toArray, List.set_cons_zero, List.set_cons_succ])
              refine wpAnyH_take (i := 2) (oi := _) (v := ?vy2) rfl (by kernel_rfl) (by kernel_rfl) (by kernel_rfl) (fun _ _ _ h => h) (Or.inl ⟨by rfl, ?hyy2⟩) (by assumption) ?resty2
              case hyy2 => (intro wz hSw; (try dsimp only at hSw); go_simp; try with_reducible rfl)
              (try simp only [List.getElem_toArray, List.getElem_cons_zero, List.getElem_cons_succ, Act.put, List.setIfInBounds_toArray, List.set_cons_zero, List.set_cons_succ])
              refine wpAnyH_take (i := 3) (oi := _) (v := ?vy3) rfl (by kernel_rfl) (by kernel_rfl) (by kernel_rfl) (fun _ _ _ h => h) (Or.inl ⟨by rfl, ?hyy3⟩) (by assumption) ?resty3
              case hyy3 => (intro wz hSw; (try dsimp only at hSw); go_simp; try with_reducible rfl)
              (try simp only [List.getElem_toArray, List.getElem_cons_zero, List.getElem_cons_succ, Act.put, List.setIfInBounds_toArray, List.set_cons_zero, List.set_cons_succ])
              refine wpAnyH_take (i := 4) (oi := _) (v := ?vy4) rfl (by kernel_rfl) (by kernel_rfl) (by kernel_rfl) (fun _ _ _ h => h) (Or.inl ⟨by rfl, ?hyy4⟩) (by assumption) ?resty4
              case hyy4 => (intro wz hSw; (try dsimp only at hSw); go_simp; try with_reducible rfl)
              (try simp only [List.getElem_toArray, List.getElem_cons_zero, List.getElem_cons_succ, Act.put, List.setIfInBounds_toArray, List.set_cons_zero, List.set_cons_succ])
              refine wpAnyH_take (i := 5) (oi := _) (v := ?vy5) rfl (by kernel_rfl) (by kernel_rfl) (by kernel_rfl) (fun _ _ _ h => h) (Or.inl ⟨by rfl, ?hyy5⟩) (by assumption) ?resty5
              case hyy5 => (intro wz hSw; (try dsimp only at hSw); go_simp; try with_reducible rfl)
              (try simp only [List.getElem_toArray, List.getElem_cons_zero, List.getElem_cons_succ, Act.put, List.setIfInBounds_toArray, List.set_cons_zero, List.set_cons_succ])
              refine wpAnyH_take (i := 6) (oi := _) (v := ?vy6) rfl (by kernel_rfl) (by kernel_rfl) (by kernel_rfl) (fun _ _ _ h => h) (Or.inl ⟨by rfl, ?hyy6⟩) (by assumption) ?resty6
              case hyy6 => (intro wz hSw; (try dsimp only at hSw); go_simp; try with_reducible rfl)
              (try simp only [List.getElem_toArray, List.getElem_cons_zero, List.getElem_cons_succ, Act.put, List.setIfInBounds_toArray, List.set_cons_zero, List.set_cons_succ])
              refine wpAnyH_take (i := 7) (oi := _) (v := ?vy7) rfl (by kernel_rfl) (by kernel_rfl) (by kernel_rfl) (fun _ _ _ h => h) (Or.inl ⟨by rfl, ?hyy7⟩) (by assumption) ?resty7
              case hyy7 => (intro wz hSw; (try dsimp only at hSw); go_simp; try with_reducible rfl)
              (try simp only [List.getElem_toArray, List.getElem_cons_zero, List.getElem_cons_succ, Act.put, List.setIfInBounds_toArray, List.set_cons_zero, List.set_cons_succ])
              refine wpAnyH_take (i := 8) (oi := _) (v := .slice (some ⟨g, q * 3, none⟩) 1 (c5 - q)) rfl (by kernel_rfl) (by kernel_rfl) (by kernel_rfl) (fun _ _ _ h => h) (Or.inl ⟨by rfl, fun wz hSw => exec_sliceB (vx := .slice (some ⟨g, 0, none⟩) j c5) (vl := .int .i64 (q : Int)) (vh := .int .i64 ((q : Int) + 1)) (.tmp 113) (.tmp 114) (.tmp 116) rfl rfl rfl (by first | rfl | (go_simp; exact hwq)) (hsA wz)⟩) (by assumption) ?_
              (try simp only [List.getElem_toArray, List.getElem_cons_zero, List.getElem_cons_succ, Act.put, List.setIfInBounds_toArray, List.set_cons_zero, List.set_cons_succ])
              refine wpAnyH_take (i := 9) (oi := _) (v := ?vy9) rfl (by kernel_rfl) (by kernel_rfl) (by kernel_rfl) (fun _ _ _ h => h) (Or.inl ⟨by rfl, ?hyy9⟩) (by assumption) ?resty9
              case hyy9 => (intro wz hSw; (try dsimp only at hSw); go_simp; try with_reducible rfl)
              (try simp only [List.getElem_toArray, List.getElem_cons_zero, List.getElem_cons_succ, Act.put, List.setIfInBounds_toArray, List.set_cons_zero, List.set_cons_succ])
              refine wpAnyH_take (i := 10) (oi := _) (v := ?vy10) rfl (by kernel_rfl) (by kernel_rfl) (by kernel_rfl) (fun _ _ _ h => h) (Or.inl ⟨by rfl, ?hyy10⟩) (by assumption) ?resty10
              case hyy10 => (intro wz hSw; (try dsimp only at hSw); go_simp; try with_reducible rfl)
              (try simp only [List.getElem_toArray, List.getElem_cons_zero, List.getElem_cons_succ, Act.put, List.setIfInBounds_toArray, List.set_cons_zero, List.set_cons_succ])
              refine wpAnyH_take (i := 11) (oi := _) (v := ?vy11) rfl (by kernel_rfl) (by kernel_rfl) (by kernel_rfl) (fun _ _ _ h => h) (Or.inl ⟨by rfl, ?hyy11⟩) (by assumption) ?resty11
              case hyy11 => (intro wz hSw; (try dsimp only at hSw); go_simp; try with_reducible rfl)
              (try simp only [List.getElem_toArray, List.getElem_cons_zero, List.getElem_cons_succ, Act.put, List.setIfInBounds_toArray, List.set_cons_zero, List.set_cons_succ])
              refine wpAnyH_take (i := 12) (oi := _) (v := ?vy12) rfl (by kernel_rfl) (by kernel_rfl) (by kernel_rfl) (fun _ _ _ h => h) (Or.inl ⟨by rfl, ?hyy12⟩) (by assumption) ?resty12
              case hyy12 => (intro wz hSw; (try dsimp only at hSw); go_simp; try with_reducible rfl)
              (try simp only [List.getElem_toArray, List.getElem_cons_zero, List.getElem_cons_succ, Act.put, List.setIfInBounds_toArray, List.set_cons_zero, List.set_cons_succ])
              refine wpAnyH_take (i := 13) (oi := _) (v := .slice (some ⟨b, off + q * 3, none⟩) 1 (cap0 - q)) rfl (by kernel_rfl) (by kernel_rfl) (by kernel_rfl) (fun _ _ _ h => h) (Or.inl ⟨by rfl, fun wz hSw => exec_sliceB (vx := .slice (some ⟨b, off, none⟩) j cap0) (vl := .int .i64 (q : Int)) (vh := .int .i64 ((q : Int) + 1)) (.tmp 118) (.tmp 119) (.tmp 121) rfl rfl rfl (by first | rfl | (go_simp; exact hwq)) (hsB wz)⟩) (by assumption) ?_
              (try simp only [List.getElem_toArray, List.getElem_cons_zero, List.getElem_cons_succ, Act.put, List.setIfInBounds_toArray, List.set_cons_zero, List.set_cons_succ])
              refine wpAnyH_ready (rs := [14]) (by kernel_rfl) (by simp) ?_
              refine AllReadyH.cons (o := _) rfl (fun K hK => ?_) AllReadyH.nil
              rw [if_pos (by rfl)]
              go_simp
              (go_at_call 42; refine (HM.out _ HDR.out).mono ?_; rintro e w7 ⟨rfl, hb⟩; have HB7 := Lib.hid hb; clear hb)
              dsimp only
              refine hK.out _ _ (by exact trivial) (fun hHeld => ?_)
              clear hK K
              (try simp only [List.getElem_toArray, List.getElem_cons_zero, List.getElem_cons_succ, Act.put, List.setIfInBounds_toArray, List.set_cons_zero, List.set_cons_succ])
              refine wpAnyH_take (i := 15) (oi := _) (v := ?vy15) rfl (by kernel_rfl) (by kernel_rfl) (by kernel_rfl) (fun _ _ _ h => h) (Or.inl ⟨by rfl, ?hyy15⟩) (by assumption) ?resty15
              case hyy15 => (intro wz hSw; (try dsimp only at hSw); go_simp; try with_reducible rfl)
              (try simp only [List.getElem_toArray, List.getElem_cons_zero, List.getElem_cons_succ, Act.put, List.setIfInBounds_toArray, List.set_cons_zero, List.set_cons_succ])
              refine wpAnyH_take (i := 16) (oi := _) (v := ?vy16) rfl (by kernel_rfl) (by kernel_rfl) (by kernel_rfl) (fun _ _ _ h => h) (Or.inl ⟨by rfl, ?hyy16⟩) (by assumption) ?resty16
              case hyy16 => (intro wz hSw; (try dsimp only at hSw); go_simp; try with_reducible rfl)
              (try simp only [List.getElem_toArray, List.getElem_cons_zero, List.getElem_cons_succ, Act.put, List.setIfInBounds_toArray, List.set_cons_zero, List.set_cons_succ])
              refine wpAnyH_done (by kernel_rfl) ?_ _
              have HSx := Lib.hid (HSq.out.later ((Below.refl wr.heap.size wr).drew.trans HB7.out))
              have hx2 := (HIN.out _ HSx).2
              go_wp2
              go_loopw [14] (fun i W => ∃ p : Nat, p ≤ ll' ∧ i = .int .i64 p ∧ Hid (SpoI V w5.heap.size g j c5 ds aw cw B q al' ll' cl' W)) (fun i _ => ll' - (intOf i).toNat)
              case atStart => exact ⟨0, Nat.zero_le _, rfl, (HIN.out _ HSx).1⟩
              case round =>
                obtain ⟨p, hp, rfl, HSp⟩ := hrel
                have hx3 := (HSp.out.1.cells HDQ.out hlt).2.2
                clear hx2
                by_cases hltp : p < ll'
                · obtain ⟨gi, f, t, hal, hgi, c0, c1, fz, hsp⟩ := HSp.out.spoil HDQ.out p hltp
                  subst hal
                  have HSN := Lib.hid (hsp (-9))
                  clear hsp
                  go_wp2
                  go_roundw
                  case rel => exact ⟨p + 1, by omega, by go_num, HSN.out⟩
                  case measure => simp [intOf]; omega
                · obtain rfl : p = ll' := by omega
                  go_wp2
                  go_roundw
                  case rel => exact ⟨q + 1, by omega, by go_num, HSp.out.1⟩
                  case measure => simp [intOf]; omega
          · obtain rfl : q = j := by omega
            go_wp2_with (first
              | (go_at_call 42; (with_reducible refine (mapsSame HLr.out.d HSq.out.was.d HSq.out.dat (Below.refl _ _)).mono ?_); rintro e w8 ⟨rfl, hb⟩; have HBF := Lib.hid (HBR.out.trans ((HSq.out.dat.trans (hb.mono HSq.out.dat.size)).mono HBR.out.size)); clear hb)
              | (go_at_call 30; (with_reducible refine (HAW.out _ HBF.out).mono ?_); rintro e w9 ⟨rfl, hb9⟩))
            go_ret
            exact ⟨rfl, hb9⟩
      · go_wp2_with (first
          | (go_at_call 36; (with_reducible refine (HC1.out _).mono ?_); rintro e w5 ⟨a5, c5, d5, rfl, hX, hb⟩; have HX5 := Lib.hid hX; have HB5 := Lib.hid hb; clear hX hb)
          | (go_at_call 38; (with_reducible refine HC2.out.mono ?_); rintro e w5 ⟨a5, c5, d5, rfl, hX, hb⟩; have HX5 := Lib.hid hX; have HB5 := Lib.hid hb; clear hX hb)
          | (go_at_call 40; (with_reducible refine HC3.out.mono ?_); rintro e w5 ⟨a5, c5, d5, rfl, hX, hb⟩; have HX5 := Lib.hid hX; have HB5 := Lib.hid hb; clear hX hb)
          | (go_at_call 43; (with_reducible refine (HNU.out _).mono ?_); rintro e w' ⟨rfl, hw⟩; obtain rfl := hw.symm)
          | (go_at_call 31; have HL5 := Lib.hid (HLr.out.later HB5.out); (with_reducible refine HL5.out.none.mono ?_); rintro e w6 ⟨aw, cw, rfl, hN, hb⟩; have HN6 := Lib.hid hN; have HB56 := Lib.hid hb; clear hN hb))
        obtain ⟨ds, h1, h2, h3, h4, h5, h6⟩ := HX5.out
        obtain ⟨g, _, hag, hgl, _⟩ := own3_at bm_rowed h1 0 hz
        subst hag
        have hcap := (h1.reads bm_rowed).2.2
        have HS6 : Hid (Spo wr w5.heap.size g j c5 ds aw cw B 0 w6) := ⟨h1.laterB HB56.out, fun k d hk hd => (h2 d (List.mem_of_getElem? hd)).off (Off.none _ _) (grown_of_below HB56.out), h6, fun d hd x hx => ((h2 d hd).1.1.lt x hx).2, HN6.out, HB5.out.trans (HB56.out.mono HB5.out.size)⟩
        have HDS : Hid (ds.length = j ∧ ds.map bmM = B.set Kk d5 ∧ ∀ d ∈ B.set Kk d5, d.1.size ≤ 9223372036854775807) := ⟨h1.2.1, h3, h5⟩
        have hcapl : j ≤ cap0 := by obtain ⟨_, _, _, hc, _⟩ := HLr.out.d; exact hc.2
        clear h1 h2 h3 h4 h5 h6 HX5 HN6 HC1 HC2 HC3 x0 x1 y0 hgl
        obtain ⟨V, hV⟩ : ∃ V, V = wr := ⟨wr, rfl⟩
        subst hV
        go_loopw [13] (fun i W => ∃ q : Nat, q ≤ j ∧ i = .int .i64 q ∧ Hid (Spo V w5.heap.size g j c5 ds aw cw B q W)) (fun i _ => j - (intOf i).toNat)
        case atStart => exact ⟨0, Nat.zero_le _, rfl, HS6.out⟩
        case round =>
          obtain ⟨q, hq, rfl, HSq⟩ := hrel
          by_cases hlt : q < j
          · have hql : q < ds.length := by have := HDS.out.1; omega
            obtain ⟨⟨nm', on', al', ll', cl', l'⟩, hdq⟩ : ∃ x, ds[q]? = some x := ⟨_, List.getElem?_eq_getElem hql⟩
            have HDQ := Lib.hid hdq
            have HIN : Hid (∀ W', Hid (Spo V w5.heap.size g j c5 ds aw cw B q W') → SpoI V w5.heap.size g j c5 ds aw cw B q al' ll' cl' W' ∧ W'.cell? ⟨g, q * 3 + 2, none⟩ = some (.slice al' ll' cl')) := fun W' hs => ⟨hs.out.first HDQ.out, (hs.out.cells HDQ.out hlt).2.2⟩
            have hll' : ll' ≤ 100000 := (HSq.out.sps q _ (Nat.le_refl _) hdq).2.1
            by_cases hjk : q = Kk
            · have dk : decide ((q : Int) = Kk) = true := decide_eq_true (by omega)
              have dk2 : ((q : Int) == Kk) = true := by simp; omega
              have dk3 : ((q : Int) != Kk) = false := by simp; omega
              clear hdq
              go_wp2
              go_quiet (fail)
              clear hjk dk dk2 dk3
              have HSx := Lib.hid (HSq.out.later (⟨rfl, rfl, rfl, Nat.le_refl _, fun _ _ => rfl⟩ : Below wr.heap.size wr (wr.drewN nq)))
              have hx2 := (HIN.out _ HSx).2
              go_wp2
              go_loopw [14] (fun i W => ∃ p : Nat, p ≤ ll' ∧ i = .int .i64 p ∧ Hid (SpoI V w5.heap.size g j c5 ds aw cw B q al' ll' cl' W)) (fun i _ => ll' - (intOf i).toNat)
              case atStart => exact ⟨0, Nat.zero_le _, rfl, (HIN.out _ HSx).1⟩
              case round =>
                obtain ⟨p, hp, rfl, HSp⟩ := hrel
                have hx3 := (HSp.out.1.cells HDQ.out hlt).2.2
                clear hx2
                by_cases hltp : p < ll'
                · obtain ⟨gi, f, t, hal, hgi, c0, c1, fz, hsp⟩ := HSp.out.spoil HDQ.out p hltp
                  subst hal
                  have HSN := Lib.hid (hsp (-9))
                  clear hsp
                  go_wp2
                  go_roundw
                  case rel => exact ⟨p + 1, by omega, by go_num, HSN.out⟩
                  case measure => simp [intOf]; omega
                · obtain rfl : p = ll' := by omega
                  go_wp2
                  go_roundw
                  case rel => exact ⟨q + 1, by omega, by go_num, HSp.out.1⟩
                  case measure => simp [intOf]; omega
            · have dk : decide ((q : Int) = Kk) = false := decide_eq_false (by omega)
              have dk2 : ((q : Int) == Kk) = false := by simp; omega
              have dk3 : ((q : Int) != Kk) = true := by simp; omega
              have hwq : IntKind.i64.wrap ((q : Int) + 1) = (q : Int) + 1 := by rw [IntKind.wrap_i64] <;> omega
              have hsA := fun W' => slice_oneZ (b := g) hlt hcap W'
              have hsB := fun W' => slice_oneB (b := b) (off := off) hlt hcapl W'
              have hBq : B[q]? = some (nm', on', l') := by
                have e := HDS.out.2.1
                have e2 := congrArg (fun (x : List BmM) => x[q]?) e
                simp only [List.getElem?_map, hdq, List.getElem?_set, if_neg (fun h => hjk (Eq.symm h))] at e2
                exact e2.symm
              have hnm' : nm'.size ≤ 9223372036854775807 := HDS.out.2.2 (nm', on', l') (by rw [← HDS.out.2.1]; exact List.mem_map.2 ⟨_, List.mem_of_getElem? hdq, rfl⟩)
              have HM : Hid (∀ W', Below wr.heap.size wr W' → Calls Try.prog 42 #[.slice (some ⟨g, q * 3, none⟩) 1 (c5 - q), .slice (some ⟨b, off + q * 3, none⟩) 1 (cap0 - q)] W' fun e w' => e = .returned (.bool true) ∧ Below W'.heap.size W' w') := fun W' hb => refMaps ((HSq.out.later hb).one HDQ.out hlt hnm') ((HLr.out.d.later (HSq.out.dat.trans (hb.mono HSq.out.dat.size))).sub q _ hBq) (decide_eq_true rfl)
              have HDR := Lib.hid (Below.refl wr.heap.size wr).drew
              clear hdq hBq
              go_wp2
              refine wp_region_held_drew (S := fun _ => True) (by kernel_rfl) (by exact trivial) (fun hHeld => ?_)
              refine wpAnyH_take (i := 0) (oi := _) (v := ?vz0) rfl (by kernel_rfl) (by kernel_rfl) (by kernel_rfl) (fun _ _ _ h => h) (Or.inl ⟨by rfl, ?hyz0⟩) (by assumption) ?restz0
              case hyz0 => (intro wz hSw; (try dsimp only at hSw); go_simp; try with_reducible rfl)
              (try simp only [List.getElem_toArray, List.getElem_cons_zero, Act.put, List.setIfInBounds_toArray, List.set_cons_zero, List.set_cons_succ])
              refine wpAnyH_take (i := 1) (oi := _) (v := ?vz1) rfl (by kernel_rfl) (by kernel_rfl) (by kernel_rfl) (fun _ _ _ h => h) (Or.inl ⟨by rfl, ?hyz1⟩) (by assumption) ?restz1
              case hyz1 => (intro wz hSw; (try dsimp only at hSw); go_simp; try with_reducible rfl)
              (try simp only [List.getElem_toArray, List.getElem_cons_zero, List.getElem_cons_succ, Act.put, List.setIfInBounds_toArray, List.set_cons_zero, List.set_cons_succ])
              refine wpAnyH_take (i := 2) (oi := _) (v := ?vz2) rfl (by kernel_rfl) (by kernel_rfl) (by kernel_rfl) (fun _ _ _ h => h) (Or.inl ⟨by rfl, ?hyz2⟩) (by assumption) ?restz2
              case hyz2 => (intro wz hSw; (try dsimp only at hSw); go_simp; try with_reducible rfl)
              (try simp only [List.getElem_toArray, List.getElem_cons_zero, List.getElem_cons_succ, Act.put, List.setIfInBounds_toArray, List.set_cons_zero, List.set_cons_succ])
              refine wpAnyH_take (i := 3) (oi := _) (v := ?vz3) rfl (by kernel_rfl) (by kernel_rfl) (by kernel_rfl) (fun _ _ _ h => h) (Or.inl ⟨by rfl, ?hyz3⟩) (by assumption) ?restz3
              case hyz3 => (intro wz hSw; (try dsimp only at hSw); go_simp; try with_reducible rfl)
              (try simp only [List.getElem_toArray, List.getElem_cons_zero, List.getElem_cons_succ, Act.put, List.setIfInBounds_toArray, List.set_cons_zero, List.set_cons_succ])
              refine wpAnyH_take (i := 4) (oi := _) (v := ?vz4) rfl (by kernel_rfl) (by kernel_rfl) (by kernel_rfl) (fun _ _ _ h => h) (Or.inl ⟨by rfl, ?hyz4⟩) (by assumption) ?restz4
              case hyz4 => (intro wz hSw; (try dsimp only at hSw); go_simp; try with_reducible rfl)
              (try simp only [List.getElem_toArray, List.getElem_cons_zero, List.getElem_cons_succ, Act.put, List.setIfInBounds_toArray, List.set_cons_zero, List.set_cons_succ])
              refine wpAnyH_take (i := 5) (oi := _) (v := ?vz5) rfl (by kernel_rfl) (by kernel_rfl) (by kernel_rfl) (fun _ _ _ h => h) (Or.inl ⟨by rfl, ?hyz5⟩) (by assumption) ?restz5
              case hyz5 => (intro wz hSw; (try dsimp only at hSw); go_simp; try with_reducible rfl)
              (try simp only [List.getElem_toArray, List.getElem_cons_zero, List.getElem_cons_succ, Act.put, List.setIfInBounds_toArray, List.set_cons_zero, List.set_cons_succ])
              refine wpAnyH_take (i := 6) (oi := _) (v := ?vz6) rfl (by kernel_rfl) (by kernel_rfl) (by kernel_rfl) (fun _ _ _ h => h) (Or.inl ⟨by rfl, ?hyz6⟩) (by assumption) ?restz6
              case hyz6 => (intro wz hSw; (try dsimp only at hSw); go_simp; try with_reducible rfl)
              (try simp only [List.getElem_toArray, List.getElem_cons_zero, List.getElem_cons_succ, Act.put, List.setIfInBounds_toArray, List.set_cons_zero, List.set_cons_succ])
              refine wpAnyH_take (i := 7) (oi := _) (v := ?vz7) rfl (by kernel_rfl) (by kernel_rfl) (by kernel_rfl) (fun _ _ _ h => h) (Or.inl ⟨by rfl, ?hyz7⟩) (by assumption) ?restz7
              case hyz7 => (intro wz hSw; (try dsimp only at hSw); go_simp; try with_reducible rfl)
              (try simp only [List.getElem_toArray, List.getElem_cons_zero, List.getElem_cons_succ, Act.put, List.setIfInBounds_toArray, List.set_cons_zero, List.set_cons_succ])
              refine wpAnyH_take (i := 8) (oi := _) (v := .slice (some ⟨g, q * 3, none⟩) 1 (c5 - q)) rfl (by kernel_rfl) (by kernel_rfl) (by kernel_rfl) (fun _ _ _ h => h) (Or.inl ⟨by rfl, fun wz hSw => exec_sliceB (vx := .slice (some ⟨g, 0, none⟩) j c5) (vl := .int .i64 (q : Int)) (vh := .int .i64 ((q : Int) + 1)) (.tmp 113) (.tmp 114) (.tmp 116) rfl rfl rfl (by first | rfl | (go_simp; exact hwq)) (hsA wz)⟩) (by assumption) ?_
              (try simp only [List.getElem_toArray, List.getElem_cons_zero, List.getElem_cons_succ, Act.put, List.setIfInBounds_toArray, List.set_cons_zero, List.set_cons_succ])
              refine wpAnyH_take (i := 9) (oi := _) (v := ?vz9) rfl (by kernel_rfl) (by kernel_rfl) (by kernel_rfl) (fun _ _ _ h => h) (Or.inl ⟨by rfl, ?hyz9⟩) (by assumption) ?restz9
              case hyz9 => (intro wz hSw; (try dsimp only at hSw); go_simp; try with_reducible rfl)
              (try simp only [List.getElem_toArray, List.getElem_cons_zero, List.getElem_cons_succ, Act.put, List.setIfInBounds_toArray, List.set_cons_zero, List.set_cons_succ])
              refine wpAnyH_take (i := 10) (oi := _) (v := ?vz10) rfl (by kernel_rfl) (by kernel_rfl) (by kernel_rfl) (fun _ _ _ h => h) (Or.inl ⟨by rfl, ?hyz10⟩) (by assumption) ?restz10
              case hyz10 => (intro wz hSw; (try dsimp only at hSw); go_simp; try with_reducible rfl)
              (try simp only [List.getElem_toArray, List.getElem_cons_zero, List.getElem_cons_succ, Act.put, List.setIfInBounds_toArray, List.set_cons_zero, List.set_cons_succ])
              refine wpAnyH_take (i := 11) (oi := _) (v := ?vz11) rfl (by kernel_rfl) (by kernel_rfl) (by kernel_rfl) (fun _ _ _ h => h) (Or.inl ⟨by rfl, ?hyz11⟩) (by assumption) ?restz11
              case hyz11 => (intro wz hSw; (try dsimp only at hSw); go_simp; try with_reducible rfl)
              (try simp only [List.getElem_toArray, List.getElem_cons_zero, List.getElem_cons_succ, Act.put, List.setIfInBounds_toArray, List.set_cons_zero, List.set_cons_succ])
              refine wpAnyH_take (i := 12) (oi := _) (v := ?vz12) rfl (by kernel_rfl) (by kernel_rfl) (by kernel_rfl) (fun _ _ _ h => h) (Or.inl ⟨by rfl, ?hyz12⟩) (by assumption) ?restz12
              case hyz12 => (intro wz hSw; (try dsimp only at hSw); go_simp; try with_reducible rfl)
              (try simp only [List.getElem_toArray, List.getElem_cons_zero, List.getElem_cons_succ, Act.put, List.setIfInBounds_toArray, List.set_cons_zero, List.set_cons_succ])
              refine wpAnyH_take (i := 13) (oi := _) (v := .slice (some ⟨b, off + q * 3, none⟩) 1 (cap0 - q)) rfl (by kernel_rfl) (by kernel_rfl) (by kernel_rfl) (fun _ _ _ h => h) (Or.inl ⟨by rfl, fun wz hSw => exec_sliceB (vx := .slice (some ⟨b, off, none⟩) j cap0) (vl := .int .i64 (q : Int)) (vh := .int .i64 ((q : Int) + 1)) (.tmp 118) (.tmp 119) (.tmp 121) rfl rfl rfl (by first | rfl | (go_simp; exact hwq)) (hsB wz)⟩) (by assumption) ?_
              (try simp only [List.getElem_toArray, List.getElem_cons_zero, List.getElem_cons_succ, Act.put, List.setIfInBounds_toArray, List.set_cons_zero, List.set_cons_succ])
              refine wpAnyH_ready (rs := [14]) (by kernel_rfl) (by simp) ?_
              refine AllReadyH.cons (o := _) rfl (fun K hK => ?_) AllReadyH.nil
              rw [if_pos (by rfl)]
              go_simp
              (go_at_call 42; refine (HM.out _ HDR.out).mono ?_; rintro e w7 ⟨rfl, hb⟩; have HB7 := Lib.hid hb; clear hb)
              dsimp only
              refine hK.out _ _ (by exact trivial) (fun hHeld => ?_)
              clear hK K
              (try simp only [List.getElem_toArray, List.getElem_cons_zero, List.getElem_cons_succ, Act.put, List.setIfInBounds_toArray, List.set_cons_zero, List.set_cons_succ])
              refine wpAnyH_take (i := 15) (oi := _) (v := ?vz15) rfl (by kernel_rfl) (by kernel_rfl) (by kernel_rfl) (fun _ _ _ h => h) (Or.inl ⟨by rfl, ?hyz15⟩) (by assumption) ?restz15
              case hyz15 => (intro wz hSw; (try dsimp only at hSw); go_simp; try with_reducible rfl)
              (try simp only [List.getElem_toArray, List.getElem_cons_zero, List.getElem_cons_succ, Act.put, List.setIfInBounds_toArray, List.set_cons_zero, List.set_cons_succ])
              refine wpAnyH_take (i := 16) (oi := _) (v := ?vz16) rfl (by kernel_rfl) (by kernel_rfl) (by kernel_rfl) (fun _ _ _ h => h) (Or.inl ⟨by rfl, ?hyz16⟩) (by assumption) ?restz16
              case hyz16 => (intro wz hSw; (try dsimp only at hSw); go_simp; try with_reducible rfl)
              (try simp only [List.getElem_toArray, List.getElem_cons_zero, List.getElem_cons_succ, Act.put, List.setIfInBounds_toArray, List.set_cons_zero, List.set_cons_succ])
              refine wpAnyH_done (by kernel_rfl) ?_ _
              have HSx := Lib.hid (HSq.out.later ((Below.refl wr.heap.size wr).drew.trans HB7.out))
              have hx2 := (HIN.out _ HSx).2
              go_wp2
              go_loopw [14] (fun i W => ∃ p : Nat, p ≤ ll' ∧ i = .int .i64 p ∧ Hid (SpoI V w5.heap.size g j c5 ds aw cw B q al' ll' cl' W)) (fun i _ => ll' - (intOf i).toNat)
              case atStart => exact ⟨0, Nat.zero_le _, rfl, (HIN.out _ HSx).1⟩
              case round =>
                obtain ⟨p, hp, rfl, HSp⟩ := hrel
                have hx3 := (HSp.out.1.cells HDQ.out hlt).2.2
                clear hx2
                by_cases hltp : p < ll'
                · obtain ⟨gi, f, t, hal, hgi, c0, c1, fz, hsp⟩ := HSp.out.spoil HDQ.out p hltp
                  subst hal
                  have HSN := Lib.hid (hsp (-9))
                  clear hsp
                  go_wp2
                  go_roundw
                  case rel => exact ⟨p + 1, by omega, by go_num, HSN.out⟩
                  case measure => simp [intOf]; omega
                · obtain rfl : p = ll' := by omega
                  go_wp2
                  go_roundw
                  case rel => exact ⟨q + 1, by omega, by go_num, HSp.out.1⟩
                  case measure => simp [intOf]; omega
          · obtain rfl : q = j := by omega
            go_wp2_with (first
              | (go_at_call 42; (with_reducible refine (mapsSame HLr.out.d HSq.out.was.d HSq.out.dat (Below.refl _ _)).mono ?_); rintro e w8 ⟨rfl, hb⟩; have HBF := Lib.hid (HBR.out.trans ((HSq.out.dat.trans (hb.mono HSq.out.dat.size)).mono HBR.out.size)); clear hb)
              | (go_at_call 30; (with_reducible refine (HAW.out _ HBF.out).mono ?_); rintro e w9 ⟨rfl, hb9⟩))
            go_ret
            exact ⟨rfl, hb9⟩

set_option maxRecDepth 100000 in
theorem lifted (os : Os) (started : os.Started) (H : Type) (enc : TypeId × Value → H) :
    ReturnsInHanded {} Try.checked os 12 .any (Rows.mapOthersSpec.pre6 enc Try.prog Try.f12 Rows.mapOthersRow.domain false) (Rows.mapOthersSpec.post enc Try.prog Try.f12 false true false false) := by
  refine returnsInHanded_of_change (C := Try.checked) own started (by kernel_rfl) Try.func12
    (ChangeSpec.witness6 (enc := enc) (C := Try.checked) false ⟨#[], #[.slice none 0 0, .int .u8 0, .int .u8 0], []⟩ 8 (by kernel_rfl) (by kernel_rfl) (by kernel_rfl) (by kernel_rfl)) ?_
  intro W base args ds gs before hval0 hW hcnd _
  have hval : ∀ (j : Nat) t v, Try.f12.params[j]? = some t → args[j]? = some v → Value.okWide Try.prog W .any base t v := hval0
  have hW' := hW
  obtain ⟨p, q, hA0, hV, rfl, hfz, hnd⟩ := hW
  have hA : DataW.TrodAll enc Try.prog W 0 (fun _ => true) true Try.f12.params.toList args.toList ds p := hA0
  rw [Try.params12] at hA hval
  obtain ⟨v0, vs0, d0, ds0, p0, q0, hargs, rfl, rfl, h0, r0⟩ := trodAll_cons hA
  obtain ⟨v1, vs1, d1, ds1, p1, q1, rfl, rfl, rfl, h1, r1⟩ := trodAll_cons r0
  obtain ⟨v2, vs2, d2, ds2, p2, q2, rfl, rfl, rfl, h2, r2⟩ := trodAll_cons r1
  obtain ⟨rfl, rfl, rfl⟩ := trodAll_nil r2
  obtain rfl : args = #[v0, v1, v2] := by cases args; simp_all
  obtain ⟨rfl, rfl⟩ := trodVars_none hV
  have k0 := h0
  have lt0 : ∀ x ∈ p0, x.block < W.heap.size := by obtain ⟨m, hm⟩ := k0; exact DataW.trod_lt m _ _ _ hm
  obtain ⟨a0, len0, cap0, rfl⟩ := okWide_slice Try.underlying26 (hval 0 26 v0 rfl rfl)
  have w0 := bms_open h0
  have k1 := h1
  have lt1 : ∀ x ∈ p1, x.block < W.heap.size := by obtain ⟨m, hm⟩ := k1; exact DataW.trod_lt m _ _ _ hm
  obtain ⟨a1, rfl, _, _, w1⟩ := open_int Try.underlying5 (hval 1 5 v1 rfl rfl) h1
  have k2 := h2
  have lt2 : ∀ x ∈ p2, x.block < W.heap.size := by obtain ⟨m, hm⟩ := k2; exact DataW.trod_lt m _ _ _ hm
  obtain ⟨a2, rfl, _, _, w2⟩ := open_int Try.underlying5 (hval 2 5 v2 rfl rfl) h2
  clear hA0 hval0
  refine (walk a0 len0 cap0 a1 a2 W w0 w1 w2).mono fun e W' ⟨he, bel⟩ => ?_
  subst he
  exact ⟨_, rfl, _, _, _, [], _, [], hW', trodAll_mk1 (shut_bool Try.underlying4 _), (trodAll_cons_mk (Below.trod laidOut (by kernel_rfl) (of_decide_eq_true (by kernel_rfl)) k0 bel lt0) (trodAll_cons_mk (Below.trod laidOut (by kernel_rfl) (of_decide_eq_true (by kernel_rfl)) k1 bel lt1) (trodAll_cons_mk (Below.trod laidOut (by kernel_rfl) (of_decide_eq_true (by kernel_rfl)) k2 bel lt2) trodAll_mk0))), rfl, bel.frame _, fun h => by cases h⟩

theorem over : Rows.mapOthersRow.holds Try.pinned (OpenSpec.ofChange Rows.mapOthersSpec) :=
  OpenClaim.holds_of_wide 12 Try.f12 rfl rfl rfl rfl rfl rfl rfl ⟨rfl, rfl, rfl, rfl, rfl⟩ rfl rfl rfl rfl rfl (by kernel_rfl) Try.func12 (by kernel_rfl)
    (of_decide_eq_true (by kernel_rfl)) (by unfold Func.isWrapper; first | (rw [if_pos (by decide +kernel)]; kernel_rfl) | (rw [if_neg (by decide +kernel)]; exact ⟨rfl, rfl⟩))
    (fun os started H enc _ => lifted os started H enc)

/-- The statement. -/
theorem proved : Rows.MapOthersSaid := over
#print axioms proved
end Go.Proofs.Ytjaaieamlgghhaa.mapOthers
