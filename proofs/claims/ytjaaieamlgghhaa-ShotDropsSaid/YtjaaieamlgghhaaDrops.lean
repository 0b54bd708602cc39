/-
  Proved: 'matryoshkalaw12.ShotDrops' returns true for every input: the statement ShotDropsSaid as given. Conditions: none beyond the row's own.
-/
import Derived.Test.YtjaaieamlgghhaaRows
import Derived.Test.YtjaaieamlgghhaaTe
import Derived.Deep.RegionHeld3
import Derived.WalkKit
import Derived.ProofKit
import Derived.OpenShut
import Derived.ShutString
import Derived.ChangeOld
import Derived.Below
namespace Go.Proofs.Ytjaaieamlgghhaa.shotDrops
open Go.ChangeShapes Go.WideShapes Go.ChangeAt Go.RowKit
open Go.ChangeMaps (open_string shut_string)
set_option linter.unusedVariables false

theorem own : ownKnob Try.prog.godebug = none := by kernel_rfl
theorem laidOut : laidOutB Try.prog = true := by kernel_rfl

set_option maxRecDepth 100000 in
set_option maxHeartbeats 4000000 in
theorem walk (mc0 ms0 : Int) (mb0 : ByteArray) (ta0 : Option Addr) (tn0 tc0 : Nat) (sa0 : Option Addr) (sn0 sc0 : Nat) (ba0 : Option Addr) (bn0 bc0 : Nat) (ca0 : Option Addr) (cn0 cc0 : Nat) (a1 : Int) (w : World) (w0 : MetaArg w mc0 ms0 mb0 ta0 tn0 tc0 sa0 sn0 sc0 ba0 bn0 bc0 ca0 cn0 cc0) (w1 : (Lit.int .u8 a1).wf = true) :
    Calls Try.prog 6 #[.agg #[.int .i64 mc0, .int .i64 ms0, .string mb0, .slice ta0 tn0 tc0, .slice sa0 sn0 sc0, .slice ba0 bn0 bc0, .slice ca0 cn0 cc0], .int .u8 a1] w fun e w' => e = .returned (.bool true) ∧ Below w.heap.size w w' := by
  have b1 := bounds_u8 w1
  have HGR := Lib.hid (fun (W : World) (hb : Below w.heap.size w W) => great_md (w0.later hb))
  have HRT := Lib.hid (RtS.first w #[.int .i64 mc0, .int .i64 ms0, .string mb0, .slice ta0 tn0 tc0, .slice sa0 sn0 sc0, .slice ba0 bn0 bc0, .slice ca0 cn0 cc0])
  have HAW : Hid (∀ W, Below w.heap.size w W → Calls Try.prog 15 #[] W fun e w' => e = .returned (.bool true) ∧ Below w.heap.size w w') := fun W hb => (awake12 W).mono fun e w' h => ⟨h.1, hb.trans (h.2.mono hb.size)⟩
  go_enter Try.func6, Try.ntmps6
  go_wp2_with (first
    | (go_at_call 13; (with_reducible refine (HGR.out _ HRT.out.below).mono ?_); rintro e w2 ⟨G, rfl, h, hg⟩; have HGG := Lib.hid hg; have HB2 := Lib.hid h; have HRT := Lib.hid (HRT.out.later h); obtain ⟨m0, m1, m2, m3, m4, m5, m6⟩ := cells7 HRT.out.box; clear h hg; cases G)
    | (go_at_call 15; (with_reducible refine (HAW.out _ HRT.out.below).mono ?_); rintro e w9 ⟨rfl, hb9⟩)
    | (go_at_call 14; obtain ⟨⟨c', s', bk', T, S, B, K⟩, q1, q2, q3, h20, h21, hcn, h500, hMD⟩ := HGG.out (by first | rfl | trivial); dsimp only at q1 q2 q3 h500; subst q1 q2 q3; have HMD := Lib.hid (hMD.later HB2.out); refine (refRight12 _ _ _ HMD.out (by show cn0 ≤ 65536; omega)).mono ?_; rintro e w3 ⟨R, rfl, h, hr⟩; have HMD := Lib.hid (HMD.out.later h); have HRR := Lib.hid hr.1; have hsl := HMD.out.S.lens; have HRT := Lib.hid (HRT.out.later h); obtain ⟨m0, m1, m2, m3, m4, m5, m6⟩ := cells7 HRT.out.box; clear h hr hMD; rcases Nat.eq_zero_or_pos sn0 with rfl | hz; all_goals (cases R)))
  all_goals first
    | (go_ret; exact ⟨rfl, hb9⟩)
    | skip
  have HR : Hid (RightMt _) := HRR.out (by first | rfl | trivial)

  obtain ⟨Kk, hKk⟩ : ∃ K : Nat, a1 % (sn0 : Int) = K := ⟨(a1 % sn0).toNat, by have := Int.emod_nonneg a1 (b := (sn0 : Int)) (by omega); omega⟩
  have hKt : a1.tmod sn0 = Kk := by rw [Int.tmod_eq_emod_of_nonneg (by omega)]; exact hKk
  have hKl : Kk < sn0 := by have := Int.emod_lt_of_pos a1 (b := (sn0 : Int)) (by omega); omega
  have hz0 : ((sn0 : Int) == 0) = false := by simp; omega
  have hi0 : (0 : Int) ≤ (Kk : Int) := by omega
  have hi1 : (Kk : Int) < (sn0 : Int) := by omega
  have hi2 : (Kk : Int) ≤ (sn0 : Int) := by omega
  obtain ⟨b, off, nm, sz, al, ll, cl, T1, rfl, hSk, hb, hok, x1, x2, x3, hT1⟩ := HMD.out.S.at Kk hKl
  have HDR : Hid (∀ W, Below w3.heap.size w3 W → Calls Try.prog 21 #[.agg #[.int .i64 c', .int .i64 s', .string bk', .slice ta0 tn0 tc0, .slice (some ⟨b, off, none⟩) sn0 sc0, .slice ba0 bn0 bc0, .slice ca0 cn0 cc0], .string nm] W (GiveM W ({ c := c', s := s', bk := bk', T := T, S := List.take Kk S ++ List.drop (Kk + 1) S, B := B, K := K }, 0))) := fun W hb => by
    have := shotsDrop W _ _ (HMD.out.later hb) nm
    rw [dropM_at HR.out hSk] at this
    exact this
  obtain ⟨X, hX⟩ := named w.heap.size
  have HBX := Lib.hid HRT.out.box
  have HBW := Lib.hid HRT.out.below
  rw [hX.out] at HBX HBW ⊢
  have HSS : Hid (∀ W, Below w3.heap.size w3 W → W.cell? ⟨X, 0, none⟩ = some (.int .i64 c') ∧ W.cell? ⟨X, 1, none⟩ = some (.int .i64 s') ∧ W.cell? ⟨X, 2, none⟩ = some (.string bk') ∧ W.cell? ⟨X, 3, none⟩ = some (.slice ta0 tn0 tc0) ∧ W.cell? ⟨X, 4, none⟩ = some (.slice (some ⟨b, off, none⟩) sn0 sc0) ∧ W.cell? ⟨X, 5, none⟩ = some (.slice ba0 bn0 bc0) ∧ W.cell? ⟨X, 6, none⟩ = some (.slice ca0 cn0 cc0) ∧ W.cell? ⟨b, off + Kk * 3, none⟩ = some (.string nm) ∧ Below w3.heap.size w3 W) := fun W h => by
    obtain ⟨p0, p1, p2, p3, p4, p5, p6⟩ := cells7 (HBX.out.later h)
    exact ⟨p0, p1, p2, p3, p4, p5, p6, (h.cell (p := ⟨b, off + Kk * 3, none⟩) hb).trans x1, h⟩
  simp only [hKk]
  clear hKk b1 HRT m0 m1 m2 m3 m4 m5 m6
  have HDR3 := Lib.hid (Below.refl w3.heap.size w3).drew
  have HDR3a := Lib.hid ((Below.refl w3.heap.size w3).alloc (Nat.le_refl _) (.cells #[.int .i64 0, .int .i64 0, .string ⟨#[]⟩, .slice none 0 0, .slice none 0 0, .slice none 0 0, .slice none 0 0] 29)).drew
  have HZ : Hid (Blk (w3.alloc (.cells #[.int .i64 0, .int .i64 0, .string ⟨#[]⟩, .slice none 0 0, .slice none 0 0, .slice none 0 0, .slice none 0 0] 29)).drew w3.heap.size 29 _) := Blk.new w3 _ _
  refine wp_region_held_drew (S := fun W => W.cell? ⟨X, 0, none⟩ = some (.int .i64 c') ∧ W.cell? ⟨X, 1, none⟩ = some (.int .i64 s') ∧ W.cell? ⟨X, 2, none⟩ = some (.string bk') ∧ W.cell? ⟨X, 3, none⟩ = some (.slice ta0 tn0 tc0) ∧ W.cell? ⟨X, 4, none⟩ = some (.slice (some ⟨b, off, none⟩) sn0 sc0) ∧ W.cell? ⟨X, 5, none⟩ = some (.slice ba0 bn0 bc0) ∧ W.cell? ⟨X, 6, none⟩ = some (.slice ca0 cn0 cc0) ∧ W.cell? ⟨b, off + Kk * 3, none⟩ = some (.string nm) ∧ Below w3.heap.size w3 W) (by kernel_rfl) (by first | with_reducible exact HSS.out _ HDR3.out | with_reducible exact HSS.out _ HB34.out | with_reducible exact HSS.out _ HDR3a.out | with_reducible exact HSS.out _ HBs.out | with_reducible exact HSS.out _ HB34a.out) (fun hHeld => ?_)
  refine wpAnyH_take (i := 0) (oi := _) (v := ?vz9) rfl (by kernel_rfl) (by kernel_rfl) (by kernel_rfl) (fun _ _ _ h => h) (Or.inl ⟨by rfl, ?hyz9⟩) (by assumption) ?restz9
  case hyz9 => (intro wz hSw; (try dsimp only at hSw); go_simp; try with_reducible rfl)
  (try simp only [List.getElem_toArray, List.getElem_cons_zero, List.getElem_cons_succ, Act.put, List.setIfInBounds_toArray, List.set_cons_zero, List.set_cons_succ])
  refine wpAnyH_take (i := 1) (oi := _) (v := ?vz10) rfl (by kernel_rfl) (by kernel_rfl) (by kernel_rfl) (fun _ _ _ h => h) (Or.inl ⟨by rfl, ?hyz10⟩) (by assumption) ?restz10
  case hyz10 => (intro wz hSw; (try dsimp only at hSw); go_simp; try with_reducible rfl)
  (try simp only [List.getElem_toArray, List.getElem_cons_zero, List.getElem_cons_succ, Act.put, List.setIfInBounds_toArray, List.set_cons_zero, List.set_cons_succ])
  refine wpAnyH_take (i := 2) (oi := _) (v := ?vz11) rfl (by kernel_rfl) (by kernel_rfl) (by kernel_rfl) (fun _ _ _ h => h) (Or.inl ⟨by rfl, ?hyz11⟩) (by assumption) ?restz11
  case hyz11 => (intro wz hSw; (try dsimp only at hSw); go_simp; try with_reducible rfl)
  (try simp only [List.getElem_toArray, List.getElem_cons_zero, List.getElem_cons_succ, Act.put, List.setIfInBounds_toArray, List.set_cons_zero, List.set_cons_succ])
  refine wpAnyH_take (i := 3) (oi := _) (v := ?vz12) rfl (by kernel_rfl) (by kernel_rfl) (by kernel_rfl) (fun _ _ _ h => h) (Or.inl ⟨by rfl, ?hyz12⟩) (by assumption) ?restz12
  case hyz12 => (intro wz hSw; (try dsimp only at hSw); go_simp; try with_reducible rfl)
  (try simp only [List.getElem_toArray, List.getElem_cons_zero, List.getElem_cons_succ, Act.put, List.setIfInBounds_toArray, List.set_cons_zero, List.set_cons_succ])
  refine wpAnyH_take (i := 4) (oi := _) (v := ?vz13) rfl (by kernel_rfl) (by kernel_rfl) (by kernel_rfl) (fun _ _ _ h => h) (Or.inl ⟨by rfl, ?hyz13⟩) (by assumption) ?restz13
  case hyz13 => (intro wz hSw; (try dsimp only at hSw); go_simp; try with_reducible rfl)
  (try simp only [List.getElem_toArray, List.getElem_cons_zero, List.getElem_cons_succ, Act.put, List.setIfInBounds_toArray, List.set_cons_zero, List.set_cons_succ])
  refine wpAnyH_take (i := 5) (oi := _) (v := ?vz14) rfl (by kernel_rfl) (by kernel_rfl) (by kernel_rfl) (fun _ _ _ h => h) (Or.inl ⟨by rfl, ?hyz14⟩) (by assumption) ?restz14
  case hyz14 => (intro wz hSw; (try dsimp only at hSw); go_simp; try with_reducible rfl)
  (try simp only [List.getElem_toArray, List.getElem_cons_zero, List.getElem_cons_succ, Act.put, List.setIfInBounds_toArray, List.set_cons_zero, List.set_cons_succ])
  refine wpAnyH_take (i := 6) (oi := _) (v := ?vz15) rfl (by kernel_rfl) (by kernel_rfl) (by kernel_rfl) (fun _ _ _ h => h) (Or.inl ⟨by rfl, ?hyz15⟩) (by assumption) ?restz15
  case hyz15 => (intro wz hSw; (try dsimp only at hSw); go_simp; try with_reducible rfl)
  (try simp only [List.getElem_toArray, List.getElem_cons_zero, List.getElem_cons_succ, Act.put, List.setIfInBounds_toArray, List.set_cons_zero, List.set_cons_succ])
  refine wpAnyH_ready (rs := [7, 11]) (by kernel_rfl) (by simp) ?_
  refine AllReadyH.cons (o := _) rfl (fun K hK => ?_) (AllReadyH.cons (o := _) rfl (fun K hK => ?_) AllReadyH.nil)
  · rw [if_pos (by rfl)]
    go_simp
    (go_at_call 21; (with_reducible refine (HDR.out _ HDR3.out).mono ?_); rintro e w4 ⟨⟨t4, tn4, tc4, s4, sn4, sc4, m4, mn4, mc4, k4, kn4, kc4⟩, lo, hi, rfl, hN, hb⟩; dsimp only [mtA]; have HND := Lib.hid hN; have HB34 := Lib.hid (HDR3.out.trans (hb.mono HDR3.out.size)); clear hN hb)
    (try dsimp only)
    refine hK.out _ _ (by first | with_reducible exact HSS.out _ HDR3.out | with_reducible exact HSS.out _ HB34.out | with_reducible exact HSS.out _ HDR3a.out | with_reducible exact HSS.out _ HBs.out | with_reducible exact HSS.out _ HB34a.out) (fun hHeld => ?_)
    clear hK K
    (try simp only [List.getElem_toArray, List.getElem_cons_zero, List.getElem_cons_succ, Act.put, List.setIfInBounds_toArray, List.set_cons_zero, List.set_cons_succ])
    refine wpAnyH_take (i := 8) (oi := _) (v := ?vz5) rfl (by kernel_rfl) (by kernel_rfl) (by kernel_rfl) (fun _ _ _ h => h) (Or.inl ⟨by rfl, ?hyz5⟩) (by assumption) ?restz5
    case hyz5 => (intro wz hSw; (try dsimp only at hSw); go_simp; try with_reducible rfl)
    (try simp only [List.getElem_toArray, List.getElem_cons_zero, List.getElem_cons_succ, Act.put, List.setIfInBounds_toArray, List.set_cons_zero, List.set_cons_succ])
    refine wpAnyH_take (i := 9) (oi := _) (v := ?vz6) rfl (by kernel_rfl) (by kernel_rfl) (by kernel_rfl) (fun _ _ _ h => h) (Or.inl ⟨by rfl, ?hyz6⟩) (by assumption) ?restz6
    case hyz6 => (intro wz hSw; (try dsimp only at hSw); go_simp; try with_reducible rfl)
    (try simp only [List.getElem_toArray, List.getElem_cons_zero, List.getElem_cons_succ, Act.put, List.setIfInBounds_toArray, List.set_cons_zero, List.set_cons_succ])
    refine wpAnyH_take (i := 10) (oi := _) (v := ?vz7) rfl (by kernel_rfl) (by kernel_rfl) (by kernel_rfl) (fun _ _ _ h => h) (Or.inl ⟨by rfl, ?hyz7⟩) (by assumption) ?restz7
    case hyz7 => (intro wz hSw; (try dsimp only at hSw); go_simp; try with_reducible rfl)
    (try simp only [List.getElem_toArray, List.getElem_cons_zero, List.getElem_cons_succ, Act.put, List.setIfInBounds_toArray, List.set_cons_zero, List.set_cons_succ])
    refine wpAnyH_ready (rs := [11]) (by kernel_rfl) (by simp) ?_
    refine AllReadyH.cons (o := _) rfl (fun K hK => ?_) AllReadyH.nil
    rw [if_pos (by rfl)]
    go_simp
    have HB34a := Lib.hid (HB34.out.alloc HB34.out.size (.cells #[.int .i64 0, .int .i64 0, .string ⟨#[]⟩, .slice none 0 0, .slice none 0 0, .slice none 0 0, .slice none 0 0] 29))
    have HZ4 : Hid (Blk (w4.alloc (.cells #[.int .i64 0, .int .i64 0, .string ⟨#[]⟩, .slice none 0 0, .slice none 0 0, .slice none 0 0, .slice none 0 0] 29)) w4.heap.size 29 _) := Blk.new _ _ _
    obtain ⟨g0, g1, g2, g3, g4, g5, g6⟩ := cells7 HZ4.out
    obtain ⟨f0, f1, f2, f3, f4, f5, f6⟩ := free7 HZ4.out
    refine hK.out _ _ (by first | with_reducible exact HSS.out _ HDR3.out | with_reducible exact HSS.out _ HB34.out | with_reducible exact HSS.out _ HDR3a.out | with_reducible exact HSS.out _ HBs.out | with_reducible exact HSS.out _ HB34a.out) (fun hHeld => ?_)
    clear hK K
    (try simp only [List.getElem_toArray, List.getElem_cons_zero, List.getElem_cons_succ, Act.put, List.setIfInBounds_toArray, List.set_cons_zero, List.set_cons_succ])
    refine wpAnyH_ready (rs := [12]) (by kernel_rfl) (by simp) ?_
    refine AllReadyH.cons (o := _) rfl (fun K hK => ?_) AllReadyH.nil
    rw [if_pos (by rfl)]
    go_simp
    have HBs : Hid (Below w3.heap.size w3 (w4.alloc (.cells #[.int .i64 c', .int .i64 s', .string bk', .slice t4 tn4 tc4, .slice s4 sn4 sc4, .slice m4 mn4 mc4, .slice k4 kn4 kc4] 29))) := HB34.out.alloc HB34.out.size _
    have HA5 : Hid (Blk (w4.alloc (.cells #[.int .i64 c', .int .i64 s', .string bk', .slice t4 tn4 tc4, .slice s4 sn4 sc4, .slice m4 mn4 mc4, .slice k4 kn4 kc4] 29)) w4.heap.size 29 #[.int .i64 c', .int .i64 s', .string bk', .slice t4 tn4 tc4, .slice s4 sn4 sc4, .slice m4 mn4 mc4, .slice k4 kn4 kc4]) := Blk.new _ _ _
    have HN5 : Hid (MetaD (w4.alloc (.cells #[.int .i64 c', .int .i64 s', .string bk', .slice t4 tn4 tc4, .slice s4 sn4 sc4, .slice m4 mn4 mc4, .slice k4 kn4 kc4] 29)) _ _) := Lib.hid ((HND.out.later ((Below.refl _ w4).alloc (Nat.le_refl _) (.cells #[.int .i64 c', .int .i64 s', .string bk', .slice t4 tn4 tc4, .slice s4 sn4 sc4, .slice m4 mn4 mc4, .slice k4 kn4 kc4] 29))).d)
    refine hK.out _ _ (by first | with_reducible exact HSS.out _ HDR3.out | with_reducible exact HSS.out _ HB34.out | with_reducible exact HSS.out _ HDR3a.out | with_reducible exact HSS.out _ HBs.out | with_reducible exact HSS.out _ HB34a.out) (fun hHeld => ?_)
    clear hK K
    (try simp only [List.getElem_toArray, List.getElem_cons_zero, List.getElem_cons_succ, Act.put, List.setIfInBounds_toArray, List.set_cons_zero, List.set_cons_succ])
    refine wpAnyH_take (i := 13) (oi := _) (v := ?vz8) rfl (by kernel_rfl) (by kernel_rfl) (by kernel_rfl) (fun _ _ _ h => h) (Or.inl ⟨by rfl, ?hyz8⟩) (by assumption) ?restz8
    case hyz8 => (intro wz hSw; (try dsimp only at hSw); go_simp; try with_reducible rfl)
    (try simp only [List.getElem_toArray, List.getElem_cons_zero, List.getElem_cons_succ, Act.put, List.setIfInBounds_toArray, List.set_cons_zero, List.set_cons_succ])
    refine wpAnyH_done (by kernel_rfl) ?_ _
    obtain ⟨W5, hW5⟩ := named (w4.alloc (.cells #[.int .i64 c', .int .i64 s', .string bk', .slice t4 tn4 tc4, .slice s4 sn4 sc4, .slice m4 mn4 mc4, .slice k4 kn4 kc4] 29))
    obtain ⟨A, hA⟩ := named w4.heap.size
    simp only [hW5.out] at HBs HA5 HN5 ⊢
    simp only [hA.out] at HA5 ⊢
    have HAWX : Hid (∀ W, Below X w W → Calls Try.prog 15 #[] W fun e w' => e = .returned (.bool true) ∧ Below X w w') := by
      rw [← hX.out]
      exact HAW.out
    have HXL : Hid (X ≤ w3.heap.size) := Lib.hid (by have := hX.out; have := HBW.out.size; omega)
    have HNK : Hid (∀ W, Below w3.heap.size w3 W → W.cell? ⟨b, off + Kk * 3, none⟩ = some (.string nm)) := fun W hb => (HSS.out W hb).2.2.2.2.2.2.2.1
    have hln := HN5.out.S.lens
    have hSl := HMD.out.S.lens
    dsimp only at hln hSl
    have hsn4 : sn4 = sn0 - 1 := by
      rw [← hln.1, List.length_append, List.length_take, List.length_drop]
      omega
    have dq1 : decide ((sn4 : Int) = (sn0 : Int) - 1) = true := decide_eq_true (by omega)
    have dq2 : ((sn4 : Int) == (sn0 : Int) - 1) = true := by rw [beq_iff_eq]; omega
    have dq3 : ((sn4 : Int) != (sn0 : Int) - 1) = false := by rw [bne_eq_false_iff_eq]; omega
    have HSN4 := Lib.hid (And.intro hsn4 (And.intro hln.1 hSl.1))
    obtain ⟨p0, p1, p2, p3, p4, p5, p6⟩ := cells7 HA5.out
    have hlA := HA5.out.lt
    have HX5 := Lib.hid (HBX.out.later HBs.out)
    obtain ⟨q0, q1, q2, q3, q4, q5, q6⟩ := cells7 HX5.out
    have hlX := HX5.out.lt
    have HMD5 := Lib.hid (HMD.out.later HBs.out)
    have hT5 : Tab W5 t4 tn4 tc4 T := HN5.out.T
    have hTm : Tab W5 ta0 tn0 tc0 T := HMD5.out.T
    have HTB := Lib.hid (fun W (hb : Below W5.heap.size W5 W) => refTT (R := true) (hT5.later hb) (hTm.later hb) (decide_eq_true rfl))
    clear hT5 hTm
    have HSK := Lib.hid hSk
    have HNU := Lib.hid (fun (w : World) => num12 0 (by unfold I64; omega) w)
    clear hSk hsn4 hln x1 x2 x3 hT1 hHeld
    go_wp2_with (first
      | (go_at_call 27; (with_reducible refine (HNU.out _).mono ?_); rintro e w' ⟨rfl, hw⟩; obtain rfl := hw.symm)
      | (go_at_call 25; (with_reducible refine (HTB.out _ (Below.refl _ _)).mono ?_); rintro e w6 ⟨rfl, hb⟩; have HB6 := Lib.hid hb; clear hb))
    have HB56 := HB6
    have hgone : fndS nm (List.take Kk S ++ List.drop (Kk + 1) S) = -1 := gone_at HR.out HSK.out
    have HFD := Lib.hid (fun W (hb : Below W5.heap.size W5 W) => shotsFind_no W _ _ (HN5.out.later hb) nm hgone)
    dsimp only [mtA] at HFD
    have hsn20 : sn4 ≤ 1000 := by have := HN5.out.S.lens.2; exact this
    clear hgone
    clear dq1 dq2 dq3 p0 p1 p2 p3 p4 p5 p6 q0 q1 q2 q3 q4 q5 q6
    go_loopw [8] (fun i wr => ∃ p : Nat, p ≤ sn4 ∧ i = .int .i64 p ∧ Hid (Below W5.heap.size W5 wr)) (fun i _ => sn4 - (intOf i).toNat)
    case atStart => exact ⟨0, Nat.zero_le _, rfl, HB56.out⟩
    case round =>
      obtain ⟨p, hp, rfl, HBp⟩ := hrel
      have HAp := Lib.hid (HA5.out.later HBp.out)
      have HXp := Lib.hid (HX5.out.later HBp.out)
      obtain ⟨p0, p1, p2, p3, p4, p5, p6⟩ := cells7 HAp.out
      obtain ⟨q0, q1, q2, q3, q4, q5, q6⟩ := cells7 HXp.out
      have hlA := HAp.out.lt
      have hlX := HXp.out.lt
      by_cases hlt : p < sn4
      · obtain ⟨b5, o5, nm5, sz5, al5, ll5, cl5, T5, rfl, hS5, hb5, hok5, u1, u2, u3, hT5⟩ := (HN5.out.later HBp.out).S.at p hlt
        rw [left_at (by have := HSN4.out.2.2; omega) (by have := HSN4.out; omega)] at hS5
        by_cases hkp : Kk ≤ p
        · rw [if_pos hkp] at hS5
          obtain ⟨b6, o6, nm6, sz6, al6, ll6, cl6, T6, hab, hS6, hb6, hok6, v1, v2, v3, hT6⟩ := (HMD5.out.later HBp.out).S.at (p + 1) (by have := HSN4.out.1; show p + 1 < sn0; omega)
          cases hab
          have e56 := Option.some.inj (hS5.symm.trans hS6)
          cases e56
          have dk : decide ((Kk : Int) ≤ (p : Int)) = true := decide_eq_true (by omega)
          have hse := str_yes (rfl : nm5 = nm5)
          have HT := Lib.hid (fun W (hb : Below wr.heap.size wr W) => refTT (R := true) (hT5.later hb) (hT6.later hb) (decide_eq_true rfl))
          have hp1 : p + 1 < sn0 := by have := HSN4.out.1; omega
          have hp2 : ((p : Int) + 1) < (sn0 : Int) := by omega
          have hp3 : (0 : Int) ≤ (p : Int) + 1 := by omega
          have hp4 : ((p : Int) + 1).toNat = p + 1 := by omega
          have dk2 : decide (Kk ≤ p) = decide ((Kk : Int) ≤ (p : Int)) := by simp
          rw [dk] at dk2
          clear hS5 hS6 hT5 hT6 hok5 hok6
          have HKS : Hid (∀ W, Below wr.heap.size wr W → W.cell? ⟨A, 4, none⟩ = some (.slice (some ⟨b5, o5, none⟩) sn4 sc4) ∧ W.cell? ⟨X, 4, none⟩ = some (.slice (some ⟨b, off, none⟩) sn0 sc0) ∧ W.cell? ⟨b5, o5 + p * 3, none⟩ = some (.string nm5) ∧ W.cell? ⟨b5, o5 + p * 3 + 2, none⟩ = some (.slice al5 ll5 cl5) ∧ W.cell? ⟨b, off + (p + 1) * 3, none⟩ = some (.string nm5) ∧ W.cell? ⟨b, off + (p + 1) * 3 + 2, none⟩ = some (.slice al6 ll6 cl6)) := fun W hb => ⟨(HAp.out.later hb).cell 4, (HXp.out.later hb).cell 4, (hb.cell (p := ⟨b5, o5 + p * 3, none⟩) hb5).trans u1, (hb.cell (p := ⟨b5, o5 + p * 3 + 2, none⟩) hb5).trans u3, (hb.cell (p := ⟨b, off + (p + 1) * 3, none⟩) hb6).trans v1, (hb.cell (p := ⟨b, off + (p + 1) * 3 + 2, none⟩) hb6).trans v3⟩
          have HRD := Lib.hid (Below.refl wr.heap.size wr).drew
          have HRR2 := Lib.hid (Below.refl wr.heap.size wr)
          go_wp2
          go_region_held3 (fun W => W.cell? ⟨A, 4, none⟩ = some (.slice (some ⟨b5, o5, none⟩) sn4 sc4) ∧ W.cell? ⟨X, 4, none⟩ = some (.slice (some ⟨b, off, none⟩) sn0 sc0) ∧ W.cell? ⟨b5, o5 + p * 3, none⟩ = some (.string nm5) ∧ W.cell? ⟨b5, o5 + p * 3 + 2, none⟩ = some (.slice al5 ll5 cl5) ∧ W.cell? ⟨b, off + (p + 1) * 3, none⟩ = some (.string nm5) ∧ W.cell? ⟨b, off + (p + 1) * 3 + 2, none⟩ = some (.slice al6 ll6 cl6)) (first | with_reducible exact HKS.out _ HRR2.out | with_reducible exact HKS.out _ HRD.out | with_reducible exact HKS.out _ HB7.out) (first | (go_at_call 25; (with_reducible refine (HT.out _ HRD.out).mono ?_); rintro e w7 ⟨rfl, hb⟩; have HB7 := Lib.hid (HRD.out.trans (hb.mono HRD.out.size)); clear hb))
          go_wp2
          go_roundw
          case rel => exact ⟨p + 1, by omega, by go_num, HBp.out.trans (HB7.out.mono HBp.out.size)⟩
          case measure => simp [intOf]; omega
        · rw [if_neg hkp] at hS5
          obtain ⟨b6, o6, nm6, sz6, al6, ll6, cl6, T6, hab, hS6, hb6, hok6, v1, v2, v3, hT6⟩ := (HMD5.out.later HBp.out).S.at p (by have := HSN4.out.1; show p < sn0; omega)
          cases hab
          have e56 := Option.some.inj (hS5.symm.trans hS6)
          cases e56
          have dk : decide ((Kk : Int) ≤ (p : Int)) = false := decide_eq_false (by omega)
          have hse := str_yes (rfl : nm5 = nm5)
          have HT := Lib.hid (fun W (hb : Below wr.heap.size wr W) => refTT (R := true) (hT5.later hb) (hT6.later hb) (decide_eq_true rfl))
          have hp1 : p < sn0 := by have := HSN4.out.1; omega
          have dk2 : decide (Kk ≤ p) = decide ((Kk : Int) ≤ (p : Int)) := by simp
          rw [dk] at dk2
          clear hS5 hS6 hT5 hT6 hok5 hok6
          have HKS : Hid (∀ W, Below wr.heap.size wr W → W.cell? ⟨A, 4, none⟩ = some (.slice (some ⟨b5, o5, none⟩) sn4 sc4) ∧ W.cell? ⟨X, 4, none⟩ = some (.slice (some ⟨b, off, none⟩) sn0 sc0) ∧ W.cell? ⟨b5, o5 + p * 3, none⟩ = some (.string nm5) ∧ W.cell? ⟨b5, o5 + p * 3 + 2, none⟩ = some (.slice al5 ll5 cl5) ∧ W.cell? ⟨b, off + p * 3, none⟩ = some (.string nm5) ∧ W.cell? ⟨b, off + p * 3 + 2, none⟩ = some (.slice al6 ll6 cl6)) := fun W hb => ⟨(HAp.out.later hb).cell 4, (HXp.out.later hb).cell 4, (hb.cell (p := ⟨b5, o5 + p * 3, none⟩) hb5).trans u1, (hb.cell (p := ⟨b5, o5 + p * 3 + 2, none⟩) hb5).trans u3, (hb.cell (p := ⟨b, off + p * 3, none⟩) hb6).trans v1, (hb.cell (p := ⟨b, off + p * 3 + 2, none⟩) hb6).trans v3⟩
          have HRD := Lib.hid (Below.refl wr.heap.size wr).drew
          have HRR2 := Lib.hid (Below.refl wr.heap.size wr)
          go_wp2
          go_region_held3 (fun W => W.cell? ⟨A, 4, none⟩ = some (.slice (some ⟨b5, o5, none⟩) sn4 sc4) ∧ W.cell? ⟨X, 4, none⟩ = some (.slice (some ⟨b, off, none⟩) sn0 sc0) ∧ W.cell? ⟨b5, o5 + p * 3, none⟩ = some (.string nm5) ∧ W.cell? ⟨b5, o5 + p * 3 + 2, none⟩ = some (.slice al5 ll5 cl5) ∧ W.cell? ⟨b, off + p * 3, none⟩ = some (.string nm5) ∧ W.cell? ⟨b, off + p * 3 + 2, none⟩ = some (.slice al6 ll6 cl6)) (first | with_reducible exact HKS.out _ HRR2.out | with_reducible exact HKS.out _ HRD.out | with_reducible exact HKS.out _ HB7.out) (first | (go_at_call 25; (with_reducible refine (HT.out _ HRD.out).mono ?_); rintro e w7 ⟨rfl, hb⟩; have HB7 := Lib.hid (HRD.out.trans (hb.mono HRD.out.size)); clear hb))
          go_wp2
          go_roundw
          case rel => exact ⟨p + 1, by omega, by go_num, HBp.out.trans (HB7.out.mono HBp.out.size)⟩
          case measure => simp [intOf]; omega
      · obtain rfl : p = sn4 := by omega
        go_wp2
        have HRD := Lib.hid (Below.refl wr.heap.size wr).drew
        have HRA := Lib.hid ((Below.refl wr.heap.size wr).alloc (Nat.le_refl _) (.cells #[.string ⟨#[]⟩, .int .i64 0, .slice none 0 0] 39)).drew
        have HZS : Hid (Blk (wr.alloc (.cells #[.string ⟨#[]⟩, .int .i64 0, .slice none 0 0] 39)).drew wr.heap.size 39 _) := Blk.new wr _ _
        have HK7 : Hid (∀ W, Below wr.heap.size wr W → W.cell? ⟨A, 0, none⟩ = some (.int .i64 c') ∧ W.cell? ⟨A, 1, none⟩ = some (.int .i64 s') ∧ W.cell? ⟨A, 2, none⟩ = some (.string bk') ∧ W.cell? ⟨A, 3, none⟩ = some (.slice t4 tn4 tc4) ∧ W.cell? ⟨A, 4, none⟩ = some (.slice s4 p sc4) ∧ W.cell? ⟨A, 5, none⟩ = some (.slice m4 mn4 mc4) ∧ W.cell? ⟨A, 6, none⟩ = some (.slice k4 kn4 kc4) ∧ W.cell? ⟨X, 4, none⟩ = some (.slice (some ⟨b, off, none⟩) sn0 sc0) ∧ W.cell? ⟨b, off + Kk * 3, none⟩ = some (.string nm)) := fun W hb => ⟨(HAp.out.later hb).cell 0, (HAp.out.later hb).cell 1, (HAp.out.later hb).cell 2, (HAp.out.later hb).cell 3, (HAp.out.later hb).cell 4, (HAp.out.later hb).cell 5, (HAp.out.later hb).cell 6, (HXp.out.later hb).cell 4, HNK.out W (HBs.out.trans ((HBp.out.trans (hb.mono HBp.out.size)).mono HBs.out.size))⟩
        refine wp_region_held_drew (S := fun W => W.cell? ⟨A, 0, none⟩ = some (.int .i64 c') ∧ W.cell? ⟨A, 1, none⟩ = some (.int .i64 s') ∧ W.cell? ⟨A, 2, none⟩ = some (.string bk') ∧ W.cell? ⟨A, 3, none⟩ = some (.slice t4 tn4 tc4) ∧ W.cell? ⟨A, 4, none⟩ = some (.slice s4 p sc4) ∧ W.cell? ⟨A, 5, none⟩ = some (.slice m4 mn4 mc4) ∧ W.cell? ⟨A, 6, none⟩ = some (.slice k4 kn4 kc4) ∧ W.cell? ⟨X, 4, none⟩ = some (.slice (some ⟨b, off, none⟩) sn0 sc0) ∧ W.cell? ⟨b, off + Kk * 3, none⟩ = some (.string nm)) (by kernel_rfl) (by first | with_reducible exact HK7.out _ HRD.out | with_reducible exact HK7.out _ HRA.out | with_reducible exact HK7.out _ HB8.out | with_reducible exact HK7.out _ HB8a.out | with_reducible exact HK7.out _ HB9.out) (fun hHeld => ?_)
        refine wpAnyH_take (i := 0) (oi := _) (v := ?vya9) rfl (by kernel_rfl) (by kernel_rfl) (by kernel_rfl) (fun _ _ _ h => h) (Or.inl ⟨by rfl, ?hyya9⟩) (by assumption) ?restya9
        case hyya9 => (intro wz hSw; (try dsimp only at hSw); go_simp; try with_reducible rfl)
        (try simp only [List.getElem_toArray, List.getElem_cons_zero, List.getElem_cons_succ, Act.put, List.setIfInBounds_toArray, List.set_cons_zero, List.set_cons_succ])
        refine wpAnyH_take (i := 1) (oi := _) (v := ?vya10) rfl (by kernel_rfl) (by kernel_rfl) (by kernel_rfl) (fun _ _ _ h => h) (Or.inl ⟨by rfl, ?hyya10⟩) (by assumption) ?restya10
        case hyya10 => (intro wz hSw; (try dsimp only at hSw); go_simp; try with_reducible rfl)
        (try simp only [List.getElem_toArray, List.getElem_cons_zero, List.getElem_cons_succ, Act.put, List.setIfInBounds_toArray, List.set_cons_zero, List.set_cons_succ])
        refine wpAnyH_take (i := 2) (oi := _) (v := ?vya11) rfl (by kernel_rfl) (by kernel_rfl) (by kernel_rfl) (fun _ _ _ h => h) (Or.inl ⟨by rfl, ?hyya11⟩) (by assumption) ?restya11
        case hyya11 => (intro wz hSw; (try dsimp only at hSw); go_simp; try with_reducible rfl)
        (try simp only [List.getElem_toArray, List.getElem_cons_zero, List.getElem_cons_succ, Act.put, List.setIfInBounds_toArray, List.set_cons_zero, List.set_cons_succ])
        refine wpAnyH_take (i := 3) (oi := _) (v := ?vya12) rfl (by kernel_rfl) (by kernel_rfl) (by kernel_rfl) (fun _ _ _ h => h) (Or.inl ⟨by rfl, ?hyya12⟩) (by assumption) ?restya12
        case hyya12 => (intro wz hSw; (try dsimp only at hSw); go_simp; try with_reducible rfl)
        (try simp only [List.getElem_toArray, List.getElem_cons_zero, List.getElem_cons_succ, Act.put, List.setIfInBounds_toArray, List.set_cons_zero, List.set_cons_succ])
        refine wpAnyH_take (i := 4) (oi := _) (v := ?vya13) rfl (by kernel_rfl) (by kernel_rfl) (by kernel_rfl) (fun _ _ _ h => h) (Or.inl ⟨by rfl, ?hyya13⟩) (by assumption) ?restya13
        case hyya13 => (intro wz hSw; (try dsimp only at hSw); go_simp; try with_reducible rfl)
        (try simp only [List.getElem_toArray, List.getElem_cons_zero, List.getElem_cons_succ, Act.put, List.setIfInBounds_toArray, List.set_cons_zero, List.set_cons_succ])
        refine wpAnyH_take (i := 5) (oi := _) (v := ?vya14) rfl (by kernel_rfl) (by kernel_rfl) (by kernel_rfl) (fun _ _ _ h => h) (Or.inl ⟨by rfl, ?hyya14⟩) (by assumption) ?restya14
        case hyya14 => (intro wz hSw; (try dsimp only at hSw); go_simp; try with_reducible rfl)
        (try simp only [List.getElem_toArray, List.getElem_cons_zero, List.getElem_cons_succ, Act.put, List.setIfInBounds_toArray, List.set_cons_zero, List.set_cons_succ])
        refine wpAnyH_take (i := 6) (oi := _) (v := ?vya15) rfl (by kernel_rfl) (by kernel_rfl) (by kernel_rfl) (fun _ _ _ h => h) (Or.inl ⟨by rfl, ?hyya15⟩) (by assumption) ?restya15
        case hyya15 => (intro wz hSw; (try dsimp only at hSw); go_simp; try with_reducible rfl)
        (try simp only [List.getElem_toArray, List.getElem_cons_zero, List.getElem_cons_succ, Act.put, List.setIfInBounds_toArray, List.set_cons_zero, List.set_cons_succ])
        refine wpAnyH_ready (rs := [7, 11]) (by kernel_rfl) (by simp) ?_
        refine AllReadyH.cons (o := _) rfl (fun K hK => ?_) (AllReadyH.cons (o := _) rfl (fun K hK => ?_) AllReadyH.nil)
        · rw [if_pos (by rfl)]
          go_simp
          (go_at_call 23; (with_reducible refine (HFD.out _ (HBp.out.trans (HRD.out.mono HBp.out.size))).mono ?_); rintro e w8 ⟨rfl, hb⟩; have HB8 := Lib.hid (HRD.out.trans (hb.mono HRD.out.size)); clear hb)
          (try dsimp only)
          refine hK.out _ _ (by first | with_reducible exact HK7.out _ HRD.out | with_reducible exact HK7.out _ HRA.out | with_reducible exact HK7.out _ HB8.out | with_reducible exact HK7.out _ HB8a.out | with_reducible exact HK7.out _ HB9.out) (fun hHeld => ?_)
          clear hK K
          (try simp only [List.getElem_toArray, List.getElem_cons_zero, List.getElem_cons_succ, Act.put, List.setIfInBounds_toArray, List.set_cons_zero, List.set_cons_succ])
          refine wpAnyH_take (i := 8) (oi := _) (v := ?vya1) rfl (by kernel_rfl) (by kernel_rfl) (by kernel_rfl) (fun _ _ _ h => h) (Or.inl ⟨by rfl, ?hyya1⟩) (by assumption) ?restya1
          case hyya1 => (intro wz hSw; (try dsimp only at hSw); go_simp; try with_reducible rfl)
          (try simp only [List.getElem_toArray, List.getElem_cons_zero, List.getElem_cons_succ, Act.put, List.setIfInBounds_toArray, List.set_cons_zero, List.set_cons_succ])
          refine wpAnyH_take (i := 9) (oi := _) (v := ?vya2) rfl (by kernel_rfl) (by kernel_rfl) (by kernel_rfl) (fun _ _ _ h => h) (Or.inl ⟨by rfl, ?hyya2⟩) (by assumption) ?restya2
          case hyya2 => (intro wz hSw; (try dsimp only at hSw); go_simp; try with_reducible rfl)
          (try simp only [List.getElem_toArray, List.getElem_cons_zero, List.getElem_cons_succ, Act.put, List.setIfInBounds_toArray, List.set_cons_zero, List.set_cons_succ])
          refine wpAnyH_take (i := 10) (oi := _) (v := ?vya3) rfl (by kernel_rfl) (by kernel_rfl) (by kernel_rfl) (fun _ _ _ h => h) (Or.inl ⟨by rfl, ?hyya3⟩) (by assumption) ?restya3
          case hyya3 => (intro wz hSw; (try dsimp only at hSw); go_simp; try with_reducible rfl)
          (try simp only [List.getElem_toArray, List.getElem_cons_zero, List.getElem_cons_succ, Act.put, List.setIfInBounds_toArray, List.set_cons_zero, List.set_cons_succ])
          refine wpAnyH_ready (rs := [11]) (by kernel_rfl) (by simp) ?_
          refine AllReadyH.cons (o := _) rfl (fun K hK => ?_) AllReadyH.nil
          rw [if_pos (by rfl)]
          go_simp
          have HB8a := Lib.hid (HB8.out.alloc HB8.out.size (.cells #[.string ⟨#[]⟩, .int .i64 0, .slice none 0 0] 39))
          have HZ8 : Hid (Blk (w8.alloc (.cells #[.string ⟨#[]⟩, .int .i64 0, .slice none 0 0] 39)) w8.heap.size 39 _) := Blk.new _ _ _
          obtain ⟨g0, g1, g2⟩ := cells3 HZ8.out
          obtain ⟨f0, f1, f2⟩ := free3 HZ8.out
          refine hK.out _ _ (by first | with_reducible exact HK7.out _ HRD.out | with_reducible exact HK7.out _ HRA.out | with_reducible exact HK7.out _ HB8.out | with_reducible exact HK7.out _ HB8a.out | with_reducible exact HK7.out _ HB9.out) (fun hHeld => ?_)
          clear hK K
          (try simp only [List.getElem_toArray, List.getElem_cons_zero, List.getElem_cons_succ, Act.put, List.setIfInBounds_toArray, List.set_cons_zero, List.set_cons_succ])
          refine wpAnyH_ready (rs := [12]) (by kernel_rfl) (by simp) ?_
          refine AllReadyH.cons (o := _) rfl (fun K hK => ?_) AllReadyH.nil
          rw [if_pos (by rfl)]
          go_simp
          have HB9 := HB8a
          refine hK.out _ _ (by first | with_reducible exact HK7.out _ HRD.out | with_reducible exact HK7.out _ HRA.out | with_reducible exact HK7.out _ HB8.out | with_reducible exact HK7.out _ HB8a.out | with_reducible exact HK7.out _ HB9.out) (fun hHeld => ?_)
          clear hK K
          (try simp only [List.getElem_toArray, List.getElem_cons_zero, List.getElem_cons_succ, Act.put, List.setIfInBounds_toArray, List.set_cons_zero, List.set_cons_succ])
          refine wpAnyH_take (i := 13) (oi := _) (v := ?vya4) rfl (by kernel_rfl) (by kernel_rfl) (by kernel_rfl) (fun _ _ _ h => h) (Or.inl ⟨by rfl, ?hyya4⟩) (by assumption) ?restya4
          case hyya4 => (intro wz hSw; (try dsimp only at hSw); go_simp; try with_reducible rfl)
          (try simp only [List.getElem_toArray, List.getElem_cons_zero, List.getElem_cons_succ, Act.put, List.setIfInBounds_toArray, List.set_cons_zero, List.set_cons_succ])
          refine wpAnyH_done (by kernel_rfl) ?_ _
          have HWF := Lib.hid (HBW.out.trans ((HBs.out.trans ((HBp.out.trans (HB9.out.mono HBp.out.size)).mono HBs.out.size)).mono HXL.out))
          go_wp2_with (go_at_call 15; (with_reducible refine (HAWX.out _ HWF.out).mono ?_); rintro e w9 ⟨rfl, hb9⟩)
          go_ret
          exact ⟨rfl, by rw [hX.out]; exact hb9⟩
        · rw [if_pos (by rfl)]
          go_simp
          refine hK.out _ _ (by first | with_reducible exact HK7.out _ HRD.out | with_reducible exact HK7.out _ HRA.out | with_reducible exact HK7.out _ HB8.out | with_reducible exact HK7.out _ HB8a.out | with_reducible exact HK7.out _ HB9.out) (fun hHeld => ?_)
          clear hK K
          (try simp only [List.getElem_toArray, List.getElem_cons_zero, List.getElem_cons_succ, Act.put, List.setIfInBounds_toArray, List.set_cons_zero, List.set_cons_succ])
          refine wpAnyH_ready (rs := [7]) (by kernel_rfl) (by simp) ?_
          refine AllReadyH.cons (o := _) rfl (fun K hK => ?_) AllReadyH.nil
          rw [if_pos (by rfl)]
          go_simp
          (go_at_call 23; (with_reducible refine (HFD.out _ (HBp.out.trans (HRA.out.mono HBp.out.size))).mono ?_); rintro e w8 ⟨rfl, hb⟩; have HB8 := Lib.hid (HRA.out.trans (hb.mono HRA.out.size)); have HZ8 := Lib.hid (HZS.out.later hb); obtain ⟨g0, g1, g2⟩ := cells3 HZ8.out; obtain ⟨f0, f1, f2⟩ := free3 HZ8.out; clear hb)
          (try dsimp only)
          refine hK.out _ _ (by first | with_reducible exact HK7.out _ HRD.out | with_reducible exact HK7.out _ HRA.out | with_reducible exact HK7.out _ HB8.out | with_reducible exact HK7.out _ HB8a.out | with_reducible exact HK7.out _ HB9.out) (fun hHeld => ?_)
          clear hK K
          (try simp only [List.getElem_toArray, List.getElem_cons_zero, List.getElem_cons_succ, Act.put, List.setIfInBounds_toArray, List.set_cons_zero, List.set_cons_succ])
          refine wpAnyH_take (i := 8) (oi := _) (v := ?vya5) rfl (by kernel_rfl) (by kernel_rfl) (by kernel_rfl) (fun _ _ _ h => h) (Or.inl ⟨by rfl, ?hyya5⟩) (by assumption) ?restya5
          case hyya5 => (intro wz hSw; (try dsimp only at hSw); go_simp; try with_reducible rfl)
          (try simp only [List.getElem_toArray, List.getElem_cons_zero, List.getElem_cons_succ, Act.put, List.setIfInBounds_toArray, List.set_cons_zero, List.set_cons_succ])
          refine wpAnyH_take (i := 9) (oi := _) (v := ?vya6) rfl (by kernel_rfl) (by kernel_rfl) (by kernel_rfl) (fun _ _ _ h => h) (Or.inl ⟨by rfl, ?hyya6⟩) (by assumption) ?restya6
          case hyya6 => (intro wz hSw; (try dsimp only at hSw); go_simp; try with_reducible rfl)
          (try simp only [List.getElem_toArray, List.getElem_cons_zero, List.getElem_cons_succ, Act.put, List.setIfInBounds_toArray, List.set_cons_zero, List.set_cons_succ])
          refine wpAnyH_take (i := 10) (oi := _) (v := ?vya7) rfl (by kernel_rfl) (by kernel_rfl) (by kernel_rfl) (fun _ _ _ h => h) (Or.inl ⟨by rfl, ?hyya7⟩) (by assumption) ?restya7
          case hyya7 => (intro wz hSw; (try dsimp only at hSw); go_simp; try with_reducible rfl)
          (try simp only [List.getElem_toArray, List.getElem_cons_zero, List.getElem_cons_succ, Act.put, List.setIfInBounds_toArray, List.set_cons_zero, List.set_cons_succ])
          refine wpAnyH_ready (rs := [12]) (by kernel_rfl) (by simp) ?_
          refine AllReadyH.cons (o := _) rfl (fun K hK => ?_) AllReadyH.nil
          rw [if_pos (by rfl)]
          go_simp
          have HB9 : Hid (Below wr.heap.size wr (((w8.setCell ⟨wr.heap.size, 0, none⟩ (.string ⟨#[]⟩)).setCell ⟨wr.heap.size, 1, none⟩ (.int .i64 0)).setCell ⟨wr.heap.size, 2, none⟩ (.slice none 0 0))) := Lib.hid (((HB8.out.setCell (Nat.le_refl _) _).setCell (Nat.le_refl _) _).setCell (Nat.le_refl _) _)
          refine hK.out _ _ (by first | with_reducible exact HK7.out _ HRD.out | with_reducible exact HK7.out _ HRA.out | with_reducible exact HK7.out _ HB8.out | with_reducible exact HK7.out _ HB8a.out | with_reducible exact HK7.out _ HB9.out) (fun hHeld => ?_)
          clear hK K
          (try simp only [List.getElem_toArray, List.getElem_cons_zero, List.getElem_cons_succ, Act.put, List.setIfInBounds_toArray, List.set_cons_zero, List.set_cons_succ])
          refine wpAnyH_take (i := 13) (oi := _) (v := ?vya8) rfl (by kernel_rfl) (by kernel_rfl) (by kernel_rfl) (fun _ _ _ h => h) (Or.inl ⟨by rfl, ?hyya8⟩) (by assumption) ?restya8
          case hyya8 => (intro wz hSw; (try dsimp only at hSw); go_simp; try with_reducible rfl)
          (try simp only [List.getElem_toArray, List.getElem_cons_zero, List.getElem_cons_succ, Act.put, List.setIfInBounds_toArray, List.set_cons_zero, List.set_cons_succ])
          refine wpAnyH_done (by kernel_rfl) ?_ _
          have HWF := Lib.hid (HBW.out.trans ((HBs.out.trans ((HBp.out.trans (HB9.out.mono HBp.out.size)).mono HBs.out.size)).mono HXL.out))
          go_wp2_with (go_at_call 15; (with_reducible refine (HAWX.out _ HWF.out).mono ?_); rintro e w9 ⟨rfl, hb9⟩)
          go_ret
          exact ⟨rfl, by rw [hX.out]; exact hb9⟩
  · rw [if_pos (by rfl)]
    go_simp
    refine hK.out _ _ (by first | with_reducible exact HSS.out _ HDR3.out | with_reducible exact HSS.out _ HB34.out | with_reducible exact HSS.out _ HDR3a.out | with_reducible exact HSS.out _ HBs.out | with_reducible exact HSS.out _ HB34a.out) (fun hHeld => ?_)
    clear hK K
    (try simp only [List.getElem_toArray, List.getElem_cons_zero, List.getElem_cons_succ, Act.put, List.setIfInBounds_toArray, List.set_cons_zero, List.set_cons_succ])
    refine wpAnyH_ready (rs := [7]) (by kernel_rfl) (by simp) ?_
    refine AllReadyH.cons (o := _) rfl (fun K hK => ?_) AllReadyH.nil
    rw [if_pos (by rfl)]
    go_simp
    (go_at_call 21; (with_reducible refine (HDR.out _ HDR3a.out).mono ?_); rintro e w4 ⟨⟨t4, tn4, tc4, s4, sn4, sc4, m4, mn4, mc4, k4, kn4, kc4⟩, lo, hi, rfl, hN, hb⟩; dsimp only [mtA]; have HND := Lib.hid hN; have HB34 := Lib.hid (HDR3a.out.trans (hb.mono HDR3a.out.size)); have HA4 := Lib.hid (HZ.out.later hb); obtain ⟨g0, g1, g2, g3, g4, g5, g6⟩ := cells7 HA4.out; obtain ⟨f0, f1, f2, f3, f4, f5, f6⟩ := free7 HA4.out; clear hN hb)
    (try dsimp only)
    refine hK.out _ _ (by first | with_reducible exact HSS.out _ HDR3.out | with_reducible exact HSS.out _ HB34.out | with_reducible exact HSS.out _ HDR3a.out | with_reducible exact HSS.out _ HBs.out | with_reducible exact HSS.out _ HB34a.out) (fun hHeld => ?_)
    clear hK K
    (try simp only [List.getElem_toArray, List.getElem_cons_zero, List.getElem_cons_succ, Act.put, List.setIfInBounds_toArray, List.set_cons_zero, List.set_cons_succ])
    refine wpAnyH_take (i := 8) (oi := _) (v := ?vz1) rfl (by kernel_rfl) (by kernel_rfl) (by kernel_rfl) (fun _ _ _ h => h) (Or.inl ⟨by rfl, ?hyz1⟩) (by assumption) ?restz1
    case hyz1 => (intro wz hSw; (try dsimp only at hSw); go_simp; try with_reducible rfl)
    (try simp only [List.getElem_toArray, List.getElem_cons_zero, List.getElem_cons_succ, Act.put, List.setIfInBounds_toArray, List.set_cons_zero, List.set_cons_succ])
    refine wpAnyH_take (i := 9) (oi := _) (v := ?vz2) rfl (by kernel_rfl) (by kernel_rfl) (by kernel_rfl) (fun _ _ _ h => h) (Or.inl ⟨by rfl, ?hyz2⟩) (by assumption) ?restz2
    case hyz2 => (intro wz hSw; (try dsimp only at hSw); go_simp; try with_reducible rfl)
    (try simp only [List.getElem_toArray, List.getElem_cons_zero, List.getElem_cons_succ, Act.put, List.setIfInBounds_toArray, List.set_cons_zero, List.set_cons_succ])
    refine wpAnyH_take (i := 10) (oi := _) (v := ?vz3) rfl (by kernel_rfl) (by kernel_rfl) (by kernel_rfl) (fun _ _ _ h => h) (Or.inl ⟨by rfl, ?hyz3⟩) (by assumption) ?restz3
    case hyz3 => (intro wz hSw; (try dsimp only at hSw); go_simp; try with_reducible rfl)
    (try simp only [List.getElem_toArray, List.getElem_cons_zero, List.getElem_cons_succ, Act.put, List.setIfInBounds_toArray, List.set_cons_zero, List.set_cons_succ])
    refine wpAnyH_ready (rs := [12]) (by kernel_rfl) (by simp) ?_
    refine AllReadyH.cons (o := _) rfl (fun K hK => ?_) AllReadyH.nil
    rw [if_pos (by rfl)]
    go_simp
    have HBs : Hid (Below w3.heap.size w3 (((((((w4.setCell ⟨w3.heap.size, 0, none⟩ (.int .i64 c')).setCell ⟨w3.heap.size, 1, none⟩ (.int .i64 s')).setCell ⟨w3.heap.size, 2, none⟩ (.string bk')).setCell ⟨w3.heap.size, 3, none⟩ (.slice t4 tn4 tc4)).setCell ⟨w3.heap.size, 4, none⟩ (.slice s4 sn4 sc4)).setCell ⟨w3.heap.size, 5, none⟩ (.slice m4 mn4 mc4)).setCell ⟨w3.heap.size, 6, none⟩ (.slice k4 kn4 kc4))) := Lib.hid (belowRow HB34.out (grown7 _ _ (.int .i64 c') (.int .i64 s') (.string bk') (.slice t4 tn4 tc4) (.slice s4 sn4 sc4) (.slice m4 mn4 mc4) (.slice k4 kn4 kc4)) (by first | exact Nat.le_refl _ | exact HB34.out.size) HB34.out.size)
    have HA5 : Hid (Blk (((((((w4.setCell ⟨w3.heap.size, 0, none⟩ (.int .i64 c')).setCell ⟨w3.heap.size, 1, none⟩ (.int .i64 s')).setCell ⟨w3.heap.size, 2, none⟩ (.string bk')).setCell ⟨w3.heap.size, 3, none⟩ (.slice t4 tn4 tc4)).setCell ⟨w3.heap.size, 4, none⟩ (.slice s4 sn4 sc4)).setCell ⟨w3.heap.size, 5, none⟩ (.slice m4 mn4 mc4)).setCell ⟨w3.heap.size, 6, none⟩ (.slice k4 kn4 kc4)) w3.heap.size 29 #[.int .i64 c', .int .i64 s', .string bk', .slice t4 tn4 tc4, .slice s4 sn4 sc4, .slice m4 mn4 mc4, .slice k4 kn4 kc4]) := HA4.out.set7 (.int .i64 c') (.int .i64 s') (.string bk') (.slice t4 tn4 tc4) (.slice s4 sn4 sc4) (.slice m4 mn4 mc4) (.slice k4 kn4 kc4)
    have HN5 : Hid (MetaD (((((((w4.setCell ⟨w3.heap.size, 0, none⟩ (.int .i64 c')).setCell ⟨w3.heap.size, 1, none⟩ (.int .i64 s')).setCell ⟨w3.heap.size, 2, none⟩ (.string bk')).setCell ⟨w3.heap.size, 3, none⟩ (.slice t4 tn4 tc4)).setCell ⟨w3.heap.size, 4, none⟩ (.slice s4 sn4 sc4)).setCell ⟨w3.heap.size, 5, none⟩ (.slice m4 mn4 mc4)).setCell ⟨w3.heap.size, 6, none⟩ (.slice k4 kn4 kc4)) _ _) := Lib.hid ((HND.out.off HA4.out.off6 (grown7 _ _ (.int .i64 c') (.int .i64 s') (.string bk') (.slice t4 tn4 tc4) (.slice s4 sn4 sc4) (.slice m4 mn4 mc4) (.slice k4 kn4 kc4))).d)
    refine hK.out _ _ (by first | with_reducible exact HSS.out _ HDR3.out | with_reducible exact HSS.out _ HB34.out | with_reducible exact HSS.out _ HDR3a.out | with_reducible exact HSS.out _ HBs.out | with_reducible exact HSS.out _ HB34a.out) (fun hHeld => ?_)
    clear hK K
    (try simp only [List.getElem_toArray, List.getElem_cons_zero, List.getElem_cons_succ, Act.put, List.setIfInBounds_toArray, List.set_cons_zero, List.set_cons_succ])
    refine wpAnyH_take (i := 13) (oi := _) (v := ?vz4) rfl (by kernel_rfl) (by kernel_rfl) (by kernel_rfl) (fun _ _ _ h => h) (Or.inl ⟨by rfl, ?hyz4⟩) (by assumption) ?restz4
    case hyz4 => (intro wz hSw; (try dsimp only at hSw); go_simp; try with_reducible rfl)
    (try simp only [List.getElem_toArray, List.getElem_cons_zero, List.getElem_cons_succ, Act.put, List.setIfInBounds_toArray, List.set_cons_zero, List.set_cons_succ])
    refine wpAnyH_done (by kernel_rfl) ?_ _
    obtain ⟨W5, hW5⟩ := named (((((((w4.setCell ⟨w3.heap.size, 0, none⟩ (.int .i64 c')).setCell ⟨w3.heap.size, 1, none⟩ (.int .i64 s')).setCell ⟨w3.heap.size, 2, none⟩ (.string bk')).setCell ⟨w3.heap.size, 3, none⟩ (.slice t4 tn4 tc4)).setCell ⟨w3.heap.size, 4, none⟩ (.slice s4 sn4 sc4)).setCell ⟨w3.heap.size, 5, none⟩ (.slice m4 mn4 mc4)).setCell ⟨w3.heap.size, 6, none⟩ (.slice k4 kn4 kc4))
    obtain ⟨A, hA⟩ := named w3.heap.size
    simp only [hW5.out] at HBs HA5 HN5 ⊢
    simp only [hA.out] at HA5 ⊢
    have HAWX : Hid (∀ W, Below X w W → Calls Try.prog 15 #[] W fun e w' => e = .returned (.bool true) ∧ Below X w w') := by
      rw [← hX.out]
      exact HAW.out
    have HXL : Hid (X ≤ w3.heap.size) := Lib.hid (by have := hX.out; have := HBW.out.size; omega)
    have HNK : Hid (∀ W, Below w3.heap.size w3 W → W.cell? ⟨b, off + Kk * 3, none⟩ = some (.string nm)) := fun W hb => (HSS.out W hb).2.2.2.2.2.2.2.1
    have hln := HN5.out.S.lens
    have hSl := HMD.out.S.lens
    dsimp only at hln hSl
    have hsn4 : sn4 = sn0 - 1 := by
      rw [← hln.1, List.length_append, List.length_take, List.length_drop]
      omega
    have dq1 : decide ((sn4 : Int) = (sn0 : Int) - 1) = true := decide_eq_true (by omega)
    have dq2 : ((sn4 : Int) == (sn0 : Int) - 1) = true := by rw [beq_iff_eq]; omega
    have dq3 : ((sn4 : Int) != (sn0 : Int) - 1) = false := by rw [bne_eq_false_iff_eq]; omega
    have HSN4 := Lib.hid (And.intro hsn4 (And.intro hln.1 hSl.1))
    obtain ⟨p0, p1, p2, p3, p4, p5, p6⟩ := cells7 HA5.out
    have hlA := HA5.out.lt
    have HX5 := Lib.hid (HBX.out.later HBs.out)
    obtain ⟨q0, q1, q2, q3, q4, q5, q6⟩ := cells7 HX5.out
    have hlX := HX5.out.lt
    have HMD5 := Lib.hid (HMD.out.later HBs.out)
    have hT5 : Tab W5 t4 tn4 tc4 T := HN5.out.T
    have hTm : Tab W5 ta0 tn0 tc0 T := HMD5.out.T
    have HTB := Lib.hid (fun W (hb : Below W5.heap.size W5 W) => refTT (R := true) (hT5.later hb) (hTm.later hb) (decide_eq_true rfl))
    clear hT5 hTm
    have HSK := Lib.hid hSk
    have HNU := Lib.hid (fun (w : World) => num12 0 (by unfold I64; omega) w)
    clear hSk hsn4 hln x1 x2 x3 hT1 hHeld
    go_wp2_with (first
      | (go_at_call 27; (with_reducible refine (HNU.out _).mono ?_); rintro e w' ⟨rfl, hw⟩; obtain rfl := hw.symm)
      | (go_at_call 25; (with_reducible refine (HTB.out _ (Below.refl _ _)).mono ?_); rintro e w6 ⟨rfl, hb⟩; have HB6 := Lib.hid hb; clear hb))
    have HB56 := HB6
    have hgone : fndS nm (List.take Kk S ++ List.drop (Kk + 1) S) = -1 := gone_at HR.out HSK.out
    have HFD := Lib.hid (fun W (hb : Below W5.heap.size W5 W) => shotsFind_no W _ _ (HN5.out.later hb) nm hgone)
    dsimp only [mtA] at HFD
    have hsn20 : sn4 ≤ 1000 := by have := HN5.out.S.lens.2; exact this
    clear hgone
    clear dq1 dq2 dq3 p0 p1 p2 p3 p4 p5 p6 q0 q1 q2 q3 q4 q5 q6
    go_loopw [8] (fun i wr => ∃ p : Nat, p ≤ sn4 ∧ i = .int .i64 p ∧ Hid (Below W5.heap.size W5 wr)) (fun i _ => sn4 - (intOf i).toNat)
    case atStart => exact ⟨0, Nat.zero_le _, rfl, HB56.out⟩
    case round =>
      obtain ⟨p, hp, rfl, HBp⟩ := hrel
      have HAp := Lib.hid (HA5.out.later HBp.out)
      have HXp := Lib.hid (HX5.out.later HBp.out)
      obtain ⟨p0, p1, p2, p3, p4, p5, p6⟩ := cells7 HAp.out
      obtain ⟨q0, q1, q2, q3, q4, q5, q6⟩ := cells7 HXp.out
      have hlA := HAp.out.lt
      have hlX := HXp.out.lt
      by_cases hlt : p < sn4
      · obtain ⟨b5, o5, nm5, sz5, al5, ll5, cl5, T5, rfl, hS5, hb5, hok5, u1, u2, u3, hT5⟩ := (HN5.out.later HBp.out).S.at p hlt
        rw [left_at (by have := HSN4.out.2.2; omega) (by have := HSN4.out; omega)] at hS5
        by_cases hkp : Kk ≤ p
        · rw [if_pos hkp] at hS5
          obtain ⟨b6, o6, nm6, sz6, al6, ll6, cl6, T6, hab, hS6, hb6, hok6, v1, v2, v3, hT6⟩ := (HMD5.out.later HBp.out).S.at (p + 1) (by have := HSN4.out.1; show p + 1 < sn0; omega)
          cases hab
          have e56 := Option.some.inj (hS5.symm.trans hS6)
          cases e56
          have dk : decide ((Kk : Int) ≤ (p : Int)) = true := decide_eq_true (by omega)
          have hse := str_yes (rfl : nm5 = nm5)
          have HT := Lib.hid (fun W (hb : Below wr.heap.size wr W) => refTT (R := true) (hT5.later hb) (hT6.later hb) (decide_eq_true rfl))
          have hp1 : p + 1 < sn0 := by have := HSN4.out.1; omega
          have hp2 : ((p : Int) + 1) < (sn0 : Int) := by omega
          have hp3 : (0 : Int) ≤ (p : Int) + 1 := by omega
          have hp4 : ((p : Int) + 1).toNat = p + 1 := by omega
          have dk2 : decide (Kk ≤ p) = decide ((Kk : Int) ≤ (p : Int)) := by simp
          rw [dk] at dk2
          clear hS5 hS6 hT5 hT6 hok5 hok6
          have HKS : Hid (∀ W, Below wr.heap.size wr W → W.cell? ⟨A, 4, none⟩ = some (.slice (some ⟨b5, o5, none⟩) sn4 sc4) ∧ W.cell? ⟨X, 4, none⟩ = some (.slice (some ⟨b, off, none⟩) sn0 sc0) ∧ W.cell? ⟨b5, o5 + p * 3, none⟩ = some (.string nm5) ∧ W.cell? ⟨b5, o5 + p * 3 + 2, none⟩ = some (.slice al5 ll5 cl5) ∧ W.cell? ⟨b, off + (p + 1) * 3, none⟩ = some (.string nm5) ∧ W.cell? ⟨b, off + (p + 1) * 3 + 2, none⟩ = some (.slice al6 ll6 cl6)) := fun W hb => ⟨(HAp.out.later hb).cell 4, (HXp.out.later hb).cell 4, (hb.cell (p := ⟨b5, o5 + p * 3, none⟩) hb5).trans u1, (hb.cell (p := ⟨b5, o5 + p * 3 + 2, none⟩) hb5).trans u3, (hb.cell (p := ⟨b, off + (p + 1) * 3, none⟩) hb6).trans v1, (hb.cell (p := ⟨b, off + (p + 1) * 3 + 2, none⟩) hb6).trans v3⟩
          have HRD := Lib.hid (Below.refl wr.heap.size wr).drew
          have HRR2 := Lib.hid (Below.refl wr.heap.size wr)
          go_wp2
          go_region_held3 (fun W => W.cell? ⟨A, 4, none⟩ = some (.slice (some ⟨b5, o5, none⟩) sn4 sc4) ∧ W.cell? ⟨X, 4, none⟩ = some (.slice (some ⟨b, off, none⟩) sn0 sc0) ∧ W.cell? ⟨b5, o5 + p * 3, none⟩ = some (.string nm5) ∧ W.cell? ⟨b5, o5 + p * 3 + 2, none⟩ = some (.slice al5 ll5 cl5) ∧ W.cell? ⟨b, off + (p + 1) * 3, none⟩ = some (.string nm5) ∧ W.cell? ⟨b, off + (p + 1) * 3 + 2, none⟩ = some (.slice al6 ll6 cl6)) (first | with_reducible exact HKS.out _ HRR2.out | with_reducible exact HKS.out _ HRD.out | with_reducible exact HKS.out _ HB7.out) (first | (go_at_call 25; (with_reducible refine (HT.out _ HRD.out).mono ?_); rintro e w7 ⟨rfl, hb⟩; have HB7 := Lib.hid (HRD.out.trans (hb.mono HRD.out.size)); clear hb))
          go_wp2
          go_roundw
          case rel => exact ⟨p + 1, by omega, by go_num, HBp.out.trans (HB7.out.mono HBp.out.size)⟩
          case measure => simp [intOf]; omega
        · rw [if_neg hkp] at hS5
          obtain ⟨b6, o6, nm6, sz6, al6, ll6, cl6, T6, hab, hS6, hb6, hok6, v1, v2, v3, hT6⟩ := (HMD5.out.later HBp.out).S.at p (by have := HSN4.out.1; show p < sn0; omega)
          cases hab
          have e56 := Option.some.inj (hS5.symm.trans hS6)
          cases e56
          have dk : decide ((Kk : Int) ≤ (p : Int)) = false := decide_eq_false (by omega)
          have hse := str_yes (rfl : nm5 = nm5)
          have HT := Lib.hid (fun W (hb : Below wr.heap.size wr W) => refTT (R := true) (hT5.later hb) (hT6.later hb) (decide_eq_true rfl))
          have hp1 : p < sn0 := by have := HSN4.out.1; omega
          have dk2 : decide (Kk ≤ p) = decide ((Kk : Int) ≤ (p : Int)) := by simp
          rw [dk] at dk2
          clear hS5 hS6 hT5 hT6 hok5 hok6
          have HKS : Hid (∀ W, Below wr.heap.size wr W → W.cell? ⟨A, 4, none⟩ = some (.slice (some ⟨b5, o5, none⟩) sn4 sc4) ∧ W.cell? ⟨X, 4, none⟩ = some (.slice (some ⟨b, off, none⟩) sn0 sc0) ∧ W.cell? ⟨b5, o5 + p * 3, none⟩ = some (.string nm5) ∧ W.cell? ⟨b5, o5 + p * 3 + 2, none⟩ = some (.slice al5 ll5 cl5) ∧ W.cell? ⟨b, off + p * 3, none⟩ = some (.string nm5) ∧ W.cell? ⟨b, off + p * 3 + 2, none⟩ = some (.slice al6 ll6 cl6)) := fun W hb => ⟨(HAp.out.later hb).cell 4, (HXp.out.later hb).cell 4, (hb.cell (p := ⟨b5, o5 + p * 3, none⟩) hb5).trans u1, (hb.cell (p := ⟨b5, o5 + p * 3 + 2, none⟩) hb5).trans u3, (hb.cell (p := ⟨b, off + p * 3, none⟩) hb6).trans v1, (hb.cell (p := ⟨b, off + p * 3 + 2, none⟩) hb6).trans v3⟩
          have HRD := Lib.hid (Below.refl wr.heap.size wr).drew
          have HRR2 := Lib.hid (Below.refl wr.heap.size wr)
          go_wp2
          go_region_held3 (fun W => W.cell? ⟨A, 4, none⟩ = some (.slice (some ⟨b5, o5, none⟩) sn4 sc4) ∧ W.cell? ⟨X, 4, none⟩ = some (.slice (some ⟨b, off, none⟩) sn0 sc0) ∧ W.cell? ⟨b5, o5 + p * 3, none⟩ = some (.string nm5) ∧ W.cell? ⟨b5, o5 + p * 3 + 2, none⟩ = some (.slice al5 ll5 cl5) ∧ W.cell? ⟨b, off + p * 3, none⟩ = some (.string nm5) ∧ W.cell? ⟨b, off + p * 3 + 2, none⟩ = some (.slice al6 ll6 cl6)) (first | with_reducible exact HKS.out _ HRR2.out | with_reducible exact HKS.out _ HRD.out | with_reducible exact HKS.out _ HB7.out) (first | (go_at_call 25; (with_reducible refine (HT.out _ HRD.out).mono ?_); rintro e w7 ⟨rfl, hb⟩; have HB7 := Lib.hid (HRD.out.trans (hb.mono HRD.out.size)); clear hb))
          go_wp2
          go_roundw
          case rel => exact ⟨p + 1, by omega, by go_num, HBp.out.trans (HB7.out.mono HBp.out.size)⟩
          case measure => simp [intOf]; omega
      · obtain rfl : p = sn4 := by omega
        go_wp2
        have HRD := Lib.hid (Below.refl wr.heap.size wr).drew
        have HRA := Lib.hid ((Below.refl wr.heap.size wr).alloc (Nat.le_refl _) (.cells #[.string ⟨#[]⟩, .int .i64 0, .slice none 0 0] 39)).drew
        have HZS : Hid (Blk (wr.alloc (.cells #[.string ⟨#[]⟩, .int .i64 0, .slice none 0 0] 39)).drew wr.heap.size 39 _) := Blk.new wr _ _
        have HK7 : Hid (∀ W, Below wr.heap.size wr W → W.cell? ⟨A, 0, none⟩ = some (.int .i64 c') ∧ W.cell? ⟨A, 1, none⟩ = some (.int .i64 s') ∧ W.cell? ⟨A, 2, none⟩ = some (.string bk') ∧ W.cell? ⟨A, 3, none⟩ = some (.slice t4 tn4 tc4) ∧ W.cell? ⟨A, 4, none⟩ = some (.slice s4 p sc4) ∧ W.cell? ⟨A, 5, none⟩ = some (.slice m4 mn4 mc4) ∧ W.cell? ⟨A, 6, none⟩ = some (.slice k4 kn4 kc4) ∧ W.cell? ⟨X, 4, none⟩ = some (.slice (some ⟨b, off, none⟩) sn0 sc0) ∧ W.cell? ⟨b, off + Kk * 3, none⟩ = some (.string nm)) := fun W hb => ⟨(HAp.out.later hb).cell 0, (HAp.out.later hb).cell 1, (HAp.out.later hb).cell 2, (HAp.out.later hb).cell 3, (HAp.out.later hb).cell 4, (HAp.out.later hb).cell 5, (HAp.out.later hb).cell 6, (HXp.out.later hb).cell 4, HNK.out W (HBs.out.trans ((HBp.out.trans (hb.mono HBp.out.size)).mono HBs.out.size))⟩
        refine wp_region_held_drew (S := fun W => W.cell? ⟨A, 0, none⟩ = some (.int .i64 c') ∧ W.cell? ⟨A, 1, none⟩ = some (.int .i64 s') ∧ W.cell? ⟨A, 2, none⟩ = some (.string bk') ∧ W.cell? ⟨A, 3, none⟩ = some (.slice t4 tn4 tc4) ∧ W.cell? ⟨A, 4, none⟩ = some (.slice s4 p sc4) ∧ W.cell? ⟨A, 5, none⟩ = some (.slice m4 mn4 mc4) ∧ W.cell? ⟨A, 6, none⟩ = some (.slice k4 kn4 kc4) ∧ W.cell? ⟨X, 4, none⟩ = some (.slice (some ⟨b, off, none⟩) sn0 sc0) ∧ W.cell? ⟨b, off + Kk * 3, none⟩ = some (.string nm)) (by kernel_rfl) (by first | with_reducible exact HK7.out _ HRD.out | with_reducible exact HK7.out _ HRA.out | with_reducible exact HK7.out _ HB8.out | with_reducible exact HK7.out _ HB8a.out | with_reducible exact HK7.out _ HB9.out) (fun hHeld => ?_)
        refine wpAnyH_take (i := 0) (oi := _) (v := ?vyb9) rfl (by kernel_rfl) (by kernel_rfl) (by kernel_rfl) (fun _ _ _ h => h) (Or.inl ⟨by rfl, ?hyyb9⟩) (by assumption) ?restyb9
        case hyyb9 => (intro wz hSw; (try dsimp only at hSw); go_simp; try with_reducible rfl)
        (try simp only [List.getElem_toArray, List.getElem_cons_zero, List.getElem_cons_succ, Act.put, List.setIfInBounds_toArray, List.set_cons_zero, List.set_cons_succ])
        refine wpAnyH_take (i := 1) (oi := _) (v := ?vyb10) rfl (by kernel_rfl) (by kernel_rfl) (by kernel_rfl) (fun _ _ _ h => h) (Or.inl ⟨by rfl, ?hyyb10⟩) (by assumption) ?restyb10
        case hyyb10 => (intro wz hSw; (try dsimp only at hSw); go_simp; try with_reducible rfl)
        (try simp only [List.getElem_toArray, List.getElem_cons_zero, List.getElem_cons_succ, Act.put, List.setIfInBounds_toArray, List.set_cons_zero, List.set_cons_succ])
        refine wpAnyH_take (i := 2) (oi := _) (v := ?vyb11) rfl (by kernel_rfl) (by kernel_rfl) (by kernel_rfl) (fun _ _ _ h => h) (Or.inl ⟨by rfl, ?hyyb11⟩) (by assumption) ?restyb11
        case hyyb11 => (intro wz hSw; (try dsimp only at hSw); go_simp; try with_reducible rfl)
        (try simp only [List.getElem_toArray, List.getElem_cons_zero, List.getElem_cons_succ, Act.put, List.setIfInBounds_toArray, List.set_cons_zero, List.set_cons_succ])
        refine wpAnyH_take (i := 3) (oi := _) (v := ?vyb12) rfl (by kernel_rfl) (by kernel_rfl) (by kernel_rfl) (fun _ _ _ h => h) (Or.inl ⟨by rfl, ?hyyb12⟩) (by assumption) ?restyb12
        case hyyb12 => (intro wz hSw; (try dsimp only at hSw); go_simp; try with_reducible rfl)
        (try simp only [List.getElem_toArray, List.getElem_cons_zero, List.getElem_cons_succ, Act.put, List.setIfInBounds_toArray, List.set_cons_zero, List.set_cons_succ])
        refine wpAnyH_take (i := 4) (oi := _) (v := ?vyb13) rfl (by kernel_rfl) (by kernel_rfl) (by kernel_rfl) (fun _ _ _ h => h) (Or.inl ⟨by rfl, ?hyyb13⟩) (by assumption) ?restyb13
        case hyyb13 => (intro wz hSw; (try dsimp only at hSw); go_simp; try with_reducible rfl)
        (try simp only [List.getElem_toArray, List.getElem_cons_zero, List.getElem_cons_succ, Act.put, List.setIfInBounds_toArray, List.set_cons_zero, List.set_cons_succ])
        refine wpAnyH_take (i := 5) (oi := _) (v := ?vyb14) rfl (by kernel_rfl) (by kernel_rfl) (by kernel_rfl) (fun _ _ _ h => h) (Or.inl ⟨by rfl, ?hyyb14⟩) (by assumption) ?restyb14
        case hyyb14 => (intro wz hSw; (try dsimp only at hSw); go_simp; try with_reducible rfl)
        (try simp only [List.getElem_toArray, List.getElem_cons_zero, List.getElem_cons_succ, Act.put, List.setIfInBounds_toArray, List.set_cons_zero, List.set_cons_succ])
        refine wpAnyH_take (i := 6) (oi := _) (v := ?vyb15) rfl (by kernel_rfl) (by kernel_rfl) (by kernel_rfl) (fun _ _ _ h => h) (Or.inl ⟨by rfl, ?hyyb15⟩) (by assumption) ?restyb15
        case hyyb15 => (intro wz hSw; (try dsimp only at hSw); go_simp; try with_reducible rfl)
        (try simp only [List.getElem_toArray, List.getElem_cons_zero, List.getElem_cons_succ, Act.put, List.setIfInBounds_toArray, List.set_cons_zero, List.set_cons_succ])
        refine wpAnyH_ready (rs := [7, 11]) (by kernel_rfl) (by simp) ?_
        refine AllReadyH.cons (o := _) rfl (fun K hK => ?_) (AllReadyH.cons (o := _) rfl (fun K hK => ?_) AllReadyH.nil)
        · rw [if_pos (by rfl)]
          go_simp
          (go_at_call 23; (with_reducible refine (HFD.out _ (HBp.out.trans (HRD.out.mono HBp.out.size))).mono ?_); rintro e w8 ⟨rfl, hb⟩; have HB8 := Lib.hid (HRD.out.trans (hb.mono HRD.out.size)); clear hb)
          (try dsimp only)
          refine hK.out _ _ (by first | with_reducible exact HK7.out _ HRD.out | with_reducible exact HK7.out _ HRA.out | with_reducible exact HK7.out _ HB8.out | with_reducible exact HK7.out _ HB8a.out | with_reducible exact HK7.out _ HB9.out) (fun hHeld => ?_)
          clear hK K
          (try simp only [List.getElem_toArray, List.getElem_cons_zero, List.getElem_cons_succ, Act.put, List.setIfInBounds_toArray, List.set_cons_zero, List.set_cons_succ])
          refine wpAnyH_take (i := 8) (oi := _) (v := ?vyb1) rfl (by kernel_rfl) (by kernel_rfl) (by kernel_rfl) (fun _ _ _ h => h) (Or.inl ⟨by rfl, ?hyyb1⟩) (by assumption) ?restyb1
          case hyyb1 => (intro wz hSw; (try dsimp only at hSw); go_simp; try with_reducible rfl)
          (try simp only [List.getElem_toArray, List.getElem_cons_zero, List.getElem_cons_succ, Act.put, List.setIfInBounds_toArray, List.set_cons_zero, List.set_cons_succ])
          refine wpAnyH_take (i := 9) (oi := _) (v := ?vyb2) rfl (by kernel_rfl) (by kernel_rfl) (by kernel_rfl) (fun _ _ _ h => h) (Or.inl ⟨by rfl, ?hyyb2⟩) (by assumption) ?restyb2
          case hyyb2 => (intro wz hSw; (try dsimp only at hSw); go_simp; try with_reducible rfl)
          (try simp only [List.getElem_toArray, List.getElem_cons_zero, List.getElem_cons_succ, Act.put, List.setIfInBounds_toArray, List.set_cons_zero, List.set_cons_succ])
          refine wpAnyH_take (i := 10) (oi := _) (v := ?vyb3) rfl (by kernel_rfl) (by kernel_rfl) (by kernel_rfl) (fun _ _ _ h => h) (Or.inl ⟨by rfl, ?hyyb3⟩) (by assumption) ?restyb3
          case hyyb3 => (intro wz hSw; (try dsimp only at hSw); go_simp; try with_reducible rfl)
          (try simp only [List.getElem_toArray, List.getElem_cons_zero, List.getElem_cons_succ, Act.put, List.setIfInBounds_toArray, List.set_cons_zero, List.set_cons_succ])
          refine wpAnyH_ready (rs := [11]) (by kernel_rfl) (by simp) ?_
          refine AllReadyH.cons (o := _) rfl (fun K hK => ?_) AllReadyH.nil
          rw [if_pos (by rfl)]
          go_simp
          have HB8a := Lib.hid (HB8.out.alloc HB8.out.size (.cells #[.string ⟨#[]⟩, .int .i64 0, .slice none 0 0] 39))
          have HZ8 : Hid (Blk (w8.alloc (.cells #[.string ⟨#[]⟩, .int .i64 0, .slice none 0 0] 39)) w8.heap.size 39 _) := Blk.new _ _ _
          obtain ⟨g0, g1, g2⟩ := cells3 HZ8.out
          obtain ⟨f0, f1, f2⟩ := free3 HZ8.out
          refine hK.out _ _ (by first | with_reducible exact HK7.out _ HRD.out | with_reducible exact HK7.out _ HRA.out | with_reducible exact HK7.out _ HB8.out | with_reducible exact HK7.out _ HB8a.out | with_reducible exact HK7.out _ HB9.out) (fun hHeld => ?_)
          clear hK K
          (try simp only [List.getElem_toArray, List.getElem_cons_zero, List.getElem_cons_succ, Act.put, List.setIfInBounds_toArray, List.set_cons_zero, List.set_cons_succ])
          refine wpAnyH_ready (rs := [12]) (by kernel_rfl) (by simp) ?_
          refine AllReadyH.cons (o := _) rfl (fun K hK => ?_) AllReadyH.nil
          rw [if_pos (by rfl)]
          go_simp
          have HB9 := HB8a
          refine hK.out _ _ (by first | with_reducible exact HK7.out _ HRD.out | with_reducible exact HK7.out _ HRA.out | with_reducible exact HK7.out _ HB8.out | with_reducible exact HK7.out _ HB8a.out | with_reducible exact HK7.out _ HB9.out) (fun hHeld => ?_)
          clear hK K
          (try simp only [List.getElem_toArray, List.getElem_cons_zero, List.getElem_cons_succ, Act.put, List.setIfInBounds_toArray, List.set_cons_zero, List.set_cons_succ])
          refine wpAnyH_take (i := 13) (oi := _) (v := ?vyb4) rfl (by kernel_rfl) (by kernel_rfl) (by kernel_rfl) (fun _ _ _ h => h) (Or.inl ⟨by rfl, ?hyyb4⟩) (by assumption) ?restyb4
          case hyyb4 => (intro wz hSw; (try dsimp only at hSw); go_simp; try with_reducible rfl)
          (try simp only [List.getElem_toArray, List.getElem_cons_zero, List.getElem_cons_succ, Act.put, List.setIfInBounds_toArray, List.set_cons_zero, List.set_cons_succ])
          refine wpAnyH_done (by kernel_rfl) ?_ _
          have HWF := Lib.hid (HBW.out.trans ((HBs.out.trans ((HBp.out.trans (HB9.out.mono HBp.out.size)).mono HBs.out.size)).mono HXL.out))
          go_wp2_with (go_at_call 15; (with_reducible refine (HAWX.out _ HWF.out).mono ?_); rintro e w9 ⟨rfl, hb9⟩)
          go_ret
          exact ⟨rfl, by rw [hX.out]; exact hb9⟩
        · rw [if_pos (by rfl)]
          go_simp
          refine hK.out _ _ (by first | with_reducible exact HK7.out _ HRD.out | with_reducible exact HK7.out _ HRA.out | with_reducible exact HK7.out _ HB8.out | with_reducible exact HK7.out _ HB8a.out | with_reducible exact HK7.out _ HB9.out) (fun hHeld => ?_)
          clear hK K
          (try simp only [List.getElem_toArray, List.getElem_cons_zero, List.getElem_cons_succ, Act.put, List.setIfInBounds_toArray, List.set_cons_zero, List.set_cons_succ])
          refine wpAnyH_ready (rs := [7]) (by kernel_rfl) (by simp) ?_
          refine AllReadyH.cons (o := _) rfl (fun K hK => ?_) AllReadyH.nil
          rw [if_pos (by rfl)]
          go_simp
          (go_at_call 23; (with_reducible refine (HFD.out _ (HBp.out.trans (HRA.out.mono HBp.out.size))).mono ?_); rintro e w8 ⟨rfl, hb⟩; have HB8 := Lib.hid (HRA.out.trans (hb.mono HRA.out.size)); have HZ8 := Lib.hid (HZS.out.later hb); obtain ⟨g0, g1, g2⟩ := cells3 HZ8.out; obtain ⟨f0, f1, f2⟩ := free3 HZ8.out; clear hb)
          (try dsimp only)
          refine hK.out _ _ (by first | with_reducible exact HK7.out _ HRD.out | with_reducible exact HK7.out _ HRA.out | with_reducible exact HK7.out _ HB8.out | with_reducible exact HK7.out _ HB8a.out | with_reducible exact HK7.out _ HB9.out) (fun hHeld => ?_)
          clear hK K
          (try simp only [List.getElem_toArray, List.getElem_cons_zero, List.getElem_cons_succ, Act.put, List.setIfInBounds_toArray, List.set_cons_zero, List.set_cons_succ])
          refine wpAnyH_take (i := 8) (oi := _) (v := ?vyb5) rfl (by kernel_rfl) (by kernel_rfl) (by kernel_rfl) (fun _ _ _ h => h) (Or.inl ⟨by rfl, ?hyyb5⟩) (by assumption) ?restyb5
          case hyyb5 => (intro wz hSw; (try dsimp only at hSw); go_simp; try with_reducible rfl)
          (try simp only [List.getElem_toArray, List.getElem_cons_zero, List.getElem_cons_succ, Act.put, List.setIfInBounds_toArray, List.set_cons_zero, List.set_cons_succ])
          refine wpAnyH_take (i := 9) (oi := _) (v := ?vyb6) rfl (by kernel_rfl) (by kernel_rfl) (by kernel_rfl) (fun _ _ _ h => h) (Or.inl ⟨by rfl, ?hyyb6⟩) (by assumption) ?restyb6
          case hyyb6 => (intro wz hSw; (try dsimp only at hSw); go_simp; try with_reducible rfl)
          (try simp only [List.getElem_toArray, List.getElem_cons_zero, List.getElem_cons_succ, Act.put, List.setIfInBounds_toArray, List.set_cons_zero, List.set_cons_succ])
          refine wpAnyH_take (i := 10) (oi := _) (v := ?vyb7) rfl (by kernel_rfl) (by kernel_rfl) (by kernel_rfl) (fun _ _ _ h => h) (Or.inl ⟨by rfl, ?hyyb7⟩) (by assumption) ?restyb7
          case hyyb7 => (intro wz hSw; (try dsimp only at hSw); go_simp; try with_reducible rfl)
          (try simp only [List.getElem_toArray, List.getElem_cons_zero, List.getElem_cons_succ, Act.put, List.setIfInBounds_toArray, List.set_cons_zero, List.set_cons_succ])
          refine wpAnyH_ready (rs := [12]) (by kernel_rfl) (by simp) ?_
          refine AllReadyH.cons (o := _) rfl (fun K hK => ?_) AllReadyH.nil
          rw [if_pos (by rfl)]
          go_simp
          have HB9 : Hid (Below wr.heap.size wr (((w8.setCell ⟨wr.heap.size, 0, none⟩ (.string ⟨#[]⟩)).setCell ⟨wr.heap.size, 1, none⟩ (.int .i64 0)).setCell ⟨wr.heap.size, 2, none⟩ (.slice none 0 0))) := Lib.hid (((HB8.out.setCell (Nat.le_refl _) _).setCell (Nat.le_refl _) _).setCell (Nat.le_refl _) _)
          refine hK.out _ _ (by first | with_reducible exact HK7.out _ HRD.out | with_reducible exact HK7.out _ HRA.out | with_reducible exact HK7.out _ HB8.out | with_reducible exact HK7.out _ HB8a.out | with_reducible exact HK7.out _ HB9.out) (fun hHeld => ?_)
          clear hK K
          (try simp only [List.getElem_toArray, List.getElem_cons_zero, List.getElem_cons_succ, Act.put, List.setIfInBounds_toArray, List.set_cons_zero, List.set_cons_succ])
          refine wpAnyH_take (i := 13) (oi := _) (v := ?vyb8) rfl (by kernel_rfl) (by kernel_rfl) (by kernel_rfl) (fun _ _ _ h => h) (Or.inl ⟨by rfl, ?hyyb8⟩) (by assumption) ?restyb8
          case hyyb8 => (intro wz hSw; (try dsimp only at hSw); go_simp; try with_reducible rfl)
          (try simp only [List.getElem_toArray, List.getElem_cons_zero, List.getElem_cons_succ, Act.put, List.setIfInBounds_toArray, List.set_cons_zero, List.set_cons_succ])
          refine wpAnyH_done (by kernel_rfl) ?_ _
          have HWF := Lib.hid (HBW.out.trans ((HBs.out.trans ((HBp.out.trans (HB9.out.mono HBp.out.size)).mono HBs.out.size)).mono HXL.out))
          go_wp2_with (go_at_call 15; (with_reducible refine (HAWX.out _ HWF.out).mono ?_); rintro e w9 ⟨rfl, hb9⟩)
          go_ret
          exact ⟨rfl, by rw [hX.out]; exact hb9⟩

set_option maxRecDepth 100000 in
theorem lifted (os : Os) (started : os.Started) (H : Type) (enc : TypeId × Value → H) :
    ReturnsInHanded {} Try.checked os 6 .any (Rows.shotDropsSpec.pre6 enc Try.prog Try.f6 Rows.shotDropsRow.domain false) (Rows.shotDropsSpec.post enc Try.prog Try.f6 false true false false) := by
  refine returnsInHanded_of_change (C := Try.checked) own started (by kernel_rfl) Try.func6
    (ChangeSpec.witness6 (enc := enc) (C := Try.checked) false ⟨#[], #[.agg #[.int .i64 0, .int .i64 0, .string ByteArray.empty, .slice none 0 0, .slice none 0 0, .slice none 0 0, .slice none 0 0], .int .u8 0], []⟩ 8 (by kernel_rfl) (by kernel_rfl) (by kernel_rfl) (by kernel_rfl)) ?_
  intro W base args ds gs before hval0 hW hcnd _
  have hval : ∀ (j : Nat) t v, Try.f6.params[j]? = some t → args[j]? = some v → Value.okWide Try.prog W .any base t v := hval0
  have hW' := hW
  obtain ⟨p, q, hA0, hV, rfl, hfz, hnd⟩ := hW
  have hA : DataW.TrodAll enc Try.prog W 0 (fun _ => true) true Try.f6.params.toList args.toList ds p := hA0
  rw [Try.params6] at hA hval
  obtain ⟨v0, vs0, d0, ds0, p0, q0, hargs, rfl, rfl, h0, r0⟩ := trodAll_cons hA
  obtain ⟨v1, vs1, d1, ds1, p1, q1, rfl, rfl, rfl, h1, r1⟩ := trodAll_cons r0
  obtain ⟨rfl, rfl, rfl⟩ := trodAll_nil r1
  obtain rfl : args = #[v0, v1] := by cases args; simp_all
  obtain ⟨rfl, rfl⟩ := trodVars_none hV
  have k0 := h0
  have lt0 : ∀ x ∈ p0, x.block < W.heap.size := by obtain ⟨m, hm⟩ := k0; exact DataW.trod_lt m _ _ _ hm
  obtain ⟨mc0, ms0, mb0, ta0, tn0, tc0, sa0, sn0, sc0, ba0, bn0, bc0, ca0, cn0, cc0, rfl, w0⟩ := meta_open (hval 0 29 v0 rfl rfl) h0
  have k1 := h1
  have lt1 : ∀ x ∈ p1, x.block < W.heap.size := by obtain ⟨m, hm⟩ := k1; exact DataW.trod_lt m _ _ _ hm
  obtain ⟨a1, rfl, _, _, w1⟩ := open_int Try.underlying5 (hval 1 5 v1 rfl rfl) h1
  clear hA0 hval0
  refine (walk mc0 ms0 mb0 ta0 tn0 tc0 sa0 sn0 sc0 ba0 bn0 bc0 ca0 cn0 cc0 a1 W w0 w1).mono fun e W' ⟨he, bel⟩ => ?_
  subst he
  exact ⟨_, rfl, _, _, _, [], _, [], hW', trodAll_mk1 (shut_bool Try.underlying4 _), (trodAll_cons_mk (Below.trod laidOut (by kernel_rfl) (of_decide_eq_true (by kernel_rfl)) k0 bel lt0) (trodAll_cons_mk (Below.trod laidOut (by kernel_rfl) (of_decide_eq_true (by kernel_rfl)) k1 bel lt1) trodAll_mk0)), rfl, bel.frame _, fun h => by cases h⟩

theorem over : Rows.shotDropsRow.holds Try.pinned (OpenSpec.ofChange Rows.shotDropsSpec) :=
  OpenClaim.holds_of_wide 6 Try.f6 rfl rfl rfl rfl rfl rfl rfl ⟨rfl, rfl, rfl, rfl, rfl⟩ rfl rfl rfl rfl rfl (by kernel_rfl) Try.func6 (by kernel_rfl)
    (of_decide_eq_true (by kernel_rfl)) (by unfold Func.isWrapper; first | (rw [if_pos (by decide +kernel)]; kernel_rfl) | (rw [if_neg (by decide +kernel)]; exact ⟨rfl, rfl⟩))
    (fun os started H enc _ => lifted os started H enc)

/-- The statement. -/
theorem proved : Rows.ShotDropsSaid := over
#print axioms proved
end Go.Proofs.Ytjaaieamlgghhaa.shotDrops
