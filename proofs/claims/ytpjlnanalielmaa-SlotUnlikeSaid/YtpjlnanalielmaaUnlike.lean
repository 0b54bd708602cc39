/-
  Proved: 'matryoshkalaw6.SlotUnlike' returns true for every input, and each argument reads afterwards as before: the statement SlotUnlikeSaid as given. Conditions: none beyond the row's own.
-/
import Derived.Test.YtpjlnanalielmaaRows
import Derived.Test.YtpjlnanalielmaaO7
import Derived.Deep.RegionHeld3
import Derived.WalkKit
import Derived.ProofKit
import Derived.OpenShut
import Derived.ShutString
import Derived.ChangeOld
import Derived.Below
namespace Go.Proofs.Ytpjlnanalielmaa.slotUnlike
open Go.ChangeShapes Go.WideShapes Go.ChangeAt Go.RowKit
open Go.ChangeMaps (open_string shut_string)
set_option linter.unusedVariables false

theorem own : ownKnob Try.prog.godebug = none := by kernel_rfl
theorem laidOut : laidOutB Try.prog = true := by kernel_rfl

theorem strNe {l m : List Int} (hl : ∀ c ∈ l, 0 ≤ c ∧ c < 256) (hm : ∀ c ∈ m, 0 ≤ c ∧ c < 256) (h : l ≠ m) : ((strOfNums l).toList == (strOfNums m).toList) = false := by
  rw [beq_eq_false_iff_ne]
  intro e
  rw [ByteArray.toList_eq, ByteArray.toList_eq, strOfNums_data, strOfNums_data] at e
  apply h
  have back : ∀ l : List Int, (∀ c ∈ l, 0 ≤ c ∧ c < 256) → (l.map fun n => UInt8.ofNat n.toNat).map (fun u => (u.toNat : Int)) = l := fun l hl => by
    rw [List.map_map]
    conv => rhs; rw [← List.map_id l]
    apply List.map_congr_left
    intro c hc
    have := hl c hc
    simp only [Function.comp, id]
    have e : (UInt8.ofNat c.toNat).toNat = c.toNat := by
      rw [UInt8.toNat_ofNat']
      exact Nat.mod_eq_of_lt (by omega)
    rw [e]
    omega
  rw [← back l hl, e, back m hm]
def Two (w : World) (X : Nat) (a b d e f h : Int) (x y : Option Addr) (D E : List Int) (W : World) : Prop := Blk W X 24 #[.int .i64 a, .int .i64 b, .int .i64 a, .int .u32 d] ∧ Blk W (X + 1) 24 #[.int .i64 e, .int .i64 f, .int .i64 e, .int .u32 h] ∧ Bytes W x 16 D ∧ Bytes W y 16 E ∧ Below X w W
theorem Two.later {w W W' : World} {X : Nat} {a b d e f h : Int} {x y : Option Addr} {D E : List Int} (H : Two w X a b d e f h x y D E W) (hb : Below W.heap.size W W') : Two w X a b d e f h x y D E W' :=
  ⟨H.1.later hb, H.2.1.later hb, H.2.2.1.later hb, H.2.2.2.1.later hb, H.2.2.2.2.trans (hb.mono (by have := H.1.lt; omega))⟩
theorem Two.cells {w W : World} {X : Nat} {a b d e f h : Int} {x y : Option Addr} {D E : List Int} (H : Two w X a b d e f h x y D E W) {U V : ByteArray} (hU : strOfNums D = U) (hV : strOfNums E = V) (c1 c2 : Nat) :
    (W.cell? ⟨X, 0, none⟩ = some (.int .i64 a) ∧ W.cell? ⟨X, 1, none⟩ = some (.int .i64 b) ∧ W.cell? ⟨X, 2, none⟩ = some (.int .i64 a) ∧ W.cell? ⟨X, 3, none⟩ = some (.int .u32 d)) ∧
    (W.cell? ⟨X + 1, 0, none⟩ = some (.int .i64 e) ∧ W.cell? ⟨X + 1, 1, none⟩ = some (.int .i64 f) ∧ W.cell? ⟨X + 1, 2, none⟩ = some (.int .i64 e) ∧ W.cell? ⟨X + 1, 3, none⟩ = some (.int .u32 h)) ∧
    (convert 25 9 (.slice x 16 c1)).run Try.prog W = .ok (.string U) W ∧ (convert 25 9 (.slice y 16 c2)).run Try.prog W = .ok (.string V) W := by
  refine ⟨cells4 H.1, cells4 H.2.1, ?_, ?_⟩
  · rw [← hU]; exact conv_str H.2.2.1 c1
  · rw [← hV]; exact conv_str H.2.2.2.1 c2
theorem getS15 {l : List Int} (h : l.length = 15) : getS l = none := getS_none (by omega)
theorem getS17 {l : List Int} (h : l.length = 17) : getS l = none := getS_none (by omega)

set_option maxRecDepth 100000 in
set_option maxHeartbeats 4000000 in
theorem walk (a0 : Int) (a1 : Int) (a2 : Int) (a3 : Int) (w : World) (w0 : (Lit.int .u32 a0).wf = true) (w1 : (Lit.int .u32 a1).wf = true) (w2 : (Lit.int .u16 a2).wf = true) (w3 : (Lit.int .u16 a3).wf = true) :
    Calls Try.prog 8 #[.int .u32 a0, .int .u32 a1, .int .u16 a2, .int .u16 a3] w fun e w' => e = .returned (.bool true) ∧ Below w.heap.size w w' := by
  have b0 := bounds_u32 w0
  have b1 := bounds_u32 w1
  have b2 := bounds_u16 w2
  have b3 := bounds_u16 w3
  have hcases : (a2 = a3 ∧ a0 = a1) ∨ (a2 = a3 ∧ a0 ≠ a1) ∨ a2 ≠ a3 := by omega
  obtain ⟨Q1, hQ1⟩ : ∃ Q, 1 + a2 = Q := ⟨_, rfl⟩
  obtain ⟨Q2, hQ2⟩ : ∃ Q, 1 + a3 = Q := ⟨_, rfl⟩
  obtain ⟨R1, hR1⟩ : ∃ R, a3 % 60000 = R := ⟨_, rfl⟩
  obtain ⟨R2, hR2⟩ : ∃ R, a2 % 60000 = R := ⟨_, rfl⟩
  have hR3 : a3.tmod 60000 = R1 := by rw [Int.tmod_eq_emod_of_nonneg (by omega)]; exact hR1
  have hR4 : a2.tmod 60000 = R2 := by rw [Int.tmod_eq_emod_of_nonneg (by omega)]; exact hR2
  obtain ⟨hR5, hR6⟩ : 0 ≤ R1 ∧ R1 < 60000 := by omega
  obtain ⟨hR7, hR8⟩ : 0 ≤ R2 ∧ R2 < 60000 := by omega
  obtain ⟨S1, hS1⟩ : ∃ S, 2 + R1 = S := ⟨_, rfl⟩
  obtain ⟨S2, hS2⟩ : ∃ S, 2 + R2 = S := ⟨_, rfl⟩
  have hq1 : 1 ≤ Q1 := by omega
  have hq2 : Q1 ≤ 65536 := by omega
  have hq3 : 1 ≤ Q2 := by omega
  have hq4 : Q2 ≤ 65536 := by omega
  have hs1 : 2 ≤ S1 := by omega
  have hs2 : S1 ≤ 60001 := by omega
  have hs3 : 2 ≤ S2 := by omega
  have hs4 : S2 ≤ 60001 := by omega
  have ms : May (Q1, S1, Q1, a0) := by unfold May; dsimp only; omega
  have mt : May (Q2, S2, Q2, a1) := by unfold May; dsimp only; omega
  have os : SlOk (Q1, S1, Q1, a0) := by unfold SlOk In64; dsimp only; omega
  have ot : SlOk (Q2, S2, Q2, a1) := by unfold SlOk In64; dsimp only; omega
  have HP : Hid (∀ w, Calls Try.prog 9 #[.agg #[.int .i64 Q1, .int .i64 S1, .int .i64 Q1, .int .u32 a0]] w (PutPost w (slB (Q1, S1, Q1, a0)) 0)) := fun w => slotPut_ok ms os w
  have HP2 : Hid (∀ w, Calls Try.prog 9 #[.agg #[.int .i64 Q2, .int .i64 S2, .int .i64 Q2, .int .u32 a1]] w (PutPost w (slB (Q2, S2, Q2, a1)) 0)) := fun w => slotPut_ok mt ot w
  have hSE : (Q1, S1, Q1, a0) ≠ ((Q2, S2, Q2, a1) : Sl) → ((strOfNums (slB (Q1, S1, Q1, a0))).toList == (strOfNums (slB (Q2, S2, Q2, a1))).toList) = false := fun h => strNe (slB_bd _) (slB_bd _) fun e => h (slB_inj ms mt os ot e)
  have l1 := slB_len (Q1, S1, Q1, a0)
  have l2 := slB_len (Q2, S2, Q2, a1)
  have HG15 : Hid (∀ (a : Option Addr) (c : Nat) (w : World) (l : List Int), Bytes w a 15 l → 15 ≤ c → Calls Try.prog 13 #[.slice a 15 c] w fun e w' => e = .returned (.tuple #[.agg #[.int .i64 0, .int .i64 0, .int .i64 0, .int .u32 0], .int .i64 3]) ∧ Below w.heap.size w w') := fun a c w l h1 h2 => (slotGet_any w a 15 c l h1 h2).mono fun e w' h => by rw [getS15 h1.1] at h; exact h.no
  have HG17 : Hid (∀ (a : Option Addr) (c : Nat) (w : World) (l : List Int), Bytes w a 17 l → 17 ≤ c → Calls Try.prog 13 #[.slice a 17 c] w fun e w' => e = .returned (.tuple #[.agg #[.int .i64 0, .int .i64 0, .int .i64 0, .int .u32 0], .int .i64 3]) ∧ Below w.heap.size w w') := fun a c w l h1 h2 => (slotGet_any w a 17 c l h1 h2).mono fun e w' h => by rw [getS17 h1.1] at h; exact h.no
  obtain ⟨X, hX⟩ := named w.heap.size
  have hXX := hX.out
  clear w0 w1 w2 w3
  rcases hcases with ⟨hc, ha⟩ | ⟨hc, ha⟩ | hc
  · subst hc ha
    obtain rfl : Q1 = Q2 := by omega
    obtain rfl : R1 = R2 := by omega
    obtain rfl : S1 = S2 := by omega
    clear hSE
    obtain ⟨D, hD⟩ := named (slB (Q1, S1, Q1, a0))
    rw [hD.out] at HP HP2 l1 l2
    obtain ⟨U, hU⟩ := named (strOfNums D)
    have HL1 := Lib.hid l1
    have HL2 := Lib.hid l2
    have HX1 : Hid (Blk ((w.alloc (.cells #[.int .i64 Q1, .int .i64 S1, .int .i64 Q1, .int .u32 a0] 24)).alloc (.cells #[.int .i64 Q1, .int .i64 S1, .int .i64 Q1, .int .u32 a0] 24)) X 24 #[.int .i64 Q1, .int .i64 S1, .int .i64 Q1, .int .u32 a0]) := by rw [← hX.out]; exact (Blk.new w _ _).alloc _
    have HY1 : Hid (Blk ((w.alloc (.cells #[.int .i64 Q1, .int .i64 S1, .int .i64 Q1, .int .u32 a0] 24)).alloc (.cells #[.int .i64 Q1, .int .i64 S1, .int .i64 Q1, .int .u32 a0] 24)) (X + 1) 24 #[.int .i64 Q1, .int .i64 S1, .int .i64 Q1, .int .u32 a0]) := by
      have := Blk.new (w.alloc (.cells #[.int .i64 Q1, .int .i64 S1, .int .i64 Q1, .int .u32 a0] 24)) 24 #[.int .i64 Q1, .int .i64 S1, .int .i64 Q1, .int .u32 a0]
      rwa [World.size_alloc, hX.out] at this
    have HG1 : Hid (Below X w ((w.alloc (.cells #[.int .i64 Q1, .int .i64 S1, .int .i64 Q1, .int .u32 a0] 24)).alloc (.cells #[.int .i64 Q1, .int .i64 S1, .int .i64 Q1, .int .u32 a0] 24))) := by rw [← hX.out]; exact ((Below.refl _ _).alloc (Nat.le_refl _) _).alloc (by simp) _
    have HN := Lib.hid (fun w => num_any7 0 w)
    rw [hXX]
    have HSZ : Hid (w.heap.size = X) := hXX
    clear ms mt os ot l1 l2 hD  hX
    go_enter Try.func8, Try.ntmps8
    go_wp2_with (first
      | (go_at_call 9; (with_reducible refine (HP.out _).mono ?_); rintro e wa hp; obtain ⟨xa, ya, rfl, hB, hc, hb⟩ := hp.sized HL1.out; have HBa := Lib.hid hB; have HCa := Lib.hid hc; have HXa := Lib.hid (HX1.out.later hb); have HYa := Lib.hid (HY1.out.later hb); obtain ⟨m0, m1, m2, m3⟩ := cells4 HYa.out; have HGa := Lib.hid (HG1.out.trans (hb.mono (Nat.le_trans (Nat.le_of_eq HSZ.out.symm) HG1.out.size))); clear hp hB hc hb HP)
      | (go_at_call 9; (with_reducible refine (HP2.out _).mono ?_); rintro e wb hp; obtain ⟨xb, yb, rfl, hB, hc, hb⟩ := hp.sized HL2.out; have HT : Hid (Two w X Q1 S1 a0 Q1 S1 a0 xa xb D D wb) := Lib.hid ⟨HXa.out.later hb, HYa.out.later hb, HBa.out.later hb, hB, HGa.out.trans (hb.mono (Nat.le_trans (Nat.le_of_eq HSZ.out.symm) HGa.out.size))⟩; clear hp hB hc hb HP2 m0 m1 m2 m3))
    have HTD : Hid (Two w X Q1 S1 a0 Q1 S1 a0 xa xb D D wb.drew) := Lib.hid (HT.out.later (Below.refl _ _).drew)
    refine wp_region_held_drew (S := fun W' => Two w X Q1 S1 a0 Q1 S1 a0 xa xb D D W') (by kernel_rfl) (by exact HTD.out) (fun hHeld => ?_)
    refine wpAnyH_take (i := 0) (oi := _) (v := ?va0) rfl (by kernel_rfl) (by kernel_rfl) (by kernel_rfl) (fun _ _ _ h => h) (Or.inl ⟨by rfl, ?hya0⟩) (by assumption) ?resta0
    case hya0 => (intro wz hSw; obtain ⟨⟨s0, s1, s2, s3⟩, ⟨s4, s5, s6, s7⟩, s8, s9⟩ := hSw.cells hU.out hU.out ya yb; go_simp; try with_reducible rfl)
    (try simp only [List.getElem_toArray, List.getElem_cons_zero, Act.put, List.setIfInBounds_toArray, List.set_cons_zero, List.set_cons_succ])
    refine wpAnyH_ready (rs := [1]) (by kernel_rfl) (by simp) ?_
    refine AllReadyH.cons (o := _) rfl (fun K hK => ?_) AllReadyH.nil
    rw [if_pos (by rfl)]
    go_simp
    (go_at_call 11; (with_reducible refine (HN.out _).mono ?_); rintro e wn ⟨rfl, rfl⟩)
    dsimp only
    refine hK.out _ _ (by exact HTD.out) (fun hHeld => ?_)
    clear hK K
    (try simp only [List.getElem_toArray, List.getElem_cons_zero, List.getElem_cons_succ, Act.put, List.setIfInBounds_toArray, List.set_cons_zero, List.set_cons_succ])
    refine wpAnyH_take (i := 2) (oi := _) (v := ?va2) rfl (by kernel_rfl) (by kernel_rfl) (by kernel_rfl) (fun _ _ _ h => h) (Or.inl ⟨by rfl, ?hya2⟩) (by assumption) ?resta2
    case hya2 => (intro wz hSw; obtain ⟨⟨s0, s1, s2, s3⟩, ⟨s4, s5, s6, s7⟩, s8, s9⟩ := hSw.cells hU.out hU.out ya yb; go_simp; try with_reducible rfl)
    (try simp only [List.getElem_toArray, List.getElem_cons_zero, List.getElem_cons_succ, Act.put, List.setIfInBounds_toArray, List.set_cons_zero, List.set_cons_succ])
    refine wpAnyH_take (i := 3) (oi := _) (v := ?va3) rfl (by kernel_rfl) (by kernel_rfl) (by kernel_rfl) (fun _ _ _ h => h) (Or.inl ⟨by rfl, ?hya3⟩) (by assumption) ?resta3
    case hya3 => (intro wz hSw; obtain ⟨⟨s0, s1, s2, s3⟩, ⟨s4, s5, s6, s7⟩, s8, s9⟩ := hSw.cells hU.out hU.out ya yb; go_simp; try with_reducible rfl)
    (try simp only [List.getElem_toArray, List.getElem_cons_zero, List.getElem_cons_succ, Act.put, List.setIfInBounds_toArray, List.set_cons_zero, List.set_cons_succ])
    refine wpAnyH_take (i := 4) (oi := _) (v := ?va4) rfl (by kernel_rfl) (by kernel_rfl) (by kernel_rfl) (fun _ _ _ h => h) (Or.inl ⟨by rfl, ?hya4⟩) (by assumption) ?resta4
    case hya4 => (intro wz hSw; obtain ⟨⟨s0, s1, s2, s3⟩, ⟨s4, s5, s6, s7⟩, s8, s9⟩ := hSw.cells hU.out hU.out ya yb; go_simp; try with_reducible rfl)
    (try simp only [List.getElem_toArray, List.getElem_cons_zero, List.getElem_cons_succ, Act.put, List.setIfInBounds_toArray, List.set_cons_zero, List.set_cons_succ])
    refine wpAnyH_ready (rs := [5]) (by kernel_rfl) (by simp) ?_
    refine AllReadyH.cons (o := _) rfl (fun K hK => ?_) AllReadyH.nil
    rw [if_pos (by rfl)]
    go_simp
    (go_at_call 11; (with_reducible refine (HN.out _).mono ?_); rintro e wn ⟨rfl, rfl⟩)
    dsimp only
    refine hK.out _ _ (by exact HTD.out) (fun hHeld => ?_)
    clear hK K
    (try simp only [List.getElem_toArray, List.getElem_cons_zero, List.getElem_cons_succ, Act.put, List.setIfInBounds_toArray, List.set_cons_zero, List.set_cons_succ])
    refine wpAnyH_take (i := 6) (oi := _) (v := ?va6) rfl (by kernel_rfl) (by kernel_rfl) (by kernel_rfl) (fun _ _ _ h => h) (Or.inl ⟨by rfl, ?hya6⟩) (by assumption) ?resta6
    case hya6 => (intro wz hSw; obtain ⟨⟨s0, s1, s2, s3⟩, ⟨s4, s5, s6, s7⟩, s8, s9⟩ := hSw.cells hU.out hU.out ya yb; go_simp; try with_reducible rfl)
    (try simp only [List.getElem_toArray, List.getElem_cons_zero, List.getElem_cons_succ, Act.put, List.setIfInBounds_toArray, List.set_cons_zero, List.set_cons_succ])
    refine wpAnyH_take (i := 7) (oi := _) (v := ?va7) rfl (by kernel_rfl) (by kernel_rfl) (by kernel_rfl) (fun _ _ _ h => h) (Or.inl ⟨by rfl, ?hya7⟩) (by assumption) ?resta7
    case hya7 => (intro wz hSw; obtain ⟨⟨s0, s1, s2, s3⟩, ⟨s4, s5, s6, s7⟩, s8, s9⟩ := hSw.cells hU.out hU.out ya yb; go_simp; try with_reducible rfl)
    (try simp only [List.getElem_toArray, List.getElem_cons_zero, List.getElem_cons_succ, Act.put, List.setIfInBounds_toArray, List.set_cons_zero, List.set_cons_succ])
    refine wpAnyH_take (i := 8) (oi := _) (v := ?va8) rfl (by kernel_rfl) (by kernel_rfl) (by kernel_rfl) (fun _ _ _ h => h) (Or.inl ⟨by rfl, ?hya8⟩) (by assumption) ?resta8
    case hya8 => (intro wz hSw; obtain ⟨⟨s0, s1, s2, s3⟩, ⟨s4, s5, s6, s7⟩, s8, s9⟩ := hSw.cells hU.out hU.out ya yb; go_simp; try with_reducible rfl)
    (try simp only [List.getElem_toArray, List.getElem_cons_zero, List.getElem_cons_succ, Act.put, List.setIfInBounds_toArray, List.set_cons_zero, List.set_cons_succ])
    refine wpAnyH_take (i := 9) (oi := _) (v := ?va9) rfl (by kernel_rfl) (by kernel_rfl) (by kernel_rfl) (fun _ _ _ h => h) (Or.inl ⟨by rfl, ?hya9⟩) (by assumption) ?resta9
    case hya9 => (intro wz hSw; obtain ⟨⟨s0, s1, s2, s3⟩, ⟨s4, s5, s6, s7⟩, s8, s9⟩ := hSw.cells hU.out hU.out ya yb; go_simp; try with_reducible rfl)
    (try simp only [List.getElem_toArray, List.getElem_cons_zero, List.getElem_cons_succ, Act.put, List.setIfInBounds_toArray, List.set_cons_zero, List.set_cons_succ])
    refine wpAnyH_take (i := 10) (oi := _) (v := ?va10) rfl (by kernel_rfl) (by kernel_rfl) (by kernel_rfl) (fun _ _ _ h => h) (Or.inl ⟨by rfl, ?hya10⟩) (by assumption) ?resta10
    case hya10 => (intro wz hSw; obtain ⟨⟨s0, s1, s2, s3⟩, ⟨s4, s5, s6, s7⟩, s8, s9⟩ := hSw.cells hU.out hU.out ya yb; go_simp; try with_reducible rfl)
    (try simp only [List.getElem_toArray, List.getElem_cons_zero, List.getElem_cons_succ, Act.put, List.setIfInBounds_toArray, List.set_cons_zero, List.set_cons_succ])
    refine wpAnyH_take (i := 11) (oi := _) (v := ?va11) rfl (by kernel_rfl) (by kernel_rfl) (by kernel_rfl) (fun _ _ _ h => h) (Or.inl ⟨by rfl, ?hya11⟩) (by assumption) ?resta11
    case hya11 => (intro wz hSw; obtain ⟨⟨s0, s1, s2, s3⟩, ⟨s4, s5, s6, s7⟩, s8, s9⟩ := hSw.cells hU.out hU.out ya yb; go_simp; try with_reducible rfl)
    (try simp only [List.getElem_toArray, List.getElem_cons_zero, List.getElem_cons_succ, Act.put, List.setIfInBounds_toArray, List.set_cons_zero, List.set_cons_succ])
    refine wpAnyH_take (i := 12) (oi := _) (v := ?va12) rfl (by kernel_rfl) (by kernel_rfl) (by kernel_rfl) (fun _ _ _ h => h) (Or.inl ⟨by rfl, ?hya12⟩) (by assumption) ?resta12
    case hya12 => (intro wz hSw; obtain ⟨⟨s0, s1, s2, s3⟩, ⟨s4, s5, s6, s7⟩, s8, s9⟩ := hSw.cells hU.out hU.out ya yb; go_simp; try with_reducible rfl)
    (try simp only [List.getElem_toArray, List.getElem_cons_zero, List.getElem_cons_succ, Act.put, List.setIfInBounds_toArray, List.set_cons_zero, List.set_cons_succ])
    refine wpAnyH_take (i := 13) (oi := _) (v := ?va13) rfl (by kernel_rfl) (by kernel_rfl) (by kernel_rfl) (fun _ _ _ h => h) (Or.inl ⟨by rfl, ?hya13⟩) (by assumption) ?resta13
    case hya13 => (intro wz hSw; obtain ⟨⟨s0, s1, s2, s3⟩, ⟨s4, s5, s6, s7⟩, s8, s9⟩ := hSw.cells hU.out hU.out ya yb; go_simp; try with_reducible rfl)
    (try simp only [List.getElem_toArray, List.getElem_cons_zero, List.getElem_cons_succ, Act.put, List.setIfInBounds_toArray, List.set_cons_zero, List.set_cons_succ])
    refine wpAnyH_take (i := 14) (oi := _) (v := ?va14) rfl (by kernel_rfl) (by kernel_rfl) (by kernel_rfl) (fun _ _ _ h => h) (Or.inl ⟨by rfl, ?hya14⟩) (by assumption) ?resta14
    case hya14 => (intro wz hSw; obtain ⟨⟨s0, s1, s2, s3⟩, ⟨s4, s5, s6, s7⟩, s8, s9⟩ := hSw.cells hU.out hU.out ya yb; go_simp; try with_reducible rfl)
    (try simp only [List.getElem_toArray, List.getElem_cons_zero, List.getElem_cons_succ, Act.put, List.setIfInBounds_toArray, List.set_cons_zero, List.set_cons_succ])
    refine wpAnyH_take (i := 15) (oi := _) (v := ?va15) rfl (by kernel_rfl) (by kernel_rfl) (by kernel_rfl) (fun _ _ _ h => h) (Or.inl ⟨by rfl, ?hya15⟩) (by assumption) ?resta15
    case hya15 => (intro wz hSw; obtain ⟨⟨s0, s1, s2, s3⟩, ⟨s4, s5, s6, s7⟩, s8, s9⟩ := hSw.cells hU.out hU.out ya yb; go_simp; try with_reducible rfl)
    (try simp only [List.getElem_toArray, List.getElem_cons_zero, List.getElem_cons_succ, Act.put, List.setIfInBounds_toArray, List.set_cons_zero, List.set_cons_succ])
    refine wpAnyH_take (i := 16) (oi := _) (v := ?va16) rfl (by kernel_rfl) (by kernel_rfl) (by kernel_rfl) (fun _ _ _ h => h) (Or.inl ⟨by rfl, ?hya16⟩) (by assumption) ?resta16
    case hya16 => (intro wz hSw; obtain ⟨⟨s0, s1, s2, s3⟩, ⟨s4, s5, s6, s7⟩, s8, s9⟩ := hSw.cells hU.out hU.out ya yb; go_simp; try with_reducible rfl)
    (try simp only [List.getElem_toArray, List.getElem_cons_zero, List.getElem_cons_succ, Act.put, List.setIfInBounds_toArray, List.set_cons_zero, List.set_cons_succ])
    refine wpAnyH_take (i := 17) (oi := _) (v := ?va17) rfl (by kernel_rfl) (by kernel_rfl) (by kernel_rfl) (fun _ _ _ h => h) (Or.inl ⟨by rfl, ?hya17⟩) (by assumption) ?resta17
    case hya17 => (intro wz hSw; obtain ⟨⟨s0, s1, s2, s3⟩, ⟨s4, s5, s6, s7⟩, s8, s9⟩ := hSw.cells hU.out hU.out ya yb; go_simp; try with_reducible rfl)
    (try simp only [List.getElem_toArray, List.getElem_cons_zero, List.getElem_cons_succ, Act.put, List.setIfInBounds_toArray, List.set_cons_zero, List.set_cons_succ])
    refine wpAnyH_take (i := 18) (oi := _) (v := ?va18) rfl (by kernel_rfl) (by kernel_rfl) (by kernel_rfl) (fun _ _ _ h => h) (Or.inl ⟨by rfl, ?hya18⟩) (by assumption) ?resta18
    case hya18 => (intro wz hSw; obtain ⟨⟨s0, s1, s2, s3⟩, ⟨s4, s5, s6, s7⟩, s8, s9⟩ := hSw.cells hU.out hU.out ya yb; go_simp; try with_reducible rfl)
    (try simp only [List.getElem_toArray, List.getElem_cons_zero, List.getElem_cons_succ, Act.put, List.setIfInBounds_toArray, List.set_cons_zero, List.set_cons_succ])
    refine wpAnyH_take (i := 19) (oi := _) (v := ?va19) rfl (by kernel_rfl) (by kernel_rfl) (by kernel_rfl) (fun _ _ _ h => h) (Or.inl ⟨by rfl, ?hya19⟩) (by assumption) ?resta19
    case hya19 => (intro wz hSw; obtain ⟨⟨s0, s1, s2, s3⟩, ⟨s4, s5, s6, s7⟩, s8, s9⟩ := hSw.cells hU.out hU.out ya yb; go_simp; try with_reducible rfl)
    (try simp only [List.getElem_toArray, List.getElem_cons_zero, List.getElem_cons_succ, Act.put, List.setIfInBounds_toArray, List.set_cons_zero, List.set_cons_succ])
    refine wpAnyH_take (i := 20) (oi := _) (v := ?va20) rfl (by kernel_rfl) (by kernel_rfl) (by kernel_rfl) (fun _ _ _ h => h) (Or.inl ⟨by rfl, ?hya20⟩) (by assumption) ?resta20
    case hya20 => (intro wz hSw; obtain ⟨⟨s0, s1, s2, s3⟩, ⟨s4, s5, s6, s7⟩, s8, s9⟩ := hSw.cells hU.out hU.out ya yb; go_simp; try with_reducible rfl)
    (try simp only [List.getElem_toArray, List.getElem_cons_zero, List.getElem_cons_succ, Act.put, List.setIfInBounds_toArray, List.set_cons_zero, List.set_cons_succ])
    refine wpAnyH_take (i := 21) (oi := _) (v := ?va21) rfl (by kernel_rfl) (by kernel_rfl) (by kernel_rfl) (fun _ _ _ h => h) (Or.inl ⟨by rfl, ?hya21⟩) (by assumption) ?resta21
    case hya21 => (intro wz hSw; obtain ⟨⟨s0, s1, s2, s3⟩, ⟨s4, s5, s6, s7⟩, s8, s9⟩ := hSw.cells hU.out hU.out ya yb; go_simp; try with_reducible rfl)
    (try simp only [List.getElem_toArray, List.getElem_cons_zero, List.getElem_cons_succ, Act.put, List.setIfInBounds_toArray, List.set_cons_zero, List.set_cons_succ])
    refine wpAnyH_take (i := 22) (oi := _) (v := ?va22) rfl (by kernel_rfl) (by kernel_rfl) (by kernel_rfl) (fun _ _ _ h => h) (Or.inl ⟨by rfl, ?hya22⟩) (by assumption) ?resta22
    case hya22 => (intro wz hSw; obtain ⟨⟨s0, s1, s2, s3⟩, ⟨s4, s5, s6, s7⟩, s8, s9⟩ := hSw.cells hU.out hU.out ya yb; go_simp; try with_reducible rfl)
    (try simp only [List.getElem_toArray, List.getElem_cons_zero, List.getElem_cons_succ, Act.put, List.setIfInBounds_toArray, List.set_cons_zero, List.set_cons_succ])
    refine wpAnyH_take (i := 23) (oi := _) (v := ?va23) rfl (by kernel_rfl) (by kernel_rfl) (by kernel_rfl) (fun _ _ _ h => h) (Or.inl ⟨by rfl, ?hya23⟩) (by assumption) ?resta23
    case hya23 => (intro wz hSw; obtain ⟨⟨s0, s1, s2, s3⟩, ⟨s4, s5, s6, s7⟩, s8, s9⟩ := hSw.cells hU.out hU.out ya yb; go_simp; try with_reducible rfl)
    (try simp only [List.getElem_toArray, List.getElem_cons_zero, List.getElem_cons_succ, Act.put, List.setIfInBounds_toArray, List.set_cons_zero, List.set_cons_succ])
    refine wpAnyH_done (by kernel_rfl) ?_ _
    obtain ⟨xs, hsl, hBs, hns⟩ := slice_front HTD.out.2.2.1 HCa.out.2 HCa.out.1 15 (by omega)
    have hsl' : ∀ w' : World, (Instr.slice 25 (.slice xa 16 ya) none (some (.int .i64 15)) none).run Try.prog w' = .ok (.slice xs 15 ya) w' := hsl
    have HBS := Lib.hid hBs
    clear hsl hBs hns
    go_wp2_with (first
      | (go_at_call 11; go_in)
      | (go_at_call 13; (with_reducible refine (HG15.out _ _ _ _ HBS.out (Nat.le_trans (by omega) HCa.out.2)).mono ?_); rintro e wc ⟨rfl, hb⟩; have HTC := Lib.hid ((HTD.out.later hb).later (((Below.refl wc.heap.size wc).alloc (Nat.le_refl _) (.cells #[.int .i64 0, .int .i64 0, .int .i64 0, .int .u32 0] 24)))); have HXC : Hid (X ≤ wc.heap.size + 1) := (by have h := HTC.out.2.2.2.2.size; rw [World.size_alloc] at h; have := HSZ.out; show X ≤ wc.heap.size + 1; omega); clear hb HG15)
      | (at_builtin; refine append_copy rfl (.tmp 84) (.tmp 85) rfl (wc.heap.size + 1) (by simp [Act.eval]) _ 16 _ D rfl HCa.out.1 HTC.out.2.2.1 (by omega) (by simp) ?_; intro x6 c6 w6 g1 g2; have HO6 := Lib.hid g1; have HT6 := Lib.hid (HTC.out.later g2); have hw6 : wc.heap.size + 1 ≤ w6.heap.size := (by have := g2.size; simpa using this); clear g1 g2)
      | (at_builtin; refine append_more rfl (.tmp 86) (.tmp 87) rfl (wc.heap.size + 1) _ 16 D rfl (HO6.out.alloc _) _ 1 1 [0] rfl (fun e => by cases e) (one_byte _ 0 (by omega)) (by omega) (by simp; omega) ?_; intro x7 c7 w7 g1 g2; have HO7 := Lib.hid g1; have HG7 := Lib.hid ((HT6.out.2.2.2.2.alloc (Nat.le_trans HXC.out hw6) (.cells #[.int .u8 0] 5)).trans (g2.mono HXC.out)); clear g1 g2)
      | (go_at_call 13; (with_reducible refine (HG17.out _ _ _ _ HO7.out.bytes.1 HO7.out.capOk).mono ?_); rintro e w8 ⟨rfl, hb⟩; have HG8 := Lib.hid (HG7.out.trans (hb.mono (Nat.le_trans (Nat.le_of_eq HSZ.out.symm) HG7.out.size))); have HG9 := Lib.hid (HG8.out.alloc (Nat.le_trans (Nat.le_of_eq HSZ.out.symm) HG8.out.size) (.cells #[.int .i64 0, .int .i64 0, .int .i64 0, .int .u32 0] 24)); clear hb HG17)
      | (go_at_call 12; refine (awake_any7 _).mono ?_; rintro e wz ⟨rfl, hb⟩; have HZ := Lib.hid (HG9.out.trans (hb.mono (Nat.le_trans (Nat.le_of_eq HSZ.out.symm) HG9.out.size))); clear hb))
    go_ret
    exact ⟨rfl, HZ.out⟩
  · subst hc
    obtain rfl : Q1 = Q2 := by omega
    obtain rfl : R1 = R2 := by omega
    obtain rfl : S1 = S2 := by omega
    have hse := hSE (fun e => ha (congrArg (fun x : Sl => x.2.2.2) e))
    clear hSE
    obtain ⟨D, hD⟩ := named (slB (Q1, S1, Q1, a0))
    obtain ⟨E, hE⟩ := named (slB (Q1, S1, Q1, a1))
    rw [hD.out] at HP l1 hse
    rw [hE.out] at HP2 l2 hse
    obtain ⟨U, hU⟩ := named (strOfNums D)
    obtain ⟨V, hV⟩ := named (strOfNums E)
    rw [hU.out, hV.out] at hse
    have HL1 := Lib.hid l1
    have HL2 := Lib.hid l2
    have HX1 : Hid (Blk ((w.alloc (.cells #[.int .i64 Q1, .int .i64 S1, .int .i64 Q1, .int .u32 a0] 24)).alloc (.cells #[.int .i64 Q1, .int .i64 S1, .int .i64 Q1, .int .u32 a1] 24)) X 24 #[.int .i64 Q1, .int .i64 S1, .int .i64 Q1, .int .u32 a0]) := by rw [← hX.out]; exact (Blk.new w _ _).alloc _
    have HY1 : Hid (Blk ((w.alloc (.cells #[.int .i64 Q1, .int .i64 S1, .int .i64 Q1, .int .u32 a0] 24)).alloc (.cells #[.int .i64 Q1, .int .i64 S1, .int .i64 Q1, .int .u32 a1] 24)) (X + 1) 24 #[.int .i64 Q1, .int .i64 S1, .int .i64 Q1, .int .u32 a1]) := by
      have := Blk.new (w.alloc (.cells #[.int .i64 Q1, .int .i64 S1, .int .i64 Q1, .int .u32 a0] 24)) 24 #[.int .i64 Q1, .int .i64 S1, .int .i64 Q1, .int .u32 a1]
      rwa [World.size_alloc, hX.out] at this
    have HG1 : Hid (Below X w ((w.alloc (.cells #[.int .i64 Q1, .int .i64 S1, .int .i64 Q1, .int .u32 a0] 24)).alloc (.cells #[.int .i64 Q1, .int .i64 S1, .int .i64 Q1, .int .u32 a1] 24))) := by rw [← hX.out]; exact ((Below.refl _ _).alloc (Nat.le_refl _) _).alloc (by simp) _
    have HN := Lib.hid (fun w => num_any7 0 w)
    rw [hXX]
    have HSZ : Hid (w.heap.size = X) := hXX
    clear ms mt os ot l1 l2 hD hE hX
    go_enter Try.func8, Try.ntmps8
    go_wp2_with (first
      | (go_at_call 9; (with_reducible refine (HP.out _).mono ?_); rintro e wa hp; obtain ⟨xa, ya, rfl, hB, hc, hb⟩ := hp.sized HL1.out; have HBa := Lib.hid hB; have HCa := Lib.hid hc; have HXa := Lib.hid (HX1.out.later hb); have HYa := Lib.hid (HY1.out.later hb); obtain ⟨m0, m1, m2, m3⟩ := cells4 HYa.out; have HGa := Lib.hid (HG1.out.trans (hb.mono (Nat.le_trans (Nat.le_of_eq HSZ.out.symm) HG1.out.size))); clear hp hB hc hb HP)
      | (go_at_call 9; (with_reducible refine (HP2.out _).mono ?_); rintro e wb hp; obtain ⟨xb, yb, rfl, hB, hc, hb⟩ := hp.sized HL2.out; have HT : Hid (Two w X Q1 S1 a0 Q1 S1 a1 xa xb D E wb) := Lib.hid ⟨HXa.out.later hb, HYa.out.later hb, HBa.out.later hb, hB, HGa.out.trans (hb.mono (Nat.le_trans (Nat.le_of_eq HSZ.out.symm) HGa.out.size))⟩; clear hp hB hc hb HP2 m0 m1 m2 m3))
    have HTD : Hid (Two w X Q1 S1 a0 Q1 S1 a1 xa xb D E wb.drew) := Lib.hid (HT.out.later (Below.refl _ _).drew)
    refine wp_region_held_drew (S := fun W' => Two w X Q1 S1 a0 Q1 S1 a1 xa xb D E W') (by kernel_rfl) (by exact HTD.out) (fun hHeld => ?_)
    refine wpAnyH_take (i := 0) (oi := _) (v := ?vb0) rfl (by kernel_rfl) (by kernel_rfl) (by kernel_rfl) (fun _ _ _ h => h) (Or.inl ⟨by rfl, ?hyb0⟩) (by assumption) ?restb0
    case hyb0 => (intro wz hSw; obtain ⟨⟨s0, s1, s2, s3⟩, ⟨s4, s5, s6, s7⟩, s8, s9⟩ := hSw.cells hU.out hV.out ya yb; go_simp; try with_reducible rfl)
    (try simp only [List.getElem_toArray, List.getElem_cons_zero, Act.put, List.setIfInBounds_toArray, List.set_cons_zero, List.set_cons_succ])
    refine wpAnyH_ready (rs := [1]) (by kernel_rfl) (by simp) ?_
    refine AllReadyH.cons (o := _) rfl (fun K hK => ?_) AllReadyH.nil
    rw [if_pos (by rfl)]
    go_simp
    (go_at_call 11; (with_reducible refine (HN.out _).mono ?_); rintro e wn ⟨rfl, rfl⟩)
    dsimp only
    refine hK.out _ _ (by exact HTD.out) (fun hHeld => ?_)
    clear hK K
    (try simp only [List.getElem_toArray, List.getElem_cons_zero, List.getElem_cons_succ, Act.put, List.setIfInBounds_toArray, List.set_cons_zero, List.set_cons_succ])
    refine wpAnyH_take (i := 2) (oi := _) (v := ?vb2) rfl (by kernel_rfl) (by kernel_rfl) (by kernel_rfl) (fun _ _ _ h => h) (Or.inl ⟨by rfl, ?hyb2⟩) (by assumption) ?restb2
    case hyb2 => (intro wz hSw; obtain ⟨⟨s0, s1, s2, s3⟩, ⟨s4, s5, s6, s7⟩, s8, s9⟩ := hSw.cells hU.out hV.out ya yb; go_simp; try with_reducible rfl)
    (try simp only [List.getElem_toArray, List.getElem_cons_zero, List.getElem_cons_succ, Act.put, List.setIfInBounds_toArray, List.set_cons_zero, List.set_cons_succ])
    refine wpAnyH_take (i := 3) (oi := _) (v := ?vb3) rfl (by kernel_rfl) (by kernel_rfl) (by kernel_rfl) (fun _ _ _ h => h) (Or.inl ⟨by rfl, ?hyb3⟩) (by assumption) ?restb3
    case hyb3 => (intro wz hSw; obtain ⟨⟨s0, s1, s2, s3⟩, ⟨s4, s5, s6, s7⟩, s8, s9⟩ := hSw.cells hU.out hV.out ya yb; go_simp; try with_reducible rfl)
    (try simp only [List.getElem_toArray, List.getElem_cons_zero, List.getElem_cons_succ, Act.put, List.setIfInBounds_toArray, List.set_cons_zero, List.set_cons_succ])
    refine wpAnyH_take (i := 4) (oi := _) (v := ?vb4) rfl (by kernel_rfl) (by kernel_rfl) (by kernel_rfl) (fun _ _ _ h => h) (Or.inl ⟨by rfl, ?hyb4⟩) (by assumption) ?restb4
    case hyb4 => (intro wz hSw; obtain ⟨⟨s0, s1, s2, s3⟩, ⟨s4, s5, s6, s7⟩, s8, s9⟩ := hSw.cells hU.out hV.out ya yb; go_simp; try with_reducible rfl)
    (try simp only [List.getElem_toArray, List.getElem_cons_zero, List.getElem_cons_succ, Act.put, List.setIfInBounds_toArray, List.set_cons_zero, List.set_cons_succ])
    refine wpAnyH_ready (rs := [5]) (by kernel_rfl) (by simp) ?_
    refine AllReadyH.cons (o := _) rfl (fun K hK => ?_) AllReadyH.nil
    rw [if_pos (by rfl)]
    go_simp
    (go_at_call 11; (with_reducible refine (HN.out _).mono ?_); rintro e wn ⟨rfl, rfl⟩)
    dsimp only
    refine hK.out _ _ (by exact HTD.out) (fun hHeld => ?_)
    clear hK K
    (try simp only [List.getElem_toArray, List.getElem_cons_zero, List.getElem_cons_succ, Act.put, List.setIfInBounds_toArray, List.set_cons_zero, List.set_cons_succ])
    refine wpAnyH_take (i := 6) (oi := _) (v := ?vb6) rfl (by kernel_rfl) (by kernel_rfl) (by kernel_rfl) (fun _ _ _ h => h) (Or.inl ⟨by rfl, ?hyb6⟩) (by assumption) ?restb6
    case hyb6 => (intro wz hSw; obtain ⟨⟨s0, s1, s2, s3⟩, ⟨s4, s5, s6, s7⟩, s8, s9⟩ := hSw.cells hU.out hV.out ya yb; go_simp; try with_reducible rfl)
    (try simp only [List.getElem_toArray, List.getElem_cons_zero, List.getElem_cons_succ, Act.put, List.setIfInBounds_toArray, List.set_cons_zero, List.set_cons_succ])
    refine wpAnyH_take (i := 7) (oi := _) (v := ?vb7) rfl (by kernel_rfl) (by kernel_rfl) (by kernel_rfl) (fun _ _ _ h => h) (Or.inl ⟨by rfl, ?hyb7⟩) (by assumption) ?restb7
    case hyb7 => (intro wz hSw; obtain ⟨⟨s0, s1, s2, s3⟩, ⟨s4, s5, s6, s7⟩, s8, s9⟩ := hSw.cells hU.out hV.out ya yb; go_simp; try with_reducible rfl)
    (try simp only [List.getElem_toArray, List.getElem_cons_zero, List.getElem_cons_succ, Act.put, List.setIfInBounds_toArray, List.set_cons_zero, List.set_cons_succ])
    refine wpAnyH_take (i := 8) (oi := _) (v := ?vb8) rfl (by kernel_rfl) (by kernel_rfl) (by kernel_rfl) (fun _ _ _ h => h) (Or.inl ⟨by rfl, ?hyb8⟩) (by assumption) ?restb8
    case hyb8 => (intro wz hSw; obtain ⟨⟨s0, s1, s2, s3⟩, ⟨s4, s5, s6, s7⟩, s8, s9⟩ := hSw.cells hU.out hV.out ya yb; go_simp; try with_reducible rfl)
    (try simp only [List.getElem_toArray, List.getElem_cons_zero, List.getElem_cons_succ, Act.put, List.setIfInBounds_toArray, List.set_cons_zero, List.set_cons_succ])
    refine wpAnyH_take (i := 9) (oi := _) (v := ?vb9) rfl (by kernel_rfl) (by kernel_rfl) (by kernel_rfl) (fun _ _ _ h => h) (Or.inl ⟨by rfl, ?hyb9⟩) (by assumption) ?restb9
    case hyb9 => (intro wz hSw; obtain ⟨⟨s0, s1, s2, s3⟩, ⟨s4, s5, s6, s7⟩, s8, s9⟩ := hSw.cells hU.out hV.out ya yb; go_simp; try with_reducible rfl)
    (try simp only [List.getElem_toArray, List.getElem_cons_zero, List.getElem_cons_succ, Act.put, List.setIfInBounds_toArray, List.set_cons_zero, List.set_cons_succ])
    refine wpAnyH_take (i := 10) (oi := _) (v := ?vb10) rfl (by kernel_rfl) (by kernel_rfl) (by kernel_rfl) (fun _ _ _ h => h) (Or.inl ⟨by rfl, ?hyb10⟩) (by assumption) ?restb10
    case hyb10 => (intro wz hSw; obtain ⟨⟨s0, s1, s2, s3⟩, ⟨s4, s5, s6, s7⟩, s8, s9⟩ := hSw.cells hU.out hV.out ya yb; go_simp; try with_reducible rfl)
    (try simp only [List.getElem_toArray, List.getElem_cons_zero, List.getElem_cons_succ, Act.put, List.setIfInBounds_toArray, List.set_cons_zero, List.set_cons_succ])
    refine wpAnyH_take (i := 11) (oi := _) (v := ?vb11) rfl (by kernel_rfl) (by kernel_rfl) (by kernel_rfl) (fun _ _ _ h => h) (Or.inl ⟨by rfl, ?hyb11⟩) (by assumption) ?restb11
    case hyb11 => (intro wz hSw; obtain ⟨⟨s0, s1, s2, s3⟩, ⟨s4, s5, s6, s7⟩, s8, s9⟩ := hSw.cells hU.out hV.out ya yb; go_simp; try with_reducible rfl)
    (try simp only [List.getElem_toArray, List.getElem_cons_zero, List.getElem_cons_succ, Act.put, List.setIfInBounds_toArray, List.set_cons_zero, List.set_cons_succ])
    refine wpAnyH_take (i := 12) (oi := _) (v := ?vb12) rfl (by kernel_rfl) (by kernel_rfl) (by kernel_rfl) (fun _ _ _ h => h) (Or.inl ⟨by rfl, ?hyb12⟩) (by assumption) ?restb12
    case hyb12 => (intro wz hSw; obtain ⟨⟨s0, s1, s2, s3⟩, ⟨s4, s5, s6, s7⟩, s8, s9⟩ := hSw.cells hU.out hV.out ya yb; go_simp; try with_reducible rfl)
    (try simp only [List.getElem_toArray, List.getElem_cons_zero, List.getElem_cons_succ, Act.put, List.setIfInBounds_toArray, List.set_cons_zero, List.set_cons_succ])
    refine wpAnyH_take (i := 13) (oi := _) (v := ?vb13) rfl (by kernel_rfl) (by kernel_rfl) (by kernel_rfl) (fun _ _ _ h => h) (Or.inl ⟨by rfl, ?hyb13⟩) (by assumption) ?restb13
    case hyb13 => (intro wz hSw; obtain ⟨⟨s0, s1, s2, s3⟩, ⟨s4, s5, s6, s7⟩, s8, s9⟩ := hSw.cells hU.out hV.out ya yb; go_simp; try with_reducible rfl)
    (try simp only [List.getElem_toArray, List.getElem_cons_zero, List.getElem_cons_succ, Act.put, List.setIfInBounds_toArray, List.set_cons_zero, List.set_cons_succ])
    refine wpAnyH_take (i := 14) (oi := _) (v := ?vb14) rfl (by kernel_rfl) (by kernel_rfl) (by kernel_rfl) (fun _ _ _ h => h) (Or.inl ⟨by rfl, ?hyb14⟩) (by assumption) ?restb14
    case hyb14 => (intro wz hSw; obtain ⟨⟨s0, s1, s2, s3⟩, ⟨s4, s5, s6, s7⟩, s8, s9⟩ := hSw.cells hU.out hV.out ya yb; go_simp; try with_reducible rfl)
    (try simp only [List.getElem_toArray, List.getElem_cons_zero, List.getElem_cons_succ, Act.put, List.setIfInBounds_toArray, List.set_cons_zero, List.set_cons_succ])
    refine wpAnyH_take (i := 15) (oi := _) (v := ?vb15) rfl (by kernel_rfl) (by kernel_rfl) (by kernel_rfl) (fun _ _ _ h => h) (Or.inl ⟨by rfl, ?hyb15⟩) (by assumption) ?restb15
    case hyb15 => (intro wz hSw; obtain ⟨⟨s0, s1, s2, s3⟩, ⟨s4, s5, s6, s7⟩, s8, s9⟩ := hSw.cells hU.out hV.out ya yb; go_simp; try with_reducible rfl)
    (try simp only [List.getElem_toArray, List.getElem_cons_zero, List.getElem_cons_succ, Act.put, List.setIfInBounds_toArray, List.set_cons_zero, List.set_cons_succ])
    refine wpAnyH_take (i := 16) (oi := _) (v := ?vb16) rfl (by kernel_rfl) (by kernel_rfl) (by kernel_rfl) (fun _ _ _ h => h) (Or.inl ⟨by rfl, ?hyb16⟩) (by assumption) ?restb16
    case hyb16 => (intro wz hSw; obtain ⟨⟨s0, s1, s2, s3⟩, ⟨s4, s5, s6, s7⟩, s8, s9⟩ := hSw.cells hU.out hV.out ya yb; go_simp; try with_reducible rfl)
    (try simp only [List.getElem_toArray, List.getElem_cons_zero, List.getElem_cons_succ, Act.put, List.setIfInBounds_toArray, List.set_cons_zero, List.set_cons_succ])
    refine wpAnyH_take (i := 17) (oi := _) (v := ?vb17) rfl (by kernel_rfl) (by kernel_rfl) (by kernel_rfl) (fun _ _ _ h => h) (Or.inl ⟨by rfl, ?hyb17⟩) (by assumption) ?restb17
    case hyb17 => (intro wz hSw; obtain ⟨⟨s0, s1, s2, s3⟩, ⟨s4, s5, s6, s7⟩, s8, s9⟩ := hSw.cells hU.out hV.out ya yb; go_simp; try with_reducible rfl)
    (try simp only [List.getElem_toArray, List.getElem_cons_zero, List.getElem_cons_succ, Act.put, List.setIfInBounds_toArray, List.set_cons_zero, List.set_cons_succ])
    refine wpAnyH_take (i := 18) (oi := _) (v := ?vb18) rfl (by kernel_rfl) (by kernel_rfl) (by kernel_rfl) (fun _ _ _ h => h) (Or.inl ⟨by rfl, ?hyb18⟩) (by assumption) ?restb18
    case hyb18 => (intro wz hSw; obtain ⟨⟨s0, s1, s2, s3⟩, ⟨s4, s5, s6, s7⟩, s8, s9⟩ := hSw.cells hU.out hV.out ya yb; go_simp; try with_reducible rfl)
    (try simp only [List.getElem_toArray, List.getElem_cons_zero, List.getElem_cons_succ, Act.put, List.setIfInBounds_toArray, List.set_cons_zero, List.set_cons_succ])
    refine wpAnyH_take (i := 19) (oi := _) (v := ?vb19) rfl (by kernel_rfl) (by kernel_rfl) (by kernel_rfl) (fun _ _ _ h => h) (Or.inl ⟨by rfl, ?hyb19⟩) (by assumption) ?restb19
    case hyb19 => (intro wz hSw; obtain ⟨⟨s0, s1, s2, s3⟩, ⟨s4, s5, s6, s7⟩, s8, s9⟩ := hSw.cells hU.out hV.out ya yb; go_simp; try with_reducible rfl)
    (try simp only [List.getElem_toArray, List.getElem_cons_zero, List.getElem_cons_succ, Act.put, List.setIfInBounds_toArray, List.set_cons_zero, List.set_cons_succ])
    refine wpAnyH_take (i := 20) (oi := _) (v := ?vb20) rfl (by kernel_rfl) (by kernel_rfl) (by kernel_rfl) (fun _ _ _ h => h) (Or.inl ⟨by rfl, ?hyb20⟩) (by assumption) ?restb20
    case hyb20 => (intro wz hSw; obtain ⟨⟨s0, s1, s2, s3⟩, ⟨s4, s5, s6, s7⟩, s8, s9⟩ := hSw.cells hU.out hV.out ya yb; go_simp; try with_reducible rfl)
    (try simp only [List.getElem_toArray, List.getElem_cons_zero, List.getElem_cons_succ, Act.put, List.setIfInBounds_toArray, List.set_cons_zero, List.set_cons_succ])
    refine wpAnyH_take (i := 21) (oi := _) (v := ?vb21) rfl (by kernel_rfl) (by kernel_rfl) (by kernel_rfl) (fun _ _ _ h => h) (Or.inl ⟨by rfl, ?hyb21⟩) (by assumption) ?restb21
    case hyb21 => (intro wz hSw; obtain ⟨⟨s0, s1, s2, s3⟩, ⟨s4, s5, s6, s7⟩, s8, s9⟩ := hSw.cells hU.out hV.out ya yb; go_simp; try with_reducible rfl)
    (try simp only [List.getElem_toArray, List.getElem_cons_zero, List.getElem_cons_succ, Act.put, List.setIfInBounds_toArray, List.set_cons_zero, List.set_cons_succ])
    refine wpAnyH_take (i := 22) (oi := _) (v := ?vb22) rfl (by kernel_rfl) (by kernel_rfl) (by kernel_rfl) (fun _ _ _ h => h) (Or.inl ⟨by rfl, ?hyb22⟩) (by assumption) ?restb22
    case hyb22 => (intro wz hSw; obtain ⟨⟨s0, s1, s2, s3⟩, ⟨s4, s5, s6, s7⟩, s8, s9⟩ := hSw.cells hU.out hV.out ya yb; go_simp; try with_reducible rfl)
    (try simp only [List.getElem_toArray, List.getElem_cons_zero, List.getElem_cons_succ, Act.put, List.setIfInBounds_toArray, List.set_cons_zero, List.set_cons_succ])
    refine wpAnyH_take (i := 23) (oi := _) (v := ?vb23) rfl (by kernel_rfl) (by kernel_rfl) (by kernel_rfl) (fun _ _ _ h => h) (Or.inl ⟨by rfl, ?hyb23⟩) (by assumption) ?restb23
    case hyb23 => (intro wz hSw; obtain ⟨⟨s0, s1, s2, s3⟩, ⟨s4, s5, s6, s7⟩, s8, s9⟩ := hSw.cells hU.out hV.out ya yb; go_simp; try with_reducible rfl)
    (try simp only [List.getElem_toArray, List.getElem_cons_zero, List.getElem_cons_succ, Act.put, List.setIfInBounds_toArray, List.set_cons_zero, List.set_cons_succ])
    refine wpAnyH_done (by kernel_rfl) ?_ _
    obtain ⟨xs, hsl, hBs, hns⟩ := slice_front HTD.out.2.2.1 HCa.out.2 HCa.out.1 15 (by omega)
    have hsl' : ∀ w' : World, (Instr.slice 25 (.slice xa 16 ya) none (some (.int .i64 15)) none).run Try.prog w' = .ok (.slice xs 15 ya) w' := hsl
    have HBS := Lib.hid hBs
    clear hsl hBs hns
    go_wp2_with (first
      | (go_at_call 11; go_in)
      | (go_at_call 13; (with_reducible refine (HG15.out _ _ _ _ HBS.out (Nat.le_trans (by omega) HCa.out.2)).mono ?_); rintro e wc ⟨rfl, hb⟩; have HTC := Lib.hid ((HTD.out.later hb).later (((Below.refl wc.heap.size wc).alloc (Nat.le_refl _) (.cells #[.int .i64 0, .int .i64 0, .int .i64 0, .int .u32 0] 24)))); have HXC : Hid (X ≤ wc.heap.size + 1) := (by have h := HTC.out.2.2.2.2.size; rw [World.size_alloc] at h; have := HSZ.out; show X ≤ wc.heap.size + 1; omega); clear hb HG15)
      | (at_builtin; refine append_copy rfl (.tmp 84) (.tmp 85) rfl (wc.heap.size + 1) (by simp [Act.eval]) _ 16 _ D rfl HCa.out.1 HTC.out.2.2.1 (by omega) (by simp) ?_; intro x6 c6 w6 g1 g2; have HO6 := Lib.hid g1; have HT6 := Lib.hid (HTC.out.later g2); have hw6 : wc.heap.size + 1 ≤ w6.heap.size := (by have := g2.size; simpa using this); clear g1 g2)
      | (at_builtin; refine append_more rfl (.tmp 86) (.tmp 87) rfl (wc.heap.size + 1) _ 16 D rfl (HO6.out.alloc _) _ 1 1 [0] rfl (fun e => by cases e) (one_byte _ 0 (by omega)) (by omega) (by simp; omega) ?_; intro x7 c7 w7 g1 g2; have HO7 := Lib.hid g1; have HG7 := Lib.hid ((HT6.out.2.2.2.2.alloc (Nat.le_trans HXC.out hw6) (.cells #[.int .u8 0] 5)).trans (g2.mono HXC.out)); clear g1 g2)
      | (go_at_call 13; (with_reducible refine (HG17.out _ _ _ _ HO7.out.bytes.1 HO7.out.capOk).mono ?_); rintro e w8 ⟨rfl, hb⟩; have HG8 := Lib.hid (HG7.out.trans (hb.mono (Nat.le_trans (Nat.le_of_eq HSZ.out.symm) HG7.out.size))); have HG9 := Lib.hid (HG8.out.alloc (Nat.le_trans (Nat.le_of_eq HSZ.out.symm) HG8.out.size) (.cells #[.int .i64 0, .int .i64 0, .int .i64 0, .int .u32 0] 24)); clear hb HG17)
      | (go_at_call 12; refine (awake_any7 _).mono ?_; rintro e wz ⟨rfl, hb⟩; have HZ := Lib.hid (HG9.out.trans (hb.mono (Nat.le_trans (Nat.le_of_eq HSZ.out.symm) HG9.out.size))); clear hb))
    go_ret
    exact ⟨rfl, HZ.out⟩
  · have hQQ : ¬ Q1 = Q2 := by omega
    have hse := hSE (fun e => hQQ (congrArg (fun x : Sl => x.1) e))
    clear hSE
    obtain ⟨D, hD⟩ := named (slB (Q1, S1, Q1, a0))
    obtain ⟨E, hE⟩ := named (slB (Q2, S2, Q2, a1))
    rw [hD.out] at HP l1 hse
    rw [hE.out] at HP2 l2 hse
    obtain ⟨U, hU⟩ := named (strOfNums D)
    obtain ⟨V, hV⟩ := named (strOfNums E)
    rw [hU.out, hV.out] at hse
    have HL1 := Lib.hid l1
    have HL2 := Lib.hid l2
    have HX1 : Hid (Blk ((w.alloc (.cells #[.int .i64 Q1, .int .i64 S1, .int .i64 Q1, .int .u32 a0] 24)).alloc (.cells #[.int .i64 Q2, .int .i64 S2, .int .i64 Q2, .int .u32 a1] 24)) X 24 #[.int .i64 Q1, .int .i64 S1, .int .i64 Q1, .int .u32 a0]) := by rw [← hX.out]; exact (Blk.new w _ _).alloc _
    have HY1 : Hid (Blk ((w.alloc (.cells #[.int .i64 Q1, .int .i64 S1, .int .i64 Q1, .int .u32 a0] 24)).alloc (.cells #[.int .i64 Q2, .int .i64 S2, .int .i64 Q2, .int .u32 a1] 24)) (X + 1) 24 #[.int .i64 Q2, .int .i64 S2, .int .i64 Q2, .int .u32 a1]) := by
      have := Blk.new (w.alloc (.cells #[.int .i64 Q1, .int .i64 S1, .int .i64 Q1, .int .u32 a0] 24)) 24 #[.int .i64 Q2, .int .i64 S2, .int .i64 Q2, .int .u32 a1]
      rwa [World.size_alloc, hX.out] at this
    have HG1 : Hid (Below X w ((w.alloc (.cells #[.int .i64 Q1, .int .i64 S1, .int .i64 Q1, .int .u32 a0] 24)).alloc (.cells #[.int .i64 Q2, .int .i64 S2, .int .i64 Q2, .int .u32 a1] 24))) := by rw [← hX.out]; exact ((Below.refl _ _).alloc (Nat.le_refl _) _).alloc (by simp) _
    have HN := Lib.hid (fun w => num_any7 0 w)
    rw [hXX]
    have HSZ : Hid (w.heap.size = X) := hXX
    clear ms mt os ot l1 l2 hD hE hX
    go_enter Try.func8, Try.ntmps8
    go_wp2_with (first
      | (go_at_call 9; (with_reducible refine (HP.out _).mono ?_); rintro e wa hp; obtain ⟨xa, ya, rfl, hB, hc, hb⟩ := hp.sized HL1.out; have HBa := Lib.hid hB; have HCa := Lib.hid hc; have HXa := Lib.hid (HX1.out.later hb); have HYa := Lib.hid (HY1.out.later hb); obtain ⟨m0, m1, m2, m3⟩ := cells4 HYa.out; have HGa := Lib.hid (HG1.out.trans (hb.mono (Nat.le_trans (Nat.le_of_eq HSZ.out.symm) HG1.out.size))); clear hp hB hc hb HP)
      | (go_at_call 9; (with_reducible refine (HP2.out _).mono ?_); rintro e wb hp; obtain ⟨xb, yb, rfl, hB, hc, hb⟩ := hp.sized HL2.out; have HT : Hid (Two w X Q1 S1 a0 Q2 S2 a1 xa xb D E wb) := Lib.hid ⟨HXa.out.later hb, HYa.out.later hb, HBa.out.later hb, hB, HGa.out.trans (hb.mono (Nat.le_trans (Nat.le_of_eq HSZ.out.symm) HGa.out.size))⟩; clear hp hB hc hb HP2 m0 m1 m2 m3))
    have HTD : Hid (Two w X Q1 S1 a0 Q2 S2 a1 xa xb D E wb.drew) := Lib.hid (HT.out.later (Below.refl _ _).drew)
    refine wp_region_held_drew (S := fun W' => Two w X Q1 S1 a0 Q2 S2 a1 xa xb D E W') (by kernel_rfl) (by exact HTD.out) (fun hHeld => ?_)
    refine wpAnyH_take (i := 0) (oi := _) (v := ?vc0) rfl (by kernel_rfl) (by kernel_rfl) (by kernel_rfl) (fun _ _ _ h => h) (Or.inl ⟨by rfl, ?hyc0⟩) (by assumption) ?restc0
    case hyc0 => (intro wz hSw; obtain ⟨⟨s0, s1, s2, s3⟩, ⟨s4, s5, s6, s7⟩, s8, s9⟩ := hSw.cells hU.out hV.out ya yb; go_simp; try with_reducible rfl)
    (try simp only [List.getElem_toArray, List.getElem_cons_zero, Act.put, List.setIfInBounds_toArray, List.set_cons_zero, List.set_cons_succ])
    refine wpAnyH_ready (rs := [1]) (by kernel_rfl) (by simp) ?_
    refine AllReadyH.cons (o := _) rfl (fun K hK => ?_) AllReadyH.nil
    rw [if_pos (by rfl)]
    go_simp
    (go_at_call 11; (with_reducible refine (HN.out _).mono ?_); rintro e wn ⟨rfl, rfl⟩)
    dsimp only
    refine hK.out _ _ (by exact HTD.out) (fun hHeld => ?_)
    clear hK K
    (try simp only [List.getElem_toArray, List.getElem_cons_zero, List.getElem_cons_succ, Act.put, List.setIfInBounds_toArray, List.set_cons_zero, List.set_cons_succ])
    refine wpAnyH_take (i := 2) (oi := _) (v := ?vc2) rfl (by kernel_rfl) (by kernel_rfl) (by kernel_rfl) (fun _ _ _ h => h) (Or.inl ⟨by rfl, ?hyc2⟩) (by assumption) ?restc2
    case hyc2 => (intro wz hSw; obtain ⟨⟨s0, s1, s2, s3⟩, ⟨s4, s5, s6, s7⟩, s8, s9⟩ := hSw.cells hU.out hV.out ya yb; go_simp; try with_reducible rfl)
    (try simp only [List.getElem_toArray, List.getElem_cons_zero, List.getElem_cons_succ, Act.put, List.setIfInBounds_toArray, List.set_cons_zero, List.set_cons_succ])
    refine wpAnyH_take (i := 3) (oi := _) (v := ?vc3) rfl (by kernel_rfl) (by kernel_rfl) (by kernel_rfl) (fun _ _ _ h => h) (Or.inl ⟨by rfl, ?hyc3⟩) (by assumption) ?restc3
    case hyc3 => (intro wz hSw; obtain ⟨⟨s0, s1, s2, s3⟩, ⟨s4, s5, s6, s7⟩, s8, s9⟩ := hSw.cells hU.out hV.out ya yb; go_simp; try with_reducible rfl)
    (try simp only [List.getElem_toArray, List.getElem_cons_zero, List.getElem_cons_succ, Act.put, List.setIfInBounds_toArray, List.set_cons_zero, List.set_cons_succ])
    refine wpAnyH_take (i := 4) (oi := _) (v := ?vc4) rfl (by kernel_rfl) (by kernel_rfl) (by kernel_rfl) (fun _ _ _ h => h) (Or.inl ⟨by rfl, ?hyc4⟩) (by assumption) ?restc4
    case hyc4 => (intro wz hSw; obtain ⟨⟨s0, s1, s2, s3⟩, ⟨s4, s5, s6, s7⟩, s8, s9⟩ := hSw.cells hU.out hV.out ya yb; go_simp; try with_reducible rfl)
    (try simp only [List.getElem_toArray, List.getElem_cons_zero, List.getElem_cons_succ, Act.put, List.setIfInBounds_toArray, List.set_cons_zero, List.set_cons_succ])
    refine wpAnyH_ready (rs := [5]) (by kernel_rfl) (by simp) ?_
    refine AllReadyH.cons (o := _) rfl (fun K hK => ?_) AllReadyH.nil
    rw [if_pos (by rfl)]
    go_simp
    (go_at_call 11; (with_reducible refine (HN.out _).mono ?_); rintro e wn ⟨rfl, rfl⟩)
    dsimp only
    refine hK.out _ _ (by exact HTD.out) (fun hHeld => ?_)
    clear hK K
    (try simp only [List.getElem_toArray, List.getElem_cons_zero, List.getElem_cons_succ, Act.put, List.setIfInBounds_toArray, List.set_cons_zero, List.set_cons_succ])
    refine wpAnyH_take (i := 6) (oi := _) (v := ?vc6) rfl (by kernel_rfl) (by kernel_rfl) (by kernel_rfl) (fun _ _ _ h => h) (Or.inl ⟨by rfl, ?hyc6⟩) (by assumption) ?restc6
    case hyc6 => (intro wz hSw; obtain ⟨⟨s0, s1, s2, s3⟩, ⟨s4, s5, s6, s7⟩, s8, s9⟩ := hSw.cells hU.out hV.out ya yb; go_simp; try with_reducible rfl)
    (try simp only [List.getElem_toArray, List.getElem_cons_zero, List.getElem_cons_succ, Act.put, List.setIfInBounds_toArray, List.set_cons_zero, List.set_cons_succ])
    refine wpAnyH_take (i := 7) (oi := _) (v := ?vc7) rfl (by kernel_rfl) (by kernel_rfl) (by kernel_rfl) (fun _ _ _ h => h) (Or.inl ⟨by rfl, ?hyc7⟩) (by assumption) ?restc7
    case hyc7 => (intro wz hSw; obtain ⟨⟨s0, s1, s2, s3⟩, ⟨s4, s5, s6, s7⟩, s8, s9⟩ := hSw.cells hU.out hV.out ya yb; go_simp; try with_reducible rfl)
    (try simp only [List.getElem_toArray, List.getElem_cons_zero, List.getElem_cons_succ, Act.put, List.setIfInBounds_toArray, List.set_cons_zero, List.set_cons_succ])
    refine wpAnyH_take (i := 8) (oi := _) (v := ?vc8) rfl (by kernel_rfl) (by kernel_rfl) (by kernel_rfl) (fun _ _ _ h => h) (Or.inl ⟨by rfl, ?hyc8⟩) (by assumption) ?restc8
    case hyc8 => (intro wz hSw; obtain ⟨⟨s0, s1, s2, s3⟩, ⟨s4, s5, s6, s7⟩, s8, s9⟩ := hSw.cells hU.out hV.out ya yb; go_simp; try with_reducible rfl)
    (try simp only [List.getElem_toArray, List.getElem_cons_zero, List.getElem_cons_succ, Act.put, List.setIfInBounds_toArray, List.set_cons_zero, List.set_cons_succ])
    refine wpAnyH_take (i := 9) (oi := _) (v := ?vc9) rfl (by kernel_rfl) (by kernel_rfl) (by kernel_rfl) (fun _ _ _ h => h) (Or.inl ⟨by rfl, ?hyc9⟩) (by assumption) ?restc9
    case hyc9 => (intro wz hSw; obtain ⟨⟨s0, s1, s2, s3⟩, ⟨s4, s5, s6, s7⟩, s8, s9⟩ := hSw.cells hU.out hV.out ya yb; go_simp; try with_reducible rfl)
    (try simp only [List.getElem_toArray, List.getElem_cons_zero, List.getElem_cons_succ, Act.put, List.setIfInBounds_toArray, List.set_cons_zero, List.set_cons_succ])
    refine wpAnyH_take (i := 10) (oi := _) (v := ?vc10) rfl (by kernel_rfl) (by kernel_rfl) (by kernel_rfl) (fun _ _ _ h => h) (Or.inl ⟨by rfl, ?hyc10⟩) (by assumption) ?restc10
    case hyc10 => (intro wz hSw; obtain ⟨⟨s0, s1, s2, s3⟩, ⟨s4, s5, s6, s7⟩, s8, s9⟩ := hSw.cells hU.out hV.out ya yb; go_simp; try with_reducible rfl)
    (try simp only [List.getElem_toArray, List.getElem_cons_zero, List.getElem_cons_succ, Act.put, List.setIfInBounds_toArray, List.set_cons_zero, List.set_cons_succ])
    refine wpAnyH_take (i := 11) (oi := _) (v := ?vc11) rfl (by kernel_rfl) (by kernel_rfl) (by kernel_rfl) (fun _ _ _ h => h) (Or.inl ⟨by rfl, ?hyc11⟩) (by assumption) ?restc11
    case hyc11 => (intro wz hSw; obtain ⟨⟨s0, s1, s2, s3⟩, ⟨s4, s5, s6, s7⟩, s8, s9⟩ := hSw.cells hU.out hV.out ya yb; go_simp; try with_reducible rfl)
    (try simp only [List.getElem_toArray, List.getElem_cons_zero, List.getElem_cons_succ, Act.put, List.setIfInBounds_toArray, List.set_cons_zero, List.set_cons_succ])
    refine wpAnyH_take (i := 12) (oi := _) (v := ?vc12) rfl (by kernel_rfl) (by kernel_rfl) (by kernel_rfl) (fun _ _ _ h => h) (Or.inl ⟨by rfl, ?hyc12⟩) (by assumption) ?restc12
    case hyc12 => (intro wz hSw; obtain ⟨⟨s0, s1, s2, s3⟩, ⟨s4, s5, s6, s7⟩, s8, s9⟩ := hSw.cells hU.out hV.out ya yb; go_simp; try with_reducible rfl)
    (try simp only [List.getElem_toArray, List.getElem_cons_zero, List.getElem_cons_succ, Act.put, List.setIfInBounds_toArray, List.set_cons_zero, List.set_cons_succ])
    refine wpAnyH_take (i := 13) (oi := _) (v := ?vc13) rfl (by kernel_rfl) (by kernel_rfl) (by kernel_rfl) (fun _ _ _ h => h) (Or.inl ⟨by rfl, ?hyc13⟩) (by assumption) ?restc13
    case hyc13 => (intro wz hSw; obtain ⟨⟨s0, s1, s2, s3⟩, ⟨s4, s5, s6, s7⟩, s8, s9⟩ := hSw.cells hU.out hV.out ya yb; go_simp; try with_reducible rfl)
    (try simp only [List.getElem_toArray, List.getElem_cons_zero, List.getElem_cons_succ, Act.put, List.setIfInBounds_toArray, List.set_cons_zero, List.set_cons_succ])
    refine wpAnyH_take (i := 14) (oi := _) (v := ?vc14) rfl (by kernel_rfl) (by kernel_rfl) (by kernel_rfl) (fun _ _ _ h => h) (Or.inl ⟨by rfl, ?hyc14⟩) (by assumption) ?restc14
    case hyc14 => (intro wz hSw; obtain ⟨⟨s0, s1, s2, s3⟩, ⟨s4, s5, s6, s7⟩, s8, s9⟩ := hSw.cells hU.out hV.out ya yb; go_simp; try with_reducible rfl)
    (try simp only [List.getElem_toArray, List.getElem_cons_zero, List.getElem_cons_succ, Act.put, List.setIfInBounds_toArray, List.set_cons_zero, List.set_cons_succ])
    refine wpAnyH_take (i := 15) (oi := _) (v := ?vc15) rfl (by kernel_rfl) (by kernel_rfl) (by kernel_rfl) (fun _ _ _ h => h) (Or.inl ⟨by rfl, ?hyc15⟩) (by assumption) ?restc15
    case hyc15 => (intro wz hSw; obtain ⟨⟨s0, s1, s2, s3⟩, ⟨s4, s5, s6, s7⟩, s8, s9⟩ := hSw.cells hU.out hV.out ya yb; go_simp; try with_reducible rfl)
    (try simp only [List.getElem_toArray, List.getElem_cons_zero, List.getElem_cons_succ, Act.put, List.setIfInBounds_toArray, List.set_cons_zero, List.set_cons_succ])
    refine wpAnyH_take (i := 16) (oi := _) (v := ?vc16) rfl (by kernel_rfl) (by kernel_rfl) (by kernel_rfl) (fun _ _ _ h => h) (Or.inl ⟨by rfl, ?hyc16⟩) (by assumption) ?restc16
    case hyc16 => (intro wz hSw; obtain ⟨⟨s0, s1, s2, s3⟩, ⟨s4, s5, s6, s7⟩, s8, s9⟩ := hSw.cells hU.out hV.out ya yb; go_simp; try with_reducible rfl)
    (try simp only [List.getElem_toArray, List.getElem_cons_zero, List.getElem_cons_succ, Act.put, List.setIfInBounds_toArray, List.set_cons_zero, List.set_cons_succ])
    refine wpAnyH_take (i := 17) (oi := _) (v := ?vc17) rfl (by kernel_rfl) (by kernel_rfl) (by kernel_rfl) (fun _ _ _ h => h) (Or.inl ⟨by rfl, ?hyc17⟩) (by assumption) ?restc17
    case hyc17 => (intro wz hSw; obtain ⟨⟨s0, s1, s2, s3⟩, ⟨s4, s5, s6, s7⟩, s8, s9⟩ := hSw.cells hU.out hV.out ya yb; go_simp; try with_reducible rfl)
    (try simp only [List.getElem_toArray, List.getElem_cons_zero, List.getElem_cons_succ, Act.put, List.setIfInBounds_toArray, List.set_cons_zero, List.set_cons_succ])
    refine wpAnyH_take (i := 18) (oi := _) (v := ?vc18) rfl (by kernel_rfl) (by kernel_rfl) (by kernel_rfl) (fun _ _ _ h => h) (Or.inl ⟨by rfl, ?hyc18⟩) (by assumption) ?restc18
    case hyc18 => (intro wz hSw; obtain ⟨⟨s0, s1, s2, s3⟩, ⟨s4, s5, s6, s7⟩, s8, s9⟩ := hSw.cells hU.out hV.out ya yb; go_simp; try with_reducible rfl)
    (try simp only [List.getElem_toArray, List.getElem_cons_zero, List.getElem_cons_succ, Act.put, List.setIfInBounds_toArray, List.set_cons_zero, List.set_cons_succ])
    refine wpAnyH_take (i := 19) (oi := _) (v := ?vc19) rfl (by kernel_rfl) (by kernel_rfl) (by kernel_rfl) (fun _ _ _ h => h) (Or.inl ⟨by rfl, ?hyc19⟩) (by assumption) ?restc19
    case hyc19 => (intro wz hSw; obtain ⟨⟨s0, s1, s2, s3⟩, ⟨s4, s5, s6, s7⟩, s8, s9⟩ := hSw.cells hU.out hV.out ya yb; go_simp; try with_reducible rfl)
    (try simp only [List.getElem_toArray, List.getElem_cons_zero, List.getElem_cons_succ, Act.put, List.setIfInBounds_toArray, List.set_cons_zero, List.set_cons_succ])
    refine wpAnyH_take (i := 20) (oi := _) (v := ?vc20) rfl (by kernel_rfl) (by kernel_rfl) (by kernel_rfl) (fun _ _ _ h => h) (Or.inl ⟨by rfl, ?hyc20⟩) (by assumption) ?restc20
    case hyc20 => (intro wz hSw; obtain ⟨⟨s0, s1, s2, s3⟩, ⟨s4, s5, s6, s7⟩, s8, s9⟩ := hSw.cells hU.out hV.out ya yb; go_simp; try with_reducible rfl)
    (try simp only [List.getElem_toArray, List.getElem_cons_zero, List.getElem_cons_succ, Act.put, List.setIfInBounds_toArray, List.set_cons_zero, List.set_cons_succ])
    refine wpAnyH_take (i := 21) (oi := _) (v := ?vc21) rfl (by kernel_rfl) (by kernel_rfl) (by kernel_rfl) (fun _ _ _ h => h) (Or.inl ⟨by rfl, ?hyc21⟩) (by assumption) ?restc21
    case hyc21 => (intro wz hSw; obtain ⟨⟨s0, s1, s2, s3⟩, ⟨s4, s5, s6, s7⟩, s8, s9⟩ := hSw.cells hU.out hV.out ya yb; go_simp; try with_reducible rfl)
    (try simp only [List.getElem_toArray, List.getElem_cons_zero, List.getElem_cons_succ, Act.put, List.setIfInBounds_toArray, List.set_cons_zero, List.set_cons_succ])
    refine wpAnyH_take (i := 22) (oi := _) (v := ?vc22) rfl (by kernel_rfl) (by kernel_rfl) (by kernel_rfl) (fun _ _ _ h => h) (Or.inl ⟨by rfl, ?hyc22⟩) (by assumption) ?restc22
    case hyc22 => (intro wz hSw; obtain ⟨⟨s0, s1, s2, s3⟩, ⟨s4, s5, s6, s7⟩, s8, s9⟩ := hSw.cells hU.out hV.out ya yb; go_simp; try with_reducible rfl)
    (try simp only [List.getElem_toArray, List.getElem_cons_zero, List.getElem_cons_succ, Act.put, List.setIfInBounds_toArray, List.set_cons_zero, List.set_cons_succ])
    refine wpAnyH_take (i := 23) (oi := _) (v := ?vc23) rfl (by kernel_rfl) (by kernel_rfl) (by kernel_rfl) (fun _ _ _ h => h) (Or.inl ⟨by rfl, ?hyc23⟩) (by assumption) ?restc23
    case hyc23 => (intro wz hSw; obtain ⟨⟨s0, s1, s2, s3⟩, ⟨s4, s5, s6, s7⟩, s8, s9⟩ := hSw.cells hU.out hV.out ya yb; go_simp; try with_reducible rfl)
    (try simp only [List.getElem_toArray, List.getElem_cons_zero, List.getElem_cons_succ, Act.put, List.setIfInBounds_toArray, List.set_cons_zero, List.set_cons_succ])
    refine wpAnyH_done (by kernel_rfl) ?_ _
    obtain ⟨xs, hsl, hBs, hns⟩ := slice_front HTD.out.2.2.1 HCa.out.2 HCa.out.1 15 (by omega)
    have hsl' : ∀ w' : World, (Instr.slice 25 (.slice xa 16 ya) none (some (.int .i64 15)) none).run Try.prog w' = .ok (.slice xs 15 ya) w' := hsl
    have HBS := Lib.hid hBs
    clear hsl hBs hns
    go_wp2_with (first
      | (go_at_call 11; go_in)
      | (go_at_call 13; (with_reducible refine (HG15.out _ _ _ _ HBS.out (Nat.le_trans (by omega) HCa.out.2)).mono ?_); rintro e wc ⟨rfl, hb⟩; have HTC := Lib.hid ((HTD.out.later hb).later (((Below.refl wc.heap.size wc).alloc (Nat.le_refl _) (.cells #[.int .i64 0, .int .i64 0, .int .i64 0, .int .u32 0] 24)))); have HXC : Hid (X ≤ wc.heap.size + 1) := (by have h := HTC.out.2.2.2.2.size; rw [World.size_alloc] at h; have := HSZ.out; show X ≤ wc.heap.size + 1; omega); clear hb HG15)
      | (at_builtin; refine append_copy rfl (.tmp 84) (.tmp 85) rfl (wc.heap.size + 1) (by simp [Act.eval]) _ 16 _ D rfl HCa.out.1 HTC.out.2.2.1 (by omega) (by simp) ?_; intro x6 c6 w6 g1 g2; have HO6 := Lib.hid g1; have HT6 := Lib.hid (HTC.out.later g2); have hw6 : wc.heap.size + 1 ≤ w6.heap.size := (by have := g2.size; simpa using this); clear g1 g2)
      | (at_builtin; refine append_more rfl (.tmp 86) (.tmp 87) rfl (wc.heap.size + 1) _ 16 D rfl (HO6.out.alloc _) _ 1 1 [0] rfl (fun e => by cases e) (one_byte _ 0 (by omega)) (by omega) (by simp; omega) ?_; intro x7 c7 w7 g1 g2; have HO7 := Lib.hid g1; have HG7 := Lib.hid ((HT6.out.2.2.2.2.alloc (Nat.le_trans HXC.out hw6) (.cells #[.int .u8 0] 5)).trans (g2.mono HXC.out)); clear g1 g2)
      | (go_at_call 13; (with_reducible refine (HG17.out _ _ _ _ HO7.out.bytes.1 HO7.out.capOk).mono ?_); rintro e w8 ⟨rfl, hb⟩; have HG8 := Lib.hid (HG7.out.trans (hb.mono (Nat.le_trans (Nat.le_of_eq HSZ.out.symm) HG7.out.size))); have HG9 := Lib.hid (HG8.out.alloc (Nat.le_trans (Nat.le_of_eq HSZ.out.symm) HG8.out.size) (.cells #[.int .i64 0, .int .i64 0, .int .i64 0, .int .u32 0] 24)); clear hb HG17)
      | (go_at_call 12; refine (awake_any7 _).mono ?_; rintro e wz ⟨rfl, hb⟩; have HZ := Lib.hid (HG9.out.trans (hb.mono (Nat.le_trans (Nat.le_of_eq HSZ.out.symm) HG9.out.size))); clear hb))
    go_ret
    exact ⟨rfl, HZ.out⟩

set_option maxRecDepth 100000 in
theorem lifted (os : Os) (started : os.Started) (H : Type) (enc : TypeId × Value → H) :
    ReturnsInHanded {} Try.checked os 8 .any (Rows.slotUnlikeSpec.pre6 enc Try.prog Try.f8 Rows.slotUnlikeRow.domain false) (Rows.slotUnlikeSpec.post enc Try.prog Try.f8 false true false false) := by
  refine returnsInHanded_of_change (C := Try.checked) own started (by kernel_rfl) Try.func8
    (ChangeSpec.witness6 (enc := enc) (C := Try.checked) false ⟨#[], #[.int .u32 0, .int .u32 0, .int .u16 0, .int .u16 0], []⟩ 8 (by kernel_rfl) (by kernel_rfl) (by kernel_rfl) (by kernel_rfl)) ?_
  intro W base args ds gs before hval0 hW hcnd _
  have hval : ∀ (j : Nat) t v, Try.f8.params[j]? = some t → args[j]? = some v → Value.okWide Try.prog W .any base t v := hval0
  have hW' := hW
  obtain ⟨p, q, hA0, hV, rfl, hfz, hnd⟩ := hW
  have hA : DataW.TrodAll enc Try.prog W 0 (fun _ => true) true Try.f8.params.toList args.toList ds p := hA0
  rw [Try.params8] at hA hval
  obtain ⟨v0, vs0, d0, ds0, p0, q0, hargs, rfl, rfl, h0, r0⟩ := trodAll_cons hA
  obtain ⟨v1, vs1, d1, ds1, p1, q1, rfl, rfl, rfl, h1, r1⟩ := trodAll_cons r0
  obtain ⟨v2, vs2, d2, ds2, p2, q2, rfl, rfl, rfl, h2, r2⟩ := trodAll_cons r1
  obtain ⟨v3, vs3, d3, ds3, p3, q3, rfl, rfl, rfl, h3, r3⟩ := trodAll_cons r2
  obtain ⟨rfl, rfl, rfl⟩ := trodAll_nil r3
  obtain rfl : args = #[v0, v1, v2, v3] := by cases args; simp_all
  obtain ⟨rfl, rfl⟩ := trodVars_none hV
  have k0 := h0
  have lt0 : ∀ x ∈ p0, x.block < W.heap.size := by obtain ⟨m, hm⟩ := k0; exact DataW.trod_lt m _ _ _ hm
  obtain ⟨a0, rfl, _, _, w0⟩ := open_int Try.underlying22 (hval 0 22 v0 rfl rfl) h0
  have k1 := h1
  have lt1 : ∀ x ∈ p1, x.block < W.heap.size := by obtain ⟨m, hm⟩ := k1; exact DataW.trod_lt m _ _ _ hm
  obtain ⟨a1, rfl, _, _, w1⟩ := open_int Try.underlying22 (hval 1 22 v1 rfl rfl) h1
  have k2 := h2
  have lt2 : ∀ x ∈ p2, x.block < W.heap.size := by obtain ⟨m, hm⟩ := k2; exact DataW.trod_lt m _ _ _ hm
  obtain ⟨a2, rfl, _, _, w2⟩ := open_int Try.underlying43 (hval 2 43 v2 rfl rfl) h2
  have k3 := h3
  have lt3 : ∀ x ∈ p3, x.block < W.heap.size := by obtain ⟨m, hm⟩ := k3; exact DataW.trod_lt m _ _ _ hm
  obtain ⟨a3, rfl, _, _, w3⟩ := open_int Try.underlying43 (hval 3 43 v3 rfl rfl) h3
  clear hA0 hval0
  refine (walk a0 a1 a2 a3 W w0 w1 w2 w3).mono fun e W' ⟨he, bel⟩ => ?_
  subst he
  exact ⟨_, rfl, _, _, _, [], _, [], hW', trodAll_mk1 (shut_bool Try.underlying4 _), (trodAll_cons_mk (Below.trod laidOut (by kernel_rfl) (of_decide_eq_true (by kernel_rfl)) k0 bel lt0) (trodAll_cons_mk (Below.trod laidOut (by kernel_rfl) (of_decide_eq_true (by kernel_rfl)) k1 bel lt1) (trodAll_cons_mk (Below.trod laidOut (by kernel_rfl) (of_decide_eq_true (by kernel_rfl)) k2 bel lt2) (trodAll_cons_mk (Below.trod laidOut (by kernel_rfl) (of_decide_eq_true (by kernel_rfl)) k3 bel lt3) trodAll_mk0)))), rfl, bel.frame _, fun h => by cases h⟩

theorem over : Rows.slotUnlikeRow.holds Try.pinned (OpenSpec.ofChange Rows.slotUnlikeSpec) :=
  OpenClaim.holds_of_wide 8 Try.f8 rfl rfl rfl rfl rfl rfl rfl ⟨rfl, rfl, rfl, rfl, rfl⟩ rfl rfl rfl rfl rfl (by kernel_rfl) Try.func8 (by kernel_rfl)
    (of_decide_eq_true (by kernel_rfl)) (by unfold Func.isWrapper; first | (rw [if_pos (by decide +kernel)]; kernel_rfl) | (rw [if_neg (by decide +kernel)]; exact ⟨rfl, rfl⟩))
    (fun os started H enc _ => lifted os started H enc)

/-- The statement. -/
theorem proved : Rows.SlotUnlikeSaid := over
#print axioms proved
end Go.Proofs.Ytpjlnanalielmaa.slotUnlike
