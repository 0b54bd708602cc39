/-
  Proved: 'matryoshkalaw5.DiskBetween' returns true for every input, and each argument reads afterwards as before: the statement DiskBetweenSaid as given. Conditions: none beyond the row's own.
-/
import Derived.Test.YtnhaidofblfopaaRows
import Derived.Test.YtnhaidofblfopaaB5
import Derived.WalkKit
import Derived.ProofKit
import Derived.OpenShut
import Derived.ShutString
import Derived.ChangeOld
import Derived.Below
namespace Go.Proofs.Ytnhaidofblfopaa.diskBetween
open Go.ChangeShapes Go.WideShapes Go.ChangeAt Go.RowKit
open Go.ChangeMaps (open_string shut_string)
set_option linter.unusedVariables false

theorem own : ownKnob Try.prog.godebug = none := by kernel_rfl
theorem laidOut : laidOutB Try.prog = true := by kernel_rfl

theorem flat_zero : ∀ n : Nat, (List.replicate n zero16).flatten = List.replicate (16 * n) (0 : Int)
  | 0 => rfl
  | n + 1 => by
    rw [List.replicate_succ, List.flatten_cons, flat_zero n]
    unfold zero16
    rw [List.replicate_append_replicate, show 16 + 16 * n = 16 * (n + 1) by omega]
theorem between_get (T : Nat) (c : Int) (i : Nat) (h : i < 16 * (T + 1)) : ((List.replicate T zero16 ++ [secC c]).flatten).getD i 0 = if i / 16 = T then c else 0 := by
  rw [List.flatten_append, flat_zero, List.getD_eq_getElem?_getD]
  by_cases h1 : i < 16 * T
  · rw [List.getElem?_append_left (by simp; omega), List.getElem?_replicate, if_pos h1, if_neg (by omega)]
    rfl
  · rw [List.getElem?_append_right (by simp; omega)]
    have e : [secC c].flatten = List.replicate 16 c := by simp [secC]
    rw [e, List.getElem?_replicate, List.length_replicate, if_pos (by omega), if_pos (by omega)]
    rfl
theorem between_len (T : Nat) (c : Int) : ((List.replicate T zero16 ++ [secC c]).flatten).length = 16 * (T + 1) := by
  rw [List.flatten_append, flat_zero, List.length_append, List.length_replicate]
  simp [secC]
  omega

set_option maxRecDepth 100000 in
set_option maxHeartbeats 4000000 in
theorem walk (a0 : Int) (a1 : Int) (a2 : Bool) (a3 : Bool) (w : World) (w0 : (Lit.int .u8 a0).wf = true) (w1 : (Lit.int .u8 a1).wf = true) :
    Calls Try.prog 7 #[.int .u8 a0, .int .u8 a1, .bool a2, .bool a3] w fun e w' => e = .returned (.bool true) ∧ Below w.heap.size w w' := by
  have hc := byte_of_wf w0
  have hT := byte_of_wf w1
  obtain ⟨T, rfl⟩ : ∃ T : Nat, a1 = (T : Int) := ⟨a1.toNat, by omega⟩
  have hT2 : T < 256 := by omega
  obtain ⟨N, HN⟩ := named (List.replicate T zero16 ++ [secC a0])
  have HNL : Hid (N.length = T + 1) := by rw [← HN.out]; simp [Hid]
  have HNF : Hid (N.flatten.length = 16 * (T + 1)) := by rw [← HN.out]; exact between_len T a0
  have HNG : Hid (∀ i, i < 16 * (T + 1) → N.flatten.getD i 0 = if i / 16 = T then a0 else 0) := by rw [← HN.out]; exact between_get T a0
  have HNS : Hid (∀ x ∈ N.flatten, 0 ≤ x ∧ x < 256) := by
    rw [← HN.out]
    intro x hx
    obtain ⟨y, hy, hxy⟩ := List.mem_flatten.1 hx
    rcases List.mem_append.1 hy with hy | hy
    · rw [List.eq_of_mem_replicate hy] at hxy
      rw [List.eq_of_mem_replicate hxy]
      omega
    · rw [List.mem_singleton.1 hy] at hxy
      rw [List.eq_of_mem_replicate hxy]
      exact hc
  have E1 := Lib.hid (new_create 1000 nF (by decide) (by decide))
  have E2 : Hid ((one 1000 nF [] [] [] 0 false 0).write nF T (secC a0) = (0, one 1000 nF N [] [(T, secC a0)] 0 false 1)) := by
    have := one_write1 1000 nF [] [] [] 0 0 T (secC a0) (secC_len _) (by omega) (by simp; omega) (by omega)
    rw [← HN.out]
    exact Lib.hid (by simpa [putS] using this)
  clear w0 w1
  cases a2 with
  | true =>
    have E3 := Lib.hid (one_flush 1000 nF N [] [(T, secC a0)] 0 1)
    have E5 : Hid ((one 1000 nF N N [] 0 false 1).crash [a3] = one 1000 nF N N [] 0 false 1) := one_crash 1000 nF N N [] 0 false 1 _
    have E6 : Hid ((one 1000 nF N N [] 0 false 1).size nF = (T + 1, 0)) := by
      have := one_size 1000 nF N N [] 0 false 1
      rw [HNL.out] at this
      exact this
    have E7 : Hid ((one 1000 nF N N [] 0 false 1).read nF 0 ((T + 1 : Nat) : Int) = (N.flatten, 0)) := by
      have := one_read 1000 nF N N [] 0 1 0 (T + 1) (by rw [HNL.out]; omega)
      rw [List.drop_zero, ← HNL.out, List.take_length, HNL.out] at this
      exact this
    go_enter Try.func7, Try.ntmps7
    go_wp2_with (first
      | (go_at_call 12; go_in)
      | (go_at_call 11; refine (diskNew_ok w w 1000 (by omega) (by omega) (Below.refl _ _)).mono ?_; rintro e w1 ⟨p, S1, rfl, hh, _⟩; have HD := Lib.hid hh; clear hh)
      | (go_at_call 13; refine (diskCreate_any HD.out nF 0 E1.out).mono ?_; clear E1; rintro e w2 ⟨S2, rfl, hh, _⟩; replace HD := Lib.hid hh; clear hh)
      | (go_at_call 15; refine (sectorD HD.out _ (by omega)).mono ?_; rintro e w3 ⟨b3, rfl, hO, hh, hb, _⟩; replace HD := Lib.hid hh; have HO := Lib.hid hO; clear hh hO hb)
      | (go_at_call 14; refine (diskWrite_any HD.out nF _ (by omega) _ 16 16 _ HO.out (Nat.le_refl _) (fun e => by cases e) (by omega) 0 E2.out (by decide)).mono ?_; clear E2 HO; rintro e w4 ⟨S4, rfl, hh, _⟩; replace HD := Lib.hid hh; clear hh)
      | (go_at_call 16; refine (diskFlush_any HD.out nF 0 E3.out).mono ?_; clear E3; rintro e w6 ⟨S6, rfl, hh, _⟩; replace HD := Lib.hid hh; clear hh)
      | (go_at_call 18; refine (diskCrash_any (HD.out.alloc _) _ 1 1 [a3] (picks_one _ a3) (fun _ x e => by cases e; exact HD.out.fresh (Or.inl (Nat.le_refl _))) (Nat.le_refl _) (fun e => by cases e)).mono ?_; rw [E5.out]; rintro e w7 ⟨S7, rfl, hh, _⟩; replace HD := Lib.hid hh; clear hh)
      | (go_at_call 20; refine (diskSize_any HD.out nF _ 0 E6.out).mono ?_; rintro e w7 ⟨S7, rfl, hh, _⟩; replace HD := Lib.hid hh; clear hh)
      | (go_at_call 19; refine (diskRead_any HD.out nF 0 _ (by omega) (by omega) _ 0 E7.out).mono ?_; rintro e w8 hp; obtain ⟨ar, cr, S8, rfl, hO, hh, _⟩ := hp.named HNF.out; replace HD := Lib.hid hh; have HR := Lib.hid hO; clear hh hO hp))
    go_loopw [15] (fun i wr => ∃ j : Nat, j ≤ (16 * (T + 1)) ∧ i = .int .i64 j ∧ wr = w8) (fun i _ => (16 * (T + 1)) - (intOf i).toNat)
    case atStart => exact ⟨0, Nat.zero_le _, rfl, rfl⟩
    case round =>
      obtain ⟨j, hj, rfl, rfl⟩ := hrel
      by_cases hlt : j < (16 * (T + 1))
      · obtain ⟨b, off, rfl⟩ := HR.out.1.lies (by omega)
        have hcell := HR.out.1.cellAt j hlt
        rw [HNG.out j hlt] at hcell
        obtain ⟨Q, hQ, hQ2⟩ : ∃ Q : Nat, (j : Int) / 16 = (Q : Int) ∧ Q = j / 16 := ⟨j / 16, by omega, rfl⟩
        rw [← hQ2] at hcell
        have hQb : Q ≤ j := by omega
        clear hQ2
        by_cases hqt : Q = T
        · subst hqt
          rw [if_pos rfl] at hcell
          go_wp2
          go_roundw
          case rel => exact ⟨j + 1, by omega, by go_num, by first | rfl | trivial⟩
          case measure => simp [intOf]; omega
        · rw [if_neg hqt] at hcell
          go_wp2
          go_roundw
          case rel => exact ⟨j + 1, by omega, by go_num, by first | rfl | trivial⟩
          case measure => simp [intOf]; omega
      · obtain rfl : j = (16 * (T + 1)) := by omega
        go_wp2_with (first
          | (go_at_call 12; go_in)
          | (go_at_call 10; refine (awake5_any _).mono ?_; rintro e w9 ⟨rfl, hb⟩; have HZ := Lib.hid (HD.out.below.trans (hb.mono HD.out.below.size)); clear hb))

        go_ret
        exact ⟨rfl, HZ.out⟩
  | false =>
    cases a3 with
    | true =>
      have E5 : Hid ((one 1000 nF N [] [(T, secC a0)] 0 false 1).crash [true] = one 1000 nF N N [] 0 false 1) := by
        have := one_crash 1000 nF N [] [(T, secC a0)] 0 false 1 [true]
        rw [← HN.out] at this ⊢
        exact Lib.hid (by simpa [survA, keptA, putS] using this)
      have E6 : Hid ((one 1000 nF N N [] 0 false 1).size nF = (T + 1, 0)) := by
        have := one_size 1000 nF N N [] 0 false 1
        rw [HNL.out] at this
        exact this
      have E7 : Hid ((one 1000 nF N N [] 0 false 1).read nF 0 ((T + 1 : Nat) : Int) = (N.flatten, 0)) := by
        have := one_read 1000 nF N N [] 0 1 0 (T + 1) (by rw [HNL.out]; omega)
        rw [List.drop_zero, ← HNL.out, List.take_length, HNL.out] at this
        exact this
      go_enter Try.func7, Try.ntmps7
      go_wp2_with (first
        | (go_at_call 12; go_in)
        | (go_at_call 11; refine (diskNew_ok w w 1000 (by omega) (by omega) (Below.refl _ _)).mono ?_; rintro e w1 ⟨p, S1, rfl, hh, _⟩; have HD := Lib.hid hh; clear hh)
        | (go_at_call 13; refine (diskCreate_any HD.out nF 0 E1.out).mono ?_; clear E1; rintro e w2 ⟨S2, rfl, hh, _⟩; replace HD := Lib.hid hh; clear hh)
        | (go_at_call 15; refine (sectorD HD.out _ (by omega)).mono ?_; rintro e w3 ⟨b3, rfl, hO, hh, hb, _⟩; replace HD := Lib.hid hh; have HO := Lib.hid hO; clear hh hO hb)
        | (go_at_call 14; refine (diskWrite_any HD.out nF _ (by omega) _ 16 16 _ HO.out (Nat.le_refl _) (fun e => by cases e) (by omega) 0 E2.out (by decide)).mono ?_; clear E2 HO; rintro e w4 ⟨S4, rfl, hh, _⟩; replace HD := Lib.hid hh; clear hh)
        | (go_at_call 16; refine (diskFlush_any HD.out nF 0 E3.out).mono ?_; clear E3; rintro e w6 ⟨S6, rfl, hh, _⟩; replace HD := Lib.hid hh; clear hh)
        | (go_at_call 18; refine (diskCrash_any (HD.out.alloc _) _ 1 1 [true] (picks_one _ true) (fun _ x e => by cases e; exact HD.out.fresh (Or.inl (Nat.le_refl _))) (Nat.le_refl _) (fun e => by cases e)).mono ?_; rw [E5.out]; rintro e w7 ⟨S7, rfl, hh, _⟩; replace HD := Lib.hid hh; clear hh)
        | (go_at_call 20; refine (diskSize_any HD.out nF _ 0 E6.out).mono ?_; rintro e w7 ⟨S7, rfl, hh, _⟩; replace HD := Lib.hid hh; clear hh)
        | (go_at_call 19; refine (diskRead_any HD.out nF 0 _ (by omega) (by omega) _ 0 E7.out).mono ?_; rintro e w8 hp; obtain ⟨ar, cr, S8, rfl, hO, hh, _⟩ := hp.named HNF.out; replace HD := Lib.hid hh; have HR := Lib.hid hO; clear hh hO hp))
      go_loopw [15] (fun i wr => ∃ j : Nat, j ≤ (16 * (T + 1)) ∧ i = .int .i64 j ∧ wr = w8) (fun i _ => (16 * (T + 1)) - (intOf i).toNat)
      case atStart => exact ⟨0, Nat.zero_le _, rfl, rfl⟩
      case round =>
        obtain ⟨j, hj, rfl, rfl⟩ := hrel
        by_cases hlt : j < (16 * (T + 1))
        · obtain ⟨b, off, rfl⟩ := HR.out.1.lies (by omega)
          have hcell := HR.out.1.cellAt j hlt
          rw [HNG.out j hlt] at hcell
          obtain ⟨Q, hQ, hQ2⟩ : ∃ Q : Nat, (j : Int) / 16 = (Q : Int) ∧ Q = j / 16 := ⟨j / 16, by omega, rfl⟩
          rw [← hQ2] at hcell
          have hQb : Q ≤ j := by omega
          clear hQ2
          by_cases hqt : Q = T
          · subst hqt
            rw [if_pos rfl] at hcell
            go_wp2
            go_roundw
            case rel => exact ⟨j + 1, by omega, by go_num, by first | rfl | trivial⟩
            case measure => simp [intOf]; omega
          · rw [if_neg hqt] at hcell
            go_wp2
            go_roundw
            case rel => exact ⟨j + 1, by omega, by go_num, by first | rfl | trivial⟩
            case measure => simp [intOf]; omega
        · obtain rfl : j = (16 * (T + 1)) := by omega
          go_wp2_with (first
            | (go_at_call 12; go_in)
            | (go_at_call 10; refine (awake5_any _).mono ?_; rintro e w9 ⟨rfl, hb⟩; have HZ := Lib.hid (HD.out.below.trans (hb.mono HD.out.below.size)); clear hb))

          go_ret
          exact ⟨rfl, HZ.out⟩
    | false =>
      have E5 : Hid ((one 1000 nF N [] [(T, secC a0)] 0 false 1).crash [false] = one 1000 nF [] [] [] 0 false 1) := one_crash 1000 nF N [] [(T, secC a0)] 0 false 1 [false]
      have E6 : Hid ((one 1000 nF [] [] [] 0 false 1).size nF = (0, 0)) := one_size 1000 nF [] [] [] 0 false 1
      have E7 : Hid ((one 1000 nF [] [] [] 0 false 1).read nF 0 ((0 : Nat) : Int) = ([], 0)) := one_read 1000 nF [] [] [] 0 1 0 0 (by simp)
      go_enter Try.func7, Try.ntmps7
      go_wp2_with (first
        | (go_at_call 12; go_in)
        | (go_at_call 11; refine (diskNew_ok w w 1000 (by omega) (by omega) (Below.refl _ _)).mono ?_; rintro e w1 ⟨p, S1, rfl, hh, _⟩; have HD := Lib.hid hh; clear hh)
        | (go_at_call 13; refine (diskCreate_any HD.out nF 0 E1.out).mono ?_; clear E1; rintro e w2 ⟨S2, rfl, hh, _⟩; replace HD := Lib.hid hh; clear hh)
        | (go_at_call 15; refine (sectorD HD.out _ (by omega)).mono ?_; rintro e w3 ⟨b3, rfl, hO, hh, hb, _⟩; replace HD := Lib.hid hh; have HO := Lib.hid hO; clear hh hO hb)
        | (go_at_call 14; refine (diskWrite_any HD.out nF _ (by omega) _ 16 16 _ HO.out (Nat.le_refl _) (fun e => by cases e) (by omega) 0 E2.out (by decide)).mono ?_; clear E2 HO; rintro e w4 ⟨S4, rfl, hh, _⟩; replace HD := Lib.hid hh; clear hh)
        | (go_at_call 16; refine (diskFlush_any HD.out nF 0 E3.out).mono ?_; clear E3; rintro e w6 ⟨S6, rfl, hh, _⟩; replace HD := Lib.hid hh; clear hh)
        | (go_at_call 18; refine (diskCrash_any (HD.out.alloc _) _ 1 1 [false] (picks_one _ false) (fun _ x e => by cases e; exact HD.out.fresh (Or.inl (Nat.le_refl _))) (Nat.le_refl _) (fun e => by cases e)).mono ?_; rw [E5.out]; rintro e w7 ⟨S7, rfl, hh, _⟩; replace HD := Lib.hid hh; clear hh)
        | (go_at_call 20; refine (diskSize_any HD.out nF _ 0 E6.out).mono ?_; rintro e w7 ⟨S7, rfl, hh, _⟩; replace HD := Lib.hid hh; clear hh)
        | (go_at_call 19; refine (diskRead_any HD.out nF 0 _ (by omega) (by omega) _ 0 E7.out).mono ?_; rintro e w8 hp; obtain ⟨ar, cr, S8, rfl, hO, hh, _⟩ := hp.named rfl; replace HD := Lib.hid hh; have HR := Lib.hid hO; clear hh hO hp))
      go_loopw [15] (fun i wr => ∃ j : Nat, j ≤ 0 ∧ i = .int .i64 j ∧ wr = w8) (fun i _ => 0 - (intOf i).toNat)
      case atStart => exact ⟨0, Nat.zero_le _, rfl, rfl⟩
      case round =>
        obtain ⟨j, hj, rfl, rfl⟩ := hrel
        by_cases hlt : j < 0
        · omega
        · obtain rfl : j = 0 := by omega
          go_wp2_with (first
            | (go_at_call 12; go_in)
            | (go_at_call 10; refine (awake5_any _).mono ?_; rintro e w9 ⟨rfl, hb⟩; have HZ := Lib.hid (HD.out.below.trans (hb.mono HD.out.below.size)); clear hb))

          go_ret
          exact ⟨rfl, HZ.out⟩

set_option maxRecDepth 100000 in
theorem lifted (os : Os) (started : os.Started) (H : Type) (enc : TypeId × Value → H) :
    ReturnsInHanded {} Try.checked os 7 .any (Rows.diskBetweenSpec.pre6 enc Try.prog Try.f7 Rows.diskBetweenRow.domain false) (Rows.diskBetweenSpec.post enc Try.prog Try.f7 false true false false) := by
  refine returnsInHanded_of_change (C := Try.checked) own started (by kernel_rfl) Try.func7
    (ChangeSpec.witness6 (enc := enc) (C := Try.checked) false ⟨#[], #[.int .u8 0, .int .u8 0, .bool false, .bool false], []⟩ 8 (by kernel_rfl) (by kernel_rfl) (by kernel_rfl) (by kernel_rfl)) ?_
  intro W base args ds gs before hval0 hW hcnd _
  have hval : ∀ (j : Nat) t v, Try.f7.params[j]? = some t → args[j]? = some v → Value.okWide Try.prog W .any base t v := hval0
  have hW' := hW
  obtain ⟨p, q, hA0, hV, rfl, hfz, hnd⟩ := hW
  have hA : DataW.TrodAll enc Try.prog W 0 (fun _ => true) true Try.f7.params.toList args.toList ds p := hA0
  rw [Try.params7] at hA hval
  obtain ⟨v0, vs0, d0, ds0, p0, q0, hargs, rfl, rfl, h0, r0⟩ := trodAll_cons hA
  obtain ⟨v1, vs1, d1, ds1, p1, q1, rfl, rfl, rfl, h1, r1⟩ := trodAll_cons r0
  obtain ⟨v2, vs2, d2, ds2, p2, q2, rfl, rfl, rfl, h2, r2⟩ := trodAll_cons r1
  obtain ⟨v3, vs3, d3, ds3, p3, q3, rfl, rfl, rfl, h3, r3⟩ := trodAll_cons r2
  obtain ⟨rfl, rfl, rfl⟩ := trodAll_nil r3
  obtain rfl : args = #[v0, v1, v2, v3] := by cases args; simp_all
  obtain ⟨rfl, rfl⟩ := trodVars_none hV
  have k0 := h0
  have lt0 : ∀ x ∈ p0, x.block < W.heap.size := by obtain ⟨m, hm⟩ := k0; exact DataW.trod_lt m _ _ _ hm
  obtain ⟨a0, rfl, _, _, w0⟩ := open_int Try.underlying5 (hval 0 5 v0 rfl rfl) h0
  have k1 := h1
  have lt1 : ∀ x ∈ p1, x.block < W.heap.size := by obtain ⟨m, hm⟩ := k1; exact DataW.trod_lt m _ _ _ hm
  obtain ⟨a1, rfl, _, _, w1⟩ := open_int Try.underlying5 (hval 1 5 v1 rfl rfl) h1
  have k2 := h2
  have lt2 : ∀ x ∈ p2, x.block < W.heap.size := by obtain ⟨m, hm⟩ := k2; exact DataW.trod_lt m _ _ _ hm
  obtain ⟨a2, rfl, _, _⟩ := open_bool Try.underlying4 (hval 2 4 v2 rfl rfl) h2
  have k3 := h3
  have lt3 : ∀ x ∈ p3, x.block < W.heap.size := by obtain ⟨m, hm⟩ := k3; exact DataW.trod_lt m _ _ _ hm
  obtain ⟨a3, rfl, _, _⟩ := open_bool Try.underlying4 (hval 3 4 v3 rfl rfl) h3
  clear hA0 hval0
  refine (walk a0 a1 a2 a3 W w0 w1).mono fun e W' ⟨he, bel⟩ => ?_
  subst he
  exact ⟨_, rfl, _, _, _, [], _, [], hW', trodAll_mk1 (shut_bool Try.underlying4 _), (trodAll_cons_mk (Below.trod laidOut (by kernel_rfl) (of_decide_eq_true (by kernel_rfl)) k0 bel lt0) (trodAll_cons_mk (Below.trod laidOut (by kernel_rfl) (of_decide_eq_true (by kernel_rfl)) k1 bel lt1) (trodAll_cons_mk (Below.trod laidOut (by kernel_rfl) (of_decide_eq_true (by kernel_rfl)) k2 bel lt2) (trodAll_cons_mk (Below.trod laidOut (by kernel_rfl) (of_decide_eq_true (by kernel_rfl)) k3 bel lt3) trodAll_mk0)))), rfl, bel.frame _, fun h => by cases h⟩

theorem over : Rows.diskBetweenRow.holds Try.pinned (OpenSpec.ofChange Rows.diskBetweenSpec) :=
  OpenClaim.holds_of_wide 7 Try.f7 rfl rfl rfl rfl rfl rfl rfl ⟨rfl, rfl, rfl, rfl, rfl⟩ rfl rfl rfl rfl rfl (by kernel_rfl) Try.func7 (by kernel_rfl)
    (of_decide_eq_true (by kernel_rfl)) (by unfold Func.isWrapper; first | (rw [if_pos (by decide +kernel)]; kernel_rfl) | (rw [if_neg (by decide +kernel)]; exact ⟨rfl, rfl⟩))
    (fun os started H enc _ => lifted os started H enc)

/-- The statement. -/
theorem proved : Rows.DiskBetweenSaid := over
#print axioms proved
end Go.Proofs.Ytnhaidofblfopaa.diskBetween
