/-
  Proved: 'matryoshkalaw4.SpanOnes' returns true for every input, and each argument reads afterwards as before: the statement SpanOnesSaid as given. Conditions: none beyond the row's own.
-/
import Derived.Test.YtdnkldcmefcmbaaRows
import Derived.Test.YtdnkldcmefcmbaaJ4
import Derived.Deep.RegionHeld3
import Derived.WalkKit
import Derived.ProofKit
import Derived.OpenShut
import Derived.ShutString
import Derived.ChangeOld
import Derived.Below
namespace Go.Proofs.Ytdnkldcmefcmbaa.spanOnes
open Go.ChangeShapes Go.WideShapes Go.ChangeAt Go.RowKit
open Go.ChangeMaps (open_string shut_string)
set_option linter.unusedVariables false

theorem own : ownKnob Try.prog.godebug = none := by kernel_rfl
theorem laidOut : laidOutB Try.prog = true := by kernel_rfl

/-- A slice of integers that came in: nil, or a row of cells. -/
def IsRow (k : IntKind) (w : World) (a : Option Addr) (len cap : Nat) (zs : List Int) : Prop :=
  (a = none ∧ len = 0 ∧ cap = 0 ∧ zs = []) ∨
  ∃ x, a = some x ∧ len ≤ cap ∧ cap ≤ maxLen ∧ zs.length = cap ∧ (∀ i, i < zs.length → w.cell? (x.add i) = some (.int k (zs.getD i 0))) ∧ ∀ n ∈ zs, (Lit.int k n).wf = true

set_option maxRecDepth 20000 in
set_option maxHeartbeats 4000000 in
theorem walk (a0 : Option Addr) (len0 cap0 : Nat) (z0 : List Int) (w : World) (w0 : IsRow .u8 w a0 len0 cap0 z0) :
    Calls Try.prog 10 #[.slice a0 len0 cap0] w fun e w' => e = .returned (.bool true) ∧ Below w.heap.size w w' := by
  by_cases hbig : 100 < len0
  · clear w0
    go_enter Try.func10, Try.ntmps10
    go_wp2_with (go_at_call 11; refine (awake_any _).mono ?_; rintro e w1 ⟨rfl, hb⟩; have HB := Lib.hid hb; clear hb)
    go_ret
    exact ⟨rfl, HB.out⟩
  have hB := bytes_of w0 (by omega)
  obtain ⟨l, hl⟩ := named (z0.take len0)
  rw [hl.out] at hB
  have hlen : len0 ≤ 100 := by omega
  have HB := Lib.hid hB
  have hfb : ∀ i, i < len0 → 0 ≤ l.getD i 0 ∧ l.getD i 0 < 256 := fun i hi => hB.small.at (by rw [hB.1]; exact hi)
  have HFB := Lib.hid hfb
  obtain ⟨F, HF⟩ := named (fun i => l.getD i 0)
  have hF : ∀ i, F i = l.getD i 0 := fun i => by rw [← HF.out]
  have hfb2 : ∀ i, i < len0 → 0 ≤ F i ∧ F i < 256 := fun i hi => by rw [hF]; exact hfb i hi
  have HFF := Lib.hid hF
  have RO := Lib.hid (onesTo_right F)
  have RL := Lib.hid (lessTo_right (onesTo_right F len0) F)
  have LO : Hid (∀ k, k ≤ len0 → (onesTo F k).length ≤ 257) := fun k hk => by
    have := rt_len _ (RO.out k) 256 (by omega) (ones_low k (fun i hi => hfb2 i (by omega)))
    omega
  have LL : Hid (∀ k, k ≤ len0 → (lessTo (onesTo F len0) F k).length ≤ 257) := fun k hk => by
    have := rt_len _ (RL.out k) 256 (by omega) (fun n hn => ones_low len0 hfb2 n ((hasB_iff _ _).1 ((less_has (onesTo_right F len0) k (fun i hi => hfb2 i (by omega)) n).1 ((hasB_iff _ _).2 hn)).1))
    omega
  have OS : Hid (∀ k, k < len0 → sumL (onesTo F (k + 1)) = sumL (onesTo F k) + if seenB F k (F k) = true then 0 else 1) := fun k hk => ones_sum k (fun i hi => hfb2 i (by omega))
  have OH : Hid (∀ n, hasB (onesTo F len0) n = seenB F len0 n) := fun n => ones_has len0 hfb2 n
  have OE := Lib.hid (less_all len0 hfb2)
  clear hB w0 hfb hbig hF hfb2
  have hzv := zero256
  have hz1 : decide ((100 : Int) < (len0 : Int)) = false := by simp; omega
  go_enter Try.func10, Try.ntmps10
  go_wp2
  go_loopw [3, 5, 6] (fun o s i wr => ∃ (k n c : Nat) (x : Option Addr) (S : Nat), k ≤ len0 ∧ S ≤ k ∧ i = .int .i64 k ∧ s = .int .i64 S ∧ o = .slice x n c ∧ Hid (sumL (onesTo F k) = (S : Int)) ∧ Hid ((onesTo F k).length = n) ∧ Hid ((x = none → c = 0) ∧ n ≤ c) ∧ Hid (Ones w x n (onesTo F k) w.heap.size (seenB F k) wr)) (fun _ _ i _ => len0 - (intOf i).toNat)
  case atStart => exact ⟨0, 0, 0, none, 0, Nat.zero_le _, Nat.le_refl _, rfl, rfl, rfl, rfl, rfl, ⟨fun _ => rfl, Nat.le_refl _⟩, (Below.refl _ _).alloc (Nat.le_refl _) _, Reads.nil _ _ _, Flags.start w F⟩
  case round =>
    obtain ⟨k, n, c, x, S, hk, hSk, rfl, rfl, rfl, HS, HKN, HNN, HO⟩ := hrel
    by_cases hlt : k < len0
    · obtain ⟨bb, off, rfl⟩ := HB.out.lies (by omega)
      have hd0 := HFB.out k hlt
      obtain ⟨d, hd, hd1⟩ : ∃ d : Nat, l.getD k 0 = (d : Int) ∧ d < 256 := ⟨(l.getD k 0).toNat, by omega, by omega⟩
      have HFk : Hid (F k = (d : Int)) := by rw [Hid, HFF.out, hd]
      have c0 := HB.out.cellAt k hlt
      rw [hd] at c0
      have HC0 := Lib.hid c0
      have c1 := (HO.out.old c0).1
      have hsum := OS.out k hlt
      rw [HFk.out, HS.out] at hsum
      have HA : Hid (onesTo F (k + 1) = addL (onesTo F k) ((d : Int), (d : Int) + 1)) := by
        have e : onesTo F (k + 1) = addL (onesTo F k) (F k, F k + 1) := rfl
        rw [HFk.out] at e
        exact e
      have hLO := LO.out k (by omega)
      rw [HKN.out] at hLO
      obtain ⟨n2, HKN2⟩ := named (onesTo F (k + 1)).length
      have CA := Lib.hid (fun wz (h : Spans wz x n (onesTo F k)) => spanAdd_any x n c (onesTo F k) (d : Int) ((d : Int) + 1) wz h HNN.out.2 HNN.out.1 (by omega) ((RO.out k).fit (by omega)) (by unfold I64; omega) (by unfold I64; omega))
      rw [← HA.out] at CA
      obtain ⟨bS, HBS⟩ := named (seenB F k (d : Int))
      rw [HBS.out] at hsum
      have HSUM := Lib.hid hsum
      have hi0 : (0 : Int) ≤ (k : Int) := Int.natCast_nonneg _
      have hi1 : (k : Int) < (len0 : Int) := by omega
      have hj1 : (d : Int) < 256 := by omega
      have hj0 : (0 : Int) ≤ (d : Int) := Int.natCast_nonneg _
      have v0 : IntKind.i64.wrap (d : Int) = (d : Int) := by rw [IntKind.wrap_i64]; omega
      have v1 : IntKind.i64.wrap ((d : Int) + 1) = (d : Int) + 1 := by rw [IntKind.wrap_i64]; omega
      clear c0 hd0 hsum hd
      go_wp2_with fail
      go_region_held3 (fun w' => w'.cell? ⟨bb, off + k, none⟩ = some (.int .u8 d) ∧ Ones w x n (onesTo F k) w.heap.size (seenB F k) w')
        (first | exact Ones.old (by assumption) HC0.out | exact Ones.old HO.out.drew HC0.out)
        (first | (go_at_call 15; (with_reducible refine (Ones.call HKN2.out (CA.out _) (by assumption)).mono ?_); rintro e w' ⟨x2, c2, rfl, hn2, ho2, hh⟩; have HN2 := Lib.hid hn2; have HO2 := Lib.hid ho2; clear hn2 ho2))
      have hfl := Ones.flag HO2.out hd1 HBS.out
      have hfr := (HO2.out.2.2 d hd1).2
      have hfc := hfl.1
      have c2' := (HO2.out.old HC0.out).1
      have HO3 := Lib.hid (HO2.out.put (Nat.le_refl _) hd1)
      have est := seen_step F k HFk.out
      rw [est] at HO3
      clear hfl est hh
      cases bS
      · have HS2 : Hid (sumL (onesTo F (k + 1)) = ((S + 1 : Nat) : Int)) := by rw [Hid, HSUM.out]; simp
        go_wp2
        go_roundw
        case rel => exact ⟨k + 1, n2, c2, x2, S + 1, by omega, by omega, by go_num, by go_num, rfl, HS2.out, HKN2.out, HN2.out, HO3.out⟩
        case measure => simp [intOf]; omega
      · have HS2 : Hid (sumL (onesTo F (k + 1)) = ((S : Nat) : Int)) := by rw [Hid, HSUM.out]; simp
        go_wp2
        go_roundw
        case rel => exact ⟨k + 1, n2, c2, x2, S, by omega, by omega, by go_num, rfl, rfl, HS2.out, HKN2.out, HN2.out, HO3.out⟩
        case measure => simp [intOf]; omega
    · obtain rfl : k = len0 := by omega
      have hLO := LO.out k (by omega)
      rw [HKN.out] at hLO
      have c1' := Lib.hid (fun wz (h : Spans wz x n (onesTo F k)) => count_any h (RO.out k) HNN.out (by omega) HS.out)
      have c2' := Lib.hid (fun wz (h : Spans wz x n (onesTo F k)) => right_any h (RO.out k) HNN.out (by omega))
      have hne : ((S : Int) != (S : Int)) = false := by simp
      go_wp2_with (first
        | (go_at_call 21; (with_reducible refine (Ones.val (q := True) (c1'.out _) ⟨trivial, HO.out⟩).mono ?_); rintro e v1 ⟨rfl, hb⟩; have E1 := Lib.hid hb; clear hb)
        | (go_at_call 12; (with_reducible refine (Ones.val (q := True) (c2'.out _) ⟨trivial, E1.out⟩).mono ?_); rintro e v2 ⟨rfl, hb⟩; have E2 := Lib.hid hb; clear hb))
      go_loopw [7] (fun i wr => ∃ j : Nat, j ≤ 256 ∧ i = .int .i64 j ∧ Hid (Ones w x n (onesTo F k) w.heap.size (seenB F k) wr)) (fun i _ => 256 - (intOf i).toNat)
      case atStart => exact ⟨0, by omega, rfl, E2.out⟩
      case round =>
        obtain ⟨j, hj, rfl, HOj⟩ := hrel
        clear HO E1 E2
        by_cases hjl : j < 256
        · obtain ⟨bS, HBS⟩ := named (seenB F k (j : Int))
          have hh := OH.out (j : Int)
          rw [HBS.out] at hh
          have CH := Lib.hid (fun wz (h : Spans wz x n (onesTo F k)) => has_any h (RO.out k) HNN.out (by omega) (j := j) (by omega) hh)
          have hi0 : (0 : Int) ≤ (j : Int) := Int.natCast_nonneg _
          have hi1 : (j : Int) < 256 := by omega
          have hbb : (bS != bS) = false := by cases bS <;> rfl
          clear hh
          go_wp2_with fail
          go_region_held3 (fun w' => w'.cell? ⟨w.heap.size, j, none⟩ = some (.bool bS) ∧ Ones w x n (onesTo F k) w.heap.size (seenB F k) w')
            (first | exact Ones.flag (by assumption) hjl HBS.out | exact Ones.flag HOj.out.drew hjl HBS.out)
            (first | (go_at_call 19; (with_reducible refine (Ones.val (CH.out _) (by assumption)).mono ?_); rintro e w' ⟨rfl, ho2⟩; have HO2 := Lib.hid ho2))
          go_wp2
          go_roundw
          case rel => exact ⟨j + 1, by omega, by go_num, HO2.out⟩
          case measure => simp [intOf]; omega
        · have hjn : decide ((j : Int) < 256) = false := by simp; omega
          go_wp2
          go_loopw [3, 8] (fun o i wr => ∃ (q m c3 : Nat) (x3 : Option Addr), q ≤ k ∧ i = .int .i64 q ∧ o = .slice x3 m c3 ∧ Hid ((lessTo (onesTo F k) F q).length = m) ∧ Hid ((x3 = none → c3 = 0) ∧ m ≤ c3) ∧ Hid (Ones w x3 m (lessTo (onesTo F k) F q) w.heap.size (seenB F k) wr)) (fun _ i _ => k - (intOf i).toNat)
          case atStart => exact ⟨0, n, c, x, Nat.zero_le _, rfl, rfl, HKN.out, HNN.out, HOj.out⟩
          case round =>
            obtain ⟨q, m, c3, x3, hq, rfl, rfl, HKM, HNM, HOq⟩ := hrel
            clear HOj
            by_cases hql : q < k
            · obtain ⟨bb, off, rfl⟩ := HB.out.lies (by omega)
              have hd0 := HFB.out q hql
              obtain ⟨d, hd, hd1⟩ : ∃ d : Nat, l.getD q 0 = (d : Int) ∧ d < 256 := ⟨(l.getD q 0).toNat, by omega, by omega⟩
              have HFk : Hid (F q = (d : Int)) := by rw [Hid, HFF.out, hd]
              have c0 := HB.out.cellAt q (by omega)
              rw [hd] at c0
              have HC0 := Lib.hid c0
              have c1 := (HOq.out.old c0).1
              have HA : Hid (lessTo (onesTo F k) F (q + 1) = subL (lessTo (onesTo F k) F q) ((d : Int), (d : Int) + 1)) := by
                have e : lessTo (onesTo F k) F (q + 1) = subL (lessTo (onesTo F k) F q) (F q, F q + 1) := rfl
                rw [HFk.out] at e
                exact e
              have hLL := LL.out q (by omega)
              rw [HKM.out] at hLL
              obtain ⟨n2, HKN2⟩ := named (lessTo (onesTo F k) F (q + 1)).length
              have CS := Lib.hid (fun wz (h : Spans wz x3 m (lessTo (onesTo F k) F q)) => spanSub_any x3 m c3 (lessTo (onesTo F k) F q) (d : Int) ((d : Int) + 1) wz h HNM.out.2 HNM.out.1 (by omega) ((RL.out q).fit (by omega)) (by unfold I64; omega) (by unfold I64; omega))
              rw [← HA.out] at CS
              have hi0 : (0 : Int) ≤ (q : Int) := Int.natCast_nonneg _
              have hi1 : (q : Int) < (k : Int) := by omega
              have hj0 : (0 : Int) ≤ (d : Int) := Int.natCast_nonneg _
              have v0 : IntKind.i64.wrap (d : Int) = (d : Int) := by rw [IntKind.wrap_i64]; omega
              have v1 : IntKind.i64.wrap ((d : Int) + 1) = (d : Int) + 1 := by rw [IntKind.wrap_i64]; omega
              clear c0 hd0 hd
              go_wp2_with fail
              go_region_held3 (fun w' => w'.cell? ⟨bb, off + q, none⟩ = some (.int .u8 d) ∧ Ones w x3 m (lessTo (onesTo F k) F q) w.heap.size (seenB F k) w')
                (first | exact Ones.old (by assumption) HC0.out | exact Ones.old HOq.out.drew HC0.out)
                (first | (go_at_call 17; (with_reducible refine (Ones.call HKN2.out (CS.out _) (by assumption)).mono ?_); rintro e w' ⟨x2, c2, rfl, hn2, ho2, hh⟩; have HN2 := Lib.hid hn2; have HO2 := Lib.hid ho2; clear hn2 ho2))
              go_wp2
              go_roundw
              case rel => exact ⟨q + 1, n2, c2, x2, by omega, by go_num, rfl, HKN2.out, HN2.out, HO2.out⟩
              case measure => simp [intOf]; omega
            · obtain rfl : q = k := by omega
              have hm0 : m = 0 := by rw [← HKM.out, OE.out]; rfl
              subst hm0
              go_wp2_with (go_at_call 11; refine (awake_any _).mono ?_; rintro e w15 ⟨rfl, hb⟩; have HZ := Lib.hid (HOq.out.1.trans (hb.mono HOq.out.1.size)); clear hb)
              go_ret
              exact ⟨rfl, HZ.out⟩

set_option maxRecDepth 100000 in
theorem lifted (os : Os) (started : os.Started) (H : Type) (enc : TypeId × Value → H) :
    ReturnsInHanded {} Try.checked os 10 .any (Rows.spanOnesSpec.pre6 enc Try.prog Try.f10 Rows.spanOnesRow.domain false) (Rows.spanOnesSpec.post enc Try.prog Try.f10 false true false false) := by
  refine returnsInHanded_of_change (C := Try.checked) own started (by kernel_rfl) Try.func10
    (ChangeSpec.witness6 (enc := enc) (C := Try.checked) false ⟨#[], #[.slice none 0 0], []⟩ 8 (by kernel_rfl) (by kernel_rfl) (by kernel_rfl) (by kernel_rfl)) ?_
  intro W base args ds gs before hval0 hW hcnd _
  have hval : ∀ (j : Nat) t v, Try.f10.params[j]? = some t → args[j]? = some v → Value.okWide Try.prog W .any base t v := hval0
  have hW' := hW
  obtain ⟨p, q, hA0, hV, rfl, hfz, hnd⟩ := hW
  have hA : DataW.TrodAll enc Try.prog W 0 (fun _ => true) true Try.f10.params.toList args.toList ds p := hA0
  rw [Try.params10] at hA hval
  obtain ⟨v0, vs0, d0, ds0, p0, q0, hargs, rfl, rfl, h0, r0⟩ := trodAll_cons hA
  obtain ⟨rfl, rfl, rfl⟩ := trodAll_nil r0
  obtain rfl : args = #[v0] := by cases args; simp_all
  obtain ⟨rfl, rfl⟩ := trodVars_none hV
  have k0 := h0
  have lt0 : ∀ x ∈ p0, x.block < W.heap.size := by obtain ⟨m, hm⟩ := k0; exact DataW.trod_lt m _ _ _ hm
  obtain ⟨a0, len0, cap0, rfl⟩ := okWide_slice Try.underlying52 (hval 0 52 v0 rfl rfl)
  obtain ⟨z0, w0⟩ : ∃ zs, IsRow .u8 W a0 len0 cap0 zs := by
    obtain ⟨fuel, hf⟩ := h0
    rcases open_ints Try.underlying52 Try.underlying5 (by kernel_rfl) hf with ⟨hcs, _⟩ | ⟨x, l, c, zs, hcs, _, hl, hm, hz, _, hcell, hwz⟩
    · simp [Value.cells] at hcs
      obtain ⟨rfl, rfl, rfl⟩ := hcs
      exact ⟨[], .inl ⟨rfl, rfl, rfl, rfl⟩⟩
    · simp [Value.cells] at hcs
      obtain ⟨rfl, rfl, rfl⟩ := hcs
      exact ⟨zs, .inr ⟨_, rfl, hl, hm, by simpa using hz, hcell, hwz⟩⟩
  clear hA0 hval0
  refine (walk a0 len0 cap0 z0 W w0).mono fun e W' ⟨he, bel⟩ => ?_
  subst he
  exact ⟨_, rfl, _, _, _, [], _, [], hW', trodAll_mk1 (shut_bool Try.underlying4 _), (trodAll_cons_mk (Below.trod laidOut (by kernel_rfl) (of_decide_eq_true (by kernel_rfl)) k0 bel lt0) trodAll_mk0), rfl, bel.frame _, fun h => by cases h⟩

theorem over : Rows.spanOnesRow.holds Try.pinned (OpenSpec.ofChange Rows.spanOnesSpec) :=
  OpenClaim.holds_of_wide 10 Try.f10 rfl rfl rfl rfl rfl rfl rfl ⟨rfl, rfl, rfl, rfl, rfl⟩ rfl rfl rfl rfl rfl (by kernel_rfl) Try.func10 (by kernel_rfl)
    (of_decide_eq_true (by kernel_rfl)) (by unfold Func.isWrapper; first | (rw [if_pos (by decide +kernel)]; kernel_rfl) | (rw [if_neg (by decide +kernel)]; exact ⟨rfl, rfl⟩))
    (fun os started H enc _ => lifted os started H enc)

/-- The statement. -/
theorem proved : Rows.SpanOnesSaid := over
#print axioms proved
end Go.Proofs.Ytdnkldcmefcmbaa.spanOnes
