/-
  What the reference's Unpack answers. Conditions: the slice reads as bytes and has no more than 100000 of them.
-/
import Derived.Test.YtlkpedknhjgdiaaL3
import Derived.Test.YtlkpedknhjgdiaaP2
namespace Go.Proofs.Ytlkpedknhjgdiaa
open Go.RowKit

theorem addTo_ge (b : List Int) : ∀ (f p n m q : Nat), addTo b f p n = (m, q, true) → p ≤ q
  | 0, _, _, _, _, h => by simp [addTo] at h
  | f + 1, p, n, m, q, h => by
    unfold addTo at h
    by_cases h1 : p < b.length
    · rw [if_pos h1] at h
      by_cases h2 : b.getD p 0 = 255
      · rw [if_pos h2] at h
        have := addTo_ge b f (p + 1) (n + 255) m q h
        omega
      · rw [if_neg h2] at h
        simp at h
        omega
    · rw [if_neg h1] at h
      simp at h
theorem lengthOf_ge {b : List Int} {p half m q : Nat} (h : lengthOf b p half = (m, q, true)) : p ≤ q := by
  unfold lengthOf at h
  by_cases h1 : half < 15
  · rw [if_pos h1] at h
    simp at h
    omega
  · rw [if_neg h1] at h
    exact addTo_ge b _ _ _ _ _ h
theorem unp_end (b : List Int) (most f p : Nat) (out : List Int) (h : b.length ≤ p) : unp b most (f + 1) p out = (out, 0) := by
  rw [unp, if_pos h]
theorem unp_bad (b : List Int) (most f p x y : Nat) (out : List Int) (h : p < b.length) (hl : lengthOf b (p + 1) ((b.getD p 0).toNat / 16) = (x, y, false)) : unp b most (f + 1) p out = ([], 3) := by
  rw [unp, if_neg (by omega), hl]
/-- What stands behind the literal bytes of a sequence. -/
def unpLits (b : List Int) (most token f : Nat) : Got → List Int × Int
  | .bad e => ([], e)
  | .ok p' out' => unpBack b most token (unp b most f) p' out'
theorem unp_lits (b : List Int) (most f p l q : Nat) (out : List Int) (h : p < b.length) (hl : lengthOf b (p + 1) ((b.getD p 0).toNat / 16) = (l, q, true)) : unp b most (f + 1) p out = unpLits b most (b.getD p 0).toNat f (lits b most l q out) := by
  rw [unp, if_neg (by omega), hl]
  dsimp only
  cases lits b most l q out <;> rfl
theorem lits_done (b : List Int) (most p : Nat) (out : List Int) : lits b most 0 p out = .ok p out := rfl
theorem lits_form (b : List Int) (most k p : Nat) (out : List Int) (h : b.length ≤ p) : lits b most (k + 1) p out = .bad 3 := by rw [lits, if_pos h]
theorem lits_long (b : List Int) (most k p : Nat) (out : List Int) (h : ¬ b.length ≤ p) (h2 : most ≤ out.length) : lits b most (k + 1) p out = .bad 2 := by rw [lits, if_neg h, if_pos h2]
theorem lits_on (b : List Int) (most k p : Nat) (out : List Int) (h : ¬ b.length ≤ p) (h2 : ¬ most ≤ out.length) : lits b most (k + 1) p out = lits b most k (p + 1) (out ++ [b.getD p 0]) := by rw [lits, if_neg h, if_neg h2]
/-- What stands behind the bytes that are told again. -/
def unpReps (b : List Int) (most q f : Nat) : Got → List Int × Int
  | .bad e => ([], e)
  | .ok _ out' => unp b most f q out'
theorem back_end (b : List Int) (most token f : Nat) (out : List Int) : unpLits b most token f (.ok b.length out) = (out, 0) := by
  rw [unpLits, unpBack, if_pos rfl]
theorem back_cut (b : List Int) (most token f p : Nat) (out : List Int) (h : ¬ p = b.length) (h2 : b.length - p < 2) : unpLits b most token f (.ok p out) = ([], 3) := by
  rw [unpLits, unpBack, if_neg h, if_pos h2]
theorem back_far (b : List Int) (most token f p : Nat) (out : List Int) (h : ¬ p = b.length) (h2 : ¬ b.length - p < 2) (h3 : farOf b p = 0 ∨ out.length < farOf b p) : unpLits b most token f (.ok p out) = ([], 3) := by
  rw [unpLits, unpBack, if_neg h, if_neg h2, if_pos h3]
theorem back_bad (b : List Int) (most token f p x y : Nat) (out : List Int) (h : ¬ p = b.length) (h2 : ¬ b.length - p < 2) (h3 : ¬ (farOf b p = 0 ∨ out.length < farOf b p)) (hl : lengthOf b (p + 2) (token % 16) = (x, y, false)) : unpLits b most token f (.ok p out) = ([], 3) := by
  rw [unpLits, unpBack, if_neg h, if_neg h2, if_neg h3, hl]
theorem back_reps (b : List Int) (most token f p m q : Nat) (out : List Int) (h : ¬ p = b.length) (h2 : ¬ b.length - p < 2) (h3 : ¬ (farOf b p = 0 ∨ out.length < farOf b p)) (hl : lengthOf b (p + 2) (token % 16) = (m, q, true)) :
    unpLits b most token f (.ok p out) = unpReps b most q f (reps most (farOf b p) (m + 4) out) := by
  rw [unpLits, unpBack, if_neg h, if_neg h2, if_neg h3, hl]
  dsimp only
  cases reps most (farOf b p) (m + 4) out <;> rfl
theorem reps_long (most far k : Nat) (out : List Int) (h2 : most ≤ out.length) : reps most far (k + 1) out = .bad 2 := by rw [reps, if_pos h2]
theorem reps_on (most far k : Nat) (out : List Int) (h2 : ¬ most ≤ out.length) : reps most far (k + 1) out = reps most far k (out ++ [out.getD (out.length - far) 0]) := by rw [reps, if_neg h2]

theorem i64_or_nat (a b : Nat) (ha : a < 65536) (hb : b < 65536) : bits .or .i64 (a : Int) (b : Int) = ((a ||| b : Nat) : Int) := by
  have hx : a ||| b < 2 ^ 16 := Nat.or_lt_two_pow (by omega) (by omega)
  show IntKind.i64.wrap ((BitVec.ofInt 64 (a : Int) ||| BitVec.ofInt 64 (b : Int)).toNat : Int) = _
  rw [BitVec.toNat_or, ofInt_u64 a (by omega), ofInt_u64 b (by omega), IntWalk.i64_in _ (by omega)]
theorem far_of (x y : Int) (hx : 0 ≤ x ∧ x < 256) (hy : 0 ≤ y ∧ y < 256) : bits .or .i64 x (y * 256) = ((x.toNat + 256 * y.toNat : Nat) : Int) := by
  have e1 : x = ((x.toNat : Nat) : Int) := by omega
  have e2 : y * 256 = ((y.toNat * 256 : Nat) : Int) := by omega
  have h := i64_or_nat x.toNat (y.toNat * 256) (by omega) (by omega)
  rw [← e1, ← e2, Nat.or_comm, nat_join 8 (y.toNat * 256) x.toNat (by omega) (by omega)] at h
  rw [h]
  omega
theorem low_of (x : Int) (hx : 0 ≤ x ∧ x < 256) : bits .and .i64 x 15 = x % 16 := by
  have e1 : x = ((x.toNat : Nat) : Int) := by omega
  have hl : x.toNat &&& 15 = x.toNat % 16 := Nat.and_two_pow_sub_one_eq_mod x.toNat 4
  have h : bits .and .i64 ((x.toNat : Nat) : Int) 15 = ((x.toNat &&& 15 : Nat) : Int) := by
    show IntKind.i64.wrap ((BitVec.ofInt 64 ((x.toNat : Nat) : Int) &&& BitVec.ofInt 64 ((15 : Nat) : Int)).toNat : Int) = _
    rw [BitVec.toNat_and, ofInt_u64 x.toNat (by omega), ofInt_u64 15 (by omega), IntWalk.i64_in _ (by rw [hl]; omega)]
  rw [← e1, hl] at h
  rw [h]
  omega
theorem PutPost.bad {w0 w : World} {R : List Int × Int} {err : Int} (h : R = ([], err)) (hb : Below w0.heap.size w0 w) : PutPost w0 R.1 R.2 (.returned (.tuple #[.slice Option.none 0 0, .int .i64 err])) w := by
  subst h
  exact ⟨Option.none, 0, rfl, none_bytes w, ⟨fun _ => rfl, Nat.le_refl _⟩, hb⟩
theorem PutPost.good {w0 w : World} {R : List Int × Int} {l : List Int} {a : Option Addr} {n c base : Nat} (hR : R = (l, 0)) (h : Own w base (.slice a n c) n l) (hb : Below w0.heap.size w0 w) : PutPost w0 R.1 R.2 (.returned (.tuple #[.slice a n c, .int .i64 0])) w := by
  subst hR
  exact PutPost.own 0 h hb

set_option maxHeartbeats 400000 in
theorem refUnpack_arg (sl : Value) (most : Int) (w : World) (h : most < 0 ∨ 1048576 < most) :
    Calls Try.prog 13 #[sl, .int .i64 most] w (PutPost w [] 1) := by
  by_cases h1 : most < 0
  · go_enter Try.func13, Try.ntmps13
    go_wp2
    go_ret2
    exact PutPost.empty w 1
  · have h2 : 1048576 < most := by omega
    go_enter Try.func13, Try.ntmps13
    go_wp2
    go_ret2
    exact PutPost.empty w 1

set_option maxHeartbeats 400000 in
theorem refUnpack_none (a : Option Addr) (cap : Nat) (most : Nat) (w : World) (h : most ≤ 1048576) :
    Calls Try.prog 13 #[.slice a 0 cap, .int .i64 most] w (PutPost w [] 3) := by
  go_enter Try.func13, Try.ntmps13
  go_wp2
  go_ret2
  exact PutPost.empty w 3

set_option maxRecDepth 100000 in
set_option maxHeartbeats 4000000 in
theorem refUnpack_ok (a : Option Addr) (len cap most : Nat) (l : List Int) (w : World) (hB : Bytes w a len l) (h0 : 0 < len) (hlen : len ≤ 100000) (hm : most ≤ 1048576) :
    Calls Try.prog 13 #[.slice a len cap, .int .i64 most] w (PutPost w (unp l most (len + 1) 0 []).1 (unp l most (len + 1) 0 []).2) := by
  obtain ⟨R, HR⟩ : ∃ R, Hid (unp l most (len + 1) 0 [] = R) := ⟨_, Lib.hid rfl⟩
  rw [HR.out]
  obtain ⟨bb, off, rfl⟩ := hB.lies h0
  have HB := Lib.hid hB
  have HLL := Lib.hid hB.1
  have HBD := Lib.hid hB.small.2
  have hne : ((len : Int) == 0) = false := by simp; omega
  clear hB
  go_enter Try.func13, Try.ntmps13
  go_wp2
  go_loopw [6, 7, 8, 9, 10, 11, 12, 13, 14, 15, 16, 17] (fun o x _ _ _ _ _ _ _ _ _ _ wr => ∃ (p n c f : Nat) (a' : Option Addr) (out : List Int), p ≤ len ∧ n ≤ 1048576 ∧ len + 1 ≤ f + p ∧ x = .int .i64 p ∧ o = .slice a' n c ∧ Hid (Own wr w.heap.size (.slice a' n c) n out) ∧ Hid (Below w.heap.size w wr) ∧ Hid (unp l most f p out = R)) (fun _ x _ _ _ _ _ _ _ _ _ _ _ => len - (intOf x).toNat)
  case atStart => exact ⟨0, 0, 0, len + 1, none, [], Nat.zero_le _, by omega, by omega, rfl, rfl, ⟨World.ownsRow_nil _ _ _ _, by unfold Small; simp⟩, Below.refl _ _, HR.out⟩
  case round =>
    obtain ⟨p, n, c, f, a', out, hp, hn, hf, rfl, rfl, HO, HG, HU⟩ := hrel
    by_cases hlt : p < len
    · obtain ⟨f', hf'⟩ : ∃ f', f = f' + 1 := ⟨f - 1, by omega⟩
      rw [hf'] at HU
      obtain ⟨c0, HC0⟩ := named (l.getD p 0)
      have hcell := (HB.out.later HG.out).cellAt p hlt
      have hbd := getD_bd HBD.out p (by rw [HLL.out]; exact hlt)
      rw [HC0.out] at hcell hbd
      have hb0 := hbd.1
      have hb1 := hbd.2
      obtain ⟨⟨L1, q1, k1⟩, HX⟩ := named (lengthOf l (p + 1) (c0.toNat / 16))
      have hbl := lengthOf_bd HBD.out (p + 1) (c0.toNat / 16) (by rw [HLL.out]; omega) (by omega)
      rw [HX.out, HLL.out] at hbl
      have hbl1 : L1 ≤ 15 + 255 * (len + 1) := hbl.1
      have hbl2 : q1 ≤ len := hbl.2
      have H1 : ∀ w', Below w.heap.size w w' → Calls Try.prog 20 #[.slice (some ⟨bb, off, none⟩) len cap, .int .i64 ((p : Int) + 1), .int .i64 (c0 / 16)] w' fun e w'' => e = .returned (.tuple #[.int .i64 (L1 : Int), .int .i64 (q1 : Int), .bool k1]) ∧ w' = w'' := fun w' hw => by
        have := refLength_any _ len cap (p + 1) (c0.toNat / 16) l w' (HB.out.later hw) hlen (by omega) (by omega)
        rw [HX.out, show ((c0.toNat / 16 : Nat) : Int) = c0 / 16 by omega] at this
        exact this
      have H1 := Lib.hid H1
      clear hbd hbl
      cases k1
      · have HE : Hid (R = ([], 3)) := by
          rw [Hid, ← HU.out]
          exact unp_bad l most f' p L1 q1 out (by rw [HLL.out]; exact hlt) (by rw [HC0.out]; exact HX.out)
        go_wp2_with (go_at_call 20; refine (H1.out _ HG.out).mono ?_; rintro e w' ⟨rfl, rfl⟩)
        go_ret2
        exact PutPost.bad HE.out HG.out
      · have hq1 := lengthOf_ge HX.out
        have HU1 : Hid (unpLits l most c0.toNat f' (lits l most L1 q1 out) = R) := by
          rw [Hid, ← HU.out, unp_lits l most f' p L1 q1 out (by rw [HLL.out]; exact hlt) (by rw [HC0.out]; exact HX.out), HC0.out]
        have hf2 : len + 1 ≤ f' + (p + 1) := by omega
        clear hf hf'
        go_wp2_with (go_at_call 20; refine (H1.out _ HG.out).mono ?_; rintro e w' ⟨rfl, rfl⟩)
        go_loopw [6, 7, 12] (fun o x i wi => ∃ (j q n2 c2 : Nat) (a2 : Option Addr) (out2 : List Int), j ≤ L1 ∧ q1 ≤ q ∧ q ≤ len ∧ n2 ≤ 1048576 ∧ i = .int .i64 j ∧ x = .int .i64 q ∧ o = .slice a2 n2 c2 ∧ Hid (Own wi w.heap.size (.slice a2 n2 c2) n2 out2) ∧ Hid (Below w.heap.size w wi) ∧ Hid (unpLits l most c0.toNat f' (lits l most (L1 - j) q out2) = R)) (fun _ _ i _ => L1 - (intOf i).toNat)
        case atStart => exact ⟨0, q1, n, c, a', out, Nat.zero_le _, Nat.le_refl _, hbl2, hn, rfl, rfl, rfl, HO.out, HG.out, HU1.out⟩
        case round =>
          obtain ⟨j, q, n2, c2, a2, out2, hj, hqq, hql, hn2, rfl, rfl, rfl, HO2, HG2, HU2⟩ := hrel
          by_cases hjl : j < L1
          · have HJ : Hid (L1 - j = (L1 - (j + 1)) + 1) := by rw [Hid]; omega
            by_cases hqe : len ≤ q
            · have HE : Hid (R = ([], 3)) := by
                rw [Hid, ← HU2.out, HJ.out, lits_form l most _ q out2 (by rw [HLL.out]; exact hqe)]
                rfl
              go_wp2
              go_ret2
              exact PutPost.bad HE.out HG2.out
            · by_cases hnm : most ≤ n2
              · have HE : Hid (R = ([], 2)) := by
                  rw [Hid, ← HU2.out, HJ.out, lits_long l most _ q out2 (by rw [HLL.out]; exact hqe) (by rw [HO2.out.len]; exact hnm)]
                  rfl
                go_wp2
                go_ret2
                exact PutPost.bad HE.out HG2.out
              · obtain ⟨c3, HC3⟩ := named (l.getD q 0)
                have hcell3 := (HB.out.later HG2.out).cellAt q (by omega)
                have hbd3 := getD_bd HBD.out q (by rw [HLL.out]; omega)
                rw [HC3.out] at hcell3 hbd3
                have HBD3 := Lib.hid hbd3
                have HU3 : Hid (unpLits l most c0.toNat f' (lits l most (L1 - (j + 1)) (q + 1) (out2 ++ [c3])) = R) := by
                  rw [Hid, ← HU2.out, HJ.out, lits_on l most _ q out2 (by rw [HLL.out]; exact hqe) (by rw [HO2.out.len]; exact hnm), HC3.out]
                clear hbd3
                go_wp2_with (at_builtin; refine append_more rfl (.tmp 62) (.tmp 67) rfl w.heap.size _ n2 out2 rfl (HO2.out.alloc _) _ 1 1 [c3] rfl (fun e => by cases e) (one_byte _ c3 HBD3.out) (by omega) (Nat.le_trans HG2.out.size (by simp)) ?_; intro a4 c4 w4 g1 g2; have HO4 := Lib.hid g1; have HG4 : Hid (Below w.heap.size w w4) := (HG2.out.alloc HG2.out.size _).trans g2; clear g1 g2)
                go_roundw
                case rel => exact ⟨j + 1, q + 1, n2 + 1, c4, a4, out2 ++ [c3], by omega, by omega, by omega, by omega, by go_num, by go_num, rfl, HO4.out, HG4.out, HU3.out⟩
                case measure => simp [intOf]; omega
          · obtain rfl : j = L1 := by omega
            have HU5 : Hid (unpLits l most c0.toNat f' (.ok q out2) = R) := by
              have := HU2.out
              rw [Nat.sub_self, lits_done] at this
              exact this
            clear HU2 HU1 HO HG
            by_cases hqe : q = len
            · have HE : Hid (R = (out2, 0)) := by
                rw [Hid, ← HU5.out, hqe, ← HLL.out]
                exact back_end l most _ f' out2
              have ht : ((q : Int) == (len : Int)) = true := by simp [hqe]
              clear hqe
              go_wp2
              go_ret2
              exact PutPost.good HE.out HO2.out HG2.out
            · have ht : ((q : Int) == (len : Int)) = false := by simp; omega
              have hql2 : q < len := by omega
              by_cases hcut : len < q + 2
              · have HE : Hid (R = ([], 3)) := by
                  rw [Hid, ← HU5.out]
                  exact back_cut l most _ f' q out2 (by rw [HLL.out]; exact hqe) (by rw [HLL.out]; omega)
                have hcut2 : (len : Int) - q < 2 := by omega
                clear hqe
                go_wp2
                go_ret2
                exact PutPost.bad HE.out HG2.out
              · obtain ⟨c6, HC6⟩ := named (l.getD q 0)
                obtain ⟨c7, HC7⟩ := named (l.getD (q + 1) 0)
                have d6 := (HB.out.later HG2.out).cellAt q (by omega)
                have d7 := (HB.out.later HG2.out).cellAt (q + 1) (by omega)
                have b6 := getD_bd HBD.out q (by rw [HLL.out]; omega)
                have b7 := getD_bd HBD.out (q + 1) (by rw [HLL.out]; omega)
                rw [HC6.out] at d6 b6
                rw [HC7.out] at d7 b7
                have b60 := b6.1
                have b61 := b6.2
                have b70 := b7.1
                have b71 := b7.2
                obtain ⟨F, hfar, HFF, hF⟩ : ∃ F : Nat, bits .or .i64 c6 (c7 * 256) = (F : Int) ∧ Hid (farOf l q = F) ∧ F ≤ 65535 := ⟨_, far_of c6 c7 b6 b7, by rw [Hid, farOf, HC6.out, HC7.out], by omega⟩
                have hlow := low_of c0 ⟨hb0, hb1⟩
                clear b6 b7
                by_cases hbadf : F = 0 ∨ n2 < F
                · have HE : Hid (R = ([], 3)) := by
                    rw [Hid, ← HU5.out]
                    exact back_far l most _ f' q out2 (by rw [HLL.out]; exact hqe) (by rw [HLL.out]; omega) (by rw [HFF.out, HO2.out.len]; exact hbadf)
                  clear hqe
                  by_cases hF0 : F = 0
                  · have hz : ((F : Int) == 0) = true := by simp [hF0]
                    clear hF0 hbadf
                    go_wp2
                    go_region
                    go_wp2
                    go_ret2
                    exact PutPost.bad HE.out HG2.out.drew
                  · have hz : ((F : Int) == 0) = false := by simp; omega
                    have hF1 : n2 < F := by omega
                    clear hbadf
                    go_wp2
                    go_region
                    go_wp2
                    go_ret2
                    exact PutPost.bad HE.out HG2.out.drew
                · have hz : ((F : Int) == 0) = false := by simp; omega
                  have hF1 : F ≤ n2 := by omega
                  have hF2 : 0 < F := by omega
                  obtain ⟨⟨m, q2, k2⟩, HX2⟩ := named (lengthOf l (q + 2) (c0.toNat % 16))
                  have hbl := lengthOf_bd HBD.out (q + 2) (c0.toNat % 16) (by rw [HLL.out]; omega) (by omega)
                  rw [HX2.out, HLL.out] at hbl
                  have hbl3 : m ≤ 15 + 255 * (len + 1) := hbl.1
                  have hbl4 : q2 ≤ len := hbl.2
                  have H2 : ∀ w', Below w.heap.size w w' → Calls Try.prog 20 #[.slice (some ⟨bb, off, none⟩) len cap, .int .i64 ((q : Int) + 2), .int .i64 (c0 % 16)] w' fun e w'' => e = .returned (.tuple #[.int .i64 (m : Int), .int .i64 (q2 : Int), .bool k2]) ∧ w' = w'' := fun w' hw => by
                    have := refLength_any _ len cap (q + 2) (c0.toNat % 16) l w' (HB.out.later hw) hlen (by omega) (by omega)
                    rw [HX2.out, show ((c0.toNat % 16 : Nat) : Int) = c0 % 16 by omega] at this
                    exact this
                  have H2 := Lib.hid H2
                  clear hbl
                  cases k2
                  · have HE : Hid (R = ([], 3)) := by
                      rw [Hid, ← HU5.out]
                      exact back_bad l most _ f' q m q2 out2 (by rw [HLL.out]; exact hqe) (by rw [HLL.out]; omega) (by rw [HFF.out, HO2.out.len]; exact hbadf) HX2.out
                    clear hbadf hqe
                    go_wp2
                    go_region
                    go_wp2_with (go_at_call 20; ((with_reducible refine (H2.out _ HG2.out.drew).mono ?_); rintro e w' ⟨rfl, rfl⟩))
                    go_ret2
                    exact PutPost.bad HE.out HG2.out.drew
                  · have hq2 := lengthOf_ge HX2.out
                    have HU6 : Hid (unpReps l most q2 f' (reps most F (m + 4) out2) = R) := by
                      rw [Hid, ← HU5.out, back_reps l most _ f' q m q2 out2 (by rw [HLL.out]; exact hqe) (by rw [HLL.out]; omega) (by rw [HFF.out, HO2.out.len]; exact hbadf) HX2.out, HFF.out]
                    clear hbadf hqe HU5
                    go_wp2
                    go_region
                    go_wp2_with (go_at_call 20; ((with_reducible refine (H2.out _ HG2.out.drew).mono ?_); rintro e w' ⟨rfl, rfl⟩))
                    go_loopw [6, 17] (fun o i wk => ∃ (j3 n3 c3 : Nat) (a3 : Option Addr) (out3 : List Int), j3 ≤ m + 4 ∧ n2 ≤ n3 ∧ n3 ≤ 1048576 ∧ i = .int .i64 j3 ∧ o = .slice a3 n3 c3 ∧ Hid (Own wk w.heap.size (.slice a3 n3 c3) n3 out3) ∧ Hid (Below w.heap.size w wk) ∧ Hid (unpReps l most q2 f' (reps most F (m + 4 - j3) out3) = R)) (fun _ i _ => m + 4 - (intOf i).toNat)
                    case atStart => exact ⟨0, n2, c2, a2, out2, Nat.zero_le _, Nat.le_refl _, hn2, rfl, rfl, HO2.out.drew, HG2.out.drew, HU6.out⟩
                    case round =>
                      obtain ⟨j3, n3, c3, a3, out3, hj3, hnn, hn3, rfl, rfl, HO3, HG3, HU7⟩ := hrel
                      clear HO2 HG2 HU6
                      by_cases hjm : j3 < m + 4
                      · have HJ : Hid (m + 4 - j3 = (m + 4 - (j3 + 1)) + 1) := by rw [Hid]; omega
                        by_cases hnm : most ≤ n3
                        · have HE : Hid (R = ([], 2)) := by
                            rw [Hid, ← HU7.out, HJ.out, reps_long most F _ out3 (by rw [HO3.out.len]; exact hnm)]
                            rfl
                          go_wp2
                          go_ret2
                          exact PutPost.bad HE.out HG3.out
                        · obtain ⟨g, rfl, hgb, hgs⟩ := HO3.out.lies (by omega)
                          obtain ⟨K, hK, hK2⟩ : ∃ K : Nat, (n3 : Int) - (F : Int) = (K : Int) ∧ Hid (K = n3 - F) := ⟨n3 - F, by omega, rfl⟩
                          have hK3 : K < n3 := by have := hK2.out; omega
                          obtain ⟨c8, HC8⟩ := named (out3.getD K 0)
                          have d8 := HO3.out.cell K hK3
                          have b8 := HO3.out.2.at (k := K) (by rw [HO3.out.len]; exact hK3)
                          rw [HC8.out] at d8 b8
                          have HB8 := Lib.hid b8
                          have HU8 : Hid (unpReps l most q2 f' (reps most F (m + 4 - (j3 + 1)) (out3 ++ [c8])) = R) := by
                            rw [Hid, ← HU7.out, HJ.out, reps_on most F _ out3 (by rw [HO3.out.len]; exact hnm), HO3.out.len, ← hK2.out, HC8.out]
                          clear b8
                          go_wp2_with (at_builtin; refine append_more rfl (.tmp 126) (.tmp 134) rfl w.heap.size _ n3 out3 rfl (HO3.out.alloc _) _ 1 1 [c8] rfl (fun e => by cases e) (one_byte _ c8 HB8.out) (by omega) (Nat.le_trans HG3.out.size (by simp)) ?_; intro a4 c4 w4 g1 g2; have HO4 := Lib.hid g1; have HG4 : Hid (Below w.heap.size w w4) := (HG3.out.alloc HG3.out.size _).trans g2; clear g1 g2)
                          go_roundw
                          case rel => exact ⟨j3 + 1, n3 + 1, c4, a4, out3 ++ [c8], by omega, by omega, by omega, by go_num, rfl, HO4.out, HG4.out, HU8.out⟩
                          case measure => simp [intOf]; omega
                      · have HU9 : Hid (unp l most f' q2 out3 = R) := by
                          obtain rfl : j3 = m + 4 := by omega
                          have := HU7.out
                          rw [Nat.sub_self] at this
                          exact this
                        go_wp2
                        go_roundw
                        case rel => exact ⟨q2, n3, c3, f', a3, out3, hbl4, hn3, by omega, rfl, rfl, HO3.out, HG3.out, HU9.out⟩
                        case measure => simp [intOf]; omega
    · have HE : Hid (R = (out, 0)) := by
        obtain ⟨f', rfl⟩ : ∃ f', f = f' + 1 := ⟨f - 1, by omega⟩
        rw [Hid, ← HU.out]
        exact unp_end l most f' p out (by rw [HLL.out]; omega)
      go_wp2
      go_ret2
      exact PutPost.good HE.out HO.out HG.out
/-- The reference's Unpack, whatever is asked. -/
theorem refUnpack_any (a : Option Addr) (len cap : Nat) (most : Int) (l : List Int) (w : World) (hB : Bytes w a len l) (hlen : len ≤ 100000) :
    Calls Try.prog 13 #[.slice a len cap, .int .i64 most] w (PutPost w (unpackOf l most).1 (unpackOf l most).2) := by
  by_cases h1 : most < 0 ∨ 1048576 < most
  · have e : unpackOf l most = ([], 1) := by rw [unpackOf, if_pos h1]
    rw [e]
    exact refUnpack_arg _ most w h1
  · obtain ⟨k, rfl, hk⟩ : ∃ k : Nat, most = (k : Int) ∧ k ≤ 1048576 := ⟨most.toNat, by omega, by omega⟩
    by_cases h0 : len = 0
    · subst h0
      have e : unpackOf l k = ([], 3) := by rw [unpackOf, if_neg h1, if_pos (List.eq_nil_of_length_eq_zero hB.1)]
      rw [e]
      exact refUnpack_none a cap k w hk
    · have e : unpackOf l k = unp l k (len + 1) 0 [] := by
        rw [unpackOf, if_neg h1, if_neg (fun e => h0 (by rw [← hB.1, e]; rfl)), Int.toNat_natCast, hB.1]
      rw [e]
      exact refUnpack_ok a len cap k l w hB (by omega) hlen hk
end Go.Proofs.Ytlkpedknhjgdiaa
