/-
  What the reference's Size and BackShot answer (layers 12, 13). Conditions: the bitmaps read, short sets.
-/
import Derived.Test.YtjaaieamlgghhaaSu
namespace Go.Proofs.Ytjaaieamlgghhaa
open Go.RowKit
set_option linter.unusedVariables false

set_option maxRecDepth 100000 in
set_option maxHeartbeats 3200000 in
theorem refSize (w : World) (ma : Option Addr) (mn mc : Nat) (B : List BmM) (h : BmsD w ma mn mc B) (hl : ∀ b ∈ B, b.2.2.length ≤ 10000) (was now : Int) (h1 : 0 ≤ was ∧ was ≤ 1073741824) (h2 : 0 ≤ now ∧ now ≤ 1073741824) : Calls Try.prog 46 #[.slice ma mn mc, .int .i64 was, .int .i64 now] w fun e w' => ∃ (a : Option Addr) (c : Nat), e = .returned (.slice a mn c) ∧ BmsN w' w.heap.size a mn c (B.map (sizeF was now)) ∧ Below w.heap.size w w' := by
  have HCM := Lib.hid (fun W (hb : Below w.heap.size w W) => refCopyMaps W ma mn mc B (h.later hb))
  have HLL := Lib.hid hl
  have d1 : decide (was < 0) = false := decide_eq_false (by omega)
  have d2 : decide (1073741824 < was) = false := decide_eq_false (by omega)
  have d3 : decide (now < 0) = false := decide_eq_false (by omega)
  have d4 : decide (1073741824 < now) = false := decide_eq_false (by omega)
  have HI := Lib.hid (And.intro h1 h2)
  clear h hl h1 h2
  go_enter Try.func46, Try.ntmps46
  go_wp2_with (go_at_call 56; refine (HCM.out _ (Below.refl _ _)).mono ?_; rintro e w1 ⟨a1, c1, rfl, hB, hb⟩; have HB1 := Lib.hid hB; have HW1 := Lib.hid hb; clear hB hb)
  have HLB : Hid (∀ (b : BmM), b ∈ B → b.2.2.length ≤ 10000) := HLL.out
  have HBL : Hid (B.length = mn) := by
    obtain ⟨ds, k1, k2, k3, _⟩ := HB1.out
    have := k1.2.1
    rw [← k3, List.length_map]
    exact this
  have HNM : Hid (∀ d ∈ B, d.1.size ≤ 9223372036854775807) := by
    obtain ⟨ds, k1, k2, k3, k4, k5⟩ := HB1.out
    exact k5
  have hmn : mn ≤ 1000 := by
    obtain ⟨ds, k1, k2, k3, k4, k5⟩ := HB1.out
    exact k4
  go_loopw [8] (fun i wr => ∃ (j : Nat) (pre post : List Bm), j ≤ mn ∧ i = .int .i64 j ∧ Hid (pre.length = j ∧ pre.map bmM = (B.map (sizeF was now)).take j ∧ post.map bmM = B.drop j) ∧ Hid (Rw w a1 mn c1 pre post wr)) (fun i _ => mn - (intOf i).toNat)
  case atStart =>
    obtain ⟨ds, k1, k2, k3, k4, k5⟩ := HB1.out
    have hsz := Nat.le_refl w.heap.size
    exact ⟨0, [], ds, Nat.zero_le _, rfl, ⟨rfl, rfl, k3⟩, ⟨k1.monoB hsz, fun d hd => (k2 d hd).mono hsz, HW1.out⟩⟩
  case round =>
    obtain ⟨j, pre, post, hj, rfl, HM, HR⟩ := hrel
    by_cases hlt : j < mn
    · cases post with
      | nil =>
        have := congrArg List.length HM.out.2.2
        rw [List.length_drop, HBL.out] at this
        simp at this
        omega
      | cons d post =>
        obtain ⟨nm, on, al, ll, cl, l⟩ := d
        obtain ⟨_, g, rfl, hg1, hg2, x0, x1, x2, xf⟩ := HR.out.at HM.out.1
        dsimp only at x0 x1 x2
        have hBj : B[j]? = some (nm, on, l) ∧ post.map bmM = B.drop (j + 1) := by
          have e := HM.out.2.2
          have hjB : j < B.length := by rw [HBL.out]; exact hlt
          rw [List.drop_eq_getElem_cons hjB] at e
          simp only [List.map_cons, List.cons.injEq] at e
          exact ⟨by rw [List.getElem?_eq_getElem hjB, ← e.1]; rfl, e.2⟩
        have HTK : Hid (∀ al' ll' cl' l', (nm, on, l') = sizeF was now (nm, on, l) → (pre ++ [(nm, on, al', ll', cl', l')]).length = j + 1 ∧ (pre ++ [(nm, on, al', ll', cl', l')]).map bmM = (B.map (sizeF was now)).take (j + 1) ∧ post.map bmM = B.drop (j + 1)) := fun al' ll' cl' l' hf => by
          refine ⟨by rw [List.length_append, HM.out.1]; rfl, ?_, hBj.2⟩
          rw [List.map_append, HM.out.2.1, take_map_succ hBj.1, ← hf]
          rfl
        have hll : l.length ≤ 10000 := HLB.out _ (List.mem_of_getElem? hBj.1)
        have HD := Lib.hid ((HR.out.sps (nm, on, al, ll, cl, l) (by simp)).d)
        clear hBj
        have hsl : l.length = ll := HD.out.1.1
        obtain ⟨L1, hL1⟩ := named (subL l (now, 1073741824))
        obtain ⟨N1, hN1⟩ := named L1.length
        have hn1 : N1 ≤ 20000 := by rw [← hN1.out, ← hL1.out]; have := subL_len l (now, 1073741824); omega
        have hr1 := subL_right l (now, 1073741824)
        rw [hL1.out] at hr1
        have HSB : Hid (Calls Try.prog 76 #[.slice al ll cl, .agg #[.int .i64 now, .int .i64 1073741824]] wr fun e w' => ∃ (a' : Option Addr) (c' : Nat), e = .returned (.slice a' N1 c') ∧ SpN w' w.heap.size a' N1 c' L1 ∧ Below wr.heap.size wr w') :=
          (refSub_any al ll cl l now 1073741824 wr HD.out.1 HD.out.2.1.1 (by omega)).mono fun e w' hp => by
            rw [hL1.out] at hp
            obtain ⟨a', c', e1, e2, e3, e4⟩ := hp.namedO hN1.out
            exact ⟨a', c', e1, ⟨e2.monoB HR.out.dat.size, by omega, hr1.fit (Int.le_refl _)⟩, e4⟩
        have HAD : Hid (∀ W a' c', SpN W w.heap.size a' N1 c' L1 → w.heap.size ≤ W.heap.size → Calls Try.prog 67 #[.slice a' N1 c', .agg #[.int .i64 was, .int .i64 now]] W fun e w' => ∃ (a' : Option Addr) (n' c' : Nat), e = .returned (.slice a' n' c') ∧ SpN w' w.heap.size a' n' c' (addL L1 (was, now)) ∧ Below W.heap.size W w') := fun W a' c' hs hw =>
          (refAdd_any a' N1 c' L1 was now W hs.d.1 hs.d.2.1.1 (by omega)).mono fun e w' ⟨a', c', e1, e2, e3, e4⟩ => ⟨a', _, c', e1, ⟨e2.monoB hw, by have := addL_len L1 (was, now); have := hN1.out; omega, (addL_right L1 (was, now)).fit (Int.le_refl _)⟩, e4⟩
        have HHS := Lib.hid HR.out.dat.size
        have HTN : Hid (¬ (on = true ∧ was < now) → (nm, on, L1) = sizeF was now (nm, on, l)) := fun h => by
          unfold sizeF
          dsimp only
          rw [if_neg h, hL1.out]
        have HTY : Hid (on = true ∧ was < now → (nm, on, addL L1 (was, now)) = sizeF was now (nm, on, l)) := fun h => by
          unfold sizeF
          dsimp only
          rw [if_pos h, hL1.out]
        clear hL1 hN1 hr1
        by_cases hw : was < now
        · have d5 : decide (was < now) = true := decide_eq_true hw
          cases on with
          | false =>
            have HT := Lib.hid (HTN.out (fun h => by cases h.1))
            clear HTN HTY hw
            go_wp2_with (first
              | (go_at_call 76; refine HSB.out.mono ?_; rintro e w5 ⟨a5, c5, rfl, hN, hb⟩; have HN5 := Lib.hid hN; have HB5 := Lib.hid hb; have HR5 := Lib.hid (HR.out.later hb); obtain ⟨_, _, hgg, _, _, y0, y1, y2, yf⟩ := HR5.out.at HM.out.1; cases hgg; dsimp only at y0 y1 y2; have HR6 := Lib.hid (HR5.out.put HM.out.1 rfl hN); obtain ⟨_, _, hgg, hg1', hg2', y0', y1', y2', yf'⟩ := HR6.out.at HM.out.1; cases hgg; dsimp only at y0' y1' y2'; clear hN hb x0 x1 x2 xf))
            have HM2 := Lib.hid (HTK.out a5 N1 c5 L1 HT.out)
            have HR2 := Lib.hid HR6.out.shift
            clear y0 y1 y2 yf y0' y1' y2' yf'
            go_roundw
            case rel => exact ⟨j + 1, _, _, by omega, by go_num, HM2.out, HR2.out⟩
            case measure => simp [intOf]; omega
          | true =>
            have HT := Lib.hid (HTY.out ⟨rfl, hw⟩)
            clear HTN HTY hw
            go_wp2_with (first
              | (go_at_call 76; refine HSB.out.mono ?_; rintro e w5 ⟨a5, c5, rfl, hN, hb⟩; have HN5 := Lib.hid hN; have HB5 := Lib.hid hb; have HR5 := Lib.hid (HR.out.later hb); obtain ⟨_, _, hgg, _, _, y0, y1, y2, yf⟩ := HR5.out.at HM.out.1; cases hgg; dsimp only at y0 y1 y2; have HR6 := Lib.hid (HR5.out.put HM.out.1 rfl hN); obtain ⟨_, _, hgg, hg1', hg2', y0', y1', y2', yf'⟩ := HR6.out.at HM.out.1; cases hgg; dsimp only at y0' y1' y2'; clear hN hb x0 x1 x2 xf)
              | (go_at_call 67; refine (HAD.out _ a5 c5 (HR6.out.sps (nm, true, a5, N1, c5, L1) (by simp)) HR6.out.dat.size).mono ?_; rintro e w7 ⟨a7, n7, c7, rfl, hN, hb⟩; have HN7 := Lib.hid hN; have HB7 := Lib.hid hb; have z2 := (hb.cell (p := ⟨g, j * 3 + 2, none⟩) hg2').trans y2'; have zf := (hb.frozen (p := ⟨g, j * 3 + 2, none⟩) hg2').trans yf'; clear hN hb y0' y1' y2' yf'))
            have HM2 := Lib.hid (HTK.out a7 n7 c7 (addL L1 (was, now)) HT.out)
            have HR2 := Lib.hid (((HR6.out.later HB7.out).put HM.out.1 rfl HN7.out).shift)
            clear y0 y1 y2 yf
            go_roundw
            case rel => exact ⟨j + 1, _, _, by omega, by go_num, HM2.out, HR2.out⟩
            case measure => simp [intOf]; omega
        · have d5 : decide (was < now) = false := decide_eq_false hw
          have HT := Lib.hid (HTN.out (fun h => hw h.2))
          clear HTN HTY hw
          cases on
          all_goals
            go_wp2_with (first
              | (go_at_call 76; refine HSB.out.mono ?_; rintro e w5 ⟨a5, c5, rfl, hN, hb⟩; have HN5 := Lib.hid hN; have HB5 := Lib.hid hb; have HR5 := Lib.hid (HR.out.later hb); obtain ⟨_, _, hgg, _, _, y0, y1, y2, yf⟩ := HR5.out.at HM.out.1; cases hgg; dsimp only at y0 y1 y2; have HR6 := Lib.hid (HR5.out.put HM.out.1 rfl hN); obtain ⟨_, _, hgg, hg1', hg2', y0', y1', y2', yf'⟩ := HR6.out.at HM.out.1; cases hgg; dsimp only at y0' y1' y2'; clear hN hb x0 x1 x2 xf))
            have HM2 := Lib.hid (HTK.out a5 N1 c5 L1 HT.out)
            have HR2 := Lib.hid HR6.out.shift
            clear y0 y1 y2 yf y0' y1' y2' yf'
            go_roundw
            case rel => exact ⟨j + 1, _, _, by omega, by go_num, HM2.out, HR2.out⟩
            case measure => simp [intOf]; omega
    · obtain rfl : j = mn := by omega
      go_wp2
      go_ret
      have hp : post = [] := by
        have := congrArg List.length HM.out.2.2
        rw [List.length_drop, HBL.out] at this
        simpa using this
      subst hp
      have hr := HR.out.row
      rw [List.append_nil] at hr
      exact ⟨a1, c1, rfl, ⟨pre, hr, fun d hd => HR.out.sps d (by simp [hd]), by rw [HM.out.2.1, List.take_of_length_le (by rw [List.length_map]; exact Nat.le_of_eq HBL.out)], hmn, fun d hd => by
        obtain ⟨d', hd', rfl⟩ := List.mem_map.1 hd
        exact HNM.out d' hd'⟩, HR.out.dat⟩
end Go.Proofs.Ytjaaieamlgghhaa
