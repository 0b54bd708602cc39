/-
  What the reference's 'length' answers: a half, and what is added to it. Conditions: the slice reads as bytes, the place lies within it, the half is below 16.
-/
import Derived.Test.YtlkpedknhjgdiaaZ3
namespace Go.Proofs.Ytlkpedknhjgdiaa
open Go.RowKit

theorem addTo_end (b : List Int) (f p n : Nat) (h : b.length ≤ p) : addTo b f p n = (0, 0, false) := by
  cases f with
  | zero => rfl
  | succ f => unfold addTo; rw [if_neg (by omega)]
theorem addTo_on (b : List Int) (f p n : Nat) (h : p < b.length) (h2 : b.getD p 0 = 255) : addTo b (f + 1) p n = addTo b f (p + 1) (n + 255) := by
  rw [addTo, if_pos h, if_pos h2]
theorem addTo_stop (b : List Int) (f p n : Nat) (h : p < b.length) (h2 : ¬ b.getD p 0 = 255) : addTo b (f + 1) p n = (n + (b.getD p 0).toNat, p + 1, true) := by
  rw [addTo, if_pos h, if_neg h2]
/-- The three results. -/
def LenIs (x : Nat × Nat × Bool) (e : Ending) : Prop := e = .returned (.tuple #[.int .i64 (x.1 : Int), .int .i64 (x.2.1 : Int), .bool x.2.2])
theorem LenIs.mk {x : Nat × Nat × Bool} {l p : Int} {k : Bool} {n q : Nat} (h : x = (n, q, k)) (hl : l = (n : Int)) (hp : p = (q : Int)) : LenIs x (.returned (.tuple #[.int .i64 l, .int .i64 p, .bool k])) := by
  subst h hl hp
  rfl

set_option maxHeartbeats 800000 in
theorem refLength_any (a : Option Addr) (len cap p half : Nat) (l : List Int) (w : World) (hB : Bytes w a len l) (hlen : len ≤ 100000) (hp : p ≤ len) (hh : half < 16) :
    Calls Try.prog 20 #[.slice a len cap, .int .i64 p, .int .i64 half] w fun e w' => LenIs (lengthOf l p half) e ∧ w = w' := by
  by_cases h1 : half < 15
  · have HR : Hid (lengthOf l p half = (half, p, true)) := by rw [Hid, lengthOf, if_pos h1]
    clear hB
    go_enter Try.func20, Try.ntmps20
    go_wp2
    go_ret3
    exact ⟨LenIs.mk HR.out rfl rfl, rfl⟩
  · have HR : Hid (lengthOf l p half = addTo l (len + 1 - p) p 15) := by rw [Hid, lengthOf, if_neg h1, hB.1]
    by_cases h0 : len = 0
    · have HR2 : Hid (lengthOf l p half = (0, 0, false)) := by rw [Hid, HR.out]; exact addTo_end _ _ _ _ (by rw [hB.1]; omega)
      have hge : ¬ (p < len) := by omega
      clear hB
      go_enter Try.func20, Try.ntmps20
      go_wp2
      go_loop [1, 9] (fun x y => x = .int .i64 p ∧ y = .int .i64 15) (fun _ _ => 0)
      case atStart => exact ⟨rfl, rfl⟩
      case round =>
        obtain ⟨rfl, rfl⟩ := hrel
        go_wp2
        go_ret3
        exact ⟨LenIs.mk HR2.out rfl rfl, rfl⟩
    · obtain ⟨bb, off, rfl⟩ := hB.lies (by omega)
      have HB := Lib.hid hB
      have HLL := Lib.hid hB.1
      have HBD := Lib.hid hB.small.2
      clear hB h0
      go_enter Try.func20, Try.ntmps20
      go_wp2
      go_loop [1, 9] (fun x y => ∃ q n : Nat, q ≤ len ∧ n ≤ 15 + 255 * q ∧ x = .int .i64 q ∧ y = .int .i64 n ∧ Hid (lengthOf l p half = addTo l (len + 1 - q) q n)) (fun x _ => len - (intOf x).toNat)
      case atStart => exact ⟨p, 15, hp, by omega, rfl, rfl, HR.out⟩
      case round =>
        obtain ⟨q, n, hq, hn, rfl, rfl, HRq⟩ := hrel
        by_cases hlt : q < len
        · obtain ⟨c, HC⟩ := named (l.getD q 0)
          have hcell := HB.out.cellAt q hlt
          have hbd := getD_bd HBD.out q (by rw [HLL.out]; exact hlt)
          rw [HC.out] at hcell hbd
          have hb1 := hbd.1
          have hb2 := hbd.2
          have HF : Hid (len + 1 - q = (len + 1 - (q + 1)) + 1) := by rw [Hid]; omega
          by_cases h255 : c = 255
          · have HE : Hid (lengthOf l p half = addTo l (len + 1 - (q + 1)) (q + 1) (n + 255)) := by
              rw [Hid, HRq.out, HF.out, addTo_on l _ q n (by rw [HLL.out]; exact hlt) (by rw [HC.out, h255])]
            have ht1 : (c == 255) = true := by simp [h255]
            have ht2 : (c != 255) = false := by simp [h255]
            have hc5 := Lib.hid h255
            clear h255
            go_wp2
            go_round
            case rel => exact ⟨q + 1, n + 255, by omega, by omega, by go_num, int_eq (by rw [hc5.out]; rfl), HE.out⟩
            case measure => simp [intOf]; omega
          · have HE : Hid (lengthOf l p half = (n + c.toNat, q + 1, true)) := by
              rw [Hid, HRq.out, HF.out, addTo_stop l _ q n (by rw [HLL.out]; exact hlt) (by rw [HC.out]; exact h255), HC.out]
            have ht1 : (c == 255) = false := by simp [h255]
            have ht2 : (c != 255) = true := by simp [h255]
            clear h255
            go_wp2
            go_ret3
            exact ⟨LenIs.mk HE.out (by omega) (by omega), rfl⟩
        · have HE : Hid (lengthOf l p half = (0, 0, false)) := by
            rw [Hid, HRq.out]
            exact addTo_end _ _ _ _ (by rw [HLL.out]; omega)
          go_wp2
          go_ret3
          exact ⟨LenIs.mk HE.out rfl rfl, rfl⟩
end Go.Proofs.Ytlkpedknhjgdiaa
