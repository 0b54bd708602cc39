/-
  What Finger of package crc and of the reference answers over any bytes: the mathematics' fingerprint; the world stays as it was (layer 11's seat). Conditions: the slice reads as bytes.
-/
import Derived.Test.YtobnmdjpcmegiaaKa
namespace Go.Proofs.Ytobnmdjpcmegiaa
open Go.RowKit
set_option linter.unusedVariables false

/-- A number of 64 bits (its bound is kept behind a name: the walk meets no numeral of that size). -/
def Fit (t : Nat) : Prop := t < 18446744073709551616
theorem xor_byte64 (t : Nat) (c : Int) (ht : Fit t) (h0 : 0 ≤ c) (h1 : c < 256) : IntKind.u64.wrap (bits .xor .u64 (t : Int) c * 1099511628211) = ((fstep t c : Nat) : Int) := by
  unfold Fit at ht
  have := u64_xor_nat t c.toNat ht (by omega)
  rw [Int.toNat_of_nonneg h0] at this
  rw [this, IntKind.wrap_u64]
  unfold fstep
  omega
theorem fold_eq (t : Nat) (ht : Fit t) : bits .xor .u64 (t : Int) ((t : Int) / 4294967296) = ((fold32 t : Nat) : Int) := by
  unfold Fit at ht
  have := u64_xor_nat t (t / 4294967296) ht (by omega)
  unfold fold32
  rw [← this]
  rfl
theorem fin_take (r : Nat) (l : List Int) (k : Nat) (h : k < l.length) : fin r (l.take (k + 1)) = fstep (fin r (l.take k)) (l.getD k 0) := by
  rw [take_snoc l k h, fin_snoc]

set_option maxHeartbeats 400000 in
theorem finger_row (b off cap : Nat) (l : List Int) (w : World) (hl : Small l) (hc : Lies w b off l) :
    Calls Try.prog 21 #[.slice (some ⟨b, off, none⟩) l.length cap] w fun e w' => e = .returned (.int .u64 (fingerOf l : Nat)) ∧ w = w' := by
  have hlen := hl.1
  have HC := Lib.hid hc
  have HL := Lib.hid hl
  clear hc hl
  obtain ⟨len, HLEN⟩ : ∃ len, Hid (l.length = len) := ⟨_, rfl⟩
  rw [HLEN.out] at hlen ⊢
  go_enter Try.func21, Try.ntmps21
  go_wp2
  go_loop [3, 5, 8] (fun x _ i => ∃ k t : Nat, k ≤ len ∧ Fit t ∧ Hid (t = fin 14695981039346656037 (l.take k)) ∧ i = .int .i64 k ∧ x = .int .u64 t) (fun _ _ i => len - (intOf i).toNat)
  case atStart => exact ⟨0, 14695981039346656037, Nat.zero_le _, by unfold Fit; decide, (fin_nil _).symm, rfl, rfl⟩
  case round =>
    obtain ⟨k, t, hk, ht, HT, rfl, rfl⟩ := hrel
    by_cases hlt : k < len
    · obtain ⟨c, hcell, hc0, hc1, HR⟩ : ∃ c : Int, w.cell? ⟨b, off + k, none⟩ = some (.int .u8 c) ∧ 0 ≤ c ∧ c < 256 ∧ Hid (fin 14695981039346656037 (l.take (k + 1)) = fstep t c) := by
        have hk' : k < l.length := by rw [HLEN.out]; exact hlt
        exact ⟨l.getD k 0, HC.out k hk', (HL.out.at hk').1, (HL.out.at hk').2, by rw [HT.out]; exact fin_take _ _ _ hk'⟩
      have HX := Lib.hid (xor_byte64 t c ht hc0 hc1)
      go_wp2
      go_round
      case rel => exact ⟨k + 1, fstep t c, by omega, fstep_lt t c, HR.out.symm, by go_num, int_eq HX.out⟩
      case measure => simp [intOf]; omega
    · have HK : Hid (fingerOf l = fold32 t) := by
        have : k = l.length := by rw [HLEN.out]; omega
        show fold32 _ = fold32 _
        rw [HT.out, this, List.take_length]
      have HN2 := Lib.hid (fold_eq t ht)
      go_wp2
      go_ret
      exact ⟨ret_int (by rw [HK.out]; exact HN2.out), rfl⟩

set_option maxHeartbeats 400000 in
theorem refFinger_row (b off cap : Nat) (l : List Int) (w : World) (hl : Small l) (hc : Lies w b off l) :
    Calls Try.prog 28 #[.slice (some ⟨b, off, none⟩) l.length cap] w fun e w' => e = .returned (.int .u64 (fingerOf l : Nat)) ∧ w = w' := by
  have hlen := hl.1
  have HC := Lib.hid hc
  have HL := Lib.hid hl
  clear hc hl
  obtain ⟨len, HLEN⟩ : ∃ len, Hid (l.length = len) := ⟨_, rfl⟩
  rw [HLEN.out] at hlen ⊢
  go_enter Try.func28, Try.ntmps28
  go_wp2
  go_loop [3, 4] (fun x i => ∃ k t : Nat, k ≤ len ∧ Fit t ∧ Hid (t = fin 14695981039346656037 (l.take k)) ∧ i = .int .i64 k ∧ x = .int .u64 t) (fun _ i => len - (intOf i).toNat)
  case atStart => exact ⟨0, 14695981039346656037, Nat.zero_le _, by unfold Fit; decide, (fin_nil _).symm, rfl, rfl⟩
  case round =>
    obtain ⟨k, t, hk, ht, HT, rfl, rfl⟩ := hrel
    by_cases hlt : k < len
    · obtain ⟨c, hcell, hc0, hc1, HR⟩ : ∃ c : Int, w.cell? ⟨b, off + k, none⟩ = some (.int .u8 c) ∧ 0 ≤ c ∧ c < 256 ∧ Hid (fin 14695981039346656037 (l.take (k + 1)) = fstep t c) := by
        have hk' : k < l.length := by rw [HLEN.out]; exact hlt
        exact ⟨l.getD k 0, HC.out k hk', (HL.out.at hk').1, (HL.out.at hk').2, by rw [HT.out]; exact fin_take _ _ _ hk'⟩
      have HX := Lib.hid (xor_byte64 t c ht hc0 hc1)
      go_wp2
      go_round
      case rel => exact ⟨k + 1, fstep t c, by omega, fstep_lt t c, HR.out.symm, by go_num, int_eq HX.out⟩
      case measure => simp [intOf]; omega
    · have HK : Hid (fingerOf l = fold32 t) := by
        have : k = l.length := by rw [HLEN.out]; omega
        show fold32 _ = fold32 _
        rw [HT.out, this, List.take_length]
      have HN2 := Lib.hid (fold_eq t ht)
      go_wp2
      go_ret
      exact ⟨ret_int (by rw [HK.out]; exact HN2.out), rfl⟩

set_option maxHeartbeats 400000 in
theorem finger_nil (a : Option Addr) (cap : Nat) (w : World) :
    Calls Try.prog 21 #[.slice a 0 cap] w fun e w' => e = .returned (.int .u64 (fingerOf [] : Nat)) ∧ w = w' := by
  have HN := Lib.hid (fold_eq 14695981039346656037 (by unfold Fit; decide))
  have HF : Hid (fingerOf [] = fold32 14695981039346656037) := by unfold fingerOf; rw [fin_nil]; exact rfl
  go_enter Try.func21, Try.ntmps21
  go_wp2
  go_loop [3, 5, 8] (fun x _ i => i = .int .i64 0 ∧ x = .int .u64 ((14695981039346656037 : Nat) : Int)) (fun _ _ _ => 0)
  case atStart => exact ⟨rfl, rfl⟩
  case round =>
    obtain ⟨rfl, rfl⟩ := hrel
    go_wp2
    go_ret
    exact ⟨ret_int (by rw [HF.out]; exact HN.out), rfl⟩

set_option maxHeartbeats 400000 in
theorem refFinger_nil (a : Option Addr) (cap : Nat) (w : World) :
    Calls Try.prog 28 #[.slice a 0 cap] w fun e w' => e = .returned (.int .u64 (fingerOf [] : Nat)) ∧ w = w' := by
  have HN := Lib.hid (fold_eq 14695981039346656037 (by unfold Fit; decide))
  have HF : Hid (fingerOf [] = fold32 14695981039346656037) := by unfold fingerOf; rw [fin_nil]; exact rfl
  go_enter Try.func28, Try.ntmps28
  go_wp2
  go_loop [3, 4] (fun x i => i = .int .i64 0 ∧ x = .int .u64 ((14695981039346656037 : Nat) : Int)) (fun _ _ => 0)
  case atStart => exact ⟨rfl, rfl⟩
  case round =>
    obtain ⟨rfl, rfl⟩ := hrel
    go_wp2
    go_ret
    exact ⟨ret_int (by rw [HF.out]; exact HN.out), rfl⟩

theorem finger_any (a : Option Addr) (len cap : Nat) (l : List Int) (w : World) (h : Bytes w a len l) :
    Calls Try.prog 21 #[.slice a len cap] w fun e w' => e = .returned (.int .u64 (fingerOf l : Nat)) ∧ w = w' := by
  obtain ⟨rfl, h2, h3⟩ := h
  rcases h3 with h3 | ⟨b, off, rfl, hlt, hc⟩
  · obtain rfl : l = [] := List.eq_nil_of_length_eq_zero h3
    exact finger_nil a cap w
  · exact finger_row b off cap l w h2 hc
theorem refFinger_any (a : Option Addr) (len cap : Nat) (l : List Int) (w : World) (h : Bytes w a len l) :
    Calls Try.prog 28 #[.slice a len cap] w fun e w' => e = .returned (.int .u64 (fingerOf l : Nat)) ∧ w = w' := by
  obtain ⟨rfl, h2, h3⟩ := h
  rcases h3 with h3 | ⟨b, off, rfl, hlt, hc⟩
  · obtain rfl : l = [] := List.eq_nil_of_length_eq_zero h3
    exact refFinger_nil a cap w
  · exact refFinger_row b off cap l w h2 hc
end Go.Proofs.Ytobnmdjpcmegiaa
