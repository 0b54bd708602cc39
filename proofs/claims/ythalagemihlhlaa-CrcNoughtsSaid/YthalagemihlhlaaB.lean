/-
  What the reference's More answers over any bytes: the mathematics' checksum; the world stays as it was. Conditions: the slice is not longer than the form's reach, its cells hold the bytes.
-/
import Derived.Test.YthalagemihlhlaaA
namespace Go.Proofs.Ythalagemihlhlaa
open Go.RowKit

/-- The bytes l lie in the cells from ⟨b, off⟩ on. -/
def Lies (w : World) (b off : Nat) (l : List Int) : Prop := ∀ i : Nat, i < l.length → w.cell? ⟨b, off + i, none⟩ = some (.int .u8 (l.getD i 0))
def Small (l : List Int) : Prop := l.length ≤ 140737488351232 ∧ ∀ c ∈ l, 0 ≤ c ∧ c < 256
theorem Small.at {l : List Int} (h : Small l) {k : Nat} (hk : k < l.length) : 0 ≤ l.getD k 0 ∧ l.getD k 0 < 256 := by
  rw [List.getD_eq_getElem?_getD, List.getElem?_eq_getElem hk]
  exact h.2 _ (List.getElem_mem hk)
theorem take_snoc (l : List Int) (k : Nat) (h : k < l.length) : l.take (k + 1) = l.take k ++ [l.getD k 0] := by
  rw [List.take_succ_eq_append_getElem h, List.getD_eq_getElem?_getD, List.getElem?_eq_getElem h]
  rfl
theorem Small.take {l : List Int} (h : Small l) (k : Nat) : Small (l.take k) :=
  ⟨by rw [List.length_take]; have := h.1; omega, fun c hc => h.2 c (List.mem_of_mem_take hc)⟩
theorem Small.lt {l : List Int} (h : Small l) : ∀ c ∈ l, c < 256 := fun c hc => (h.2 c hc).2
theorem reg_take (r : Nat) (l : List Int) (k : Nat) (h : k < l.length) : reg r (l.take (k + 1)) = bstep (reg r (l.take k)) (l.getD k 0) := by
  rw [take_snoc l k h, reg_snoc]
theorem xor_byte (t : Nat) (c : Int) (ht : t < 4294967296) (h0 : 0 ≤ c) (h1 : c < 256) : bits .xor .u32 (t : Int) c = ((t ^^^ c.toNat : Nat) : Int) := by
  have := u32_xor_nat t c.toNat ht (by omega)
  rwa [Int.toNat_of_nonneg h0] at this
theorem not_u32 (s : Nat) (h : s < 4294967296) : bits .xor .u32 4294967295 (s : Int) = ((inv32 s : Nat) : Int) := by
  have := u32_xor_nat 4294967295 s (by decide) h
  rw [Nat.xor_comm] at this
  exact this

set_option maxHeartbeats 400000 in
theorem refMore_row (b off cap s : Nat) (l : List Int) (w : World) (hl : Small l) (hs : s < 4294967296) (hc : Lies w b off l) :
    Calls Try.prog 14 #[.int .u32 s, .slice (some ⟨b, off, none⟩) l.length cap] w fun e w' => e = .returned (.int .u32 (moreOf s l : Nat)) ∧ w = w' := by
  have hlen := hl.1
  have hs' := inv_lt hs
  have HN := Lib.hid (not_u32 s hs)
  have HC := Lib.hid hc
  have HL := Lib.hid hl
  clear hc hl
  obtain ⟨len, HLEN⟩ : ∃ len, Hid (l.length = len) := ⟨_, rfl⟩
  rw [HLEN.out] at hlen ⊢
  go_enter Try.func14, Try.ntmps14
  go_wp2
  go_loop [5, 6, 7] (fun x i _ => ∃ k t : Nat, k ≤ len ∧ t < 4294967296 ∧ Hid (t = reg (inv32 s) (l.take k)) ∧ i = .int .i64 k ∧ x = .int .u32 t) (fun _ i _ => len - (intOf i).toNat)
  case atStart => exact ⟨0, inv32 s, Nat.zero_le _, hs', rfl, rfl, int_eq HN.out⟩
  case round =>
    obtain ⟨k, t, hk, ht, HT, rfl, rfl⟩ := hrel
    by_cases hlt : k < len
    · obtain ⟨c, hcell, hc0, hc1, HR⟩ : ∃ c : Int, w.cell? ⟨b, off + k, none⟩ = some (.int .u8 c) ∧ 0 ≤ c ∧ c < 256 ∧ Hid (reg (inv32 s) (l.take (k + 1)) = bstep t c) := by
        have hk' : k < l.length := by rw [HLEN.out]; exact hlt
        exact ⟨l.getD k 0, HC.out k hk', (HL.out.at hk').1, (HL.out.at hk').2, by rw [HT.out]; exact reg_take _ _ _ hk'⟩
      have HX := Lib.hid (xor_byte t c ht hc0 hc1)
      have hx : t ^^^ c.toNat < 4294967296 := Nat.xor_lt_two_pow (n := 32) ht (by omega)
      clear ht
      go_wp2
      go_loop [5, 7] (fun x j => ∃ m : Nat, m ≤ 8 ∧ j = .int .i64 m ∧ x = .int .u32 (shiftN m (t ^^^ c.toNat))) (fun _ j => 8 - (intOf j).toNat)
      case atStart => exact ⟨0, Nat.zero_le _, rfl, int_eq HX.out⟩
      case round =>
        obtain ⟨m, hm, rfl, rfl⟩ := hrel
        have hs2 : shiftN m (t ^^^ c.toNat) < 4294967296 := shiftN_lt m hx
        have HS : Hid (shiftN (m + 1) (t ^^^ c.toNat) = shr1 (shiftN m (t ^^^ c.toNat))) := Lib.hid (shiftN_succ m _)
        by_cases hmt : m < 8
        · go_wp2
          all_goals
            go_round
            case rel => exact ⟨m + 1, by omega, by go_num, int_eq (by rw [HS.out]; first | exact shr_odd _ hs2 ‹_› | exact shr_even _ hs2 ‹_›)⟩
            case measure => simp [intOf]; omega
        · have hm8 : m = 8 := by omega
          subst hm8
          go_wp2
          go_round
          case rel => exact ⟨k + 1, bstep t c, by omega, hs2, HR.out.symm, by go_num, rfl⟩
          case measure => simp [intOf]; omega
    · have HK : Hid (moreOf s l = inv32 t) := by
        have : k = l.length := by rw [HLEN.out]; omega
        show inv32 _ = inv32 _
        rw [HT.out, this, List.take_length]
      have HN2 := Lib.hid (not_u32 t ht)
      go_wp2
      go_ret
      exact ⟨ret_int (by rw [HK.out]; exact HN2.out), rfl⟩

set_option maxHeartbeats 400000 in
theorem refMore_nil (a : Option Addr) (cap s : Nat) (w : World) (hs : s < 4294967296) :
    Calls Try.prog 14 #[.int .u32 s, .slice a 0 cap] w fun e w' => e = .returned (.int .u32 (moreOf s [] : Nat)) ∧ w = w' := by
  have hs' := inv_lt hs
  have HN := Lib.hid (not_u32 s hs)
  have HN2 := Lib.hid (not_u32 (inv32 s) hs')
  go_enter Try.func14, Try.ntmps14
  go_wp2
  go_loop [5, 6, 7] (fun x i _ => i = .int .i64 0 ∧ x = .int .u32 (inv32 s)) (fun _ _ _ => 0)
  case atStart => exact ⟨rfl, int_eq HN.out⟩
  case round =>
    obtain ⟨rfl, rfl⟩ := hrel
    go_wp2
    go_ret
    exact ⟨ret_int HN2.out, rfl⟩
end Go.Proofs.Ythalagemihlhlaa
