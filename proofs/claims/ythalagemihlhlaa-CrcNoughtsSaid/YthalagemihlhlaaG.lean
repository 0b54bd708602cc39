/-
  What More of package crc answers over any bytes: the mathematics' checksum; nothing that was there turns. Conditions: the slice is not longer than the form's reach, its cells hold the bytes.
-/
import Derived.Test.YthalagemihlhlaaB
import Derived.Test.YthalagemihlhlaaF
namespace Go.Proofs.Ythalagemihlhlaa
open Go.RowKit

/-- The Once is done, its table stands. -/
def Done (N : Nat) (w wr : World) : Prop := Below N w wr ∧ wr.heap[N]? = some (.cells (onceRow 1 0) 47) ∧ wr.heap[N + 1]? = some (.cells (tabTo 16) 49)
/-- The Once is done, or not yet. -/
def St (N : Nat) (w wr : World) : Prop := (Below N w wr ∧ wr.heap[N]? = some (.cells (onceRow 0 0) 47) ∧ wr.heap[N + 1]? = some (.cells (tabTo 0) 49)) ∨ Done N w wr
theorem do_any (N : Nat) (w wr : World) (h : St N w wr) :
    Calls Try.prog 19 #[.pointer (some ⟨N, 0, none⟩), .func (.func 17) #[] #[.pointer (some ⟨N + 1, 0, none⟩)]] wr fun e w' => e = .returned (.tuple #[]) ∧ Done N w w' := by
  rcases h with ⟨hb, h1, h2⟩ | ⟨hb, h1, h2⟩
  · refine (do_first N (N + 1) (by omega) wr h1 h2).mono ?_
    rintro e w' ⟨rfl, rfl⟩
    have := lt_of_block h1
    exact ⟨rfl, first_below hb (by omega) (Nat.le_refl _) (by omega), first_once (by omega) h1, first_table (by omega) h2⟩
  · refine (do_done N _ wr h1).mono ?_
    rintro e w' ⟨rfl, rfl⟩
    exact ⟨rfl, hb, h1, h2⟩
theorem table_cells {N : Nat} {w wr : World} (h : Done N w wr) : ∀ i : Nat, i < 16 → wr.cell? ⟨N + 1, i, none⟩ = some (.int .u32 (shiftN 4 i : Nat)) := by
  intro i hi
  rw [cell_of_row wr (N + 1) i _ 49 _ h.2.2, tabTo_at _ _ hi]
  simp [word, hi]

theorem next_at (N r : Nat) (x : Int) (w0 w : World) (hx : x = ((r : Nat) : Int)) (hr : r < 4294967296) (hd : Done N w0 w) :
    Calls Try.prog 20 #[.pointer (some ⟨N + 1, 0, none⟩), .int .u32 x] w fun e w' => e = .returned (.int .u32 (shiftN 4 r : Nat)) ∧ w = w' := by
  rw [hx]
  exact next_any (N + 1) r w hr (table_cells hd)

set_option maxHeartbeats 800000 in
theorem more_row (b off cap s : Nat) (l : List Int) (w : World) (hl : Small l) (hs : s < 4294967296) (hb : b < w.heap.size) (hc : Lies w b off l) :
    Calls Try.prog 13 #[.int .u32 s, .slice (some ⟨b, off, none⟩) l.length cap] w fun e w' => e = .returned (.int .u32 (moreOf s l : Nat)) ∧ Below w.heap.size w w' := by
  have hlen := hl.1
  have hs' := inv_lt hs
  have HN := Lib.hid (not_u32 s hs)
  have HC := Lib.hid hc
  have HL := Lib.hid hl
  have HB := Lib.hid hb
  clear hc hl hb
  have hmf : ∀ (fn : Fn) (first cap : Array Value) (w : World), (Instr.makeFunc fn first cap).run Try.prog w = .ok (.func fn first cap) w := fun _ _ _ _ => rfl
  obtain ⟨len, HLEN⟩ : ∃ len, Hid (l.length = len) := ⟨_, rfl⟩
  rw [HLEN.out] at hlen ⊢
  go_enter Try.func13, Try.ntmps13
  go_wp2
  go_loopw [8, 10, 16] (fun x _ i wr => ∃ k t : Nat, k ≤ len ∧ t < 4294967296 ∧ Hid (t = reg (inv32 s) (l.take k)) ∧ i = .int .i64 k ∧ x = .int .u32 t ∧ Hid (St w.heap.size w wr)) (fun _ _ i _ => len - (intOf i).toNat)
  case atStart =>
    refine ⟨0, inv32 s, Nat.zero_le _, hs', rfl, rfl, int_eq HN.out, Or.inl ⟨((Below.refl _ _).alloc (Nat.le_refl _) _).alloc (by simp) _, heap_alloc2_old _ _ _, heap_alloc2_new _ _ _⟩⟩
  case round =>
    obtain ⟨k, t, hk, ht, HT, rfl, rfl, HST⟩ := hrel
    by_cases hlt : k < len
    · obtain ⟨c, hcell, hc0, hc1, HR⟩ : ∃ c : Int, wr.cell? ⟨b, off + k, none⟩ = some (.int .u8 c) ∧ 0 ≤ c ∧ c < 256 ∧ Hid (reg (inv32 s) (l.take (k + 1)) = bstep t c) := by
        have hk' : k < l.length := by rw [HLEN.out]; exact hlt
        have hbel : Below w.heap.size w wr := by rcases HST.out with h | h <;> exact h.1
        exact ⟨l.getD k 0, (hbel.cell (p := ⟨b, off + k, none⟩) HB.out).trans (HC.out k hk'), (HL.out.at hk').1, (HL.out.at hk').2, by rw [HT.out]; exact reg_take _ _ _ hk'⟩
      have HX := Lib.hid (xor_byte t c ht hc0 hc1)
      have hx : t ^^^ c.toNat < 4294967296 := Nat.xor_lt_two_pow (n := 32) ht (by omega)
      have hx4 := shiftN_lt 4 hx
      have hx8 := shiftN_lt 4 hx4
      have HB2 := Lib.hid (bstep_twice t c)
      clear ht
      go_wp2_with (first | (go_at_call 19; refine (do_any w.heap.size w _ HST.out).mono ?_; rintro e w1 ⟨rfl, hdone⟩; have HD := Lib.hid hdone; clear hdone) | (go_at_call 20; ((with_reducible refine (next_at w.heap.size (t ^^^ c.toNat) _ w _ HX.out hx HD.out).mono ?_); rintro e w' ⟨rfl, rfl⟩)) | (go_at_call 20; ((with_reducible refine (next_at w.heap.size (shiftN 4 (t ^^^ c.toNat)) _ w _ rfl hx4 HD.out).mono ?_); rintro e w' ⟨rfl, rfl⟩)))
      go_roundw
      case rel => exact ⟨k + 1, shiftN 4 (shiftN 4 (t ^^^ c.toNat)), by omega, hx8, by rw [HR.out, HB2.out]; rfl, by go_num, rfl, Or.inr HD.out⟩
      case measure => simp [intOf]; omega
    · have HK : Hid (moreOf s l = inv32 t) := by
        have : k = l.length := by rw [HLEN.out]; omega
        show inv32 _ = inv32 _
        rw [HT.out, this, List.take_length]
      have HN2 := Lib.hid (not_u32 t ht)
      have HBE : Hid (Below w.heap.size w wr) := by rcases HST.out with h | h <;> exact h.1
      go_wp2
      go_ret
      exact ⟨ret_int (by rw [HK.out]; exact HN2.out), HBE.out⟩

set_option maxHeartbeats 800000 in
theorem more_nil (a : Option Addr) (cap s : Nat) (w : World) (hs : s < 4294967296) :
    Calls Try.prog 13 #[.int .u32 s, .slice a 0 cap] w fun e w' => e = .returned (.int .u32 (moreOf s [] : Nat)) ∧ Below w.heap.size w w' := by
  have HN := Lib.hid (not_u32 s hs)
  have HN2 := Lib.hid (not_u32 (inv32 s) (inv_lt hs))
  have hmf : ∀ (fn : Fn) (first cap : Array Value) (w : World), (Instr.makeFunc fn first cap).run Try.prog w = .ok (.func fn first cap) w := fun _ _ _ _ => rfl
  go_enter Try.func13, Try.ntmps13
  go_wp2
  go_loopw [8, 10, 16] (fun x _ i wr => i = .int .i64 0 ∧ x = .int .u32 (inv32 s) ∧ Hid (Below w.heap.size w wr)) (fun _ _ _ _ => 0)
  case atStart => exact ⟨rfl, int_eq HN.out, ((Below.refl _ _).alloc (Nat.le_refl _) _).alloc (by simp) _⟩
  case round =>
    obtain ⟨rfl, rfl, HBE⟩ := hrel
    go_wp2
    go_ret
    exact ⟨ret_int HN2.out, HBE.out⟩
end Go.Proofs.Ythalagemihlhlaa
