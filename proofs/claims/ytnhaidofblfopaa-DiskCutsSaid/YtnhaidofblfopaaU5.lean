/-
  The counter, the sum of the sizes; a sector written (package disk). Conditions: the disk in memory.
-/
import Derived.Test.YtnhaidofblfopaaT5
import Derived.Test.YtnhaidofblfopaaM5
import Derived.Test.YtnhaidofblfopaaE5
import Derived.Test.YtnhaidofblfopaaJ5
import Derived.Laws.LoneSync
import Derived.BigQuiet
import Derived.Deep.QuietTactic
namespace Go.Proofs.Ytnhaidofblfopaa
open Go.RowKit

theorem run_load64 (w : World) (a : Addr) (x : Int) (hc : w.cell? a = some (.int .u64 x)) : (callFunc 53 #[.pointer (some a)]).run Try.prog w = .ok (.value (.int .u64 x)) w :=
  run_call_load Try.func53 (by kernel_rfl) (by kernel_rfl) (by kernel_rfl) .u64 (by kernel_rfl) hc
theorem run_add64 (w : World) (a : Addr) (x : Nat) (hx : x < 1000000000) (hc : w.cell? a = some (.int .u64 x)) (hz : w.frozen? a = false) : (callFunc 64 #[.pointer (some a), .int .u64 1]).run Try.prog w = .ok (.value (.int .u64 ((x + 1 : Nat) : Int))) (w.setCell a (.int .u64 ((x + 1 : Nat) : Int))) :=
  run_call_add Try.func64 (by kernel_rfl) (by kernel_rfl) (by kernel_rfl) .u64 (by kernel_rfl) hc hz (by
    have : IntKind.u64.wrap ((x : Int) + 1) = (x : Int) + 1 := by simp [IntKind.wrap, IntKind.bits, IntKind.signed]; omega
    simp [Op.intArith, this])
/-- Load. -/
theorem load_any (w : World) (B : Nat) (x : Int) (hc : w.cell? ⟨B, 2, none⟩ = some (.int .u64 x)) : Calls Try.prog 34 #[.pointer (some ⟨B, 2, none⟩)] w fun e w' => e = .returned (.int .u64 x) ∧ w' = w := by
  have hl := run_load64 w ⟨B, 2, none⟩ x hc
  go_enter Try.func34, Try.ntmps34
  go_wp2
  go_ret
  exact ⟨rfl, rfl⟩
/-- Add of one. -/
theorem add_any (w : World) (B x : Nat) (hx : x < 1000000000) (hc : w.cell? ⟨B, 2, none⟩ = some (.int .u64 x)) (hz : w.frozen? ⟨B, 2, none⟩ = false) :
    Calls Try.prog 51 #[.pointer (some ⟨B, 2, none⟩), .int .u64 1] w fun e w' => e = .returned (.int .u64 ((x + 1 : Nat) : Int)) ∧ w' = w.setCell ⟨B, 2, none⟩ (.int .u64 ((x + 1 : Nat) : Int)) := by
  have hl := run_add64 w ⟨B, 2, none⟩ x hx hc hz
  go_enter Try.func51, Try.ntmps51
  go_wp2
  go_ret
  exact ⟨rfl, rfl⟩
theorem fileIn_size {w : World} {f : FR} (h : FileAt w f) : Calls Try.prog 31 #[.pointer (some ⟨f.G, 0, none⟩)] w fun e w' => e = .returned (.int .i64 f.now.length) ∧ w' = w := by
  obtain ⟨vn, vd, vw, h⟩ := h
  exact size_any h
def sizes (L : List FR) : Nat := (L.map fun f => f.now.length).sum
theorem sizes_le {w : World} (L : List FR) (h : ∀ f ∈ L, FileAt w f) : sizes L ≤ 65536 * L.length := by
  induction L with
  | nil => exact Nat.le_refl _
  | cons f r ih =>
    have h1 := ih fun g hg => h g (by simp [hg])
    obtain ⟨_, _, _, h2⟩ := h f (by simp)
    have := h2.ok.now
    simp only [sizes, List.map_cons, List.sum_cons, List.length_cons] at h1 ⊢
    omega
/-- Used. -/
theorem used_any {w : World} {B room cnt fails : Nat} {vF : Value} {L : List FR} {dead : Bool} (h : DiskIn w B room vF L cnt fails dead) (hm : L.length ≤ 32) :
    Calls Try.prog 24 #[.pointer (some ⟨B, 0, none⟩)] w fun e w' => e = .returned (.int .i64 (sizes L)) ∧ w' = w := by
  have c1 := h.c1
  obtain ⟨aF, cF, rfl, _, hnil, hcap⟩ := h.row.shape ptr_rowed
  have H := Lib.hid h
  obtain ⟨n, hn⟩ := named L.length
  rw [hn.out] at c1 hm hcap
  clear h
  go_enter Try.func24, Try.ntmps24
  go_wp2_with fail
  go_loopw [3, 13] (fun v i wr => ∃ j : Nat, j ≤ n ∧ i = .int .i64 j ∧ v = .int .i64 (sizes (L.take j)) ∧ wr = w) (fun _ i _ => n - (intOf i).toNat)
  case atStart => exact ⟨0, by omega, rfl, rfl, rfl⟩
  case round =>
    obtain ⟨j, hj, rfl, rfl, rfl⟩ := hrel
    by_cases hlt : j < n
    · obtain ⟨b, rfl⟩ : ∃ b, aF = some ⟨b, 0, none⟩ := by
        rcases H.out.row.1.2 with ⟨e, e'⟩ | ⟨g, cap, cur, e, _⟩
        · have := hn.out
          omega
        · cases e
          exact ⟨_, rfl⟩
      obtain ⟨f, hf⟩ : ∃ f, L[j]? = some f := ⟨_, List.getElem?_eq_getElem (by have := hn.out; omega)⟩
      have hc0 := ptr_cell H.out.row j f hf
      have HF := Lib.hid (H.out.file f (List.mem_of_getElem? hf))
      have hs : sizes (L.take (j + 1)) = sizes (L.take j) + f.now.length := by
        rw [List.take_add_one, hf]
        simp [sizes]
      have hb1 : sizes (L.take j) ≤ 65536 * j := by
        have := sizes_le (w := wr) (L.take j) fun g hg => H.out.file g (List.mem_of_mem_take hg)
        rw [List.length_take] at this
        exact Nat.le_trans this (Nat.mul_le_mul_left _ (by omega))
      have hb2 : f.now.length ≤ 65536 := by
        obtain ⟨_, _, _, h2⟩ := HF.out
        exact h2.ok.now
      have HS := Lib.hid hs
      obtain ⟨A, hA⟩ := named (sizes (L.take j))
      obtain ⟨C, hC⟩ := named f.now.length
      clear hs hf
      rw [hA.out] at hb1 ⊢
      rw [hC.out] at hb2
      go_wp2_with (go_at_call 31; refine (fileIn_size HF.out).mono ?_; rintro e w' ⟨rfl, rfl⟩; rw [hC.out])
      go_roundw
      case rel =>
        refine ⟨j + 1, by omega, by go_num, ?_, trivial⟩
        rw [HS.out, hA.out, hC.out]
        go_num
      case measure => simp [intOf]; omega
    · obtain rfl : j = n := by omega
      have e : L.take j = L := List.take_of_length_le (by have := hn.out; omega)
      rw [e]
      go_wp2
      go_ret
      exact ⟨rfl, rfl⟩
end Go.Proofs.Ytnhaidofblfopaa
