/-
  That the document's examples hold ('awake' of layer 3). Conditions: none.
-/
import Derived.Test.YtlkpedknhjgdiaaF3
namespace Go.Proofs.Ytlkpedknhjgdiaa
open Go.RowKit

theorem one_a : unpackOf [16, 97] 10 = ([97], 0) := by kernel_rfl
theorem ten_a : unpackOf [20, 97, 1, 0, 16, 97] 10 = ([97, 97, 97, 97, 97, 97, 97, 97, 97, 97], 0) := by kernel_rfl
theorem row2 (w : World) : Bytes (w.alloc (.cells #[.int .u8 16, .int .u8 97] 5)) (some ⟨w.heap.size, 0, none⟩) 2 [16, 97] := two_bytes w 16 97 (by omega) (by omega)
theorem row6 (w : World) : Bytes (w.alloc (.cells #[.int .u8 20, .int .u8 97, .int .u8 1, .int .u8 0, .int .u8 16, .int .u8 97] 5)) (some ⟨w.heap.size, 0, none⟩) 6 [20, 97, 1, 0, 16, 97] := by
  refine ⟨rfl, ⟨by decide, by decide⟩, Or.inr ⟨w.heap.size, 0, rfl, by simp, fun i hi => ?_⟩⟩
  have h : i < 6 := hi
  rcases (by omega : i = 0 ∨ i = 1 ∨ i = 2 ∨ i = 3 ∨ i = 4 ∨ i = 5) with rfl | rfl | rfl | rfl | rfl | rfl <;> simp
theorem str_a : strOfNums [97] = ⟨#[97]⟩ := by kernel_rfl
theorem str_as : strOfNums [97, 97, 97, 97, 97, 97, 97, 97, 97, 97] = ⟨#[97, 97, 97, 97, 97, 97, 97, 97, 97, 97]⟩ := by kernel_rfl
/-- 'PutPost' with the length under a name. -/
theorem PutPost.named {w0 : World} {l : List Int} {err : Int} {e : Ending} {w : World} (h : PutPost w0 l err e w) {n : Nat} (hn : l.length = n) :
    ∃ a c, e = .returned (.tuple #[.slice a n c, .int .i64 err]) ∧ Bytes w a n l ∧ ((a = none → c = 0) ∧ n ≤ c) ∧ Below w0.heap.size w0 w := by
  subst hn
  exact h

set_option maxHeartbeats 800000 in
theorem awake_any (w : World) : Calls Try.prog 11 #[] w fun e w' => e = .returned (.bool true) ∧ Below w.heap.size w w' := by
  have P1 : ∀ w : World, Calls Try.prog 12 #[.slice (some ⟨w.heap.size, 0, none⟩) 2 2, .int .i64 10] (w.alloc (.cells #[.int .u8 16, .int .u8 97] 5)) (PutPost (w.alloc (.cells #[.int .u8 16, .int .u8 97] 5)) [97] 0) := fun w => by
    have := lzUnpack_any _ 2 2 10 _ _ (row2 w) (Nat.le_refl _) (fun e => by cases e) (by omega)
    rw [one_a] at this
    exact this
  have P2 : ∀ w : World, Calls Try.prog 12 #[.slice (some ⟨w.heap.size, 0, none⟩) 6 6, .int .i64 10] (w.alloc (.cells #[.int .u8 20, .int .u8 97, .int .u8 1, .int .u8 0, .int .u8 16, .int .u8 97] 5)) (PutPost (w.alloc (.cells #[.int .u8 20, .int .u8 97, .int .u8 1, .int .u8 0, .int .u8 16, .int .u8 97] 5)) [97, 97, 97, 97, 97, 97, 97, 97, 97, 97] 0) := fun w => by
    have := lzUnpack_any _ 6 6 10 _ _ (row6 w) (Nat.le_refl _) (fun e => by cases e) (by omega)
    rw [ten_a] at this
    exact this
  have H1 := Lib.hid P1
  have H2 := Lib.hid P2
  clear P1 P2
  go_enter Try.func11, Try.ntmps11
  go_wp2_with (first
    | (go_at_call 14; go_in)
    | (go_at_call 12; ((with_reducible refine (H1.out _).mono ?_); rintro e w1 hp; obtain ⟨a1, c1, rfl, hB, _, hb⟩ := hp.named (n := 1) rfl; have HB1 := Lib.hid hB; have HG1 := Lib.hid (((Below.refl w.heap.size w).alloc (Nat.le_refl _) _).trans (hb.mono (by simp))); clear hp hB hb))
    | (go_at_call 12; ((with_reducible refine (H2.out _).mono ?_); rintro e w2 hp; obtain ⟨a2, c2, rfl, hB, _, hb⟩ := hp.named (n := 10) rfl; have hcv1 := conv_str ((HB1.out.later ((Below.refl _ _).alloc (Nat.le_refl _) _)).later hb) c1; have hcv2 := conv_str hB c2; rw [str_a] at hcv1; rw [str_as] at hcv2; have HG2 := Lib.hid ((HG1.out.alloc HG1.out.size _).trans (hb.mono (Nat.le_trans HG1.out.size (by simp)))); clear hp hB hb)))
  go_ret
  exact ⟨rfl, HG2.out⟩
/-- A slice that came in. -/
theorem arg_of {w : World} {a : Option Addr} {len cap : Nat} {zs : List Int}
    (h : (a = none ∧ len = 0 ∧ cap = 0 ∧ zs = []) ∨ ∃ x, a = some x ∧ len ≤ cap ∧ cap ≤ maxLen ∧ zs.length = cap ∧ (∀ i, i < zs.length → w.cell? (x.add i) = some (.int .u8 (zs.getD i 0))) ∧ ∀ n ∈ zs, (Lit.int .u8 n).wf = true)
    (hlen : len ≤ 20000) : ∃ l, Bytes w a len l ∧ len ≤ cap ∧ (a = none → cap = 0) := by
  refine ⟨_, bytes_of h hlen, ?_, ?_⟩
  · rcases h with ⟨_, rfl, rfl, _⟩ | ⟨x, _, h, _⟩
    · exact Nat.le_refl _
    · exact h
  · rcases h with ⟨_, _, h, _⟩ | ⟨x, h, _⟩
    · exact fun _ => h
    · intro e
      rw [e] at h
      cases h
end Go.Proofs.Ytlkpedknhjgdiaa
