/-
  What the statements of layer 2 need of both sides' Put, Get, Text and Read, and that the document's example holds ('awake'). Conditions: the slices read as bytes and are short, numbers are below 2^64.
-/
import Derived.Test.YtdehplankddfgaaF2
namespace Go.Proofs.Ytdehplankddfgaa
open Go.RowKit

theorem dword_of_wf {n : Int} (h : (Lit.int .u64 n).wf = true) : ∃ s : Nat, n = (s : Int) ∧ Fit64 s := by
  have := bounds_u64 h
  unfold Fit64
  exact ⟨n.toNat, by omega, by omega⟩
theorem arg_of {w : World} {a : Option Addr} {len cap : Nat} {zs : List Int}
    (h : (a = none ∧ len = 0 ∧ cap = 0 ∧ zs = []) ∨ ∃ x, a = some x ∧ len ≤ cap ∧ cap ≤ maxLen ∧ zs.length = cap ∧ (∀ i, i < zs.length → w.cell? (x.add i) = some (.int .u8 (zs.getD i 0))) ∧ ∀ n ∈ zs, (Lit.int .u8 n).wf = true)
    (hlen : len ≤ 20000) : ∃ l, Bytes w a len l ∧ len ≤ cap ∧ (a = none → cap = 0) := by
  refine ⟨_, bytes_of h hlen, ?_, ?_⟩
  · rcases h with ⟨_, rfl, rfl, _⟩ | ⟨x, _, h, _⟩
    · exact Nat.le_refl _
    · exact h
  · rcases h with ⟨_, _, h, _⟩ | ⟨x, h, _⟩
    · exact fun _ => h
    · intro e
      rw [e] at h
      cases h

/-- Both sides' Put answer alike, whatever is asked. -/
theorem put_both (l : List Int) (n : Int) (big : Bool) (v : Nat) (hv : Fit64 v) : ∃ (L : List Int) (err : Int),
    (∀ (a : Option Addr) (len cap : Nat) (w : World), Bytes w a len l → (a = none → cap = 0) → len ≤ 100000 → Calls Try.prog 11 #[.slice a len cap, .int .i64 n, .bool big, .int .u64 v] w (PutPost w L err)) ∧
    (∀ (a : Option Addr) (len cap : Nat) (w : World), Bytes w a len l → (a = none → cap = 0) → len ≤ 100000 → Calls Try.prog 12 #[.slice a len cap, .int .i64 n, .bool big, .int .u64 v] w (PutPost w L err)) := by
  by_cases h : n < 1 ∨ 8 < n
  · exact ⟨[], 1, fun a len cap w _ _ _ => fieldPut_arg _ n big _ w h, fun a len cap w _ _ _ => refPut_arg _ n big _ w h⟩
  · obtain ⟨m, rfl, h1, h2⟩ : ∃ m : Nat, n = (m : Int) ∧ 1 ≤ m ∧ m ≤ 8 := ⟨n.toNat, by omega, by omega, by omega⟩
    cases hf : fitsIn m v with
    | false => exact ⟨[], 6, fun a len cap w _ _ _ => fieldPut_range _ m v big w h1 hv hf, fun a len cap w _ _ _ => refPut_range _ m v big w h1 hf⟩
    | true => exact ⟨_, 0, fun a len cap w hB hn hl => fieldPut_ok a len cap m v l big w hB hn hl h1 h2 hv hf, fun a len cap w hB hn hl => refPut_ok a len cap m v l big w hB hn hl h1 h2 hf⟩
/-- Both sides' Get answer alike. -/
theorem get_both (l : List Int) (len : Nat) (hlen : len ≤ 100000) (at' n : Int) (hat : In64 at') (big : Bool) : ∃ (V : Nat) (err : Int),
    (∀ (a : Option Addr) (cap : Nat) (w : World), Bytes w a len l → len ≤ cap → Calls Try.prog 14 #[.slice a len cap, .int .i64 at', .int .i64 n, .bool big] w (GetPost w V err)) ∧
    (∀ (a : Option Addr) (cap : Nat) (w : World), Bytes w a len l → Calls Try.prog 15 #[.slice a len cap, .int .i64 at', .int .i64 n, .bool big] w fun e w' => e = .returned (.tuple #[.int .u64 (V : Int), .int .i64 err]) ∧ w = w') := by
  by_cases h : n < 1 ∨ 8 < n
  · exact ⟨0, 1, fun a cap w _ _ => fieldGet_arg _ _ n big w h, fun a cap w _ => refGet_arg _ _ n big w h⟩
  · obtain ⟨m, rfl, h1, h2⟩ : ∃ m : Nat, n = (m : Int) ∧ 1 ≤ m ∧ m ≤ 8 := ⟨n.toNat, by omega, by omega, by omega⟩
    by_cases hr : at' < 0 ∨ (len : Int) < at' + m
    · exact ⟨0, 6, fun a cap w hB hc => fieldGet_range a len cap m at' l big w hB hc hat h1 h2 hr, fun a cap w _ => refGet_range a len cap m at' big w h1 h2 (by omega) hr⟩
    · obtain ⟨p, rfl, hp⟩ : ∃ p : Nat, at' = (p : Int) ∧ p + m ≤ len := ⟨at'.toNat, by omega, by omega⟩
      exact ⟨_, 0, fun a cap w hB hc => fieldGet_ok a len cap m p l big w hB hc h1 h2 hp, fun a cap w hB => refGet_ok a len cap m p l big w hB h1 h2 hp⟩
/-- Both sides' Text answer alike. -/
theorem text_both (l : List Int) (s : ByteArray) (hs : s.size ≤ 100000) : ∃ (L : List Int) (err : Int),
    (∀ (a : Option Addr) (len cap : Nat) (w : World), Bytes w a len l → (a = none → cap = 0) → len ≤ 100000 → Calls Try.prog 16 #[.slice a len cap, .string s] w (PutPost w L err)) ∧
    (∀ (a : Option Addr) (len cap : Nat) (w : World), Bytes w a len l → (a = none → cap = 0) → len ≤ 100000 → Calls Try.prog 17 #[.slice a len cap, .string s] w (PutPost w L err)) := by
  by_cases h : 65535 < s.size
  · exact ⟨[], 2, fun a len cap w _ _ _ => fieldText_long _ s w (by omega) h, fun a len cap w _ _ _ => refText_long _ s w (by omega) h⟩
  · exact ⟨_, 0, fun a len cap w hB hn hl => fieldText_ok a len cap l s w hB hn hl (by omega), fun a len cap w hB hn hl => refText_ok a len cap l s w hB hn hl (by omega)⟩
/-- Both sides' Read answer alike. -/
theorem read_both (l : List Int) (len : Nat) (hlen : len ≤ 100000) (at' : Int) (hat : In64 at') : ∃ (t : ByteArray) (k err : Int),
    (∀ (a : Option Addr) (cap : Nat) (w : World), Bytes w a len l → len ≤ cap → Calls Try.prog 18 #[.slice a len cap, .int .i64 at'] w (ReadPost w t k err)) ∧
    (∀ (a : Option Addr) (cap : Nat) (w : World), Bytes w a len l → len ≤ cap → (a = none → cap = 0) → Calls Try.prog 19 #[.slice a len cap, .int .i64 at'] w fun e w' => e = .returned (.tuple #[.string t, .int .i64 k, .int .i64 err]) ∧ w = w') := by
  by_cases hr : at' < 0 ∨ (len : Int) < at' + 2
  · exact ⟨ByteArray.empty, 0, 6, fun a cap w hB hc => fieldRead_range a len cap at' l w hB hc hat hr, fun a cap w _ _ _ => refRead_range a len cap at' w (by omega) hr⟩
  · obtain ⟨p, rfl, hp⟩ : ∃ p : Nat, at' = (p : Int) ∧ p + 2 ≤ len := ⟨at'.toNat, by omega, by omega⟩
    by_cases hn : len < p + 2 + readN p l
    · exact ⟨ByteArray.empty, 0, 6, fun a cap w hB hc => fieldRead_short a len cap p l w hB hc hp hn, fun a cap w hB _ _ => refRead_short a len cap p l w hB hp hn⟩
    · exact ⟨_, _, 0, fun a cap w hB hc => fieldRead_ok a len cap p l w hB hc (by omega), fun a cap w hB hc h0 => refRead_ok a len cap p l w hB hc h0 (by omega)⟩
theorem in64_wf {n : Int} (h : (Lit.int .i64 n).wf = true) : In64 n := by
  have := bounds_i64 h
  unfold In64
  omega
theorem in64_nat (n : Nat) (h : n ≤ 100000000) : In64 (n : Int) := by
  unfold In64
  omega

/-- 'PutPost' with the length under a name. -/
theorem PutPost.named {w0 : World} {l : List Int} {err : Int} {e : Ending} {w : World} (h : PutPost w0 l err e w) {n : Nat} (hn : l.length = n) :
    ∃ a c, e = .returned (.tuple #[.slice a n c, .int .i64 err]) ∧ Bytes w a n l ∧ ((a = none → c = 0) ∧ n ≤ c) ∧ Below w0.heap.size w0 w := by
  subst hn
  exact h

/-! The document's example. -/
theorem fit_258 : Fit64 258 := by unfold Fit64; omega
theorem fits_258 : fitsIn 2 258 = true := by kernel_rfl
theorem two_big : strOfNums ([] ++ numB true 2 258) = ⟨#[1, 2]⟩ := by kernel_rfl
theorem two_little : strOfNums ([] ++ numB false 2 258) = ⟨#[2, 1]⟩ := by kernel_rfl

set_option maxHeartbeats 800000 in
theorem awake_any (w : World) : Calls Try.prog 10 #[] w fun e w' => e = .returned (.bool true) ∧ Below w.heap.size w w' := by
  have P1 : ∀ w : World, Calls Try.prog 11 #[.slice none 0 0, .int .i64 2, .bool true, .int .u64 258] w (PutPost w ([] ++ numB true 2 258) 0) := fun w => fieldPut_ok none 0 0 2 258 [] true w (none_bytes w) (fun _ => rfl) (by omega) (by omega) (by omega) fit_258 fits_258
  have P2 : ∀ w : World, Calls Try.prog 11 #[.slice none 0 0, .int .i64 2, .bool false, .int .u64 258] w (PutPost w ([] ++ numB false 2 258) 0) := fun w => fieldPut_ok none 0 0 2 258 [] false w (none_bytes w) (fun _ => rfl) (by omega) (by omega) (by omega) fit_258 fits_258
  have H1 := Lib.hid P1
  have H2 := Lib.hid P2
  clear P1 P2
  go_enter Try.func10, Try.ntmps10
  go_wp2_with (first
    | (go_at_call 13; go_in)
    | (go_at_call 11; ((with_reducible refine (H1.out _).mono ?_); rintro e w1 hp; obtain ⟨a1, c1, rfl, hB, _, hb⟩ := hp.named (n := 2) rfl; have HB1 := Lib.hid hB; have HG1 := Lib.hid hb; clear hp hB hb))
    | (go_at_call 11; ((with_reducible refine (H2.out _).mono ?_); rintro e w2 hp; obtain ⟨a2, c2, rfl, hB, _, hb⟩ := hp.named (n := 2) rfl; have hcv1 := conv_str (HB1.out.later hb) c1; have hcv2 := conv_str hB c2; rw [two_big] at hcv1; rw [two_little] at hcv2; have HG2 := Lib.hid (HG1.out.trans (hb.mono HG1.out.size)); clear hp hB hb)))
  go_ret
  exact ⟨rfl, HG2.out⟩
end Go.Proofs.Ytdehplankddfgaa
