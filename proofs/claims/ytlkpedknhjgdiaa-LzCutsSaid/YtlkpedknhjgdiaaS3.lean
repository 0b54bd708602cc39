/-
  What the statements on Pack need: what is packed is unpacked, refused with less room, cut short. Conditions: the slices read as bytes, no more than 20000 of them.
-/
import Derived.Test.YtlkpedknhjgdiaaO3
import Derived.Test.YtlkpedknhjgdiaaR3
namespace Go.Proofs.Ytlkpedknhjgdiaa
open Go.RowKit

/-- 'PackPost' with the length under a name. -/
theorem PackPost.named {w0 : World} {P : List Int} {e : Ending} {w : World} (h : PackPost w0 P e w) {n : Nat} (hn : P.length = n) :
    ∃ a c, e = .returned (.slice a n c) ∧ Bytes w a n P ∧ ((a = none → c = 0) ∧ n ≤ c) ∧ Below w0.heap.size w0 w := by
  subst hn
  exact h
/-- What Pack makes of l, and what becomes of that. -/
structure Packed (l : List Int) (len : Nat) (P : List Int) (N : Nat) : Prop where
  size : P.length = N
  pos : 0 < N
  bound : N ≤ len + len / 200 + 16
  bytes : ∀ c ∈ P, 0 ≤ c ∧ c < 256
  back : unpackOf P len = (l, 0)
  pack : ∀ (a : Option Addr) (cap : Nat) (w : World), Bytes w a len l → len ≤ cap → (a = none → cap = 0) → Calls Try.prog 15 #[.slice a len cap] w (PackPost w P)
theorem pack_gets (l : List Int) (len : Nat) (hl : l.length = len) (hb : ∀ c ∈ l, 0 ≤ c ∧ c < 256) (h : len ≤ 20000) : ∃ P N, Packed l len P N := by
  obtain ⟨packOf, h1, _, h3⟩ := lzPack_exists
  obtain ⟨g1, g2, g3⟩ := h1 l hb (by omega)
  rw [hl] at g1 g2
  refine ⟨packOf l, (packOf l).length, rfl, ?_, g2, g3, g1, fun a cap w hB hc hn => h3 a len cap l w hB hc hn h⟩
  have := (unpack_ne g1).1
  cases hp : packOf l with
  | nil => exact absurd hp this
  | cons x xs => simp
theorem pack_runs (c : Int) (k : Nat) (hc : 0 ≤ c ∧ c < 256) (h1 : 1000 < k) (h2 : k ≤ 20000) : ∃ P N, Packed (List.replicate k c) k P N ∧ N * 10 < k := by
  obtain ⟨packOf, h, h4, h3⟩ := lzPack_exists
  have hl : (List.replicate k c).length = k := List.length_replicate
  have hb : ∀ d ∈ List.replicate k c, 0 ≤ d ∧ d < 256 := fun d hd => by
    obtain rfl := List.eq_of_mem_replicate hd
    exact hc
  obtain ⟨g1, g2, g3⟩ := h (List.replicate k c) hb (by omega)
  rw [hl] at g1 g2
  refine ⟨packOf (List.replicate k c), (packOf (List.replicate k c)).length, ⟨rfl, ?_, g2, g3, g1, fun a cap w hB hc hn => h3 a k cap _ w hB hc hn h2⟩, h4 c k hc.1 hc.2 h1 h2⟩
  have := (unpack_ne g1).1
  cases hp : packOf (List.replicate k c) with
  | nil => exact absurd hp this
  | cons x xs => simp
theorem Packed.unpack {l P : List Int} {len N : Nat} (h : Packed l len P N) (hl : l.length = len) (m : Nat) (hm : m ≤ 30000) (hlen : len ≤ 20000) (h2 : len ≤ m) (a : Option Addr) (c : Nat) (w : World) (hB : Bytes w a N P) (hn : (a = none → c = 0) ∧ N ≤ c) :
    Calls Try.prog 12 #[.slice a N c, .int .i64 m] w (PutPost w l 0) := by
  have := lzUnpack_any a N c m P w hB hn.2 hn.1 (by have := h.bound; omega)
  rw [(unpack_grow h.bytes h.back m (by omega)).1 (by omega)] at this
  exact this
theorem Packed.less {l P : List Int} {len N : Nat} (h : Packed l len P N) (hl : l.length = len) (m : Nat) (hlen : len ≤ 20000) (h2 : m < len) (a : Option Addr) (c : Nat) (w : World) (hB : Bytes w a N P) (hn : (a = none → c = 0) ∧ N ≤ c) :
    Calls Try.prog 12 #[.slice a N c, .int .i64 m] w (PutPost w [] 2) := by
  have := lzUnpack_any a N c m P w hB hn.2 hn.1 (by have := h.bound; omega)
  rw [(unpack_grow h.bytes h.back m (by omega)).2 (by omega)] at this
  exact this
theorem Packed.ref {l P : List Int} {len N : Nat} (h : Packed l len P N) (hlen : len ≤ 20000) (a : Option Addr) (c : Nat) (w : World) (hB : Bytes w a N P) :
    Calls Try.prog 13 #[.slice a N c, .int .i64 len] w (PutPost w l 0) := by
  have := refUnpack_any a N c len P w hB (by have := h.bound; omega)
  rw [h.back] at this
  exact this
theorem Packed.cut {l P : List Int} {len N : Nat} (h : Packed l len P N) (hlen : len ≤ 20000) (k : Nat) (hk : k ≤ N) : ∃ (y : List Int) (err : Int), ((err = 0 ∧ y <+: l) ∨ (err = 3 ∧ y = [])) ∧
    ∀ (a : Option Addr) (c : Nat) (w : World), Bytes w a k (P.take k) → (a = none → c = 0) → k ≤ c → Calls Try.prog 12 #[.slice a k c, .int .i64 len] w (PutPost w y err) := by
  have hcall : ∀ (y : List Int) (err : Int), unpackOf (P.take k) len = (y, err) → ∀ (a : Option Addr) (c : Nat) (w : World), Bytes w a k (P.take k) → (a = none → c = 0) → k ≤ c → Calls Try.prog 12 #[.slice a k c, .int .i64 len] w (PutPost w y err) := fun y err he a c w hB hn hc => by
    have := lzUnpack_any a k c len (P.take k) w hB hc hn (by have := h.bound; omega)
    rw [he] at this
    exact this
  rcases unpack_cut h.bytes h.back k (by rw [h.size]; exact hk) with ⟨y, h1, h2⟩ | h1
  · exact ⟨y, 0, Or.inl ⟨rfl, h2⟩, hcall y 0 h1⟩
  · exact ⟨[], 3, Or.inr ⟨rfl, rfl⟩, hcall [] 3 h1⟩
theorem num_any (n : Int) (w : World) : Calls Try.prog 14 #[.int .i64 n] w fun e w' => e = .returned (.int .i64 n) ∧ w = w' := by
  go_enter Try.func14, Try.ntmps14
  go_wp2
  go_ret
  exact ⟨rfl, rfl⟩
end Go.Proofs.Ytlkpedknhjgdiaa
