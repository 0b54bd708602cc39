/-
  What the project's own Unpack answers, whatever bytes come (package lz). Conditions: no more than 100000 bytes.
-/
import Derived.Test.YtlkpedknhjgdiaaE3
namespace Go.Proofs.Ytlkpedknhjgdiaa
open Go.RowKit

/-- How many bytes are left in the state at block U. -/
def leftOf (U : Nat) (w : World) : Nat := match w.cell? ⟨U, 0, none⟩ with | some (.slice _ n _) => n | _ => 0
theorem leftOf_un {w0 : World} {l : List Int} {most p : Nat} {out : List Int} {w : World} (h : Un w0 l most p out w) : leftOf w0.heap.size w = l.length - p := by
  obtain ⟨ar, cr, hc⟩ := h.rest
  unfold leftOf
  rw [hc]
/-- The closure is made: a new block holds the state's place. -/
theorem mklen_any (w : World) (U : Nat) :
    Calls Try.prog 18 #[.pointer (some ⟨U, 0, none⟩)] w fun e w' => e = .returned (.func (.func 26) #[] #[.pointer (some ⟨w.heap.size, 0, none⟩)]) ∧ w' = w.alloc (.cells #[.pointer (some ⟨U, 0, none⟩)] 55) := by
  go_enter Try.func18, Try.ntmps18
  go_wp2
  go_ret
  exact ⟨rfl, rfl⟩
theorem un_start {w0 w : World} {l : List Int} {most n c : Nat} {a : Option Addr} (h1 : w.heap[w0.heap.size]? = some (.cells #[.slice a n c, .slice none 0 0, .int .i64 most] 42 (0, 0))) (h2 : w.heap[w0.heap.size + 1]? = some (.cells #[.pointer (some ⟨w0.heap.size, 0, none⟩)] 55 (0, 0)))
    (hB : Bytes w0 a n l) (hcap : n ≤ c) (hnil : a = none → c = 0) (hb : Below w0.heap.size w0 w) : Un w0 l most 0 [] w :=
  ⟨a, n, c, none, 0, 0, ⟨h1, h2⟩, by rw [List.drop_zero]; exact hB, hcap, hnil, Nat.zero_le _, ⟨World.ownsRow_nil _ _ _ _, by unfold Small; simp⟩, Nat.zero_le _, hb⟩

set_option maxHeartbeats 800000 in
theorem lzUnpack_arg (sl : Value) (most : Int) (w : World) (h : most < 0 ∨ 1048576 < most) :
    Calls Try.prog 12 #[sl, .int .i64 most] w (PutPost w [] 1) := by
  by_cases h1 : most < 0
  · have hz : decide (most < 0) = true := by simp [h1]
    clear h
    go_enter Try.func12, Try.ntmps12
    go_wp2
    go_ret2
    exact PutPost.empty w 1
  · have hz : decide (most < 0) = false := by simp [h1]
    have hy : 1048576 < most := by omega
    clear h
    go_enter Try.func12, Try.ntmps12
    go_wp2
    go_ret2
    exact PutPost.empty w 1
set_option maxHeartbeats 800000 in
theorem lzUnpack_none (a : Option Addr) (cap most : Nat) (w : World) (h : most ≤ 1048576) :
    Calls Try.prog 12 #[.slice a 0 cap, .int .i64 most] w (PutPost w [] 3) := by
  have hz : decide ((most : Int) < 0) = false := by simp
  go_enter Try.func12, Try.ntmps12
  go_wp2
  go_ret2
  exact PutPost.empty w 3

set_option maxRecDepth 100000 in
set_option maxHeartbeats 3200000 in
theorem lzUnpack_ok (a : Option Addr) (len cap most : Nat) (l : List Int) (w : World) (hB : Bytes w a len l) (hcap : len ≤ cap) (hnil : a = none → cap = 0) (h0 : 0 < len) (hlen : len ≤ 100000) (hm : most ≤ 1048576) :
    Calls Try.prog 12 #[.slice a len cap, .int .i64 most] w (PutPost w (unp l most (len + 1) 0 []).1 (unp l most (len + 1) 0 []).2) := by
  have hz : decide ((most : Int) < 0) = false := by simp
  have hz2 : ((len : Int) == 0) = false := by simp; omega
  have hz3 : decide ((1048576 : Int) < (most : Int)) = false := by simp; omega
  have HBD := Lib.hid hB.small.2
  have HLN := Lib.hid hB.1
  have HST := Lib.hid (fun (w1 : World) h1 h2 hb => un_start (w := w1) (most := most) h1 h2 hB hcap hnil hb)
  obtain ⟨R, HR⟩ := named (unp l most (len + 1) 0 [])
  have HSQ : Hid (∀ (p f : Nat) (out : List Int) (w' : World), Un w l most p out w' → p < l.length → l.length + 1 ≤ (f + 1) + p → unp l most (f + 1) p out = R → Calls Try.prog 19 #[.pointer (some ⟨w.heap.size, 0, none⟩), .func (.func 26) #[] #[.pointer (some ⟨w.heap.size + 1, 0, none⟩)]] w' (SeqPost w l most p f R)) :=
    fun p f out w' h1 h2 h3 h4 => sequence_any w l most p f out w' R h1 hm (by rw [HLN.out]; exact hlen) HBD.out h2 h3 h4
  rw [HR.out]
  clear hB hcap hnil
  go_enter Try.func12, Try.ntmps12
  go_wp2_with (go_at_call 18; refine (mklen_any _ _).mono ?_; rintro e w1 ⟨rfl, rfl⟩)
  have HU0 : Hid (Un w l most 0 [] ((w.alloc (.cells #[.slice a len cap, .slice none 0 0, .int .i64 most] 42)).alloc (.cells #[.pointer (some ⟨w.heap.size, 0, none⟩)] 55))) :=
    HST.out _ ((Go.heap_alloc_old (w.alloc _) _ (by simp)).trans (heap_alloc_new w _)) (by have := heap_alloc_new (w.alloc (.cells #[.slice a len cap, .slice none 0 0, .int .i64 most] 42)) (.cells #[.pointer (some ⟨w.heap.size, 0, none⟩)] 55); rw [World.size_alloc] at this; exact this) (((Below.refl _ _).alloc (Nat.le_refl _) _).alloc (by simp) _)
  clear HST
  go_loopw [8] (fun _ wr => ∃ (p f : Nat) (out : List Int), p ≤ len ∧ len + 1 ≤ f + p ∧ Hid (Un w l most p out wr) ∧ Hid (unp l most f p out = R)) (fun _ wr => leftOf w.heap.size wr)
  case atStart => exact ⟨0, len + 1, [], Nat.zero_le _, by omega, HU0.out, HR.out⟩
  case round =>
    obtain ⟨p, f, out, hp, hf, HUp, HG⟩ := hrel
    clear HU0
    obtain ⟨ar, nr, cr, ao, no, co, h1, h2, h3, h4, h5, h6, h7, h8⟩ := HUp.out
    have c0 := h1.c0
    have c1 := h1.c1
    have HN : Hid (nr = len - p) := by rw [Hid, ← h2.1, List.length_drop, HLN.out]
    have HO := Lib.hid h6
    have HB := Lib.hid h8
    clear h1 h2 h3 h4 h5 h6 h8
    obtain ⟨f', rfl⟩ : ∃ f', f = f' + 1 := ⟨f - 1, by omega⟩
    by_cases hlt : 0 < nr
    · have hlt2 : (0 : Int) < (nr : Int) := by omega
      have HLL : Hid (leftOf w.heap.size wr = len - p) := by rw [Hid, leftOf_un HUp.out, HLN.out]
      have hpl : p < len := by have := HN.out; omega
      go_wp2_with (go_at_call 19; ((with_reducible refine (HSQ.out p f' out wr HUp.out (by rw [HLN.out]; exact hpl) (by rw [HLN.out]; exact hf) HG.out).mono ?_); rintro e w2 (⟨E, hE, rfl, g1, g2⟩ | ⟨rfl, p', out', g1, g2, g3⟩)))
      · go_ret2
        rw [g1]
        have hb0 : Below w.heap.size w w2 := g2
        exact ⟨none, 0, rfl, none_bytes _, ⟨fun _ => rfl, Nat.le_refl _⟩, hb0⟩
      · refine ⟨⟨p', f', out', ?_, by omega, g2, g3⟩, ?_⟩
        · have := g2.le.1
          rw [HLN.out] at this
          exact this
        · rw [HLL.out, leftOf_un g2, HLN.out]
          omega
    · have hlt2 : ¬ (0 : Int) < (nr : Int) := by omega
      have HE : Hid (R = (out, 0)) := by
        rw [Hid, ← HG.out]
        exact unp_end l most f' p out (by rw [HLN.out]; have := HN.out; omega)
      go_wp2
      go_ret2
      rw [HE.out]
      exact PutPost.own 0 HO.out HB.out
/-- The project's Unpack, whatever is asked. -/
theorem lzUnpack_any (a : Option Addr) (len cap : Nat) (most : Int) (l : List Int) (w : World) (hB : Bytes w a len l) (hcap : len ≤ cap) (hnil : a = none → cap = 0) (hlen : len ≤ 100000) :
    Calls Try.prog 12 #[.slice a len cap, .int .i64 most] w (PutPost w (unpackOf l most).1 (unpackOf l most).2) := by
  by_cases h1 : most < 0 ∨ 1048576 < most
  · have e : unpackOf l most = ([], 1) := by rw [unpackOf, if_pos h1]
    rw [e]
    exact lzUnpack_arg _ most w h1
  · obtain ⟨k, rfl, hk⟩ : ∃ k : Nat, most = (k : Int) ∧ k ≤ 1048576 := ⟨most.toNat, by omega, by omega⟩
    by_cases h0 : len = 0
    · subst h0
      have e : unpackOf l k = ([], 3) := by rw [unpackOf, if_neg h1, if_pos (List.eq_nil_of_length_eq_zero hB.1)]
      rw [e]
      exact lzUnpack_none a cap k w hk
    · have e : unpackOf l k = unp l k (len + 1) 0 [] := by
        rw [unpackOf, if_neg h1, if_neg (fun e => h0 (by rw [← hB.1, e]; rfl)), Int.toNat_natCast, hB.1]
      rw [e]
      exact lzUnpack_ok a len cap k l w hB hcap hnil (by omega) hlen hk
end Go.Proofs.Ytlkpedknhjgdiaa
