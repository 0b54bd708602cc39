/-
  Clone of bytes; what the methods fall and flush of a file do (package disk). Conditions: none but short files.
-/
import Derived.Test.YtnhaidofblfopaaD5
import Derived.Lib.SliceRun
namespace Go.Proofs.Ytnhaidofblfopaa
open Go.RowKit

set_option maxRecDepth 100000 in
/-- slices.Clone of bytes. -/
theorem clone_any (w : World) (a : Option Addr) (n c : Nat) (l : List Int) (hB : Bytes w a n l) (hnil : a = none → c = 0) (hn : n ≤ 10000000) :
    Calls Try.prog 38 #[.slice a n c] w fun e w' => ∃ a' c', e = .returned (.slice a' n c') ∧ Own w' w.heap.size (.slice a' n c') n l ∧ Below w.heap.size w w' := by
  have HB := Lib.hid hB
  have q22 : ∀ (w : World) (a : Option Addr) (n c n' c' : Nat), (binOp .eql 22 (.slice a n c) (.slice none n' c')).run Try.prog w = .ok (.bool a.isNone) w := fun w a n c n' c' => Lib.run_eql_slice_nil w _ _ a n c n' c' Try.underlying22
  obtain ⟨N, hN⟩ := named w.heap.size
  rw [hN.out]
  cases a with
  | none =>
    obtain rfl := hnil rfl
    have h0 : n = 0 := by
      rcases hB.2.2 with h | ⟨b, off, e, _⟩
      · exact h
      · cases e
    subst h0
    obtain rfl : l = [] := List.eq_nil_of_length_eq_zero hB.1
    clear hB
    go_enter Try.func38, Try.ntmps38
    go_wp2
    go_ret
    exact ⟨none, 0, rfl, ⟨⟨by simp, Or.inl ⟨rfl, rfl⟩⟩, by unfold Small; simp⟩, Below.refl _ _⟩
  | some ad =>
    clear hB
    go_enter Try.func38, Try.ntmps38
    go_wp2_with (at_builtin; refine append_bytes rfl (.tmp 5) (.tmp 6) rfl N (.slice (some ⟨N, 0, none⟩) 0 0) 0 [] (by rw [← hN.out]; rfl) (by rw [← hN.out]; exact Own.made w w.heap.size (Nat.le_refl _)) (some ad) n c l rfl hnil (HB.out.later ((Below.refl _ w).alloc (Nat.le_refl _) _)) (by omega) (by rw [World.size_alloc]; have := hN.out; omega) ?_; intro a' c' w' h1 h2)
    go_wp2
    go_ret
    rw [Nat.zero_add, List.nil_append] at h1
    exact ⟨a', c', rfl, h1, hN.out ▸ (((Below.refl w.heap.size w).alloc (Nat.le_refl _) _).grown h2 (by rw [World.size_alloc]; omega) fun k e => by have := hN.out; have : N = k := (by simpa [Value.ownBlock] using e); omega)⟩
/-- fall. -/
theorem fall_any {w : World} {f : FR} (h : FileAt w f) :
    Calls Try.prog 37 #[.pointer (some ⟨f.G, 0, none⟩)] w fun e w' => e = .returned (.tuple #[]) ∧ ∃ S', FileAt w' ⟨f.name, f.G, S', f.dur, f.dur, []⟩ ∧ Away f.S w S' w' := by
  obtain ⟨vn, vd, vw, h⟩ := h
  obtain ⟨a, c, hvd, hb, hnil⟩ := h.dur.shape
  have HDu := Lib.hid h.dur
  have HB := Lib.hid h.blk
  have H := Lib.hid h
  have HBy := Lib.hid hb
  have hln := h.ok.dur
  have c2 : w.cell? ⟨f.G, 2, none⟩ = some (.slice a (16 * f.dur.length) c) := by rw [h.blk.cell, ← hvd]; rfl
  obtain ⟨A, hA⟩ := named (16 * f.dur.length)
  rw [hA.out] at c2
  obtain ⟨G, hG⟩ := named f.G
  rw [hG.out] at c2 HB ⊢
  clear h hb
  go_enter Try.func37, Try.ntmps37
  go_wp2_with (go_at_call 38; refine (clone_any _ a A c f.dur.flatten (by rw [← hA.out]; exact HBy.out) hnil (by have := hA.out; omega)).mono ?_; rintro e w2 ⟨a2, n2, rfl, h1, h2⟩; have hB2 := HB.out.later h2; have q2 : w2.cell? ⟨G, 1, none⟩ = some vn := (by rw [hB2.cell]; rfl); have q3 := hB2.free 1; have hB3 := hB2.set 1 (.slice a2 A n2); have q4 : (w2.setCell ⟨G, 1, none⟩ (.slice a2 A n2)).cell? ⟨G, 3, none⟩ = some vw := (by rw [hB3.cell]; rfl); have q5 := hB3.free 3; have HB3 := Lib.hid hB3; have H1 := Lib.hid h1; have H2 := Lib.hid h2; clear hB2 hB3 h1 h2)
  go_end0
  have h := H.out
  obtain rfl := hG.out
  obtain ⟨v2, hv2⟩ := named (Value.slice a2 A n2)
  have h1 := H1.out
  rw [hv2.out, ← hA.out] at h1
  rw [hv2.out] at HB3 ⊢
  have hG2 : v2.ownBlock ≠ some f.G := fun e => by
    have := (h1.1.lt f.G e).1
    have := h.blk.lt
    omega
  have hd2 : Own w2 0 vd (16 * f.dur.length) f.dur.flatten := HDu.out.belowL' H2.out
  have hGd : vd.ownBlock ≠ some f.G := fun e => h.blk.not_own (by decide) HDu.out e
  have hw : ∀ k, k ≠ f.G → ((w2.setCell ⟨f.G, 1, none⟩ v2).setCell ⟨f.G, 3, none⟩ (.slice none 0 0)).heap[k]? = w2.heap[k]? := fun k hk =>
    (Below.heap_setCell _ ⟨f.G, 3, none⟩ _ k hk).trans (Below.heap_setCell _ ⟨f.G, 1, none⟩ _ k hk)
  have h0 : Own w2 0 v2 (16 * f.dur.length) f.dur.flatten := by
    refine ⟨⟨h1.1.1, ?_⟩, h1.2⟩
    rcases h1.1.2 with e | ⟨g, cap, cur, e, _, e2⟩
    · exact Or.inl e
    · exact Or.inr ⟨g, cap, cur, e, Nat.zero_le _, e2⟩
  refine ⟨rfl, at_of_in (h.done f.dur f.dur [] v2 vd (.slice none 0 0) ((((Away.refl f.S w).later H2.out).set h.sG 1 v2).set h.sG 3 _) ⟨h.ok.dur, h.ok.dur, h.ok.dur16, h.ok.dur16, (fun y hy => by cases hy), by simp⟩ (HB3.out.set 3 (.slice none 0 0))
    (h0.frame fun k hk => hw k (fun e => hG2 (hk.trans (congrArg some e)))) (hd2.frame fun k hk => hw k (fun e => hGd (hk.trans (congrArg some e)))) (OwnG.none _ _ _ _ _) ?_ (fun k hk => Or.inr (h1.1.lt k hk).1) (fun k hk => Or.inl (h.sD hk)) (fun k hk => by cases hk))⟩
  intro k hk e
  have := (h1.1.lt k hk).1
  have := HDu.out.lt e
  omega
end Go.Proofs.Ytnhaidofblfopaa
