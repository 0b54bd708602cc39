/-
  What Unpack's work does with the bytes that are told again, and how it reads a length. Conditions: short texts.
-/
import Derived.Test.YtlkpedknhjgdiaaB3
namespace Go.Proofs.Ytlkpedknhjgdiaa
open Go.RowKit

set_option maxHeartbeats 1600000 in
theorem copies_bad (w0 : World) (l : List Int) (most p n : Nat) (F : Int) (out : List Int) (w : World) (h : Un w0 l most p out w) (hm : most ≤ 1048576) (hn : most < out.length + n) :
    Calls Try.prog 29 #[.pointer (some ⟨w0.heap.size, 0, none⟩), .int .i64 F, .int .i64 n] w fun e w' => e = .returned (.int .i64 2) ∧ Below w0.heap.size w0 w' := by
  have HM : Hid (∀ w', w' = w → Calls Try.prog 32 #[.pointer (some ⟨w0.heap.size, 0, none⟩)] w' fun e w' => e = .returned (.int .i64 ((most - out.length : Nat) : Int)) ∧ w' = w.drew) := fun w' e => e ▸ room_any w0 l most p out w h hm
  have HB := Lib.hid h.below
  have hn2 : most - out.length < n := by
    obtain ⟨ar, nr, cr, ao, no, co, h1, h2, h3, h4, h5, h6, h7, h8⟩ := h
    have := h6.len
    omega
  obtain ⟨R, HR⟩ := named (most - out.length)
  rw [HR.out] at HM hn2
  have hR : R ≤ 1048576 := by have := HR.out; omega
  clear h hn
  obtain ⟨U, hU⟩ := named w0.heap.size
  rw [hU.out] at HM HB ⊢
  go_enter Try.func29, Try.ntmps29
  go_wp2_with (go_at_call 32; refine (HM.out _ rfl).mono ?_; rintro e w' ⟨rfl, rfl⟩)
  go_ret
  exact ⟨rfl, HB.out.drew⟩

set_option maxRecDepth 100000 in
set_option maxHeartbeats 3200000 in
theorem copies_ok (w0 : World) (l : List Int) (most p n F : Nat) (out : List Int) (w : World) (h : Un w0 l most p out w) (hm : most ≤ 1048576) (hn : out.length + n ≤ most) (hF : 0 < F) (hF2 : F ≤ out.length) :
    Calls Try.prog 29 #[.pointer (some ⟨w0.heap.size, 0, none⟩), .int .i64 F, .int .i64 n] w fun e w' => e = .returned (.int .i64 0) ∧ Un w0 l most p (repL F n out) w' := by
  have HM : Hid (∀ w', w' = w → Calls Try.prog 32 #[.pointer (some ⟨w0.heap.size, 0, none⟩)] w' fun e w' => e = .returned (.int .i64 ((most - out.length : Nat) : Int)) ∧ w' = w.drew) := fun w' e => e ▸ room_any w0 l most p out w h hm
  have HUN := Lib.hid h
  have hn2 : n ≤ most - out.length := by omega
  obtain ⟨R, HR⟩ := named (most - out.length)
  rw [HR.out] at HM hn2
  have hR : R ≤ 1048576 := by have := HR.out; omega
  have hz1 : decide ((R : Int) < (n : Int)) = false := by simp; omega
  have hz2 : decide (R < n) = false := by simp; omega
  obtain ⟨N0, HN0⟩ := named out.length
  rw [HN0.out] at hn hF2
  clear h
  obtain ⟨U, hU⟩ := named w0.heap.size
  have HU := Lib.hid hU.out
  rw [hU.out] at HM ⊢
  go_enter Try.func29, Try.ntmps29
  go_wp2_with (go_at_call 32; refine (HM.out _ rfl).mono ?_; rintro e w' ⟨rfl, rfl⟩)
  go_loopw [12] (fun i wr => ∃ k : Nat, k ≤ n ∧ i = .int .i64 k ∧ Hid (Un w0 l most p (repL F k out) wr)) (fun i _ => n - (intOf i).toNat)
  case atStart => exact ⟨0, Nat.zero_le _, rfl, HUN.out.drew⟩
  case round =>
    obtain ⟨k, hk, rfl, HUk⟩ := hrel
    clear HUN HM
    by_cases hlt : k < n
    · obtain ⟨ar, nr, cr, ao, no, co, h1, h2, h3, h4, h5, h6, h7, h8⟩ := HUk.out
      have hl := h6.len
      rw [repL_len, HN0.out] at hl
      have HLN := Lib.hid hl
      have hF3 : F ≤ no := by omega
      have hno : no + 1 ≤ 1048577 := by omega
      have hno2 : no + 1 ≤ most := by omega
      have hno0 : 0 < no := by omega
      clear hl
      obtain ⟨g, rfl, hgb, hgs⟩ := h6.lies (by omega)
      rw [HU.out] at h1 hgb
      have c1 := h1.c1
      have f1 := h1.free 1
      obtain ⟨K, hK, hK2⟩ : ∃ K : Nat, (no : Int) - (F : Int) = (K : Int) ∧ Hid (K = no - F) := ⟨no - F, by omega, rfl⟩
      have hK3 : K < no := by have := hK2.out; omega
      have hwK : IntKind.i64.wrap (K : Int) = (K : Int) := by rw [IntKind.wrap_i64]; omega
      have hK4 : (0 : Int) ≤ (K : Int) := Int.natCast_nonneg _
      have hK5 : (K : Int) < (no : Int) := by omega
      obtain ⟨c8, HC8⟩ := named ((repL F k out).getD K 0)
      have d8 := h6.cell K hK3
      have b8 := h6.2.at (k := K) (by rw [h6.len]; exact hK3)
      rw [HC8.out] at d8 b8
      have HB8 := Lib.hid b8
      have HR8 := Lib.hid h1
      have HO := Lib.hid h6
      have HB := Lib.hid h8
      have HREST := Lib.hid (And.intro h2 (And.intro h3 (And.intro h4 h5)))
      have HX : Hid (repL F k out ++ [c8] = repL F (k + 1) out) := by
        rw [Hid, repL_snoc, repL_len, HN0.out, HLN.out, ← hK2.out, HC8.out]
      have hsz := h1.lt
      have c1a : ∀ o, (wr.alloc o).cell? ⟨U, 1, none⟩ = some (.slice (some ⟨g, 0, none⟩) no co) := fun o => (h1.grown (World.grownBy_alloc _ o none) (fun k e => by cases e)).c1
      clear h1 h2 h3 h4 h5 h6 h8 b8
      have HE : Hid (∀ (W : World) (a4 : Option Addr) (c4 : Nat), Rec W U (.slice ar nr cr) (.slice (some ⟨g, 0, none⟩) no co) most → Own W (w0.heap.size + 2) (.slice a4 (no + 1) c4) (no + 1) (repL F k out ++ [c8]) → (wr.drew.alloc (.cells #[.int .u8 c8] 5)).grownBy W (Value.slice (some ⟨g, 0, none⟩) no co).ownBlock → Un w0 l most p (repL F (k + 1) out) (W.setCell ⟨U, 1, none⟩ (.slice a4 (no + 1) c4))) := fun W a4 c4 g1 g2 g3 => by
        obtain ⟨r1, r2, r3, r4⟩ := HREST.out
        have hle : w0.heap.size ≤ wr.heap.size := by have := HU.out; omega
        have hle2 : w0.heap.size ≤ (wr.drew.alloc (.cells #[.int .u8 c8] 5)).heap.size := Nat.le_trans hle (by simp)
        refine ⟨ar, nr, cr, a4, no + 1, c4, ?_, r1, r2, r3, r4, ?_, hno2, ?_⟩
        · rw [HU.out]; exact g1.set1 _
        · rw [← HX.out]; exact own_set g2 (by have := HU.out; show U < w0.heap.size + 2; omega) _
        · exact ((HB.out.drew.alloc hle _).grown g3 hle2 (fun j hj => by have := own_block HO.out j hj; omega)).setCell (by have := HU.out; show w0.heap.size ≤ U; omega) _
      go_wp2_with fail
      go_region_law (refine step_append_bytes (by rfl) _ _ (by rfl) (w0.heap.size + 2) _ no _ (by rfl) (HO.out.drew.alloc _) _ 1 1 [c8] (by rfl) (fun e => by cases e) (one_byte _ c8 HB8.out) (by omega) (by simp; have := HU.out; omega) ?_; intro a4 c4 w4 g1 g2; have HO4 := Lib.hid g1; have HG4 := Lib.hid g2; have HR9 := Lib.hid (((HR8.out.drew.grown (World.grownBy_alloc _ _ none) (fun k e => by cases e)).grown g2 (fun k hk => by have := own_block HO.out k hk; have := HU.out; omega))); have f14 := HR9.out.free 1; have c14 := HR9.out.c1; clear g1 g2)
      all_goals
        go_wp2
        go_roundw
        case rel => exact ⟨k + 1, by omega, by go_num, HE.out _ _ _ HR9.out HO4.out HG4.out⟩
        case measure => simp [intOf]; omega
    · obtain rfl : k = n := by omega
      go_wp2
      go_ret
      exact ⟨rfl, HUk.out⟩
end Go.Proofs.Ytlkpedknhjgdiaa
