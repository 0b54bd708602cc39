/-
  How Unpack's work reads a length: a half, and what is added to it. Conditions: short texts, bytes from 0 to 255.
-/
import Derived.Test.YtlkpedknhjgdiaaC3
namespace Go.Proofs.Ytlkpedknhjgdiaa
open Go.RowKit

/-- One, if a slot holds true. -/
def flagOf : Value → Nat | .bool true => 1 | _ => 0
/-- What the closure hands back. -/
def LenPost (w0 : World) (l : List Int) (most : Nat) (out : List Int) (R : Nat × Nat × Bool) (e : Ending) (w' : World) : Prop :=
  e = .returned (.tuple #[.int .i64 R.1, .bool R.2.2]) ∧ Below w0.heap.size w0 w' ∧ (R.2.2 = true → Un w0 l most R.2.1 out w')
/-- What is still to be added. -/
def goesOn (l : List Int) (f q m : Nat) : Bool → Nat × Nat × Bool
  | true => addTo l f q m
  | false => (m, q, true)

set_option maxRecDepth 100000 in
set_option maxHeartbeats 3200000 in
theorem lengths_any (w0 : World) (l : List Int) (most p half : Nat) (out : List Int) (w : World) (h : Un w0 l most p out w) (hl : l.length ≤ 100000) (hb : ∀ c ∈ l, 0 ≤ c ∧ c < 256) (hh : half < 16) (hpl : p ≤ l.length) :
    Calls Try.prog 26 #[.int .u8 half, .pointer (some ⟨w0.heap.size + 1, 0, none⟩)] w (LenPost w0 l most out (lengthOf l p half)) := by
  obtain ⟨b0, hb0, HST⟩ : ∃ b0 : Bool, ((half : Int) == 15) = b0 ∧ Hid (goesOn l (l.length + 1 - p) p half b0 = lengthOf l p half) := by
    by_cases h15 : half < 15
    · exact ⟨false, by simp; omega, by rw [Hid, lengthOf, if_pos h15]; rfl⟩
    · obtain rfl : half = 15 := by omega
      exact ⟨true, rfl, by rw [Hid, lengthOf, if_neg (by omega)]; rfl⟩
  obtain ⟨R, HR⟩ := named (lengthOf l p half)
  rw [HR.out] at HST ⊢
  have HUN := Lib.hid h
  have HBD := Lib.hid hb
  obtain ⟨U, hU⟩ := named w0.heap.size
  have HU := Lib.hid hU.out
  rw [hU.out]
  obtain ⟨N, HN⟩ := named l.length
  rw [HN.out] at hl hpl HST
  clear h hb hU
  go_enter Try.func26, Try.ntmps26
  go_wp2
  go_loopw [5, 6] (fun n more wr => ∃ (q m f : Nat) (b : Bool), n = .int .i64 m ∧ more = .bool b ∧ q ≤ N ∧ m ≤ 15 + 255 * q ∧ N + 1 ≤ q + f ∧ Hid (Un w0 l most q out wr) ∧ Hid (goesOn l f q m b = R)) (fun n more _ => 2 * (25600000 - (intOf n).toNat) + flagOf more)
  case atStart => exact ⟨p, half, N + 1 - p, b0, rfl, rfl, hpl, by omega, by omega, HUN.out, HST.out⟩
  case round =>
    obtain ⟨q, m, f, b, rfl, rfl, hq, hmq, hf, HUq, HG⟩ := hrel
    clear HUN HST hb0
    obtain ⟨ar, nr, cr, ao, no, co, h1, h2, h3, h4, h5, h6, h7, h8⟩ := HUq.out
    rw [HU.out] at h1
    have cp := h1.cp
    have c0 := h1.c0
    have f0 := h1.free 0
    have HB := Lib.hid h8
    have HNR : Hid (nr = N - q) := by rw [Hid, ← h2.1, List.length_drop, HN.out]
    cases b with
    | false =>
      have HE : Hid (R = (m, q, true)) := HG.out.symm
      clear h1 h2 h3 h4 h5 h6 h8
      go_wp2
      go_ret2
      rw [HE.out]
      exact ⟨rfl, HB.out, fun _ => HUq.out⟩
    | true =>
      by_cases hz : nr = 0
      · have HE : Hid (R = (0, 0, false)) := by
          rw [Hid, ← HG.out]
          exact addTo_end l f q m (by have := HNR.out; have := HN.out; omega)
        clear h1 h2 h3 h4 h5 h6 h8
        go_wp2
        go_ret2
        rw [HE.out]
        exact ⟨rfl, HB.out, fun e => by cases e⟩
      · have hql : q < N := by have := HNR.out; omega
        have hnz : ((nr : Int) == 0) = false := by simp; omega
        obtain ⟨f', hf'⟩ : ∃ f', f = f' + 1 := ⟨f - 1, by omega⟩
        subst hf'
        obtain ⟨bb, off, rfl⟩ := h2.lies (by omega)
        have d0 := (h2.old h8).cellAt 0 (by omega)
        have b0 := h2.small.at (k := 0) (by rw [h2.1]; omega)
        rw [drop_at, Nat.add_zero] at d0 b0
        rw [Nat.add_zero] at d0
        obtain ⟨c, HC⟩ := named (l.getD q 0)
        rw [HC.out] at d0 b0
        obtain ⟨b00, b01⟩ := b0
        obtain ⟨a2, c2, S2, B2, N2, C2⟩ := slice_back h2 h3 h4 1 (by omega)
        have S3 : ∀ w' : World, (Instr.slice 22 (.slice (some ⟨bb, off, none⟩) nr cr) (some (.int .i64 1)) none none).run Try.prog w' = .ok (.slice a2 (nr - 1) c2) w' := S2
        have HE : Hid (∀ W : World, Rec W U (.slice (some ⟨bb, off, none⟩) nr cr) (.slice ao no co) most → Own W (w0.heap.size + 2) (.slice ao no co) no out → Below w0.heap.size w0 W → Un w0 l most (q + 1) out (W.setCell ⟨U, 0, none⟩ (.slice a2 (nr - 1) c2))) := fun W g1 g2 g3 => by
          refine ⟨a2, nr - 1, c2, ao, no, co, ?_, ?_, C2, N2, by rw [HN.out]; exact hql, ?_, h7, ?_⟩
          · rw [HU.out]; exact g1.set0 _
          · rw [List.drop_drop] at B2; exact B2
          · exact own_set g2 (by have := HU.out; show U < w0.heap.size + 2; omega) _
          · exact g3.setCell (by have := HU.out; show w0.heap.size ≤ U; omega) _
        have HR1 := Lib.hid h1
        have HO1 := Lib.hid h6
        have hpos : (0 : Int) < (nr : Int) := by omega
        clear h1 h2 h3 h4 h5 h6 h8 S2 B2 N2 C2
        by_cases h255 : c = 255
        · have HG2 : Hid (goesOn l f' (q + 1) (m + 255) true = R) := by
            rw [Hid, ← HG.out]
            exact (addTo_on l f' q m (by rw [HN.out]; exact hql) (by rw [HC.out]; exact h255)).symm
          subst h255
          go_wp2
          go_region
          all_goals
            go_wp2
            go_roundw
            case rel => exact ⟨q + 1, m + 255, f', true, by go_num, rfl, hql, by omega, by omega, HE.out _ HR1.out.drew HO1.out.drew HB.out.drew, HG2.out⟩
            case measure => simp [intOf, flagOf]; omega
        · have HG2 : Hid (goesOn l f' (q + 1) (m + c.toNat) false = R) := by
            rw [Hid, ← HG.out]
            have := addTo_stop l f' q m (by rw [HN.out]; exact hql) (by rw [HC.out]; exact h255)
            rw [HC.out] at this
            exact this.symm
          obtain ⟨d, rfl⟩ : ∃ d : Nat, c = (d : Int) := ⟨c.toNat, by omega⟩
          rw [Int.toNat_natCast] at HG2
          have hd : ((d : Int) == 255) = false := by simp; omega
          go_wp2
          go_region
          all_goals
            go_wp2
            go_roundw
            case rel => exact ⟨q + 1, m + d, f', false, by go_num, rfl, hql, by omega, by omega, HE.out _ HR1.out.drew HO1.out.drew HB.out.drew, HG2.out⟩
            case measure => simp [intOf, flagOf]; omega
end Go.Proofs.Ytlkpedknhjgdiaa
