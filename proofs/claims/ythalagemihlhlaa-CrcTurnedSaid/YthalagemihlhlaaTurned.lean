/-
  Proved: 'matryoshkalaw1.CrcTurned' returns true for every input, and each argument reads afterwards as before: the statement CrcTurnedSaid as given. Conditions: none beyond the row's own.
-/
import Derived.Test.YthalagemihlhlaaRows
import Derived.Test.YthalagemihlhlaaL
import Derived.WalkKit
import Derived.ProofKit
import Derived.OpenShut
import Derived.ShutString
import Derived.ChangeOld
import Derived.Below
namespace Go.Proofs.Ythalagemihlhlaa.crcTurned
open Go.ChangeShapes Go.WideShapes Go.ChangeAt Go.RowKit
open Go.ChangeMaps (open_string shut_string)
set_option linter.unusedVariables false

theorem own : ownKnob Try.prog.godebug = none := by kernel_rfl
theorem laidOut : laidOutB Try.prog = true := by kernel_rfl

/-- A slice of integers that came in: nil, or a row of cells. -/
def IsRow (k : IntKind) (w : World) (a : Option Addr) (len cap : Nat) (zs : List Int) : Prop :=
  (a = none ∧ len = 0 ∧ cap = 0 ∧ zs = []) ∨
  ∃ x, a = some x ∧ len ≤ cap ∧ cap ≤ maxLen ∧ zs.length = cap ∧ (∀ i, i < zs.length → w.cell? (x.add i) = some (.int k (zs.getD i 0))) ∧ ∀ n ∈ zs, (Lit.int k n).wf = true

theorem byteOf_int (B k : Nat) : ((B : Int) / 2 ^ (8 * k) % 256) = byteOf B k := by
  unfold byteOf
  rw [Int.natCast_emod, Int.natCast_ediv, Int.natCast_pow]
  rfl

theorem walk (a0 : Option Addr) (len0 cap0 : Nat) (z0 : List Int) (a1 : Int) (a2 : Int) (w : World) (w0 : IsRow .u8 w a0 len0 cap0 z0) (w1 : (Lit.int .i64 a1).wf = true) (w2 : (Lit.int .u32 a2).wf = true) :
    Calls Try.prog 6 #[.slice a0 len0 cap0, .int .i64 a1, .int .u32 a2] w fun e w' => e = .returned (.bool true) ∧ Below w.heap.size w w' := by
  obtain ⟨B, rfl, hB⟩ := word_of_wf w2
  by_cases h4 : len0 < 4
  · clear w0 w1 w2
    go_enter Try.func6, Try.ntmps6
    go_wp2_with (go_at_call 10; refine (awake_any _).mono ?_; rintro e w1 ⟨rfl, hb⟩; have HB := Lib.hid hb; clear hb)
    go_ret
    exact ⟨rfl, HB.out⟩
  by_cases hbig : 20000 < len0
  · clear w0 w1 w2
    go_enter Try.func6, Try.ntmps6
    go_wp2_with (go_at_call 10; refine (awake_any _).mono ?_; rintro e w1 ⟨rfl, hb⟩; have HB := Lib.hid hb; clear hb)
    go_ret
    exact ⟨rfl, HB.out⟩
  by_cases hz : B = 0
  · subst hz
    clear w0 w1 w2
    go_enter Try.func6, Try.ntmps6
    go_wp2_with (go_at_call 10; refine (awake_any _).mono ?_; rintro e w1 ⟨rfl, hb⟩; have HB := Lib.hid hb; clear hb)
    go_ret
    exact ⟨rfl, HB.out⟩
  · have hne : ((B : Int) == 0) = false := by simp; omega
    have hB0 := bytes_of w0 (by omega)
    have hn0 : Hid (a0 = none → cap0 = 0) := by rcases w0 with ⟨_, _, h, _⟩ | ⟨x, h, _⟩ <;> intro e <;> simp_all
    obtain ⟨l0, HL0⟩ : ∃ l, Hid (z0.take len0 = l) := ⟨_, rfl⟩
    rw [HL0.out] at hB0
    have HB0 := Lib.hid hB0
    have hb1 := bounds_i64 w1
    obtain ⟨K, hK, hKlt⟩ : ∃ K : Nat, wrap64 ((IntKind.u64.wrap a1).tmod ((len0 : Int) - 3)) = (K : Int) ∧ K + 4 ≤ len0 := by
      obtain ⟨K, h, hlt⟩ := place_of a1 (len0 - 3) (by omega) (by omega)
      rw [show ((len0 - 3 : Nat) : Int) = (len0 : Int) - 3 by omega] at h
      exact ⟨K, h, by omega⟩
    have HNE : Hid (moreOf 0 (turnTo l0 K B 4) ≠ moreOf 0 l0) := turned_sum l0 K B (by rw [hB0.1]; exact hKlt) hB0.small.lt hB hz
    have HTB : Hid (∀ i, i ≤ 4 → ∀ c ∈ turnTo l0 K B i, 0 ≤ c ∧ c < 256) := fun i hi => turnTo_bd hB0.small.2 i (by rw [hB0.1]; omega)
    have HTL : Hid (∀ i, (turnTo l0 K B i).length = len0) := fun i => by rw [turnTo_len, hB0.1]
    obtain ⟨F1, HF1⟩ : ∃ F, Hid (moreOf 0 (turnTo l0 K B 4) = F) := ⟨_, rfl⟩
    obtain ⟨F2, HF2⟩ : ∃ F, Hid (moreOf 0 l0 = F) := ⟨_, rfl⟩
    rw [HF1.out, HF2.out] at HNE
    have hne1 : ((F1 : Int) == (F2 : Int)) = false := by have := HNE.out; simp; omega
    have hne2 : ((F1 : Int) != (F2 : Int)) = true := by have := HNE.out; simp; omega
    clear hB0 w0 w1 w2 HNE
    go_enter Try.func6, Try.ntmps6
    go_wp2_with (first | (at_builtin; refine append_copy rfl (.tmp 31) (.tmp 32) rfl w.heap.size rfl a0 len0 cap0 l0 rfl hn0.out HB0.out (by omega) (Nat.le_refl _) ?_; intro a7 c7 w7 h1 h2; obtain ⟨g, rfl, hg, hgs⟩ := h1.lies (by omega); have HO7 := Lib.hid h1; have HG7 := Lib.hid h2; clear h1 h2))
    go_loopw [9] (fun i wr => ∃ k : Nat, k ≤ 4 ∧ i = .int .i64 k ∧ Hid (Own wr w.heap.size (.slice (some ⟨g, 0, none⟩) len0 c7) len0 (turnTo l0 K B k)) ∧ Hid (Below w.heap.size w wr)) (fun i _ => 4 - (intOf i).toNat)
    case atStart => exact ⟨0, Nat.zero_le _, rfl, HO7.out, HG7.out⟩
    case round =>
      obtain ⟨k, hk, rfl, HO, HG⟩ := hrel
      by_cases hlt : k < 4
      · obtain ⟨b, hcell, hb0, hb3, HNEXT⟩ : ∃ b : Int, wr.cell? ⟨g, K + k, none⟩ = some (.int .u8 b) ∧ 0 ≤ b ∧ b < 256 ∧ Hid (turnTo l0 K B (k + 1) = (turnTo l0 K B k).set (K + k) (over b (byteOf B k))) := by
          have hl := HTL.out k
          have hm : (turnTo l0 K B k).getD (K + k) 0 ∈ turnTo l0 K B k := by
            rw [List.getD_eq_getElem?_getD, List.getElem?_eq_getElem (by omega)]
            exact List.getElem_mem _
          exact ⟨_, HO.out.cell (K + k) (by omega), (HTB.out k hk _ hm).1, (HTB.out k hk _ hm).2, rfl⟩
        have hfree := HO.out.free (K + k)
        have HE : Hid (bits .xor .u8 b ((B : Int) / 2 ^ (8 * k) % 256) = over b (byteOf B k)) := by
          rw [byteOf_int]
          exact u8_over b _ ⟨hb0, hb3⟩ (byteOf_bd B k)
        have HOV : Hid (0 ≤ over b (byteOf B k) ∧ over b (byteOf B k) < 256) := over_lt hb3 (byteOf_bd B k).2
        go_wp2
        go_roundw
        case rel =>
          refine ⟨k + 1, by omega, by go_num, ?_, Below.setCell HG.out hg _⟩
          rw [HE.out, HNEXT.out]
          exact HO.out.put (K + k) _ HOV.out
        case measure => simp [intOf]; omega
      · obtain rfl : k = 4 := by omega
        have HC := Lib.hid HO.out.bytes.1
        clear HO
        have HB1 := Lib.hid (HB0.out.later HG.out)
        clear HO7 HG7
        go_wp2_with (first | (go_at_call 11; ((with_reducible refine (sum_any _ _ _ _ _ HC.out).mono ?_); rw [HF1.out]; rintro e w1 ⟨rfl, hb⟩; have HB2 := Lib.hid (HB1.out.later hb); have HG1 := Lib.hid (HG.out.trans (hb.mono HG.out.size)); clear hb)) | (go_at_call 11; ((with_reducible refine (sum_any _ _ _ _ _ HB2.out).mono ?_); rw [HF2.out]; rintro e w2 ⟨rfl, hb⟩; have HG2 := Lib.hid (HG1.out.trans (hb.mono HG1.out.size)); clear hb)) | (go_at_call 10; refine (awake_any _).mono ?_; rintro e w3 ⟨rfl, hb⟩; have HZ := Lib.hid (HG2.out.trans (hb.mono HG2.out.size)); clear hb))
        go_ret
        exact ⟨rfl, HZ.out⟩

set_option maxRecDepth 100000 in
theorem lifted (os : Os) (started : os.Started) (H : Type) (enc : TypeId × Value → H) :
    ReturnsInHanded {} Try.checked os 6 .any (Rows.crcTurnedSpec.pre6 enc Try.prog Try.f6 Rows.crcTurnedRow.domain false) (Rows.crcTurnedSpec.post enc Try.prog Try.f6 false true false false) := by
  refine returnsInHanded_of_change (C := Try.checked) own started (by kernel_rfl) Try.func6
    (ChangeSpec.witness6 (enc := enc) (C := Try.checked) false ⟨#[], #[.slice none 0 0, .int .i64 0, .int .u32 0], []⟩ 8 (by kernel_rfl) (by kernel_rfl) (by kernel_rfl) (by kernel_rfl)) ?_
  intro W base args ds gs before hval0 hW hcnd _
  have hval : ∀ (j : Nat) t v, Try.f6.params[j]? = some t → args[j]? = some v → Value.okWide Try.prog W .any base t v := hval0
  have hW' := hW
  obtain ⟨p, q, hA0, hV, rfl, hfz, hnd⟩ := hW
  have hA : DataW.TrodAll enc Try.prog W 0 (fun _ => true) true Try.f6.params.toList args.toList ds p := hA0
  rw [Try.params6] at hA hval
  obtain ⟨v0, vs0, d0, ds0, p0, q0, hargs, rfl, rfl, h0, r0⟩ := trodAll_cons hA
  obtain ⟨v1, vs1, d1, ds1, p1, q1, rfl, rfl, rfl, h1, r1⟩ := trodAll_cons r0
  obtain ⟨v2, vs2, d2, ds2, p2, q2, rfl, rfl, rfl, h2, r2⟩ := trodAll_cons r1
  obtain ⟨rfl, rfl, rfl⟩ := trodAll_nil r2
  obtain rfl : args = #[v0, v1, v2] := by cases args; simp_all
  obtain ⟨rfl, rfl⟩ := trodVars_none hV
  obtain ⟨a0, len0, cap0, rfl⟩ := okWide_slice Try.underlying22 (hval 0 22 v0 rfl rfl)
  have k0 := h0
  have lt0 : ∀ x ∈ p0, x.block < W.heap.size := by obtain ⟨m, hm⟩ := k0; exact DataW.trod_lt m _ _ _ hm
  obtain ⟨z0, w0⟩ : ∃ zs, IsRow .u8 W a0 len0 cap0 zs := by
    obtain ⟨fuel, hf⟩ := h0
    rcases open_ints Try.underlying22 Try.underlying5 (by kernel_rfl) hf with ⟨hcs, _⟩ | ⟨x, l, c, zs, hcs, _, hl, hm, hz, _, hcell, hwz⟩
    · simp [Value.cells] at hcs
      obtain ⟨rfl, rfl, rfl⟩ := hcs
      exact ⟨[], .inl ⟨rfl, rfl, rfl, rfl⟩⟩
    · simp [Value.cells] at hcs
      obtain ⟨rfl, rfl, rfl⟩ := hcs
      exact ⟨zs, .inr ⟨_, rfl, hl, hm, by simpa using hz, hcell, hwz⟩⟩
  obtain ⟨a1, rfl, rfl, rfl, w1⟩ := open_int Try.underlying3 (hval 1 3 v1 rfl rfl) h1
  obtain ⟨a2, rfl, rfl, rfl, w2⟩ := open_int Try.underlying23 (hval 2 23 v2 rfl rfl) h2
  clear hA0 hval0
  refine (walk a0 len0 cap0 z0 a1 a2 W w0 w1 w2).mono fun e W' ⟨he, bel⟩ => ?_
  subst he
  exact ⟨_, rfl, _, _, _, [], _, [], hW', trodAll_mk1 (shut_bool Try.underlying4 _), (trodAll_cons_mk (Below.trod laidOut (by kernel_rfl) (of_decide_eq_true (by kernel_rfl)) k0 bel lt0) (trodAll_cons_mk (shut_int Try.underlying3 w1) (trodAll_cons_mk (shut_int Try.underlying23 w2) trodAll_mk0))), rfl, bel.frame _, fun h => by cases h⟩

theorem over : Rows.crcTurnedRow.holds Try.pinned (OpenSpec.ofChange Rows.crcTurnedSpec) :=
  OpenClaim.holds_of_wide 6 Try.f6 rfl rfl rfl rfl rfl rfl rfl ⟨rfl, rfl, rfl, rfl, rfl⟩ rfl rfl rfl rfl rfl (by kernel_rfl) Try.func6 (by kernel_rfl)
    (of_decide_eq_true (by kernel_rfl)) (by unfold Func.isWrapper; first | (rw [if_pos (by decide +kernel)]; kernel_rfl) | (rw [if_neg (by decide +kernel)]; exact ⟨rfl, rfl⟩))
    (fun os started H enc _ => lifted os started H enc)

/-- The statement. -/
theorem proved : Rows.CrcTurnedSaid := over
#print axioms proved
end Go.Proofs.Ythalagemihlhlaa.crcTurned
