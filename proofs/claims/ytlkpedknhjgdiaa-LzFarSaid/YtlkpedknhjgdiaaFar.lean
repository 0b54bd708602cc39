/-
  Proved: 'matryoshkalaw3.LzFar' returns true for every input, and each argument reads afterwards as before: the statement LzFarSaid as given. Conditions: none beyond the row's own.
-/
import Derived.Test.YtlkpedknhjgdiaaRows
import Derived.Test.YtlkpedknhjgdiaaV3
import Derived.Test.YtlkpedknhjgdiaaR3
import Derived.WalkKit
import Derived.ProofKit
import Derived.OpenShut
import Derived.ShutString
import Derived.ChangeOld
import Derived.Below
namespace Go.Proofs.Ytlkpedknhjgdiaa.lzFar
open Go.ChangeShapes Go.WideShapes Go.ChangeAt Go.RowKit
open Go.ChangeMaps (open_string shut_string)
set_option linter.unusedVariables false

theorem own : ownKnob Try.prog.godebug = none := by kernel_rfl
theorem laidOut : laidOutB Try.prog = true := by kernel_rfl

/-- A slice of integers that came in: nil, or a row of cells. -/
def IsRow (k : IntKind) (w : World) (a : Option Addr) (len cap : Nat) (zs : List Int) : Prop :=
  (a = none ∧ len = 0 ∧ cap = 0 ∧ zs = []) ∨
  ∃ x, a = some x ∧ len ≤ cap ∧ cap ≤ maxLen ∧ zs.length = cap ∧ (∀ i, i < zs.length → w.cell? (x.add i) = some (.int k (zs.getD i 0))) ∧ ∀ n ∈ zs, (Lit.int k n).wf = true

theorem seqL_len (l : List Int) (far m : Nat) : (seqL l far m).length ≤ 2 * l.length + m + 10 := by
  have h1 := addedL_len l.length
  have h2 := addedL_len m
  unfold seqL
  simp only [List.length_append, List.length_cons, List.length_nil]
  omega
theorem far_unpack (a : Option Addr) (n c far : Nat) (l rest : List Int) (w : World) (hB : Bytes w a n (seqL l far 0 ++ rest)) (hc : n ≤ c) (hnil : a = none → c = 0) (hn : n ≤ 100000) (hl : l.length ≤ 1000) (hfar : far < 65536) (h : far = 0 ∨ l.length < far) :
    Calls Try.prog 12 #[.slice a n c, .int .i64 1048576] w (PutPost w [] 3) := by
  have := lzUnpack_any a n c 1048576 _ w hB hc hnil hn
  rw [unpack_far l rest far (by omega) hfar h] at this
  exact this

set_option maxHeartbeats 1600000 in
theorem walk (a0 : Option Addr) (len0 cap0 : Nat) (z0 : List Int) (a1 : Int) (a2 : Option Addr) (len2 cap2 : Nat) (z2 : List Int) (w : World) (w0 : IsRow .u8 w a0 len0 cap0 z0) (w1 : (Lit.int .u16 a1).wf = true) (w2 : IsRow .u8 w a2 len2 cap2 z2) :
    Calls Try.prog 9 #[.slice a0 len0 cap0, .int .u16 a1, .slice a2 len2 cap2] w fun e w' => e = .returned (.bool true) ∧ Below w.heap.size w w' := by
  by_cases hbig : 1000 < len0
  · clear w0 w1 w2
    go_enter Try.func9, Try.ntmps9
    go_wp2_with (go_at_call 11; refine (awake_any _).mono ?_; rintro e w1 ⟨rfl, hb⟩; have HB := Lib.hid hb; clear hb)
    go_ret
    exact ⟨rfl, HB.out⟩
  by_cases hbig2 : 1000 < len2
  · clear w0 w1 w2
    go_enter Try.func9, Try.ntmps9
    go_wp2_with (go_at_call 11; refine (awake_any _).mono ?_; rintro e w1 ⟨rfl, hb⟩; have HB := Lib.hid hb; clear hb)
    go_ret
    exact ⟨rfl, HB.out⟩
  · have hB0 := bytes_of w0 (by omega)
    have hB2 := bytes_of w2 (by omega)
    have hn0 : Hid (a0 = none → cap0 = 0) := by rcases w0 with ⟨_, _, h, _⟩ | ⟨x, h, _⟩ <;> intro e <;> simp_all
    have hn2 : Hid (a2 = none → cap2 = 0) := by rcases w2 with ⟨_, _, h, _⟩ | ⟨x, h, _⟩ <;> intro e <;> simp_all
    generalize z0.take len0 = l0 at hB0
    generalize z2.take len2 = l2 at hB2
    have h16 := bounds_u16 w1
    obtain ⟨F, hF, hF1, hF2⟩ : ∃ F : Nat, (len0 : Int) + 1 + a1 % 60000 = (F : Int) ∧ len0 < F ∧ F < 65536 := ⟨((len0 : Int) + 1 + a1 % 60000).toNat, by omega, by omega, by omega⟩
    have S1 : ∀ w', Bytes w' a0 len0 l0 → Calls Try.prog 16 #[.slice none 0 0, .slice a0 len0 cap0, .int .i64 0, .int .i64 4] w' (OwnPost w'.heap.size w' (seqL l0 0 0)) := fun w' h => seq_any a0 len0 cap0 0 0 l0 w' h hn0.out (by omega) (by omega) (by omega)
    have S2 : ∀ w', Bytes w' a0 len0 l0 → Calls Try.prog 16 #[.slice none 0 0, .slice a0 len0 cap0, .int .i64 F, .int .i64 4] w' (OwnPost w'.heap.size w' (seqL l0 F 0)) := fun w' h => seq_any a0 len0 cap0 F 0 l0 w' h hn0.out (by omega) hF2 (by omega)
    have S1 := Lib.hid S1
    have S2 := Lib.hid S2
    have HB0 := Lib.hid hB0
    have HB2 := Lib.hid hB2
    have HL0 := Lib.hid hB0.1
    have k1 := seqL_len l0 0 0
    have k2 := seqL_len l0 F 0
    rw [hB0.1] at k1 k2
    have K1 := Lib.hid k1
    have K2 := Lib.hid k2
    clear hB0 hB2 w0 w1 w2 k1 k2
    go_enter Try.func9, Try.ntmps9
    go_wp2_with (first
      | (go_at_call 14; go_in)
      | (go_at_call 16; ((with_reducible refine (S1.out _ HB0.out).mono ?_); rintro e w1 ⟨b1, n1, c1, hl1, rfl, hO1, hb1⟩; have hm1 : n1 ≤ 3000 := by { have := K1.out; omega }; have HO1 := Lib.hid hO1; have HG1 := Lib.hid hb1; clear hl1 hO1 hb1))
      | (at_builtin; refine append_more rfl (.tmp 22) (.tmp 23) rfl w.heap.size _ n1 _ rfl HO1.out a2 len2 cap2 l2 rfl hn2.out (HB2.out.later HG1.out) (by omega) HG1.out.size ?_; intro b2 c2 w2 g1 g2; have HU2 := Lib.hid (far_unpack b2 _ c2 0 l0 l2 w2 g1.bytes.1 g1.capOk g1.bytes.2 (by omega) (by rw [HL0.out]; omega) (by omega) (Or.inl rfl)); have HG2 := Lib.hid (HG1.out.trans g2); clear g1 g2)
      | (go_at_call 12; ((with_reducible refine HU2.out.mono ?_); rintro e w3 hp; obtain ⟨b3, c3, rfl, _, _, hb⟩ := hp.named (n := 0) rfl; have HG3 := Lib.hid (HG2.out.trans (hb.mono HG2.out.size)); clear hp hb))
      | (go_at_call 16; ((with_reducible refine (S2.out _ (HB0.out.later HG3.out)).mono ?_); rintro e w4 ⟨b4, n4, c4, hl4, rfl, hO4, hb4⟩; have hm4 : n4 ≤ 3000 := by { have := K2.out; omega }; have HO4 := Lib.hid hO4; have HW4 := Lib.hid hb4.size; have HG4 := Lib.hid (HG3.out.trans (hb4.mono HG3.out.size)); clear hl4 hO4 hb4))
      | (at_builtin; refine append_more rfl (.tmp 37) (.tmp 38) rfl w3.heap.size _ n4 _ rfl HO4.out a2 len2 cap2 l2 rfl hn2.out (HB2.out.later HG4.out) (by omega) HW4.out ?_; intro b5 c5 w5 g1 g2; have HU5 := Lib.hid (far_unpack b5 _ c5 F l0 l2 w5 g1.bytes.1 g1.capOk g1.bytes.2 (by omega) (by rw [HL0.out]; omega) hF2 (Or.inr (by rw [HL0.out]; exact hF1))); have HG5 := Lib.hid (HG4.out.trans (g2.mono HG3.out.size)); clear g1 g2)
      | (go_at_call 12; ((with_reducible refine HU5.out.mono ?_); rintro e w6 hp; obtain ⟨b6, c6, rfl, _, _, hb⟩ := hp.named (n := 0) rfl; have HG6 := Lib.hid (HG5.out.trans (hb.mono HG5.out.size)); clear hp hb))
      | (go_at_call 11; refine (awake_any _).mono ?_; rintro e w7 ⟨rfl, hb⟩; have HZ := Lib.hid (HG6.out.trans (hb.mono HG6.out.size)); clear hb))
    go_ret
    exact ⟨rfl, HZ.out⟩

set_option maxRecDepth 100000 in
theorem lifted (os : Os) (started : os.Started) (H : Type) (enc : TypeId × Value → H) :
    ReturnsInHanded {} Try.checked os 9 .any (Rows.lzFarSpec.pre6 enc Try.prog Try.f9 Rows.lzFarRow.domain false) (Rows.lzFarSpec.post enc Try.prog Try.f9 false true false false) := by
  refine returnsInHanded_of_change (C := Try.checked) own started (by kernel_rfl) Try.func9
    (ChangeSpec.witness6 (enc := enc) (C := Try.checked) false ⟨#[], #[.slice none 0 0, .int .u16 0, .slice none 0 0], []⟩ 8 (by kernel_rfl) (by kernel_rfl) (by kernel_rfl) (by kernel_rfl)) ?_
  intro W base args ds gs before hval0 hW hcnd _
  have hval : ∀ (j : Nat) t v, Try.f9.params[j]? = some t → args[j]? = some v → Value.okWide Try.prog W .any base t v := hval0
  have hW' := hW
  obtain ⟨p, q, hA0, hV, rfl, hfz, hnd⟩ := hW
  have hA : DataW.TrodAll enc Try.prog W 0 (fun _ => true) true Try.f9.params.toList args.toList ds p := hA0
  rw [Try.params9] at hA hval
  obtain ⟨v0, vs0, d0, ds0, p0, q0, hargs, rfl, rfl, h0, r0⟩ := trodAll_cons hA
  obtain ⟨v1, vs1, d1, ds1, p1, q1, rfl, rfl, rfl, h1, r1⟩ := trodAll_cons r0
  obtain ⟨v2, vs2, d2, ds2, p2, q2, rfl, rfl, rfl, h2, r2⟩ := trodAll_cons r1
  obtain ⟨rfl, rfl, rfl⟩ := trodAll_nil r2
  obtain rfl : args = #[v0, v1, v2] := by cases args; simp_all
  obtain ⟨rfl, rfl⟩ := trodVars_none hV
  obtain ⟨a0, len0, cap0, rfl⟩ := okWide_slice Try.underlying22 (hval 0 22 v0 rfl rfl)
  have k0 := h0
  have lt0 : ∀ x ∈ p0, x.block < W.heap.size := by obtain ⟨m, hm⟩ := k0; exact DataW.trod_lt m _ _ _ hm
  obtain ⟨z0, w0⟩ : ∃ zs, IsRow .u8 W a0 len0 cap0 zs := by
    obtain ⟨fuel, hf⟩ := h0
    rcases open_ints Try.underlying22 Try.underlying5 (by kernel_rfl) hf with ⟨hcs, _⟩ | ⟨x, l, c, zs, hcs, _, hl, hm, hz, _, hcell, hwz⟩
    · simp [Value.cells] at hcs
      obtain ⟨rfl, rfl, rfl⟩ := hcs
      exact ⟨[], .inl ⟨rfl, rfl, rfl, rfl⟩⟩
    · simp [Value.cells] at hcs
      obtain ⟨rfl, rfl, rfl⟩ := hcs
      exact ⟨zs, .inr ⟨_, rfl, hl, hm, by simpa using hz, hcell, hwz⟩⟩
  obtain ⟨a1, rfl, rfl, rfl, w1⟩ := open_int Try.underlying33 (hval 1 33 v1 rfl rfl) h1
  obtain ⟨a2, len2, cap2, rfl⟩ := okWide_slice Try.underlying22 (hval 2 22 v2 rfl rfl)
  have k2 := h2
  have lt2 : ∀ x ∈ p2, x.block < W.heap.size := by obtain ⟨m, hm⟩ := k2; exact DataW.trod_lt m _ _ _ hm
  obtain ⟨z2, w2⟩ : ∃ zs, IsRow .u8 W a2 len2 cap2 zs := by
    obtain ⟨fuel, hf⟩ := h2
    rcases open_ints Try.underlying22 Try.underlying5 (by kernel_rfl) hf with ⟨hcs, _⟩ | ⟨x, l, c, zs, hcs, _, hl, hm, hz, _, hcell, hwz⟩
    · simp [Value.cells] at hcs
      obtain ⟨rfl, rfl, rfl⟩ := hcs
      exact ⟨[], .inl ⟨rfl, rfl, rfl, rfl⟩⟩
    · simp [Value.cells] at hcs
      obtain ⟨rfl, rfl, rfl⟩ := hcs
      exact ⟨zs, .inr ⟨_, rfl, hl, hm, by simpa using hz, hcell, hwz⟩⟩
  clear hA0 hval0
  refine (walk a0 len0 cap0 z0 a1 a2 len2 cap2 z2 W w0 w1 w2).mono fun e W' ⟨he, bel⟩ => ?_
  subst he
  exact ⟨_, rfl, _, _, _, [], _, [], hW', trodAll_mk1 (shut_bool Try.underlying4 _), (trodAll_cons_mk (Below.trod laidOut (by kernel_rfl) (of_decide_eq_true (by kernel_rfl)) k0 bel lt0) (trodAll_cons_mk (shut_int Try.underlying33 w1) (trodAll_cons_mk (Below.trod laidOut (by kernel_rfl) (of_decide_eq_true (by kernel_rfl)) k2 bel lt2) trodAll_mk0))), rfl, bel.frame _, fun h => by cases h⟩

theorem over : Rows.lzFarRow.holds Try.pinned (OpenSpec.ofChange Rows.lzFarSpec) :=
  OpenClaim.holds_of_wide 9 Try.f9 rfl rfl rfl rfl rfl rfl rfl ⟨rfl, rfl, rfl, rfl, rfl⟩ rfl rfl rfl rfl rfl (by kernel_rfl) Try.func9 (by kernel_rfl)
    (of_decide_eq_true (by kernel_rfl)) (by unfold Func.isWrapper; first | (rw [if_pos (by decide +kernel)]; kernel_rfl) | (rw [if_neg (by decide +kernel)]; exact ⟨rfl, rfl⟩))
    (fun os started H enc _ => lifted os started H enc)

/-- The statement. -/
theorem proved : Rows.LzFarSaid := over
#print axioms proved
end Go.Proofs.Ytlkpedknhjgdiaa.lzFar
