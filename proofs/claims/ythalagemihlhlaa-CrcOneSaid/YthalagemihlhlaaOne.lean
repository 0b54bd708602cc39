/-
  Proved: 'matryoshkalaw1.CrcOne' returns true for every input, and each argument reads afterwards as before: the statement CrcOneSaid as given. Conditions: none beyond the row's own.
-/
import Derived.Test.YthalagemihlhlaaRows
import Derived.Test.YthalagemihlhlaaL
import Derived.WalkKit
import Derived.ProofKit
import Derived.OpenShut
import Derived.ShutString
import Derived.ChangeOld
import Derived.Below
namespace Go.Proofs.Ythalagemihlhlaa.crcOne
open Go.ChangeShapes Go.WideShapes Go.ChangeAt Go.RowKit
open Go.ChangeMaps (open_string shut_string)
set_option linter.unusedVariables false

theorem own : ownKnob Try.prog.godebug = none := by kernel_rfl
theorem laidOut : laidOutB Try.prog = true := by kernel_rfl

/-- A slice of integers that came in: nil, or a row of cells. -/
def IsRow (k : IntKind) (w : World) (a : Option Addr) (len cap : Nat) (zs : List Int) : Prop :=
  (a = none ∧ len = 0 ∧ cap = 0 ∧ zs = []) ∨
  ∃ x, a = some x ∧ len ≤ cap ∧ cap ≤ maxLen ∧ zs.length = cap ∧ (∀ i, i < zs.length → w.cell? (x.add i) = some (.int k (zs.getD i 0))) ∧ ∀ n ∈ zs, (Lit.int k n).wf = true

theorem walk (a0 : Option Addr) (len0 cap0 : Nat) (z0 : List Int) (a1 : Int) (a2 : Int) (w : World) (w0 : IsRow .u8 w a0 len0 cap0 z0) (w1 : (Lit.int .i64 a1).wf = true) (w2 : (Lit.int .u8 a2).wf = true) :
    Calls Try.prog 7 #[.slice a0 len0 cap0, .int .i64 a1, .int .u8 a2] w fun e w' => e = .returned (.bool true) ∧ Below w.heap.size w w' := by
  by_cases h0 : len0 = 0
  · subst h0
    clear w0 w1 w2
    go_enter Try.func7, Try.ntmps7
    go_wp2_with (go_at_call 10; refine (awake_any _).mono ?_; rintro e w1 ⟨rfl, hb⟩; have HB := Lib.hid hb; clear hb)
    go_ret
    exact ⟨rfl, HB.out⟩
  have hne : ((len0 : Int) == 0) = false := by simp; omega
  by_cases hbig : 20000 < len0
  · clear w0 w1 w2
    go_enter Try.func7, Try.ntmps7
    go_wp2_with (go_at_call 10; refine (awake_any _).mono ?_; rintro e w1 ⟨rfl, hb⟩; have HB := Lib.hid hb; clear hb)
    go_ret
    exact ⟨rfl, HB.out⟩
  · have hB0 := bytes_of w0 (by omega)
    have hn0 : Hid (a0 = none → cap0 = 0) := by rcases w0 with ⟨_, _, h, _⟩ | ⟨x, h, _⟩ <;> intro e <;> simp_all
    obtain ⟨l0, HL0⟩ : ∃ l, Hid (z0.take len0 = l) := ⟨_, rfl⟩
    rw [HL0.out] at hB0
    have HB0 := Lib.hid hB0
    have hb1 := bounds_i64 w1
    have hb2 := bounds_u8 w2
    obtain ⟨K, hK, hKlt⟩ : ∃ K : Nat, wrap64 ((IntKind.u64.wrap a1).tmod (len0 : Int)) = (K : Int) ∧ K < len0 := place_of a1 len0 (by omega) (by omega)
    obtain ⟨E, hE, hE0, hE1⟩ : ∃ E : Int, 1 + a2 % 255 = E ∧ 0 < E ∧ E < 256 := ⟨_, rfl, by omega, by omega⟩
    have hbl : Hid (0 ≤ l0.getD K 0 ∧ l0.getD K 0 < 256) := hB0.small.at (by rw [hB0.1]; exact hKlt)
    have HNE : Hid (fingerOf (l0.set K (over (l0.getD K 0) E)) ≠ fingerOf l0) := turned_finger l0 K E (by rw [hB0.1]; exact hKlt) hB0.small.lt hE0 hE1
    obtain ⟨b, Hb⟩ : ∃ b, Hid (l0.getD K 0 = b) := ⟨_, rfl⟩
    rw [Hb.out] at hbl HNE
    have hb0 := hbl.out.1
    have hb3 := hbl.out.2
    obtain ⟨F1, HF1⟩ : ∃ F, Hid (fingerOf (l0.set K (over b E)) = F) := ⟨_, rfl⟩
    obtain ⟨F2, HF2⟩ : ∃ F, Hid (fingerOf l0 = F) := ⟨_, rfl⟩
    rw [HF1.out, HF2.out] at HNE
    have hne1 : ((F1 : Int) == (F2 : Int)) = false := by have := HNE.out; simp; omega
    have hne2 : ((F1 : Int) != (F2 : Int)) = true := by have := HNE.out; simp; omega
    clear hB0 w0 w1 w2 HNE
    go_enter Try.func7, Try.ntmps7
    go_wp2_with (first | (at_builtin; refine append_copy rfl (.tmp 18) (.tmp 19) rfl w.heap.size rfl a0 len0 cap0 l0 rfl hn0.out HB0.out (by omega) (Nat.le_refl _) ?_; intro a7 c7 w7 h1 h2; obtain ⟨g, rfl, hg, hgs⟩ := h1.lies (by omega); have hcell := (h1.cell K hKlt).trans (by rw [Hb.out]); have hfree := h1.free K; have HS : Hid (Bytes (w7.setCell ⟨g, K, none⟩ (.int .u8 (bits .xor .u8 b E))) (some ⟨g, 0, none⟩) len0 (l0.set K (over b E))) := by { rw [u8_over b E hbl.out ⟨by omega, hE1⟩]; exact (h1.put K _ (over_lt hb3 hE1)).bytes.1 }; have HG7 : Hid (Below w.heap.size w (w7.setCell ⟨g, K, none⟩ (.int .u8 (bits .xor .u8 b E)))) := Below.setCell h2 hg _; clear h1 h2) | (go_at_call 15; ((with_reducible refine (finger_any _ _ _ _ _ HS.out).mono ?_); rw [HF1.out]; rintro e w' ⟨rfl, rfl⟩)) | (go_at_call 15; ((with_reducible refine (finger_any _ _ _ _ _ (HB0.out.later HG7.out)).mono ?_); rw [HF2.out]; rintro e w' ⟨rfl, rfl⟩)) | (go_at_call 10; refine (awake_any _).mono ?_; rintro e w' ⟨rfl, hb⟩; have HZ := Lib.hid (HG7.out.trans (hb.mono HG7.out.size)); clear hb))
    go_ret
    exact ⟨rfl, HZ.out⟩

set_option maxRecDepth 100000 in
theorem lifted (os : Os) (started : os.Started) (H : Type) (enc : TypeId × Value → H) :
    ReturnsInHanded {} Try.checked os 7 .any (Rows.crcOneSpec.pre6 enc Try.prog Try.f7 Rows.crcOneRow.domain false) (Rows.crcOneSpec.post enc Try.prog Try.f7 false true false false) := by
  refine returnsInHanded_of_change (C := Try.checked) own started (by kernel_rfl) Try.func7
    (ChangeSpec.witness6 (enc := enc) (C := Try.checked) false ⟨#[], #[.slice none 0 0, .int .i64 0, .int .u8 0], []⟩ 8 (by kernel_rfl) (by kernel_rfl) (by kernel_rfl) (by kernel_rfl)) ?_
  intro W base args ds gs before hval0 hW hcnd _
  have hval : ∀ (j : Nat) t v, Try.f7.params[j]? = some t → args[j]? = some v → Value.okWide Try.prog W .any base t v := hval0
  have hW' := hW
  obtain ⟨p, q, hA0, hV, rfl, hfz, hnd⟩ := hW
  have hA : DataW.TrodAll enc Try.prog W 0 (fun _ => true) true Try.f7.params.toList args.toList ds p := hA0
  rw [Try.params7] at hA hval
  obtain ⟨v0, vs0, d0, ds0, p0, q0, hargs, rfl, rfl, h0, r0⟩ := trodAll_cons hA
  obtain ⟨v1, vs1, d1, ds1, p1, q1, rfl, rfl, rfl, h1, r1⟩ := trodAll_cons r0
  obtain ⟨v2, vs2, d2, ds2, p2, q2, rfl, rfl, rfl, h2, r2⟩ := trodAll_cons r1
  obtain ⟨rfl, rfl, rfl⟩ := trodAll_nil r2
  obtain rfl : args = #[v0, v1, v2] := by cases args; simp_all
  obtain ⟨rfl, rfl⟩ := trodVars_none hV
  obtain ⟨a0, len0, cap0, rfl⟩ := okWide_slice Try.underlying22 (hval 0 22 v0 rfl rfl)
  have k0 := h0
  have lt0 : ∀ x ∈ p0, x.block < W.heap.size := by obtain ⟨m, hm⟩ := k0; exact DataW.trod_lt m _ _ _ hm
  obtain ⟨z0, w0⟩ : ∃ zs, IsRow .u8 W a0 len0 cap0 zs := by
    obtain ⟨fuel, hf⟩ := h0
    rcases open_ints Try.underlying22 Try.underlying5 (by kernel_rfl) hf with ⟨hcs, _⟩ | ⟨x, l, c, zs, hcs, _, hl, hm, hz, _, hcell, hwz⟩
    · simp [Value.cells] at hcs
      obtain ⟨rfl, rfl, rfl⟩ := hcs
      exact ⟨[], .inl ⟨rfl, rfl, rfl, rfl⟩⟩
    · simp [Value.cells] at hcs
      obtain ⟨rfl, rfl, rfl⟩ := hcs
      exact ⟨zs, .inr ⟨_, rfl, hl, hm, by simpa using hz, hcell, hwz⟩⟩
  obtain ⟨a1, rfl, rfl, rfl, w1⟩ := open_int Try.underlying3 (hval 1 3 v1 rfl rfl) h1
  obtain ⟨a2, rfl, rfl, rfl, w2⟩ := open_int Try.underlying5 (hval 2 5 v2 rfl rfl) h2
  clear hA0 hval0
  refine (walk a0 len0 cap0 z0 a1 a2 W w0 w1 w2).mono fun e W' ⟨he, bel⟩ => ?_
  subst he
  exact ⟨_, rfl, _, _, _, [], _, [], hW', trodAll_mk1 (shut_bool Try.underlying4 _), (trodAll_cons_mk (Below.trod laidOut (by kernel_rfl) (of_decide_eq_true (by kernel_rfl)) k0 bel lt0) (trodAll_cons_mk (shut_int Try.underlying3 w1) (trodAll_cons_mk (shut_int Try.underlying5 w2) trodAll_mk0))), rfl, bel.frame _, fun h => by cases h⟩

theorem over : Rows.crcOneRow.holds Try.pinned (OpenSpec.ofChange Rows.crcOneSpec) :=
  OpenClaim.holds_of_wide 7 Try.f7 rfl rfl rfl rfl rfl rfl rfl ⟨rfl, rfl, rfl, rfl, rfl⟩ rfl rfl rfl rfl rfl (by kernel_rfl) Try.func7 (by kernel_rfl)
    (of_decide_eq_true (by kernel_rfl)) (by unfold Func.isWrapper; first | (rw [if_pos (by decide +kernel)]; kernel_rfl) | (rw [if_neg (by decide +kernel)]; exact ⟨rfl, rfl⟩))
    (fun os started H enc _ => lifted os started H enc)

/-- The statement. -/
theorem proved : Rows.CrcOneSaid := over
#print axioms proved
end Go.Proofs.Ythalagemihlhlaa.crcOne
