/-
  Proved: 'matryoshkalaw15.CheckBytes' returns true for every input (any entry, any bytes as a file, any cluster), and each argument reads afterwards as before: the statement CheckBytesSaid as given. Conditions: none beyond the row's own.
-/
import Derived.Test.YtlljcdmblmkblaaGreatRows
import Derived.Test.YtlljcdmblmkblaaGreatMe
import Derived.Test.YtlljcdmblmkblaaGreatMd
import Derived.WalkKit
import Derived.ProofKit
import Derived.OpenShut
import Derived.ShutString
import Derived.ChangeOld
import Derived.Below
namespace Go.Proofs.YtlljcdmblmkblaaGreat.checkBytes
open Go.ChangeShapes Go.WideShapes Go.ChangeAt Go.RowKit
open Go.ChangeMaps (open_string shut_string)
set_option linter.unusedVariables false

theorem own : ownKnob Tryz.prog.godebug = none := by kernel_rfl
theorem laidOut : laidOutB Tryz.prog = true := by kernel_rfl

/-- A slice of integers that came in: nil, or a row of cells. -/
def IsRow (k : IntKind) (w : World) (a : Option Addr) (len cap : Nat) (zs : List Int) : Prop :=
  (a = none ∧ len = 0 ∧ cap = 0 ∧ zs = []) ∨
  ∃ x, a = some x ∧ len ≤ cap ∧ cap ≤ maxLen ∧ zs.length = cap ∧ (∀ i, i < zs.length → w.cell? (x.add i) = some (.int k (zs.getD i 0))) ∧ ∀ n ∈ zs, (Lit.int k n).wf = true

set_option maxRecDepth 100000 in
set_option maxHeartbeats 4000000 in
theorem walk (g0 s0 n0 z0 m0 : Int) (a1 : Option Addr) (len1 cap1 : Nat) (z1 : List Int) (a2 : Int) (w : World) (w0 : EnOk (g0, s0, n0, z0, m0)) (w1 : IsRow .u8 w a1 len1 cap1 z1) (w2 : (Lit.int .i64 a2).wf = true) :
    Calls Tryz.prog 3 #[.agg #[.int .i64 g0, .int .i64 s0, .int .i64 n0, .int .i64 z0, .int .u32 m0], .slice a1 len1 cap1, .int .i64 a2] w fun e w' => e = .returned (.bool true) ∧ Below w.heap.size w w' := by
  by_cases hbig : 20000 < len1
  · clear w1 w0
    go_enter Tryz.func3, Tryz.ntmps3
    go_wp2_with (go_at_call 10; (with_reducible refine (awake15 _).mono ?_); rintro e w1 ⟨rfl, hb⟩; have HB := Lib.hid hb; clear hb)
    go_ret
    have hA := (Below.refl w.heap.size w).alloc (Nat.le_refl _) (.cells #[.int .i64 g0, .int .i64 s0, .int .i64 n0, .int .i64 z0, .int .u32 m0] 24)
    exact ⟨rfl, hA.trans (HB.out.mono hA.size)⟩
  · obtain ⟨l, hB, hcap, hnil⟩ := arg_of7 w1 (by omega)
    have HA := Lib.hid ((Below.refl w.heap.size w).alloc (Nat.le_refl _) (.cells #[.int .i64 g0, .int .i64 s0, .int .i64 n0, .int .i64 z0, .int .u32 m0] 24))
    have HE := Lib.hid (Blk.new w 24 #[.int .i64 g0, .int .i64 s0, .int .i64 n0, .int .i64 z0, .int .u32 m0])
    have HC := Lib.hid (checkBytes _ a1 len1 cap1 l (hB.later HA.out) hcap hnil (by omega) (cl := a2) w0)
    have HR := Lib.hid (fun W (hb : Below w.heap.size w W) => refBytes15 W a1 len1 cap1 l (hB.later hb) hcap hnil (by omega) (cl := a2) w0)
    have HF := Lib.hid (fun W (hb : Below w.heap.size w W) => conv_str (hB.later hb) cap1)
    obtain ⟨F, hF⟩ := named (strOfNums l)
    obtain ⟨L, hL⟩ := named (bytesE (g0, s0, n0, z0, m0) l a2).1
    obtain ⟨err, her⟩ := named (bytesE (g0, s0, n0, z0, m0) l a2).2
    rw [hL.out, her.out] at HC HR
    rw [hF.out] at HF
    obtain ⟨N, hN⟩ := named L.length
    obtain ⟨U, hU⟩ := named (strOfNums L)
    have k0 := HF.out _ HA.out
    obtain ⟨e0, e1, e2, e3, e4⟩ := cells5 HE.out
    clear hB w1 w0 hcap hnil
    go_enter Tryz.func3, Tryz.ntmps3
    go_wp2_with (first
      | (go_at_call 11; (with_reducible refine HC.out.mono ?_); rintro e w1 hp; obtain ⟨x1, y1, rfl, hB1, _, hb⟩ := hp.sized hN.out; have HB1 := Lib.hid hB1; have HG1 := Lib.hid (HA.out.trans (hb.mono HA.out.size)); have HE1 := Lib.hid (HE.out.later hb); clear hp hB1 hb k0 e0 e1 e2 e3 e4; obtain ⟨e0, e1, e2, e3, e4⟩ := cells5 HE1.out)
      | (go_at_call 12; (with_reducible refine (HR.out _ HG1.out).mono ?_); rintro e w2 hp; obtain ⟨x2, y2, rfl, hB2, _, hb⟩ := hp.sized hN.out; have HB2 := Lib.hid hB2; have hB1' := HB1.out; have HG2 := Lib.hid (HG1.out.trans (hb.mono HG1.out.size)); have kb := conv_str (hB1'.later hb) y1; have kc := conv_str hB2 y2; have kf := HF.out _ HG2.out; rw [hU.out] at kb kc; clear hp hB2 hb e0 e1 e2 e3 e4)
      | (go_at_call 13; (with_reducible refine (num15 _ _).mono ?_); rintro e w3 ⟨rfl, hw⟩; obtain rfl := hw.symm)
      | (go_at_call 10; (with_reducible refine (awake15 _).mono ?_); rintro e w3 ⟨rfl, hb⟩; have HG3 := Lib.hid (HG2.out.trans (hb.mono HG2.out.size)); clear hb))
    go_ret
    exact ⟨rfl, HG3.out⟩

set_option maxRecDepth 100000 in
theorem lifted (os : Os) (started : os.Started) (H : Type) (enc : TypeId × Value → H) :
    ReturnsInHanded {} Tryz.checked os 3 .any (Rows.checkBytesSpec.pre6 enc Tryz.prog Tryz.f3 Rows.checkBytesRow.domain false) (Rows.checkBytesSpec.post enc Tryz.prog Tryz.f3 false true false false) := by
  refine returnsInHanded_of_change (C := Tryz.checked) own started (by kernel_rfl) Tryz.func3
    (ChangeSpec.witness6 (enc := enc) (C := Tryz.checked) false ⟨#[], #[.agg #[.int .i64 0, .int .i64 0, .int .i64 0, .int .i64 0, .int .u32 0], .slice none 0 0, .int .i64 0], []⟩ 8 (by kernel_rfl) (by kernel_rfl) (by kernel_rfl) (by kernel_rfl)) ?_
  intro W base args ds gs before hval0 hW hcnd _
  have hval : ∀ (j : Nat) t v, Tryz.f3.params[j]? = some t → args[j]? = some v → Value.okWide Tryz.prog W .any base t v := hval0
  have hW' := hW
  obtain ⟨p, q, hA0, hV, rfl, hfz, hnd⟩ := hW
  have hA : DataW.TrodAll enc Tryz.prog W 0 (fun _ => true) true Tryz.f3.params.toList args.toList ds p := hA0
  rw [Tryz.params3] at hA hval
  obtain ⟨v0, vs0, d0, ds0, p0, q0, hargs, rfl, rfl, h0, r0⟩ := trodAll_cons hA
  obtain ⟨v1, vs1, d1, ds1, p1, q1, rfl, rfl, rfl, h1, r1⟩ := trodAll_cons r0
  obtain ⟨v2, vs2, d2, ds2, p2, q2, rfl, rfl, rfl, h2, r2⟩ := trodAll_cons r1
  obtain ⟨rfl, rfl, rfl⟩ := trodAll_nil r2
  obtain rfl : args = #[v0, v1, v2] := by cases args; simp_all
  obtain ⟨rfl, rfl⟩ := trodVars_none hV
  have k0 := h0
  have lt0 : ∀ x ∈ p0, x.block < W.heap.size := by obtain ⟨m, hm⟩ := k0; exact DataW.trod_lt m _ _ _ hm
  obtain ⟨g0, s0, n0, z0, m0, rfl, w0⟩ := entry_open (hval 0 24 v0 rfl rfl) h0
  have k1 := h1
  have lt1 : ∀ x ∈ p1, x.block < W.heap.size := by obtain ⟨m, hm⟩ := k1; exact DataW.trod_lt m _ _ _ hm
  obtain ⟨a1, len1, cap1, rfl⟩ := okWide_slice Tryz.underlying25 (hval 1 25 v1 rfl rfl)
  obtain ⟨z1, w1⟩ : ∃ zs, IsRow .u8 W a1 len1 cap1 zs := by
    obtain ⟨fuel, hf⟩ := h1
    rcases open_ints Tryz.underlying25 Tryz.underlying5 (by kernel_rfl) hf with ⟨hcs, _⟩ | ⟨x, l, c, zs, hcs, _, hl, hm, hz, _, hcell, hwz⟩
    · simp [Value.cells] at hcs
      obtain ⟨rfl, rfl, rfl⟩ := hcs
      exact ⟨[], .inl ⟨rfl, rfl, rfl, rfl⟩⟩
    · simp [Value.cells] at hcs
      obtain ⟨rfl, rfl, rfl⟩ := hcs
      exact ⟨zs, .inr ⟨_, rfl, hl, hm, by simpa using hz, hcell, hwz⟩⟩
  have k2 := h2
  have lt2 : ∀ x ∈ p2, x.block < W.heap.size := by obtain ⟨m, hm⟩ := k2; exact DataW.trod_lt m _ _ _ hm
  obtain ⟨a2, rfl, _, _, w2⟩ := open_int Tryz.underlying3 (hval 2 3 v2 rfl rfl) h2
  clear hA0 hval0
  refine (walk g0 s0 n0 z0 m0 a1 len1 cap1 z1 a2 W w0 w1 w2).mono fun e W' ⟨he, bel⟩ => ?_
  subst he
  exact ⟨_, rfl, _, _, _, [], _, [], hW', trodAll_mk1 (shut_bool Tryz.underlying4 _), (trodAll_cons_mk (Below.trod laidOut (by kernel_rfl) (of_decide_eq_true (by kernel_rfl)) k0 bel lt0) (trodAll_cons_mk (Below.trod laidOut (by kernel_rfl) (of_decide_eq_true (by kernel_rfl)) k1 bel lt1) (trodAll_cons_mk (Below.trod laidOut (by kernel_rfl) (of_decide_eq_true (by kernel_rfl)) k2 bel lt2) trodAll_mk0))), rfl, bel.frame _, fun h => by cases h⟩

theorem over : Rows.checkBytesRow.holds Tryz.pinned (OpenSpec.ofChange Rows.checkBytesSpec) :=
  OpenClaim.holds_of_wide 3 Tryz.f3 rfl rfl rfl rfl rfl rfl rfl ⟨rfl, rfl, rfl, rfl, rfl⟩ rfl rfl rfl rfl rfl (by kernel_rfl) Tryz.func3 (by kernel_rfl)
    (of_decide_eq_true (by kernel_rfl)) (by unfold Func.isWrapper; first | (rw [if_pos (by decide +kernel)]; kernel_rfl) | (rw [if_neg (by decide +kernel)]; exact ⟨rfl, rfl⟩))
    (fun os started H enc _ => lifted os started H enc)

/-- The statement. -/
theorem proved : Rows.CheckBytesSaid := over
#print axioms proved
end Go.Proofs.YtlljcdmblmkblaaGreat.checkBytes
