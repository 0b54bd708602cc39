/-
  Proved: 'matryoshkalaw3.LzRoom' returns true for every input, and each argument reads afterwards as before: the statement LzRoomSaid as given. Conditions: none beyond the row's own.
-/
import Derived.Test.YtlkpedknhjgdiaaRows
import Derived.Test.YtlkpedknhjgdiaaR3
import Derived.WalkKit
import Derived.ProofKit
import Derived.OpenShut
import Derived.ShutString
import Derived.ChangeOld
import Derived.Below
namespace Go.Proofs.Ytlkpedknhjgdiaa.lzRoom
open Go.ChangeShapes Go.WideShapes Go.ChangeAt Go.RowKit
open Go.ChangeMaps (open_string shut_string)
set_option linter.unusedVariables false

theorem own : ownKnob Try.prog.godebug = none := by kernel_rfl
theorem laidOut : laidOutB Try.prog = true := by kernel_rfl

/-- A slice of integers that came in: nil, or a row of cells. -/
def IsRow (k : IntKind) (w : World) (a : Option Addr) (len cap : Nat) (zs : List Int) : Prop :=
  (a = none ∧ len = 0 ∧ cap = 0 ∧ zs = []) ∨
  ∃ x, a = some x ∧ len ≤ cap ∧ cap ≤ maxLen ∧ zs.length = cap ∧ (∀ i, i < zs.length → w.cell? (x.add i) = some (.int k (zs.getD i 0))) ∧ ∀ n ∈ zs, (Lit.int k n).wf = true

set_option maxHeartbeats 1600000 in
theorem walk (a0 : Option Addr) (len0 cap0 : Nat) (z0 : List Int) (a1 : Int) (w : World) (w0 : IsRow .u8 w a0 len0 cap0 z0) (w1 : (Lit.int .u16 a1).wf = true) :
    Calls Try.prog 10 #[.slice a0 len0 cap0, .int .u16 a1] w fun e w' => e = .returned (.bool true) ∧ Below w.heap.size w w' := by
  by_cases hbig : 3000 < len0
  · clear w0 w1
    go_enter Try.func10, Try.ntmps10
    go_wp2_with (go_at_call 11; refine (awake_any _).mono ?_; rintro e w1 ⟨rfl, hb⟩; have HB := Lib.hid hb; clear hb)
    go_ret
    exact ⟨rfl, HB.out⟩
  · obtain ⟨l, hB, hcp, hnl⟩ := arg_of w0 (by omega)
    have h16 := bounds_u16 w1
    obtain ⟨k, rfl, hk⟩ : ∃ k : Nat, a1 = (k : Int) ∧ k < 65536 := ⟨a1.toNat, by omega, by omega⟩
    have hroom := unpackOf_room l k
    obtain ⟨K, HK⟩ := named (unpackOf l k).1.length
    have hr1 := hroom.1
    rw [HK.out] at hr1
    have hr2 : (unpackOf l k).2 = 0 ∨ ¬ (unpackOf l k).2 = 0 ∧ K = 0 := by
      rcases hroom.2 with h | h
      · exact Or.inl h
      · by_cases g : (unpackOf l k).2 = 0
        · exact Or.inl g
        · exact Or.inr ⟨g, by rw [← HK.out, h]; rfl⟩
    have HB := Lib.hid hB
    have HF := Lib.hid (fun w h => lzUnpack_any a0 len0 cap0 k l w h hcp hnl (by omega))
    have H2 : ∀ w, Bytes w a0 len0 l → Calls Try.prog 12 #[.slice a0 len0 cap0, .int .i64 (-1 - (k : Int))] w (PutPost w [] 1) := fun w h => by
      have := lzUnpack_any a0 len0 cap0 (-1 - (k : Int)) l w h hcp hnl (by omega)
      rw [unpackOf_arg l _ (by omega)] at this
      exact this
    have H3 : ∀ w, Bytes w a0 len0 l → Calls Try.prog 12 #[.slice a0 len0 cap0, .int .i64 (1048577 + (k : Int))] w (PutPost w [] 1) := fun w h => by
      have := lzUnpack_any a0 len0 cap0 (1048577 + (k : Int)) l w h hcp hnl (by omega)
      rw [unpackOf_arg l _ (by omega)] at this
      exact this
    have H2 := Lib.hid H2
    have H3 := Lib.hid H3
    obtain ⟨err, HE⟩ := named (unpackOf l k).2
    obtain ⟨L, HL⟩ := named (unpackOf l k).1
    rw [HL.out] at HF HK
    rw [HE.out] at HF hr2
    clear hB w0 w1 hroom h16 hcp hnl
    rcases hr2 with he | ⟨he, hK0⟩
    · have ht : (err == 0) = true := by simp [he]
      clear he
      go_enter Try.func10, Try.ntmps10
      go_wp2_with (first
        | (go_at_call 14; go_in)
        | (go_at_call 12; ((with_reducible refine (HF.out _ HB.out).mono ?_); rintro e w3 hp; obtain ⟨a3, c3, rfl, _, _, hb⟩ := hp.named HK.out; have HG3 := Lib.hid hb; clear hp hb))
        | (go_at_call 12; ((with_reducible refine (H2.out _ (HB.out.later HG3.out)).mono ?_); rintro e w4 hp; obtain ⟨a4, c4, rfl, _, _, hb⟩ := hp.named (n := 0) rfl; have HG4 := Lib.hid (HG3.out.trans (hb.mono HG3.out.size)); clear hp hb))
        | (go_at_call 12; ((with_reducible refine (H3.out _ (HB.out.later HG4.out)).mono ?_); rintro e w5 hp; obtain ⟨a5, c5, rfl, _, _, hb⟩ := hp.named (n := 0) rfl; have HG5 := Lib.hid (HG4.out.trans (hb.mono HG4.out.size)); clear hp hb))
        | (go_at_call 11; refine (awake_any _).mono ?_; rintro e w6 ⟨rfl, hb⟩; have HZ := Lib.hid (HG5.out.trans (hb.mono HG5.out.size)); clear hb))
      go_ret
      exact ⟨rfl, HZ.out⟩
    · have ht : (err == 0) = false := by simp [he]
      have HK0 : Hid (L.length = 0) := by rw [Hid, HK.out]; exact hK0
      clear he hK0 hr1 HK
      go_enter Try.func10, Try.ntmps10
      go_wp2_with (first
        | (go_at_call 14; go_in)
        | (go_at_call 12; ((with_reducible refine (HF.out _ HB.out).mono ?_); rintro e w3 hp; obtain ⟨a3, c3, rfl, _, _, hb⟩ := hp.named HK0.out; have HG3 := Lib.hid hb; clear hp hb))
        | (go_at_call 12; ((with_reducible refine (H2.out _ (HB.out.later HG3.out)).mono ?_); rintro e w4 hp; obtain ⟨a4, c4, rfl, _, _, hb⟩ := hp.named (n := 0) rfl; have HG4 := Lib.hid (HG3.out.trans (hb.mono HG3.out.size)); clear hp hb))
        | (go_at_call 12; ((with_reducible refine (H3.out _ (HB.out.later HG4.out)).mono ?_); rintro e w5 hp; obtain ⟨a5, c5, rfl, _, _, hb⟩ := hp.named (n := 0) rfl; have HG5 := Lib.hid (HG4.out.trans (hb.mono HG4.out.size)); clear hp hb))
        | (go_at_call 11; refine (awake_any _).mono ?_; rintro e w6 ⟨rfl, hb⟩; have HZ := Lib.hid (HG5.out.trans (hb.mono HG5.out.size)); clear hb))
      go_ret
      exact ⟨rfl, HZ.out⟩

set_option maxRecDepth 100000 in
theorem lifted (os : Os) (started : os.Started) (H : Type) (enc : TypeId × Value → H) :
    ReturnsInHanded {} Try.checked os 10 .any (Rows.lzRoomSpec.pre6 enc Try.prog Try.f10 Rows.lzRoomRow.domain false) (Rows.lzRoomSpec.post enc Try.prog Try.f10 false true false false) := by
  refine returnsInHanded_of_change (C := Try.checked) own started (by kernel_rfl) Try.func10
    (ChangeSpec.witness6 (enc := enc) (C := Try.checked) false ⟨#[], #[.slice none 0 0, .int .u16 0], []⟩ 8 (by kernel_rfl) (by kernel_rfl) (by kernel_rfl) (by kernel_rfl)) ?_
  intro W base args ds gs before hval0 hW hcnd _
  have hval : ∀ (j : Nat) t v, Try.f10.params[j]? = some t → args[j]? = some v → Value.okWide Try.prog W .any base t v := hval0
  have hW' := hW
  obtain ⟨p, q, hA0, hV, rfl, hfz, hnd⟩ := hW
  have hA : DataW.TrodAll enc Try.prog W 0 (fun _ => true) true Try.f10.params.toList args.toList ds p := hA0
  rw [Try.params10] at hA hval
  obtain ⟨v0, vs0, d0, ds0, p0, q0, hargs, rfl, rfl, h0, r0⟩ := trodAll_cons hA
  obtain ⟨v1, vs1, d1, ds1, p1, q1, rfl, rfl, rfl, h1, r1⟩ := trodAll_cons r0
  obtain ⟨rfl, rfl, rfl⟩ := trodAll_nil r1
  obtain rfl : args = #[v0, v1] := by cases args; simp_all
  obtain ⟨rfl, rfl⟩ := trodVars_none hV
  obtain ⟨a0, len0, cap0, rfl⟩ := okWide_slice Try.underlying22 (hval 0 22 v0 rfl rfl)
  have k0 := h0
  have lt0 : ∀ x ∈ p0, x.block < W.heap.size := by obtain ⟨m, hm⟩ := k0; exact DataW.trod_lt m _ _ _ hm
  obtain ⟨z0, w0⟩ : ∃ zs, IsRow .u8 W a0 len0 cap0 zs := by
    obtain ⟨fuel, hf⟩ := h0
    rcases open_ints Try.underlying22 Try.underlying5 (by kernel_rfl) hf with ⟨hcs, _⟩ | ⟨x, l, c, zs, hcs, _, hl, hm, hz, _, hcell, hwz⟩
    · simp [Value.cells] at hcs
      obtain ⟨rfl, rfl, rfl⟩ := hcs
      exact ⟨[], .inl ⟨rfl, rfl, rfl, rfl⟩⟩
    · simp [Value.cells] at hcs
      obtain ⟨rfl, rfl, rfl⟩ := hcs
      exact ⟨zs, .inr ⟨_, rfl, hl, hm, by simpa using hz, hcell, hwz⟩⟩
  obtain ⟨a1, rfl, rfl, rfl, w1⟩ := open_int Try.underlying33 (hval 1 33 v1 rfl rfl) h1
  clear hA0 hval0
  refine (walk a0 len0 cap0 z0 a1 W w0 w1).mono fun e W' ⟨he, bel⟩ => ?_
  subst he
  exact ⟨_, rfl, _, _, _, [], _, [], hW', trodAll_mk1 (shut_bool Try.underlying4 _), (trodAll_cons_mk (Below.trod laidOut (by kernel_rfl) (of_decide_eq_true (by kernel_rfl)) k0 bel lt0) (trodAll_cons_mk (shut_int Try.underlying33 w1) trodAll_mk0)), rfl, bel.frame _, fun h => by cases h⟩

theorem over : Rows.lzRoomRow.holds Try.pinned (OpenSpec.ofChange Rows.lzRoomSpec) :=
  OpenClaim.holds_of_wide 10 Try.f10 rfl rfl rfl rfl rfl rfl rfl ⟨rfl, rfl, rfl, rfl, rfl⟩ rfl rfl rfl rfl rfl (by kernel_rfl) Try.func10 (by kernel_rfl)
    (of_decide_eq_true (by kernel_rfl)) (by unfold Func.isWrapper; first | (rw [if_pos (by decide +kernel)]; kernel_rfl) | (rw [if_neg (by decide +kernel)]; exact ⟨rfl, rfl⟩))
    (fun os started H enc _ => lifted os started H enc)

/-- The statement. -/
theorem proved : Rows.LzRoomSaid := over
#print axioms proved
end Go.Proofs.Ytlkpedknhjgdiaa.lzRoom
