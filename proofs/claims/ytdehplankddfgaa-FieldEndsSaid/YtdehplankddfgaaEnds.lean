/-
  Proved: 'matryoshkalaw2.FieldEnds' returns true for every input, and each argument reads afterwards as before: the statement FieldEndsSaid as given. Conditions: none beyond the row's own.
-/
import Derived.Test.YtdehplankddfgaaRows
import Derived.Test.YtdehplankddfgaaW2
import Derived.WalkKit
import Derived.ProofKit
import Derived.OpenShut
import Derived.ShutString
import Derived.ChangeOld
import Derived.Below
namespace Go.Proofs.Ytdehplankddfgaa.fieldEnds
open Go.ChangeShapes Go.WideShapes Go.ChangeAt Go.RowKit
open Go.ChangeMaps (open_string shut_string)
set_option linter.unusedVariables false

theorem own : ownKnob Try.prog.godebug = none := by kernel_rfl
theorem laidOut : laidOutB Try.prog = true := by kernel_rfl

/-- A slice of integers that came in: nil, or a row of cells. -/
def IsRow (k : IntKind) (w : World) (a : Option Addr) (len cap : Nat) (zs : List Int) : Prop :=
  (a = none ∧ len = 0 ∧ cap = 0 ∧ zs = []) ∨
  ∃ x, a = some x ∧ len ≤ cap ∧ cap ≤ maxLen ∧ zs.length = cap ∧ (∀ i, i < zs.length → w.cell? (x.add i) = some (.int k (zs.getD i 0))) ∧ ∀ n ∈ zs, (Lit.int k n).wf = true

theorem ret_bool {a b : Bool} (h : a = b) : Ending.returned (.bool a) = .returned (.bool b) := by rw [h]
theorem take_text (l : List Int) (s : ByteArray) (k : Nat) (hk : l.length + 2 ≤ k) : (l ++ textB s).take k = l ++ numB false 2 s.size ++ (strB s).take (k - l.length - 2) := by
  unfold textB
  rw [← List.append_assoc, List.take_append, List.take_of_length_le (by rw [List.length_append, numB_len]; exact hk), List.length_append, numB_len, Nat.sub_sub]
theorem ends_short (a : Option Addr) (c k len : Nat) (l : List Int) (s : ByteArray) (w : World) (hB : Bytes w a k ((l ++ textB s).take k)) (hc : k ≤ c) (hl : l.length = len) (hk : k < len + 2 + s.size) (hs : s.size ≤ 2000) (hlen : len ≤ 100) :
    Calls Try.prog 18 #[.slice a k c, .int .i64 len] w (ReadPost w ByteArray.empty 0 6) := by
  by_cases h2 : k < len + 2
  · exact fieldRead_range a k c len _ w hB hc (in64_nat len (by omega)) (by omega)
  · have hn : readN len ((l ++ textB s).take k) = s.size := by
      rw [take_text l s k (by omega), ← hl]
      exact readN_text l _ s.size (by omega)
    exact fieldRead_short a k c len _ w hB hc (by omega) (by rw [hn]; exact hk)
theorem ends_out (a : Option Addr) (c k len : Nat) (L : List Int) (w : World) (hB : Bytes w a k L) (hc : k ≤ c) (hlen : len ≤ 100) (hk : k < len + 2) :
    Calls Try.prog 14 #[.slice a k c, .int .i64 len, .int .i64 2, .bool false] w (GetPost w 0 6) :=
  fieldGet_range a k c 2 len L false w hB hc (in64_nat len (by omega)) (by omega) (by omega) (by omega)
theorem ends_get (a : Option Addr) (c k len : Nat) (L : List Int) (hc : k ≤ c) (hk : len + 2 ≤ k) : ∃ V : Nat, ∀ w, Bytes w a k L →
    Calls Try.prog 14 #[.slice a k c, .int .i64 len, .int .i64 2, .bool false] w (GetPost w V 0) :=
  ⟨_, fun w hB => fieldGet_ok a k c 2 len L false w hB hc (by omega) (by omega) hk⟩
theorem ends_full (a : Option Addr) (c N len : Nat) (l : List Int) (s : ByteArray) (w : World) (hB : Bytes w a N (l ++ textB s)) (hl : l.length = len) (hN : N = len + 2 + s.size) (hs : s.size ≤ 2000) (hc : N ≤ c) :
    Calls Try.prog 18 #[.slice a N c, .int .i64 len] w (ReadPost w s N 0) := by
  have e : l ++ textB s = l ++ numB false 2 s.size ++ strB s := by unfold textB; rw [List.append_assoc]
  have h1 : readN len (l ++ textB s) = s.size := by
    rw [e, ← hl]
    exact readN_text l _ s.size (by omega)
  have h2 : strOfNums (((l ++ textB s).drop (len + 2)).take s.size) = s := by
    have := text_back l [] s
    rw [List.append_nil, hl] at this
    exact this
  have := fieldRead_ok a N c len _ w hB hc (by rw [h1]; omega)
  rw [h1, h2, ← hN] at this
  exact this

set_option maxHeartbeats 1600000 in
theorem walk (a0 : Option Addr) (len0 cap0 : Nat) (z0 : List Int) (a1 : ByteArray) (a2 : Int) (w : World) (w0 : IsRow .u8 w a0 len0 cap0 z0) (w1 : a1.size ≤ maxLen) (w2 : (Lit.int .u16 a2).wf = true) :
    Calls Try.prog 9 #[.slice a0 len0 cap0, .string a1, .int .u16 a2] w fun e w' => e = .returned (.bool true) ∧ Below w.heap.size w w' := by
  by_cases hbig1 : 2000 < a1.size
  · clear w0 w2
    go_enter Try.func9, Try.ntmps9
    go_wp2_with (go_at_call 10; refine (awake_any _).mono ?_; rintro e w1 ⟨rfl, hb⟩; have HB := Lib.hid hb; clear hb)
    go_ret
    exact ⟨rfl, HB.out⟩
  by_cases hbig : 100 < len0
  · clear w0 w2
    go_enter Try.func9, Try.ntmps9
    go_wp2_with (go_at_call 10; refine (awake_any _).mono ?_; rintro e w1 ⟨rfl, hb⟩; have HB := Lib.hid hb; clear hb)
    go_ret
    exact ⟨rfl, HB.out⟩
  · obtain ⟨l, hB, _, hn⟩ := arg_of w0 (by omega)
    have h2 := bounds_u16 w2
    obtain ⟨N, HN⟩ := named (l ++ textB a1).length
    have hN : N = len0 + 2 + a1.size := by rw [← HN.out, List.length_append, textB_len, hB.1]; omega
    have hN1 : N ≤ len0 + 2 + a1.size := by omega
    obtain ⟨k, hk, hk1, hk2⟩ : ∃ k : Nat, (len0 : Int) + a2 % ((a1.size : Int) + 2) = (k : Int) ∧ len0 ≤ k ∧ k < len0 + 2 + a1.size := by
      have b1 : 0 ≤ a2 % ((a1.size : Int) + 2) := Int.emod_nonneg _ (by omega)
      have b2 : a2 % ((a1.size : Int) + 2) < (a1.size : Int) + 2 := Int.emod_lt_of_pos _ (by omega)
      exact ⟨((len0 : Int) + a2 % ((a1.size : Int) + 2)).toNat, by omega, by omega, by omega⟩
    have hkN : k ≤ N := by omega
    have HNN := Lib.hid hN
    have HL := Lib.hid hB.1
    have HT := Lib.hid (fieldText_ok a0 len0 cap0 l a1 w hB hn (by omega) (by omega))
    have Hk2 := Lib.hid hk2
    clear hB hn w0 w2 hN
    by_cases h3 : k < len0 + 2
    all_goals
      go_enter Try.func9, Try.ntmps9
      go_wp2_with (first
        | (go_at_call 13; go_in)
        | (go_at_call 16; refine HT.out.mono ?_; rintro e w1 hp; obtain ⟨t1, c1, rfl, hB1, ⟨hn1, hc1⟩, hb⟩ := hp.named HN.out; obtain ⟨t2, hsl, hB2, _⟩ := slice_front hB1 hc1 hn1 k hkN; have HKC := Lib.hid (Nat.le_trans hkN hc1); have HS := Lib.hid (ends_short t2 c1 k len0 l a1 w1 hB2 HKC.out HL.out Hk2.out (by omega) (by omega)); have HFU := Lib.hid (fun u (hb : Below w1.heap.size w1 u) => ends_full t1 c1 N len0 l a1 u (hB1.later hb) HL.out HNN.out (by omega) hc1); have HB2 := Lib.hid hB2; have HG := Lib.hid hb; clear hp hb hB1 hB2 hn1 hc1)
        | (go_at_call 18; ((with_reducible refine HS.out.mono ?_); rintro e w2 ⟨rfl, hb⟩; have HG2 := Lib.hid hb; clear hb))
        | (go_at_call 18; ((with_reducible refine (HFU.out _ HG3.out).mono ?_); rintro e w4 ⟨rfl, hb⟩; have HG4 := Lib.hid (HG.out.trans ((HG3.out.trans (hb.mono HG3.out.size)).mono HG.out.size)); clear hb))
        | (go_at_call 14; (refine (ends_out t2 c1 k len0 _ _ (HB2.out.later HG2.out) HKC.out (by omega) (by omega)).mono ?_); rintro e w3 ⟨rfl, hb⟩; have HG3 := Lib.hid (HG2.out.trans (hb.mono HG2.out.size)); clear hb)
        | (go_at_call 14; obtain ⟨V, hV⟩ := ends_get t2 c1 k len0 ((l ++ textB a1).take k) HKC.out (by omega); have HV := Lib.hid hV; clear hV; refine (HV.out _ (HB2.out.later HG2.out)).mono ?_; rintro e w3 ⟨rfl, hb⟩; have HG3 := Lib.hid (HG2.out.trans (hb.mono HG2.out.size)); clear hb)
        | (go_at_call 10; refine (awake_any _).mono ?_; rintro e w5 ⟨rfl, hb⟩; have HZ := Lib.hid (HG4.out.trans (hb.mono HG4.out.size)); clear hb))
      go_ret
      first | exact ⟨rfl, HZ.out⟩ | exact ⟨ret_bool (by simp; omega), HZ.out⟩

set_option maxRecDepth 100000 in
theorem lifted (os : Os) (started : os.Started) (H : Type) (enc : TypeId × Value → H) :
    ReturnsInHanded {} Try.checked os 9 .any (Rows.fieldEndsSpec.pre6 enc Try.prog Try.f9 Rows.fieldEndsRow.domain false) (Rows.fieldEndsSpec.post enc Try.prog Try.f9 false true false false) := by
  refine returnsInHanded_of_change (C := Try.checked) own started (by kernel_rfl) Try.func9
    (ChangeSpec.witness6 (enc := enc) (C := Try.checked) false ⟨#[], #[.slice none 0 0, .string ByteArray.empty, .int .u16 0], []⟩ 8 (by kernel_rfl) (by kernel_rfl) (by kernel_rfl) (by kernel_rfl)) ?_
  intro W base args ds gs before hval0 hW hcnd _
  have hval : ∀ (j : Nat) t v, Try.f9.params[j]? = some t → args[j]? = some v → Value.okWide Try.prog W .any base t v := hval0
  have hW' := hW
  obtain ⟨p, q, hA0, hV, rfl, hfz, hnd⟩ := hW
  have hA : DataW.TrodAll enc Try.prog W 0 (fun _ => true) true Try.f9.params.toList args.toList ds p := hA0
  rw [Try.params9] at hA hval
  obtain ⟨v0, vs0, d0, ds0, p0, q0, hargs, rfl, rfl, h0, r0⟩ := trodAll_cons hA
  obtain ⟨v1, vs1, d1, ds1, p1, q1, rfl, rfl, rfl, h1, r1⟩ := trodAll_cons r0
  obtain ⟨v2, vs2, d2, ds2, p2, q2, rfl, rfl, rfl, h2, r2⟩ := trodAll_cons r1
  obtain ⟨rfl, rfl, rfl⟩ := trodAll_nil r2
  obtain rfl : args = #[v0, v1, v2] := by cases args; simp_all
  obtain ⟨rfl, rfl⟩ := trodVars_none hV
  obtain ⟨a0, len0, cap0, rfl⟩ := okWide_slice Try.underlying22 (hval 0 22 v0 rfl rfl)
  have k0 := h0
  have lt0 : ∀ x ∈ p0, x.block < W.heap.size := by obtain ⟨m, hm⟩ := k0; exact DataW.trod_lt m _ _ _ hm
  obtain ⟨z0, w0⟩ : ∃ zs, IsRow .u8 W a0 len0 cap0 zs := by
    obtain ⟨fuel, hf⟩ := h0
    rcases open_ints Try.underlying22 Try.underlying5 (by kernel_rfl) hf with ⟨hcs, _⟩ | ⟨x, l, c, zs, hcs, _, hl, hm, hz, _, hcell, hwz⟩
    · simp [Value.cells] at hcs
      obtain ⟨rfl, rfl, rfl⟩ := hcs
      exact ⟨[], .inl ⟨rfl, rfl, rfl, rfl⟩⟩
    · simp [Value.cells] at hcs
      obtain ⟨rfl, rfl, rfl⟩ := hcs
      exact ⟨zs, .inr ⟨_, rfl, hl, hm, by simpa using hz, hcell, hwz⟩⟩
  obtain ⟨a1, rfl, rfl, rfl, w1⟩ := open_string Try.underlying9 (hval 1 9 v1 rfl rfl) h1
  obtain ⟨a2, rfl, rfl, rfl, w2⟩ := open_int Try.underlying48 (hval 2 48 v2 rfl rfl) h2
  clear hA0 hval0
  refine (walk a0 len0 cap0 z0 a1 a2 W w0 w1 w2).mono fun e W' ⟨he, bel⟩ => ?_
  subst he
  exact ⟨_, rfl, _, _, _, [], _, [], hW', trodAll_mk1 (shut_bool Try.underlying4 _), (trodAll_cons_mk (Below.trod laidOut (by kernel_rfl) (of_decide_eq_true (by kernel_rfl)) k0 bel lt0) (trodAll_cons_mk (shut_string Try.underlying9 w1) (trodAll_cons_mk (shut_int Try.underlying48 w2) trodAll_mk0))), rfl, bel.frame _, fun h => by cases h⟩

theorem over : Rows.fieldEndsRow.holds Try.pinned (OpenSpec.ofChange Rows.fieldEndsSpec) :=
  OpenClaim.holds_of_wide 9 Try.f9 rfl rfl rfl rfl rfl rfl rfl ⟨rfl, rfl, rfl, rfl, rfl⟩ rfl rfl rfl rfl rfl (by kernel_rfl) Try.func9 (by kernel_rfl)
    (of_decide_eq_true (by kernel_rfl)) (by unfold Func.isWrapper; first | (rw [if_pos (by decide +kernel)]; kernel_rfl) | (rw [if_neg (by decide +kernel)]; exact ⟨rfl, rfl⟩))
    (fun os started H enc _ => lifted os started H enc)

/-- The statement. -/
theorem proved : Rows.FieldEndsSaid := over
#print axioms proved
end Go.Proofs.Ytdehplankddfgaa.fieldEnds
