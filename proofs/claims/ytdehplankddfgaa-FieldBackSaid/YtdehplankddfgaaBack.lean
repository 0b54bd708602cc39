/-
  Proved: 'matryoshkalaw2.FieldBack' returns true for every input, and each argument reads afterwards as before: the statement FieldBackSaid as given. Conditions: none beyond the row's own.
-/
import Derived.Test.YtdehplankddfgaaRows
import Derived.Deep.RegionHeld3
import Derived.Test.YtdehplankddfgaaW2
import Derived.WalkKit
import Derived.ProofKit
import Derived.OpenShut
import Derived.ShutString
import Derived.ChangeOld
import Derived.Below
namespace Go.Proofs.Ytdehplankddfgaa.fieldBack
open Go.ChangeShapes Go.WideShapes Go.ChangeAt Go.RowKit
open Go.ChangeMaps (open_string shut_string)
set_option linter.unusedVariables false

theorem own : ownKnob Try.prog.godebug = none := by kernel_rfl
theorem laidOut : laidOutB Try.prog = true := by kernel_rfl

/-- A slice of integers that came in: nil, or a row of cells. -/
def IsRow (k : IntKind) (w : World) (a : Option Addr) (len cap : Nat) (zs : List Int) : Prop :=
  (a = none ∧ len = 0 ∧ cap = 0 ∧ zs = []) ∨
  ∃ x, a = some x ∧ len ≤ cap ∧ cap ≤ maxLen ∧ zs.length = cap ∧ (∀ i, i < zs.length → w.cell? (x.add i) = some (.int k (zs.getD i 0))) ∧ ∀ n ∈ zs, (Lit.int k n).wf = true

theorem back_get (a : Option Addr) (c N len m V : Nat) (l l1 : List Int) (s : ByteArray) (big : Bool) (w : World) (hB : Bytes w a N (l ++ numB big m V ++ textB s ++ l1)) (hl : l.length = len) (hV : Fit64 V) (hm1 : 1 ≤ m) (hm2 : m ≤ 8) (hf : fitsIn m V = true) (hN : len + m ≤ N) (hc : N ≤ c) :
    Calls Try.prog 14 #[.slice a N c, .int .i64 len, .int .i64 m, .bool big] w (GetPost w V 0) := by
  have := fieldGet_ok a N c m len _ big w hB hc hm1 hm2 hN
  rw [List.append_assoc (l ++ numB big m V), ← hl, get_back l _ big m V hV hm2 hf] at this
  rw [← hl]
  exact this
theorem back_read (a : Option Addr) (c N len m V p q : Nat) (l l1 : List Int) (s : ByteArray) (big : Bool) (w : World) (hB : Bytes w a N (l ++ numB big m V ++ textB s ++ l1)) (hl : l.length = len) (hs : s.size ≤ 5000) (hp : p = len + m) (hq : q = p + 2 + s.size) (hN : q ≤ N) (hc : N ≤ c) :
    Calls Try.prog 18 #[.slice a N c, .int .i64 p] w (ReadPost w s q 0) := by
  have hlen : (l ++ numB big m V).length = p := by rw [List.length_append, numB_len, hl, hp]
  have h1 : readN p (l ++ numB big m V ++ textB s ++ l1) = s.size := by
    have e : l ++ numB big m V ++ textB s ++ l1 = (l ++ numB big m V) ++ numB false 2 s.size ++ (strB s ++ l1) := by unfold textB; simp
    rw [e, ← hlen]
    exact readN_text _ _ s.size (by omega)
  have h2 := text_back (l ++ numB big m V) l1 s
  rw [hlen] at h2
  have := fieldRead_ok a N c p _ w hB hc (by rw [h1]; omega)
  rw [h1, h2, ← hq] at this
  exact this
/-- What stands at the end: both texts read on, nothing that was there has turned. -/
def Ends (w0 : World) (a : Option Addr) (b : Option Addr) (n : Nat) (l : List Int) (w : World) : Prop := Below w0.heap.size w0 w ∧ Bytes w a n l ∧ Bytes w b n l
theorem Ends.later {w0 : World} {a b : Option Addr} {n : Nat} {l : List Int} {w w' : World} (h : Ends w0 a b n l w) (hb : Below w.heap.size w w') : Ends w0 a b n l w' := ⟨h.1.trans (hb.mono h.1.size), h.2.1.later hb, h.2.2.later hb⟩
theorem Ends.drew {w0 : World} {a b : Option Addr} {n : Nat} {l : List Int} {w : World} (h : Ends w0 a b n l w) : Ends w0 a b n l w.drew := h.later (Below.refl _ _).drew
theorem Ends.below {w0 : World} {a b : Option Addr} {n : Nat} {l : List Int} {w : World} (h : Ends w0 a b n l w) : Below w0.heap.size w0 w := h.1
theorem Ends.all {w0 : World} {a b : Option Addr} {n : Nat} {l : List Int} {w : World} {c d : Nat} {S : ByteArray} (hS : strOfNums l = S) (h : Ends w0 a b n l w) :
    (convert 22 9 (.slice a n c)).run Try.prog w = .ok (.string S) w ∧ (convert 22 9 (.slice b n d)).run Try.prog w = .ok (.string S) w ∧ Ends w0 a b n l w := by
  rw [← hS]
  exact ⟨conv_str h.2.1 c, conv_str h.2.2 d, h⟩
theorem awakeE {w0 : World} {a b : Option Addr} {n : Nat} {l : List Int} {w : World} (h : Ends w0 a b n l w) : Calls Try.prog 10 #[] w fun e w' => e = .returned (.bool true) ∧ Ends w0 a b n l w' :=
  (awake_any w).mono fun _ _ ⟨he, hb⟩ => ⟨he, h.later hb⟩
theorem awakeC {w0 : World} {a b : Option Addr} {n : Nat} {l : List Int} {w : World} {p q : Prop} (h : p ∧ q ∧ Ends w0 a b n l w) : Calls Try.prog 10 #[] w fun e w' => e = .returned (.bool true) ∧ Ends w0 a b n l w' := awakeE h.2.2
theorem Ends.belowC {w0 : World} {a b : Option Addr} {n : Nat} {l : List Int} {w : World} {p q : Prop} (h : p ∧ q ∧ Ends w0 a b n l w) : Below w0.heap.size w0 w := h.2.2.1
theorem num_any (n : Int) (w : World) : Calls Try.prog 13 #[.int .i64 n] w fun e w' => e = .returned (.int .i64 n) ∧ w = w' := by
  go_enter Try.func13, Try.ntmps13
  go_wp2
  go_ret
  exact ⟨rfl, rfl⟩

set_option maxHeartbeats 1600000 in
theorem walk (a0 : Option Addr) (len0 cap0 : Nat) (z0 : List Int) (a1 : Option Addr) (len1 cap1 : Nat) (z1 : List Int) (a2 : Int) (a3 : Bool) (a4 : Int) (a5 : ByteArray) (w : World) (w0 : IsRow .u8 w a0 len0 cap0 z0) (w1 : IsRow .u8 w a1 len1 cap1 z1) (w2 : (Lit.int .u8 a2).wf = true) (w4 : (Lit.int .u64 a4).wf = true) (w5 : a5.size ≤ maxLen) :
    Calls Try.prog 6 #[.slice a0 len0 cap0, .slice a1 len1 cap1, .int .u8 a2, .bool a3, .int .u64 a4, .string a5] w fun e w' => e = .returned (.bool true) ∧ Below w.heap.size w w' := by
  by_cases hbig : 5000 < len0
  · clear w0 w1 w2 w4
    go_enter Try.func6, Try.ntmps6
    go_wp2_with (go_at_call 10; refine (awake_any _).mono ?_; rintro e w1 ⟨rfl, hb⟩; have HB := Lib.hid hb; clear hb)
    go_ret
    exact ⟨rfl, HB.out⟩
  by_cases hbig1 : 5000 < len1
  · clear w0 w1 w2 w4
    go_enter Try.func6, Try.ntmps6
    go_wp2_with (go_at_call 10; refine (awake_any _).mono ?_; rintro e w1 ⟨rfl, hb⟩; have HB := Lib.hid hb; clear hb)
    go_ret
    exact ⟨rfl, HB.out⟩
  by_cases hbig5 : 5000 < a5.size
  · clear w0 w1 w2 w4
    go_enter Try.func6, Try.ntmps6
    go_wp2_with (go_at_call 10; refine (awake_any _).mono ?_; rintro e w1 ⟨rfl, hb⟩; have HB := Lib.hid hb; clear hb)
    go_ret
    exact ⟨rfl, HB.out⟩
  obtain ⟨l0, hB0, _, hn0⟩ := arg_of w0 (by omega)
  obtain ⟨l1, hB1, _, hn1⟩ := arg_of w1 (by omega)
  obtain ⟨v, rfl, hv⟩ := dword_of_wf w4
  have h0 := byte_of_wf w2
  obtain ⟨m, hm, hm1, hm2⟩ : ∃ m : Nat, 1 + a2 % 8 = (m : Int) ∧ 1 ≤ m ∧ m ≤ 8 := ⟨(1 + a2 % 8).toNat, by omega, by omega, by omega⟩
  have hsplit : (m < 8 ∧ ∃ V : Nat, bits .and .u64 (v : Int) (IntKind.u64.wrap (IntKind.u64.wrap ((2 : Int) ^ (8 * m)) - 1)) = (V : Int) ∧ fitsIn m V = true ∧ Fit64 V) ∨ (8 ≤ m ∧ ∃ V : Nat, v = V ∧ fitsIn m V = true ∧ Fit64 V) := by
    by_cases h8 : m < 8
    · obtain ⟨V, g1, g2, g3⟩ := mask_of v m hv h8
      exact Or.inl ⟨h8, V, g1, g2, by rw [g3]; exact Nat.lt_of_le_of_lt (Nat.mod_le _ _) hv⟩
    · exact Or.inr ⟨by omega, v, rfl, by unfold fitsIn; simp; omega, hv⟩
  have HB0 := Lib.hid hB0
  have HB1 := Lib.hid hB1
  have HN0 := Lib.hid hn0
  have HN1 := Lib.hid hn1
  have HL := Lib.hid hB0.1
  have HL1 := Lib.hid hB1.1
  obtain ⟨SB, HSB⟩ := named (strOfNums l0)
  clear hB0 hB1 hn0 hn1 w0 w1 w2 w4 hv
  rcases hsplit with ⟨h8, V, hV, hfit, hV64⟩ | ⟨h8, V, hvV, hfit, hV64⟩
  any_goals (obtain rfl := hvV.symm)
  all_goals
    obtain ⟨N1, HN1'⟩ := named (l0 ++ numB a3 m V).length
    obtain ⟨N2, HN2'⟩ := named (l0 ++ numB a3 m V ++ textB a5).length
    have e1 : N1 = len0 + m := by rw [← HN1'.out, List.length_append, numB_len, HL.out]
    have e2 : N2 = N1 + 2 + a5.size := by rw [← HN2'.out, List.length_append, HN1'.out, textB_len]; omega
    have b1 : N1 ≤ len0 + m := by omega
    have b2 : N2 ≤ N1 + 2 + a5.size := by omega
    have b3 : len0 ≤ N2 + len1 := by omega
    have E1 := Lib.hid e1
    have E2 := Lib.hid e2
    have HF := Lib.hid hfit
    have HV := Lib.hid hV64
    have hpm : ((len0 : Int) + (m : Int)) = (N1 : Int) := by omega
    clear e1 e2 hfit hV64
    go_enter Try.func6, Try.ntmps6
    go_wp2_with (first
      | (go_at_call 11; refine (fieldPut_ok a0 len0 cap0 m V l0 a3 w HB0.out HN0.out (by omega) hm1 hm2 HV.out HF.out).mono ?_; rintro e u1 hp; obtain ⟨x1, c1, rfl, hx1, ⟨hy1, _⟩, hb⟩ := hp.named HN1'.out; have HX1 := Lib.hid hx1; have HY1 := Lib.hid hy1; have HG1 := Lib.hid hb; clear hp hx1 hy1 hb)
      | (go_at_call 16; refine (fieldText_ok x1 N1 c1 _ a5 u1 HX1.out HY1.out (by omega) (by omega)).mono ?_; rintro e u2 hp; obtain ⟨x2, c2, rfl, hx2, ⟨hy2, _⟩, hb⟩ := hp.named HN2'.out; have HX2 := Lib.hid hx2; have HY2 := Lib.hid hy2; have HG2 := Lib.hid (HG1.out.trans (hb.mono HG1.out.size)); clear hp hx2 hy2 hb)
      | (at_builtin; refine append_copy rfl (.tmp 65) (.tmp 66) rfl w.heap.size rfl x2 N2 c2 _ rfl HY2.out HX2.out (by omega) HG2.out.size ?_; intro x3 c3 u3 g1 g2; have HO3 := Lib.hid g1; have HG3 := Lib.hid (HG2.out.trans (g2.mono HG2.out.size)); clear g1 g2)
      | (at_builtin; refine append_more rfl (.tmp 67) (.tmp 68) rfl w.heap.size _ N2 _ rfl HO3.out a1 len1 cap1 l1 rfl HN1.out (HB1.out.later HG3.out) (by omega) HG3.out.size ?_; intro x4 c4 u4 g1 g2; obtain ⟨x5, hsl, hB5, _⟩ := slice_front g1.bytes.1 g1.capOk g1.bytes.2 len0 b3; have HG4 := Lib.hid (HG3.out.trans g2); have HGET := Lib.hid (back_get x4 c4 _ len0 m V l0 l1 a5 a3 u4 g1.bytes.1 HL.out HV.out hm1 hm2 HF.out (by have := E1.out; have := E2.out; omega) g1.capOk); have HREAD := Lib.hid (fun u (hb : Below u4.heap.size u4 u) => back_read x4 c4 _ len0 m V N1 N2 l0 l1 a5 a3 u (g1.bytes.1.later hb) HL.out (by omega) E1.out E2.out (by omega) g1.capOk); have HBE : Hid (Ends w x5 a0 len0 l0 u4) := ⟨HG4.out, by rw [List.append_assoc, List.append_assoc, List.take_left' HL.out] at hB5; exact hB5, HB0.out.later HG4.out⟩; clear g1 g2 hB5)
      | (go_at_call 14; refine HGET.out.mono ?_; rintro e u5 ⟨rfl, hb⟩; have HG5 := Lib.hid hb; clear hb)
      | (go_at_call 18; refine (HREAD.out _ HG5.out).mono ?_; rintro e u6 ⟨rfl, hb⟩; have HB6 := Lib.hid ((HBE.out.later HG5.out).later hb); clear hb))
    have hE := HB6.out
    clear HGET HREAD HBE HB6 HG5 HX1 HY1 HX2 HY2 HO3 HF HV HB0 HB1 HN0 HN1
    go_region_held3 (fun w' => (convert 22 9 (.slice x5 len0 c4)).run Try.prog w' = .ok (.string SB) w' ∧ (convert 22 9 (.slice a0 len0 cap0)).run Try.prog w' = .ok (.string SB) w' ∧ Ends w x5 a0 len0 l0 w') (first | exact Ends.all HSB.out (by assumption) | exact Ends.all HSB.out (Ends.drew (by assumption)))
      (first
        | (go_at_call 13; refine (num_any _ _).mono ?_; rintro e w' ⟨rfl, rfl⟩)
        | (go_at_call 10; refine (awakeC (by assumption)).mono ?_; rintro e w' ⟨rfl, hb⟩))
    go_wp2
    go_ret
    first | exact ⟨rfl, Ends.below (by assumption)⟩ | exact ⟨rfl, Ends.belowC (by assumption)⟩

set_option maxRecDepth 100000 in
theorem lifted (os : Os) (started : os.Started) (H : Type) (enc : TypeId × Value → H) :
    ReturnsInHanded {} Try.checked os 6 .any (Rows.fieldBackSpec.pre6 enc Try.prog Try.f6 Rows.fieldBackRow.domain false) (Rows.fieldBackSpec.post enc Try.prog Try.f6 false true false false) := by
  refine returnsInHanded_of_change (C := Try.checked) own started (by kernel_rfl) Try.func6
    (ChangeSpec.witness6 (enc := enc) (C := Try.checked) false ⟨#[], #[.slice none 0 0, .slice none 0 0, .int .u8 0, .bool false, .int .u64 0, .string ByteArray.empty], []⟩ 8 (by kernel_rfl) (by kernel_rfl) (by kernel_rfl) (by kernel_rfl)) ?_
  intro W base args ds gs before hval0 hW hcnd _
  have hval : ∀ (j : Nat) t v, Try.f6.params[j]? = some t → args[j]? = some v → Value.okWide Try.prog W .any base t v := hval0
  have hW' := hW
  obtain ⟨p, q, hA0, hV, rfl, hfz, hnd⟩ := hW
  have hA : DataW.TrodAll enc Try.prog W 0 (fun _ => true) true Try.f6.params.toList args.toList ds p := hA0
  rw [Try.params6] at hA hval
  obtain ⟨v0, vs0, d0, ds0, p0, q0, hargs, rfl, rfl, h0, r0⟩ := trodAll_cons hA
  obtain ⟨v1, vs1, d1, ds1, p1, q1, rfl, rfl, rfl, h1, r1⟩ := trodAll_cons r0
  obtain ⟨v2, vs2, d2, ds2, p2, q2, rfl, rfl, rfl, h2, r2⟩ := trodAll_cons r1
  obtain ⟨v3, vs3, d3, ds3, p3, q3, rfl, rfl, rfl, h3, r3⟩ := trodAll_cons r2
  obtain ⟨v4, vs4, d4, ds4, p4, q4, rfl, rfl, rfl, h4, r4⟩ := trodAll_cons r3
  obtain ⟨v5, vs5, d5, ds5, p5, q5, rfl, rfl, rfl, h5, r5⟩ := trodAll_cons r4
  obtain ⟨rfl, rfl, rfl⟩ := trodAll_nil r5
  obtain rfl : args = #[v0, v1, v2, v3, v4, v5] := by cases args; simp_all
  obtain ⟨rfl, rfl⟩ := trodVars_none hV
  obtain ⟨a0, len0, cap0, rfl⟩ := okWide_slice Try.underlying22 (hval 0 22 v0 rfl rfl)
  have k0 := h0
  have lt0 : ∀ x ∈ p0, x.block < W.heap.size := by obtain ⟨m, hm⟩ := k0; exact DataW.trod_lt m _ _ _ hm
  obtain ⟨z0, w0⟩ : ∃ zs, IsRow .u8 W a0 len0 cap0 zs := by
    obtain ⟨fuel, hf⟩ := h0
    rcases open_ints Try.underlying22 Try.underlying5 (by kernel_rfl) hf with ⟨hcs, _⟩ | ⟨x, l, c, zs, hcs, _, hl, hm, hz, _, hcell, hwz⟩
    · simp [Value.cells] at hcs
      obtain ⟨rfl, rfl, rfl⟩ := hcs
      exact ⟨[], .inl ⟨rfl, rfl, rfl, rfl⟩⟩
    · simp [Value.cells] at hcs
      obtain ⟨rfl, rfl, rfl⟩ := hcs
      exact ⟨zs, .inr ⟨_, rfl, hl, hm, by simpa using hz, hcell, hwz⟩⟩
  obtain ⟨a1, len1, cap1, rfl⟩ := okWide_slice Try.underlying22 (hval 1 22 v1 rfl rfl)
  have k1 := h1
  have lt1 : ∀ x ∈ p1, x.block < W.heap.size := by obtain ⟨m, hm⟩ := k1; exact DataW.trod_lt m _ _ _ hm
  obtain ⟨z1, w1⟩ : ∃ zs, IsRow .u8 W a1 len1 cap1 zs := by
    obtain ⟨fuel, hf⟩ := h1
    rcases open_ints Try.underlying22 Try.underlying5 (by kernel_rfl) hf with ⟨hcs, _⟩ | ⟨x, l, c, zs, hcs, _, hl, hm, hz, _, hcell, hwz⟩
    · simp [Value.cells] at hcs
      obtain ⟨rfl, rfl, rfl⟩ := hcs
      exact ⟨[], .inl ⟨rfl, rfl, rfl, rfl⟩⟩
    · simp [Value.cells] at hcs
      obtain ⟨rfl, rfl, rfl⟩ := hcs
      exact ⟨zs, .inr ⟨_, rfl, hl, hm, by simpa using hz, hcell, hwz⟩⟩
  obtain ⟨a2, rfl, rfl, rfl, w2⟩ := open_int Try.underlying5 (hval 2 5 v2 rfl rfl) h2
  obtain ⟨a3, rfl, rfl, rfl⟩ := open_bool Try.underlying4 (hval 3 4 v3 rfl rfl) h3
  obtain ⟨a4, rfl, rfl, rfl, w4⟩ := open_int Try.underlying23 (hval 4 23 v4 rfl rfl) h4
  obtain ⟨a5, rfl, rfl, rfl, w5⟩ := open_string Try.underlying9 (hval 5 9 v5 rfl rfl) h5
  clear hA0 hval0
  refine (walk a0 len0 cap0 z0 a1 len1 cap1 z1 a2 a3 a4 a5 W w0 w1 w2 w4 w5).mono fun e W' ⟨he, bel⟩ => ?_
  subst he
  exact ⟨_, rfl, _, _, _, [], _, [], hW', trodAll_mk1 (shut_bool Try.underlying4 _), (trodAll_cons_mk (Below.trod laidOut (by kernel_rfl) (of_decide_eq_true (by kernel_rfl)) k0 bel lt0) (trodAll_cons_mk (Below.trod laidOut (by kernel_rfl) (of_decide_eq_true (by kernel_rfl)) k1 bel lt1) (trodAll_cons_mk (shut_int Try.underlying5 w2) (trodAll_cons_mk (shut_bool Try.underlying4 _) (trodAll_cons_mk (shut_int Try.underlying23 w4) (trodAll_cons_mk (shut_string Try.underlying9 w5) trodAll_mk0)))))), rfl, bel.frame _, fun h => by cases h⟩

theorem over : Rows.fieldBackRow.holds Try.pinned (OpenSpec.ofChange Rows.fieldBackSpec) :=
  OpenClaim.holds_of_wide 6 Try.f6 rfl rfl rfl rfl rfl rfl rfl ⟨rfl, rfl, rfl, rfl, rfl⟩ rfl rfl rfl rfl rfl (by kernel_rfl) Try.func6 (by kernel_rfl)
    (of_decide_eq_true (by kernel_rfl)) (by unfold Func.isWrapper; first | (rw [if_pos (by decide +kernel)]; kernel_rfl) | (rw [if_neg (by decide +kernel)]; exact ⟨rfl, rfl⟩))
    (fun os started H enc _ => lifted os started H enc)

/-- The statement. -/
theorem proved : Rows.FieldBackSaid := over
#print axioms proved
end Go.Proofs.Ytdehplankddfgaa.fieldBack
